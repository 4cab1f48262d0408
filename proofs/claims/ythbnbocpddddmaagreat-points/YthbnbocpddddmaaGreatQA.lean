import Derived.Below
import Derived.Deep.Draws
import Derived.Test.YthbnbocpddddmaaGreatProg
import Derived.WalkKit
import Derived.WalkSpells
import Derived.WalkLawsBesides
import Derived.Deep.QuietTactic
import Derived.BigQuiet
import Derived.Deep.RegionWith
import Derived.Deep.RegionHeld3
import Derived.Deep.DeepCutAuto
import Derived.Deep.Light
import Derived.Deep.MidRow
namespace Go.Proofs.YthbnbocpddddmaaGreat
open Go.RowKit

/-- The parts of the point that a number tells. -/
def reB (k : Int) : Nat := k.toNat / 18446744073709551616 % 18446744073709551616
def imB (k : Int) : Nat := k.toNat % 18446744073709551616
/-- The number that tells a point. -/
def cod (x y : Nat) : Int := ((x * 18446744073709551616 + y : Nat) : Int)

theorem reB_cod {x y : Nat} (hx : x < 18446744073709551616) (hy : y < 18446744073709551616) : reB (cod x y) = x := by
  unfold reB cod
  rw [Int.toNat_natCast]
  omega
theorem imB_cod {x y : Nat} (hy : y < 18446744073709551616) : imB (cod x y) = y := by
  unfold imB cod
  rw [Int.toNat_natCast]
  omega
theorem reB_lt (k : Int) : reB k < 18446744073709551616 := Nat.mod_lt _ (by decide)
theorem imB_lt (k : Int) : imB k < 18446744073709551616 := Nat.mod_lt _ (by decide)
theorem reB_zero : reB 0 = 0 := rfl
theorem imB_zero : imB 0 = 0 := rfl

/-- A point as the program has it, and its parts as the document has them. -/
abbrev kv (k : Int) : Value := .complex .f64 (reB k) (imB k)
abbrev fx (k : Int) : Value := .float .f64 (reB k)
abbrev fy (k : Int) : Value := .float .f64 (imB k)

theorem kv_zero : kv 0 = .complex .f64 0 0 := rfl

/-- Above all numbers. -/
def bigM : Int := 2 ^ 2300
/-- How far up a datum stands. -/
def vF : Ieee.Datum → Int
  | .nan .. => -bigM - 1
  | .infinity s => if s = true then -bigM else bigM
  | .number s m i => Ieee.signed s m (i - Ieee.double.leastPlace).toNat
def rkF (b : Nat) : Int := vF (Ieee.double.read b)
/-- How far up a point stands: first by its real part. -/
def rk (k : Int) : Int := rkF (reB k) * (4 * bigM) + rkF (imB k)

end Go.Proofs.YthbnbocpddddmaaGreat

namespace Go.Proofs.YthbnbocpddddmaaGreat
open Go.RowKit

/-- What a call leaves alone: every old block outside S. -/
structure Fr (S : Nat → Prop) (w w' : World) : Prop where
  os : w'.os = w.os
  tape : w'.tape = w.tape
  output : w'.output = w.output
  size : w.heap.size ≤ w'.heap.size
  block : ∀ k, k < w.heap.size → ¬ S k → w'.heap[k]? = w.heap[k]?

theorem Fr.refl (S : Nat → Prop) (w : World) : Fr S w w := ⟨rfl, rfl, rfl, Nat.le_refl _, fun _ _ _ => rfl⟩

theorem Fr.trans {S S' : Nat → Prop} {a b c : World} (h : Fr S a b) (k : Fr S' b c) (hs : ∀ x, x < a.heap.size → S' x → S x) : Fr S a c :=
  ⟨k.os.trans h.os, k.tape.trans h.tape, k.output.trans h.output, Nat.le_trans h.size k.size,
    fun i hi hn => (k.block i (Nat.lt_of_lt_of_le hi h.size) (fun c => hn (hs i hi c))).trans (h.block i hi hn)⟩

theorem Fr.mono {S S' : Nat → Prop} {a b : World} (h : Fr S a b) (hs : ∀ x, x < a.heap.size → S x → S' x) : Fr S' a b :=
  ⟨h.os, h.tape, h.output, h.size, fun i hi hn => h.block i hi (fun c => hn (hs i hi c))⟩

theorem Fr.drew {S : Nat → Prop} {a w : World} (h : Fr S a w) : Fr S a w.drew := ⟨h.os, h.tape, h.output, h.size, h.block⟩
theorem Fr.drewN {S : Nat → Prop} {a w : World} (h : Fr S a w) (n : Nat) : Fr S a (w.drewN n) := ⟨h.os, h.tape, h.output, h.size, h.block⟩

theorem Fr.alloc {S : Nat → Prop} {a w : World} (h : Fr S a w) (o : Obj) : Fr S a (w.alloc o) :=
  ⟨h.os, h.tape, h.output, by have := h.size; simp; omega, fun k hk hn => by
    rw [Below.heap_alloc _ _ _ (Nat.lt_of_lt_of_le hk h.size)]; exact h.block k hk hn⟩

theorem Fr.setCell {S : Nat → Prop} {a w : World} (h : Fr S a w) {p : Addr} (hp : p.block < a.heap.size → S p.block) (u : Value) : Fr S a (w.setCell p u) :=
  ⟨h.os, h.tape, h.output, by have := h.size; simp; omega, fun k hk hn => by
    by_cases e : k = p.block
    · subst e; exact absurd (hp hk) hn
    · rw [Below.heap_setCell _ _ _ _ e]; exact h.block k hk hn⟩

theorem Fr.below {w w' : World} {B : Nat} (h : Fr (fun k => B ≤ k) w w') (hB : B ≤ w.heap.size) : Below B w w' :=
  ⟨h.os, h.tape, h.output, h.size, fun k hk => h.block k (by omega) (by omega)⟩

theorem Fr.of_below {w w' : World} {B : Nat} (h : Below B w w') : Fr (fun k => B ≤ k) w w' :=
  ⟨h.os, h.tape, h.output, h.size, fun k _ hn => h.block k (by omega)⟩

theorem Fr.none_below {w w' : World} (h : Fr (fun _ => False) w w') : Below w.heap.size w w' :=
  ⟨h.os, h.tape, h.output, h.size, fun k hk => h.block k hk (fun c => c)⟩

theorem lt_of_blk {w : World} {b : Nat} {o : Obj} (h : w.heap[b]? = some o) : b < w.heap.size := by
  rcases Nat.lt_or_ge b w.heap.size with h1 | h1
  · exact h1
  · rw [Array.getElem?_eq_none h1] at h; cases h

theorem blk_new (w : World) (o : Obj) : (w.alloc o).heap[w.heap.size]? = some o := by
  show (w.heap.push o)[w.heap.size]? = _
  simp

/-- A cell, and its mark, off a block. -/
theorem cell_of {w : World} {b : Nat} {c : Array Value} {t : TypeId} {m : Nat × Nat} (h : w.heap[b]? = some (.cells c t m)) (o : Nat) : w.cell? ⟨b, o, none⟩ = c[o]? := by
  simp [World.cell?, h]
theorem frozen_of {w : World} {b : Nat} {c : Array Value} {t : TypeId} (h : w.heap[b]? = some (.cells c t (0, 0))) (o : Nat) : w.frozen? ⟨b, o, none⟩ = false := by
  simp [World.frozen?, h]

theorem blk_set {w : World} {b : Nat} {c : Array Value} {t : TypeId} {m : Nat × Nat} (h : w.heap[b]? = some (.cells c t m)) (o : Nat) (u : Value) :
    (w.setCell ⟨b, o, none⟩ u).heap[b]? = some (.cells (c.setIfInBounds o u) t m) := by
  simp [World.setCell, Array.getElem?_modify, h]

theorem blk_set_ne {w : World} {b b' : Nat} (o : Nat) (u : Value) (hne : b' ≠ b) : (w.setCell ⟨b, o, none⟩ u).heap[b']? = w.heap[b']? :=
  Below.heap_setCell _ _ _ _ hne

/-- A tree with its blocks. -/
inductive Tr where
  | nil : Tr
  | node (b : Nat) (l : Tr) (k v : Int) (r : Tr) : Tr

namespace Tr
def ad : Tr → Option Addr
  | nil => none
  | node b _ _ _ _ => some ⟨b, 0, none⟩
def size : Tr → Nat
  | nil => 0
  | node _ l _ _ r => l.size + r.size + 1
def ht : Tr → Nat
  | nil => 0
  | node _ l _ _ r => max l.ht r.ht + 1
def has : Tr → Nat → Prop
  | nil, _ => False
  | node b l _ _ r, x => x = b ∨ l.has x ∨ r.has x
def items : Tr → List (Int × Int)
  | nil => []
  | node _ l k v r => l.items ++ (k, v) :: r.items
def avl : Tr → Prop
  | nil => True
  | node _ l _ _ r => l.avl ∧ r.avl ∧ l.ht ≤ r.ht + 1 ∧ r.ht ≤ l.ht + 1

theorem size_items (t : Tr) : t.items.length = t.size := by
  induction t with
  | nil => rfl
  | node b l k v r il ir => simp [items, size, il, ir]; omega

theorem ht_le_size (t : Tr) : t.ht ≤ t.size := by
  induction t with
  | nil => exact Nat.le_refl _
  | node b l k v r il ir => simp only [ht, size]; omega
end Tr

/-- A node's block. -/
def nodeBlk (T : TypeId) (k v : Int) (lp rp : Option Addr) (s h : Int) : Obj := .cells #[kv k, kv v, .pointer lp, .pointer rp, .int .i64 s, .int .i64 h] T (0, 0)

/-- The tree lies in the world. -/
def Lies (T : TypeId) (w : World) : Tr → Prop
  | .nil => True
  | .node b l k v r => w.heap[b]? = some (nodeBlk T k v l.ad r.ad ((l.size + r.size + 1 : Nat) : Int) ((max l.ht r.ht + 1 : Nat) : Int)) ∧
      Lies T w l ∧ Lies T w r ∧ ¬ l.has b ∧ ¬ r.has b ∧ (∀ x, l.has x → ¬ r.has x)

theorem Lies.lt {T : TypeId} {w : World} {t : Tr} (h : Lies T w t) : ∀ x, t.has x → x < w.heap.size := by
  induction t with
  | nil => intro x hx; exact hx.elim
  | node b l k v r il ir =>
    intro x hx
    rcases hx with rfl | hx | hx
    · exact lt_of_blk h.1
    · exact il h.2.1 x hx
    · exact ir h.2.2.1 x hx

theorem Lies.congr {T : TypeId} {w w' : World} {t : Tr} (h : Lies T w t) (hc : ∀ x, t.has x → w'.heap[x]? = w.heap[x]?) : Lies T w' t := by
  induction t with
  | nil => exact trivial
  | node b l k v r il ir =>
    refine ⟨(hc b (Or.inl rfl)).trans h.1, il h.2.1 fun x hx => hc x (Or.inr (Or.inl hx)), ir h.2.2.1 fun x hx => hc x (Or.inr (Or.inr hx)), h.2.2.2⟩

theorem Lies.fr {T : TypeId} {S : Nat → Prop} {w w' : World} {t : Tr} (h : Lies T w t) (f : Fr S w w') (hd : ∀ x, t.has x → ¬ S x) : Lies T w' t :=
  h.congr fun x hx => f.block x (h.lt x hx) (hd x hx)

/-- What a pointer to a tree tells: its size and height. -/
def Top (T : TypeId) (w : World) (p : Option Addr) (s h : Int) : Prop :=
  (p = none ∧ s = 0 ∧ h = 0) ∨ ∃ b k v lp rp, p = some ⟨b, 0, none⟩ ∧ w.heap[b]? = some (nodeBlk T k v lp rp s h)

theorem Lies.top {T : TypeId} {w : World} {t : Tr} (h : Lies T w t) : Top T w t.ad t.size t.ht := by
  cases t with
  | nil => exact Or.inl ⟨rfl, rfl, rfl⟩
  | node b l k v r => exact Or.inr ⟨b, k, v, l.ad, r.ad, rfl, h.1⟩

theorem Top.congr {T : TypeId} {w w' : World} {p : Option Addr} {s h : Int} (t : Top T w p s h) (hc : ∀ b, p = some ⟨b, 0, none⟩ → w'.heap[b]? = w.heap[b]?) : Top T w' p s h := by
  rcases t with t | ⟨b, k, v, lp, rp, rfl, hb⟩
  · exact Or.inl t
  · exact Or.inr ⟨b, k, v, lp, rp, rfl, (hc b rfl).trans hb⟩

end Go.Proofs.YthbnbocpddddmaaGreat

namespace Go.Proofs.YthbnbocpddddmaaGreat
open Go.RowKit

set_option maxHeartbeats 400000 in
theorem count_any (p : Option Addr) (s h : Int) (w : World) (ht : Top 360 w p s h) :
    Calls Tryz.prog 256 #[.pointer p] w fun e w' => e = .returned (.int .i64 s) ∧ w' = w := by
  rcases ht with ⟨rfl, rfl, rfl⟩ | ⟨b, k, v, lp, rp, rfl, hb⟩
  · go_enter Tryz.func256, Tryz.ntmps256
    go_wp2
    go_ret
    exact ⟨rfl, rfl⟩
  · have c4 : w.cell? ⟨b, 4, none⟩ = some (.int .i64 s) := cell_of hb 4
    clear hb
    go_enter Tryz.func256, Tryz.ntmps256
    go_wp2
    go_ret
    exact ⟨rfl, rfl⟩

set_option maxHeartbeats 400000 in
theorem levels_any (p : Option Addr) (s h : Int) (w : World) (ht : Top 360 w p s h) :
    Calls Tryz.prog 261 #[.pointer p] w fun e w' => e = .returned (.int .i64 h) ∧ w' = w := by
  rcases ht with ⟨rfl, rfl, rfl⟩ | ⟨b, k, v, lp, rp, rfl, hb⟩
  · go_enter Tryz.func261, Tryz.ntmps261
    go_wp2
    go_ret
    exact ⟨rfl, rfl⟩
  · have c4 : w.cell? ⟨b, 5, none⟩ = some (.int .i64 h) := cell_of hb 5
    clear hb
    go_enter Tryz.func261, Tryz.ntmps261
    go_wp2
    go_ret
    exact ⟨rfl, rfl⟩

theorem store_c (x y : Nat) (w : World) (a : Addr) (m : Mode) : (store a (.complex .f64 x y) m).run Tryz.prog w = stored Tryz.prog w a (.complex .f64 x y) m := run_store Tryz.prog w a _ m rfl

end Go.Proofs.YthbnbocpddddmaaGreat

namespace Go.Proofs.YthbnbocpddddmaaGreat

namespace Tr
/-- How many items the search has passed on its left; whether it met the key; how often it compared. -/
def rank (f : Int → Int) : Tr → Nat
  | nil => 0
  | node _ l k _ r => if f k = 0 then l.size else if f k < 0 then l.rank f else l.size + 1 + r.rank f
def same (f : Int → Int) : Tr → Bool
  | nil => false
  | node _ l k _ r => if f k = 0 then true else if f k < 0 then l.same f else r.same f
def cnt (f : Int → Int) : Tr → Nat
  | nil => 0
  | node _ l k _ r => if f k = 0 then 1 else if f k < 0 then l.cnt f + 1 else r.cnt f + 1

theorem cnt_le (f : Int → Int) (t : Tr) : t.cnt f ≤ t.ht := by
  induction t with
  | nil => exact Nat.le_refl _
  | node b l k v r il ir => simp only [cnt, ht]; split <;> (try split) <;> omega
theorem cnt_pos (f : Int → Int) (t : Tr) (h : 0 < t.size) : 1 ≤ t.cnt f := by
  cases t with
  | nil => simp [size] at h
  | node b l k v r => simp only [cnt]; split <;> (try split) <;> omega
theorem rank_le (f : Int → Int) (t : Tr) : t.rank f ≤ t.size := by
  induction t with
  | nil => exact Nat.le_refl _
  | node b l k v r il ir => simp only [rank, size]; split <;> (try split) <;> omega
theorem rank_lt (f : Int → Int) (t : Tr) (h : t.same f = true) : t.rank f < t.size := by
  induction t with
  | nil => simp [same] at h
  | node b l k v r il ir =>
    simp only [same] at h
    simp only [rank, size]
    by_cases h1 : f k = 0
    · rw [if_pos h1]; omega
    · rw [if_neg h1] at h ⊢
      by_cases h2 : f k < 0
      · rw [if_pos h2] at h ⊢; have := il h; omega
      · rw [if_neg h2] at h ⊢; have := ir h; omega
end Tr

end Go.Proofs.YthbnbocpddddmaaGreat

namespace Go.Proofs.YthbnbocpddddmaaGreat

def sgn (a b : Int) : Int := if a < b then -1 else if b < a then 1 else 0
/-- How the key sought stands to a key, by the order of points, turned or not. -/
def side (turned : Bool) (a b : Int) : Int := if turned = true then sgn (rk b) (rk a) else sgn (rk a) (rk b)
def lessB (turned : Bool) (a b : Int) : Bool := if turned = true then decide (rk b < rk a) else decide (rk a < rk b)

theorem side_zero {t : Bool} {a b : Int} : side t a b = 0 ↔ rk a = rk b := by unfold side sgn; (repeat' split) <;> omega
theorem side_neg {t : Bool} {a b : Int} : side t a b < 0 ↔ lessB t a b = true := by unfold side sgn lessB; cases t <;> simp <;> (repeat' split) <;> omega
theorem less_irr {t : Bool} {a : Int} : lessB t a a = false := by unfold lessB; cases t <;> simp
theorem less_trans {t : Bool} {a b c : Int} (h : lessB t a b = true) (g : lessB t b c = true) : lessB t a c = true := by unfold lessB at *; cases t <;> simp at * <;> omega
theorem less_tot {t : Bool} {a b : Int} (h : rk a ≠ rk b) (g : lessB t a b = false) : lessB t b a = true := by unfold lessB at *; cases t <;> simp at * <;> omega
theorem less_asym {t : Bool} {a b : Int} (h : lessB t a b = true) : lessB t b a = false := by unfold lessB at *; cases t <;> simp at * <;> omega
theorem less_ne {t : Bool} {a b : Int} (h : lessB t a b = true) : rk a ≠ rk b := by unfold lessB at h; cases t <;> simp at h <;> omega
theorem less_l {t : Bool} {a b c : Int} (h : rk a = rk b) : lessB t a c = lessB t b c := by unfold lessB; rw [h]
theorem less_r {t : Bool} {a b c : Int} (h : rk a = rk b) : lessB t c a = lessB t c b := by unfold lessB; rw [h]

abbrev Row := List (Int × Int)
def Srt (t : Bool) (xs : Row) : Prop := xs.Pairwise fun p q => lessB t p.1 q.1 = true
/-- How many keys are below k; whether k is there. -/
def lrank (t : Bool) (k : Int) (xs : Row) : Nat := xs.countP fun p => lessB t p.1 k
def lsame (k : Int) (xs : Row) : Bool := xs.any fun p => rk p.1 == rk k

theorem lrank_le (t : Bool) (k : Int) (xs : Row) : lrank t k xs ≤ xs.length := List.countP_le_length

theorem lrank_all {t : Bool} {k : Int} {xs : Row} (h : ∀ p ∈ xs, lessB t p.1 k = true) : lrank t k xs = xs.length := List.countP_eq_length.2 h
theorem lrank_none {t : Bool} {k : Int} {xs : Row} (h : ∀ p ∈ xs, lessB t p.1 k = false) : lrank t k xs = 0 := List.countP_eq_zero.2 fun p hp => by rw [h p hp]; simp
theorem lsame_none {k : Int} {xs : Row} (h : ∀ p ∈ xs, rk p.1 ≠ rk k) : lsame k xs = false := by
  rw [lsame, List.any_eq_false]; intro p hp; simpa using h p hp

theorem tree_rank (t : Bool) (k : Int) (T : Tr) (h : Srt t T.items) : T.rank (side t k) = lrank t k T.items ∧ T.same (side t k) = lsame k T.items := by
  induction T with
  | nil => exact ⟨rfl, rfl⟩
  | node b L k1 v1 R il ir =>
    simp only [Tr.items, Srt, List.pairwise_append, List.pairwise_cons] at h
    obtain ⟨sL, ⟨h1, sR⟩, h2⟩ := h
    obtain ⟨r1, r2⟩ := il sL
    obtain ⟨q1, q2⟩ := ir sR
    have hL : ∀ p ∈ L.items, lessB t p.1 k1 = true := fun p hp => h2 p hp (k1, v1) (by simp)
    have hR : ∀ p ∈ R.items, lessB t k1 p.1 = true := fun p hp => h1 p hp
    have e1 : lrank t k (L.items ++ (k1, v1) :: R.items) = lrank t k L.items + ((if lessB t k1 k = true then 1 else 0) + lrank t k R.items) := by
      simp only [lrank, List.countP_append, List.countP_cons]; omega
    have e2 : lsame k (L.items ++ (k1, v1) :: R.items) = (lsame k L.items || (rk k1 == rk k || lsame k R.items)) := by simp [lsame]
    simp only [Tr.rank, Tr.same, Tr.items, e1, e2]
    by_cases f0 : side t k k1 = 0
    · have ek := side_zero.1 f0
      rw [if_pos f0, if_pos f0]
      rw [lrank_all fun p hp => (less_r ek).trans (hL p hp), less_r ek, less_irr, lrank_none fun p hp => (less_r ek).trans (less_asym (hR p hp))]
      exact ⟨by simp [Tr.size_items], by simp [ek]⟩
    · have nk : rk k ≠ rk k1 := fun e => f0 (side_zero.2 e)
      rw [if_neg f0, if_neg f0]
      by_cases f1 : side t k k1 < 0
      · have fk := side_neg.1 f1
        rw [if_pos f1, if_pos f1, r1, r2, less_asym fk, lrank_none fun p hp => less_asym (less_trans fk (hR p hp)), lsame_none (xs := R.items) fun p hp => (less_ne (less_trans fk (hR p hp))).symm]
        exact ⟨by simp, by simp [Ne.symm nk]⟩
      · have fk : lessB t k1 k = true := less_tot nk (by cases hh : lessB t k k1 with | false => rfl | true => exact absurd (side_neg.2 hh) f1)
        rw [if_neg f1, if_neg f1, q1, q2, fk, lrank_all fun p hp => less_trans (hL p hp) fk, lsame_none (xs := L.items) fun p hp => less_ne (less_trans (hL p hp) fk)]
        exact ⟨by simp [Tr.size_items]; omega, by simp [Ne.symm nk]⟩

/-- What stands ahead of the rank is below, what stands behind it is not. -/
theorem take_below {t : Bool} {k : Int} {xs : Row} (h : Srt t xs) : (∀ p ∈ xs.take (lrank t k xs), lessB t p.1 k = true) ∧ (∀ p ∈ xs.drop (lrank t k xs), lessB t p.1 k = false) := by
  induction xs with
  | nil => simp
  | cons x xs ih =>
    simp only [Srt, List.pairwise_cons] at h
    obtain ⟨h1, h2⟩ := h
    obtain ⟨i1, i2⟩ := ih h2
    by_cases f : lessB t x.1 k = true
    · have e : lrank t k (x :: xs) = lrank t k xs + 1 := by simp [lrank, f]
      rw [e]
      simp only [List.take_succ_cons, List.drop_succ_cons]
      refine ⟨fun p hp => ?_, i2⟩
      rcases List.mem_cons.1 hp with rfl | hp
      · exact f
      · exact i1 p hp
    · have f' : lessB t x.1 k = false := by simpa using f
      have e0 : lrank t k xs = 0 := lrank_none fun p hp => by
        cases hh : lessB t p.1 k with
        | false => rfl
        | true => rw [less_trans (h1 p hp) hh] at f'; cases f'
      have e : lrank t k (x :: xs) = 0 := by simp only [lrank] at e0 ⊢; rw [List.countP_cons, e0, f']; rfl
      rw [e]
      refine ⟨by simp, fun p hp => ?_⟩
      rcases List.mem_cons.1 hp with rfl | hp
      · exact f'
      · exact i2 p (by rw [e0]; exact hp)

theorem at_rank {t : Bool} {k : Int} {xs : Row} (h : Srt t xs) (hs : lsame k xs = true) : ∃ q, xs[lrank t k xs]? = some q ∧ rk q.1 = rk k := by
  obtain ⟨h1, h2⟩ := take_below (k := k) h
  rw [lsame, List.any_eq_true] at hs
  obtain ⟨p, hp, e⟩ := hs
  have e' : rk p.1 = rk k := by simpa using e
  have hd : p ∈ xs.drop (lrank t k xs) := by
    rcases List.mem_append.1 (by rw [List.take_append_drop]; exact hp : p ∈ xs.take (lrank t k xs) ++ xs.drop (lrank t k xs)) with q | q
    · have := h1 p q; rw [less_l e', less_irr] at this; cases this
    · exact q
  have hlt : lrank t k xs < xs.length := by
    rcases Nat.lt_or_ge (lrank t k xs) xs.length with q | q
    · exact q
    · rw [List.drop_eq_nil_of_le q] at hd; cases hd
  have hsrt : Srt t (xs.drop (lrank t k xs)) := List.Pairwise.sublist (List.drop_sublist _ _) h
  rw [List.drop_eq_getElem_cons hlt] at hd hsrt h2
  simp only [Srt, List.pairwise_cons] at hsrt
  rcases List.mem_cons.1 hd with q | q
  · exact ⟨p, by rw [List.getElem?_eq_getElem hlt, ← q], e'⟩
  · have a := hsrt.1 p q
    rw [less_r e'] at a
    have b := h2 xs[lrank t k xs] (List.mem_cons.2 (Or.inl rfl))
    rw [a] at b; cases b

theorem srt_insert {t : Bool} {k v : Int} {xs : Row} (h : Srt t xs) (hs : lsame k xs = false) : Srt t (xs.take (lrank t k xs) ++ (k, v) :: xs.drop (lrank t k xs)) := by
  obtain ⟨h1, h2⟩ := take_below (k := k) h
  have hne : ∀ p ∈ xs, rk p.1 ≠ rk k := by
    rw [lsame, List.any_eq_false] at hs
    intro p hp; simpa using hs p hp
  rw [Srt, List.pairwise_append, List.pairwise_cons]
  refine ⟨List.Pairwise.sublist (List.take_sublist _ _) h, ⟨fun p hp => ?_, List.Pairwise.sublist (List.drop_sublist _ _) h⟩, fun p hp q hq => ?_⟩
  · exact less_tot (hne p (List.mem_of_mem_drop hp)) (h2 p hp)
  · rcases List.mem_cons.1 hq with rfl | hq
    · exact h1 p hp
    · exact less_trans (h1 p hp) (less_tot (hne q (List.mem_of_mem_drop hq)) (h2 q hq))

theorem srt_set {t : Bool} {k v u : Int} {xs : Row} {i : Nat} (h : Srt t xs) (hi : xs[i]? = some (k, u)) : Srt t (xs.set i (k, v)) := by
  induction xs generalizing i with
  | nil => simp [Srt]
  | cons x xs ih =>
    simp only [Srt, List.pairwise_cons] at h
    cases i with
    | zero =>
      simp at hi
      simp only [List.set_cons_zero, Srt, List.pairwise_cons]
      exact ⟨fun p hp => by have := h.1 p hp; rw [hi] at this; exact this, h.2⟩
    | succ i =>
      simp only [List.getElem?_cons_succ] at hi
      simp only [List.set_cons_succ, Srt, List.pairwise_cons]
      refine ⟨fun p hp => ?_, ih h.2 hi⟩
      rcases List.mem_or_eq_of_mem_set hp with q | q
      · exact h.1 p q
      · have := h.1 (k, u) (List.mem_of_getElem? hi); rw [q]; exact this

/-- Put, as rows go. -/
def lput (t : Bool) (k v : Int) (xs : Row) : Row := if lsame k xs = true then xs.set (lrank t k xs) (((xs[lrank t k xs]?).getD (0, 0)).1, v) else xs.take (lrank t k xs) ++ (k, v) :: xs.drop (lrank t k xs)

theorem srt_put {t : Bool} {k v : Int} {xs : Row} (h : Srt t xs) : Srt t (lput t k v xs) := by
  unfold lput
  by_cases hs : lsame k xs = true
  · rw [if_pos hs]
    obtain ⟨⟨kq, u⟩, hu, _⟩ := at_rank h hs
    rw [hu]
    exact srt_set h hu
  · rw [if_neg hs]
    exact srt_insert h (by simpa using hs)

theorem len_put (t : Bool) (k v : Int) (xs : Row) : (lput t k v xs).length = if lsame k xs = true then xs.length else xs.length + 1 := by
  unfold lput
  by_cases hs : lsame k xs = true
  · rw [if_pos hs, if_pos hs]; simp
  · rw [if_neg hs, if_neg hs]; have := lrank_le t k xs; simp; omega

/-- How many binary digits a number has. -/
def dg (n : Nat) : Nat := if h : n ≤ 1 then 1 else dg (n / 2) + 1
termination_by n
decreasing_by omega

theorem dg_pow (j n : Nat) (h : 2 ^ j ≤ n) : j + 1 ≤ dg n := by
  induction j generalizing n with
  | zero => unfold dg; split <;> omega
  | succ j ih =>
    rw [Nat.pow_succ] at h
    have : 0 < 2 ^ j := Nat.two_pow_pos j
    unfold dg
    rw [dif_neg (by omega)]
    have := ih (n / 2) (by omega)
    omega

theorem avl_size (T : Tr) (h : T.avl) : 2 ^ (T.ht / 2) ≤ T.size + 1 ∧ 2 ^ ((T.ht + 1) / 2) ≤ 2 * (T.size + 1) := by
  induction T with
  | nil => simp [Tr.ht, Tr.size]
  | node b L k v R il ir =>
    obtain ⟨aL, aR, h1, h2⟩ := h
    obtain ⟨l1, l2⟩ := il aL
    obtain ⟨r1, r2⟩ := ir aR
    simp only [Tr.ht, Tr.size]
    have key : 2 ^ ((max L.ht R.ht + 1) / 2) ≤ L.size + R.size + 2 := by
      rcases Nat.le_total L.ht R.ht with c | c
      · rw [Nat.max_eq_right c]
        have e : 2 ^ ((R.ht + 1) / 2) ≤ 2 * 2 ^ (L.ht / 2) := by
          rw [← Nat.pow_succ']
          exact Nat.pow_le_pow_right (by omega) (by omega)
        have e2 : 2 ^ ((R.ht + 1) / 2) ≤ 2 * (R.size + 1) := r2
        omega
      · rw [Nat.max_eq_left c]
        have e : 2 ^ ((L.ht + 1) / 2) ≤ 2 * 2 ^ (R.ht / 2) := by
          rw [← Nat.pow_succ']
          exact Nat.pow_le_pow_right (by omega) (by omega)
        have e2 : 2 ^ ((L.ht + 1) / 2) ≤ 2 * (L.size + 1) := l2
        omega
    refine ⟨by omega, ?_⟩
    have : (max L.ht R.ht + 1 + 1) / 2 ≤ (max L.ht R.ht + 1) / 2 + 1 := by omega
    have := Nat.pow_le_pow_right (n := 2) (by omega) this
    rw [Nat.pow_succ] at this
    omega

theorem cnt_few (f : Int → Int) (T : Tr) (h : T.avl) : T.cnt f ≤ 3 * dg (T.items.length + 1) := by
  rw [Tr.size_items]
  have a := (avl_size T h).1
  have b := dg_pow _ _ a
  have c := T.cnt_le f
  omega

/-- What At answers. -/
def latK (xs : Row) (i : Int) : Int := if 0 ≤ i ∧ i < xs.length then ((xs[i.toNat]?).getD (0, 0)).1 else 0
def latV (xs : Row) (i : Int) : Int := if 0 ≤ i ∧ i < xs.length then ((xs[i.toNat]?).getD (0, 0)).2 else 0
def latB (xs : Row) (i : Int) : Bool := if 0 ≤ i ∧ i < xs.length then true else false

/-- Get's value: 0 where the key is not there. -/
def lget (t : Bool) (k : Int) (xs : Row) : Int := if lsame k xs = true then ((xs[lrank t k xs]?).getD (0, 0)).2 else 0
/-- Put's answer: the value that was; whether; the error. -/
def lerr (k : Int) (xs : Row) : Int := if lsame k xs = true then 0 else if 400 ≤ xs.length then 3 else 0
def lputF (t : Bool) (k v : Int) (xs : Row) : Row := if lerr k xs = 0 then lput t k v xs else xs
/-- Floor's place. -/
def lfloor (t : Bool) (k : Int) (xs : Row) : Int := if lsame k xs = true then lrank t k xs else (lrank t k xs : Int) - 1

/-- Delete, as rows go. -/
def ldel (t : Bool) (k : Int) (xs : Row) : Row := if lsame k xs = true then xs.eraseIdx (lrank t k xs) else xs

theorem srt_del {t : Bool} {k : Int} {xs : Row} (h : Srt t xs) : Srt t (ldel t k xs) := by
  unfold ldel
  split
  · exact List.Pairwise.sublist (List.eraseIdx_sublist _ _) h
  · exact h

theorem len_del (t : Bool) (k : Int) (xs : Row) : (ldel t k xs).length ≤ xs.length := by
  unfold ldel
  split
  · exact List.length_eraseIdx_le _ _
  · exact Nat.le_refl _

end Go.Proofs.YthbnbocpddddmaaGreat

namespace Go.Proofs.YthbnbocpddddmaaGreat

namespace Tr
def nthB : Tr → Nat → Nat
  | nil, _ => 0
  | node b l _ _ r, i => if i < l.size then l.nthB i else if i = l.size then b else r.nthB (i - l.size - 1)
def setV (x : Nat) (u : Int) : Tr → Tr
  | nil => nil
  | node b l k v r => node b (l.setV x u) k (if b = x then u else v) (r.setV x u)

theorem ad_setV (x : Nat) (u : Int) (t : Tr) : (t.setV x u).ad = t.ad := by cases t <;> rfl
theorem size_setV (x : Nat) (u : Int) (t : Tr) : (t.setV x u).size = t.size := by
  induction t with
  | nil => rfl
  | node b l k v r il ir => simp only [setV, size, il, ir]
theorem ht_setV (x : Nat) (u : Int) (t : Tr) : (t.setV x u).ht = t.ht := by
  induction t with
  | nil => rfl
  | node b l k v r il ir => simp only [setV, ht, il, ir]
theorem has_setV (x : Nat) (u : Int) (t : Tr) (y : Nat) : (t.setV x u).has y ↔ t.has y := by
  induction t with
  | nil => exact Iff.rfl
  | node b l k v r il ir => simp only [setV, has, il, ir]
theorem avl_setV (x : Nat) (u : Int) (t : Tr) : (t.setV x u).avl ↔ t.avl := by
  induction t with
  | nil => exact Iff.rfl
  | node b l k v r il ir => simp only [setV, avl, il, ir, ht_setV]
theorem setV_id (x : Nat) (u : Int) (t : Tr) (h : ¬ t.has x) : t.setV x u = t := by
  induction t with
  | nil => rfl
  | node b l k v r il ir =>
    simp only [has, not_or] at h
    simp only [setV, il h.2.1, ir h.2.2, if_neg (Ne.symm h.1)]
theorem has_nthB (t : Tr) (i : Nat) (h : i < t.size) : t.has (t.nthB i) := by
  induction t generalizing i with
  | nil => simp [size] at h
  | node b l k v r il ir =>
    simp only [size] at h
    simp only [nthB, has]
    by_cases c : i < l.size
    · rw [if_pos c]; exact Or.inr (Or.inl (il i c))
    · rw [if_neg c]
      by_cases d : i = l.size
      · rw [if_pos d]; exact Or.inl rfl
      · rw [if_neg d]; exact Or.inr (Or.inr (ir _ (by omega)))
end Tr

theorem Lies.nth {N : TypeId} {w : World} {T : Tr} (h : Lies N w T) (i : Nat) (hi : i < T.size) :
    ∃ k v lp rp s g, w.heap[T.nthB i]? = some (nodeBlk N k v lp rp s g) ∧ T.items[i]? = some (k, v) := by
  induction T generalizing i with
  | nil => simp [Tr.size] at hi
  | node b L k v R il ir =>
    obtain ⟨hb, lL, lR, _⟩ := h
    simp only [Tr.size] at hi
    simp only [Tr.nthB, Tr.items]
    by_cases c : i < L.size
    · rw [if_pos c, List.getElem?_append_left (by rw [Tr.size_items]; exact c)]
      exact il lL i c
    · rw [if_neg c, List.getElem?_append_right (by rw [Tr.size_items]; omega), Tr.size_items]
      by_cases d : i = L.size
      · rw [if_pos d]
        exact ⟨k, v, _, _, _, _, hb, by subst d; simp⟩
      · rw [if_neg d]
        obtain ⟨k', v', lp, rp, s, g, h1, h2⟩ := ir lR (i - L.size - 1) (by omega)
        refine ⟨k', v', lp, rp, s, g, h1, ?_⟩
        rw [show i - L.size = (i - L.size - 1) + 1 by omega, List.getElem?_cons_succ]
        exact h2

/-- The value of the i-th item is set. -/
theorem Lies.set {N : TypeId} {w w' : World} {T : Tr} (h : Lies N w T) (i : Nat) (hi : i < T.size) (u : Int)
    (hs : ∀ k v lp rp s g, w.heap[T.nthB i]? = some (nodeBlk N k v lp rp s g) → w'.heap[T.nthB i]? = some (nodeBlk N k u lp rp s g))
    (ho : ∀ x, x ≠ T.nthB i → T.has x → w'.heap[x]? = w.heap[x]?) :
    Lies N w' (T.setV (T.nthB i) u) ∧ ∃ k v, T.items[i]? = some (k, v) ∧ (T.setV (T.nthB i) u).items = T.items.set i (k, u) := by
  induction T generalizing i with
  | nil => simp [Tr.size] at hi
  | node b L k v R il ir =>
    obtain ⟨hb, lL, lR, n1, n2, n3⟩ := h
    simp only [Tr.size] at hi
    simp only [Tr.nthB] at hs ho ⊢
    by_cases c : i < L.size
    · rw [if_pos c] at hs ho ⊢
      have hh := L.has_nthB i c
      have nb : b ≠ L.nthB i := fun e => n1 (e ▸ hh)
      have nr : ¬ R.has (L.nthB i) := n3 _ hh
      obtain ⟨a1, k', v', a2, a3⟩ := il lL i c hs fun x hx hy => ho x hx (Or.inr (Or.inl hy))
      simp only [Tr.setV, if_neg nb, Tr.setV_id _ _ R nr]
      refine ⟨⟨?_, a1, lR.congr fun x hx => ho x (fun e => nr (e ▸ hx)) (Or.inr (Or.inr hx)), fun e => n1 ((Tr.has_setV _ _ _ _).1 e), n2, fun x hx => n3 x ((Tr.has_setV _ _ _ _).1 hx)⟩, k', v', ?_, ?_⟩
      · rw [Tr.ad_setV, Tr.size_setV, Tr.ht_setV]; exact (ho b nb (Or.inl rfl)).trans hb
      · simp only [Tr.items]; rw [List.getElem?_append_left (by rw [Tr.size_items]; exact c)]; exact a2
      · simp only [Tr.items]; rw [a3, List.set_append_left _ _ (by rw [Tr.size_items]; exact c)]
    · rw [if_neg c] at hs ho ⊢
      by_cases d : i = L.size
      · rw [if_pos d] at hs ho ⊢
        have hb' := hs _ _ _ _ _ _ hb
        simp only [Tr.setV, if_pos, Tr.setV_id _ _ R n2, Tr.setV_id _ _ L n1]
        refine ⟨⟨hb', lL.congr fun x hx => ho x (fun e => n1 (e ▸ hx)) (Or.inr (Or.inl hx)), lR.congr fun x hx => ho x (fun e => n2 (e ▸ hx)) (Or.inr (Or.inr hx)), n1, n2, n3⟩, k, v, ?_, ?_⟩
        · simp only [Tr.items]; rw [List.getElem?_append_right (by rw [Tr.size_items]; omega), Tr.size_items, d]; simp
        · simp only [Tr.items]; rw [List.set_append_right _ _ (by rw [Tr.size_items]; omega), Tr.size_items, d]; simp
      · rw [if_neg d] at hs ho ⊢
        have hj : i - L.size - 1 < R.size := by omega
        have hh := R.has_nthB _ hj
        have nb : b ≠ R.nthB (i - L.size - 1) := fun e => n2 (e ▸ hh)
        have nl : ¬ L.has (R.nthB (i - L.size - 1)) := fun e => n3 _ e hh
        obtain ⟨a1, k', v', a2, a3⟩ := ir lR _ hj hs fun x hx hy => ho x hx (Or.inr (Or.inr hy))
        simp only [Tr.setV, if_neg nb, Tr.setV_id _ _ L nl]
        refine ⟨⟨?_, lL.congr fun x hx => ho x (fun e => nl (e ▸ hx)) (Or.inr (Or.inl hx)), a1, n1, fun e => n2 ((Tr.has_setV _ _ _ _).1 e), fun x hx e => n3 x hx ((Tr.has_setV _ _ _ _).1 e)⟩, k', v', ?_, ?_⟩
        · rw [Tr.ad_setV, Tr.size_setV, Tr.ht_setV]; exact (ho b nb (Or.inl rfl)).trans hb
        · simp only [Tr.items]; rw [List.getElem?_append_right (by rw [Tr.size_items]; omega), Tr.size_items, show i - L.size = (i - L.size - 1) + 1 by omega, List.getElem?_cons_succ]; exact a2
        · simp only [Tr.items]; rw [a3, List.set_append_right _ _ (by rw [Tr.size_items]; omega), Tr.size_items, show i - L.size = (i - L.size - 1) + 1 by omega, List.set_cons_succ]; simp

end Go.Proofs.YthbnbocpddddmaaGreat

namespace Go.Proofs.YthbnbocpddddmaaGreat

theorem lputF_room {t : Bool} {k v : Int} {xs : Row} (h : xs.length < 400) : lputF t k v xs = lput t k v xs ∧ lerr k xs = 0 := by
  have e : lerr k xs = 0 := by unfold lerr; split; rfl; rw [if_neg (by omega)]
  exact ⟨by unfold lputF; rw [if_pos e], e⟩

theorem dg_le (n : Nat) : dg n ≤ n + 1 := by
  induction n using Nat.strongRecOn with
  | _ n ih =>
    unfold dg
    split
    · omega
    · have := ih (n / 2) (by omega); omega

end Go.Proofs.YthbnbocpddddmaaGreat

namespace Go.Proofs.YthbnbocpddddmaaGreat

theorem lat_in {xs : Row} {i : Nat} {p : Int × Int} (h : xs[i]? = some p) : latK xs i = p.1 ∧ latV xs i = p.2 ∧ latB xs i = true := by
  have hl := (List.getElem?_eq_some_iff.1 h).1
  unfold latK latV latB
  rw [if_pos (by omega), if_pos (by omega), if_pos (by omega), Int.toNat_natCast, h]
  exact ⟨rfl, rfl, rfl⟩

theorem latB_lt {xs : Row} {i : Int} (h0 : 0 ≤ i) (h : i < xs.length) : latB xs i = true := by unfold latB; rw [if_pos ⟨h0, h⟩]
theorem latB_ge {xs : Row} {i : Int} (h : i < 0 ∨ (xs.length : Int) ≤ i) : latB xs i = false := by unfold latB; rw [if_neg (by omega)]

theorem same_rank {t : Bool} {k : Int} {xs : Row} (h : Srt t xs) (hs : lsame k xs = true) : lrank t k xs < xs.length ∧ rk (latK xs (lrank t k xs)) = rk k := by
  obtain ⟨q, hv, e⟩ := at_rank h hs
  exact ⟨(List.getElem?_eq_some_iff.1 hv).1, by rw [(lat_in hv).1]; exact e⟩

theorem before_rank {t : Bool} {k : Int} {xs : Row} (h : Srt t xs) (hp : 0 < lrank t k xs) : lessB t (latK xs ((lrank t k xs : Int) - 1)) k = true := by
  have hl := lrank_le t k xs
  obtain ⟨p, hp'⟩ : ∃ p, xs[lrank t k xs - 1]? = some p := ⟨_, List.getElem?_eq_getElem (by omega)⟩
  have e : (lrank t k xs : Int) - 1 = ((lrank t k xs - 1 : Nat) : Int) := by omega
  rw [e, (lat_in hp').1]
  refine (take_below h).1 p (List.mem_of_getElem? (i := lrank t k xs - 1) ?_)
  rw [List.getElem?_take_of_lt (by omega)]; exact hp'

theorem next_rank {t : Bool} {k : Int} {xs : Row} (h : Srt t xs) (hs : lsame k xs = false) (hp : lrank t k xs < xs.length) : lessB t k (latK xs (lrank t k xs)) = true := by
  obtain ⟨p, hp'⟩ : ∃ p, xs[lrank t k xs]? = some p := ⟨_, List.getElem?_eq_getElem hp⟩
  rw [(lat_in hp').1]
  have hd : p ∈ xs.drop (lrank t k xs) := List.mem_of_getElem? (i := 0) (by rw [List.getElem?_drop]; simpa using hp')
  have hne : rk p.1 ≠ rk k := by
    rw [lsame, List.any_eq_false] at hs
    simpa using hs p (List.mem_of_getElem? hp')
  exact less_tot hne ((take_below h).2 p hd)

end Go.Proofs.YthbnbocpddddmaaGreat

namespace Go.Proofs.YthbnbocpddddmaaGreat

theorem lsame_iff {k : Int} {xs : Row} : lsame k xs = true ↔ ∃ p ∈ xs, rk p.1 = rk k := by
  unfold lsame
  rw [List.any_eq_true]
  exact ⟨fun ⟨p, h, e⟩ => ⟨p, h, by simpa using e⟩, fun ⟨p, h, e⟩ => ⟨p, h, by simpa using e⟩⟩

theorem srt_ne {t : Bool} {xs : Row} (hs : Srt t xs) {i j : Nat} {p q : Int × Int} (hi : xs[i]? = some p) (hj : xs[j]? = some q) (ne : i ≠ j) : rk p.1 ≠ rk q.1 := by
  obtain ⟨a, rfl⟩ := List.getElem?_eq_some_iff.1 hi
  obtain ⟨b, rfl⟩ := List.getElem?_eq_some_iff.1 hj
  rcases Nat.lt_or_gt_of_ne ne with c | c
  · exact less_ne (List.pairwise_iff_getElem.1 hs i j a b c)
  · exact fun e => less_ne (List.pairwise_iff_getElem.1 hs j i b a c) e.symm

end Go.Proofs.YthbnbocpddddmaaGreat

namespace Go.Proofs.YthbnbocpddddmaaGreat

/-- How many keys are ahead of a place: 0 ahead of all, 1 right ahead of k, 2 right behind k. -/
def pas (t : Bool) (s k : Int) (xs : Row) : Int := if s = 0 then 0 else (lrank t k xs : Int) + (if lsame k xs = true ∧ s = 2 then 1 else 0)

/-- What pick answers. -/
def pkn (c n : Int) : Int := if c < 0 then (-(c + 1)) % n else c % n
theorem pkn_b (c n : Int) (h : 0 < n) : 0 ≤ pkn c n ∧ pkn c n < n := by
  unfold pkn; split
  · exact ⟨Int.emod_nonneg _ (by omega), Int.emod_lt_of_pos _ h⟩
  · exact ⟨Int.emod_nonneg _ (by omega), Int.emod_lt_of_pos _ h⟩

end Go.Proofs.YthbnbocpddddmaaGreat

namespace Go.Proofs.YthbnbocpddddmaaGreat

/-- The items of a row that another one has, or has not. -/
def lboth (ys : Row) (has : Bool) (xs : Row) : Row := xs.filter fun p => lsame p.1 ys == has

/-- A key that one of two rows has, or both, with its values there. -/
structure Hd where
  k : Int
  v : Int
  u : Int
  a : Bool
  b : Bool

def hA (x : Int × Int) : Hd := ⟨x.1, x.2, 0, true, false⟩
def hB (y : Int × Int) : Hd := ⟨y.1, 0, y.2, false, true⟩
def hAB (x y : Int × Int) : Hd := ⟨x.1, x.2, y.2, true, true⟩

/-- All keys of two rows, rising; so many rounds at most. -/
def lmet (t : Bool) : Nat → Row → Row → List Hd
  | 0, _, _ => []
  | n + 1, xs, ys => match xs, ys with
    | [], [] => []
    | x :: xs, [] => hA x :: lmet t n xs []
    | [], y :: ys => hB y :: lmet t n [] ys
    | x :: xs, y :: ys => if rk x.1 = rk y.1 then hAB x y :: lmet t n xs ys else if lessB t x.1 y.1 = true then hA x :: lmet t n xs (y :: ys) else hB y :: lmet t n (x :: xs) ys

theorem lmet_len (t : Bool) (n : Nat) (xs ys : Row) : (lmet t n xs ys).length ≤ xs.length + ys.length := by
  induction n generalizing xs ys with
  | zero => simp [lmet]
  | succ n ih =>
    cases xs with
    | nil => cases ys with
      | nil => simp [lmet]
      | cons y ys => have := ih [] ys; simp only [lmet, List.length_cons, List.length_nil] at *; omega
    | cons x xs => cases ys with
      | nil => have := ih xs []; simp only [lmet, List.length_cons, List.length_nil] at *; omega
      | cons y ys =>
        simp only [lmet]
        split
        · have := ih xs ys; simp only [List.length_cons] at *; omega
        · split
          · have := ih xs (y :: ys); simp only [List.length_cons] at *; omega
          · have := ih (x :: xs) ys; simp only [List.length_cons] at *; omega

/-- What Common and Without keep of it. -/
def hkeep (too : Bool) (h : Hd) : Option (Int × Int) := if h.a = true ∧ h.b = too then some (h.k, h.v) else none

theorem lboth_skip {y : Int × Int} {ys xs : Row} {has : Bool} (h : ∀ p ∈ xs, rk p.1 ≠ rk y.1) : lboth (y :: ys) has xs = lboth ys has xs := by
  unfold lboth
  apply List.filter_congr
  intro p hp
  have := h p hp
  simp only [lsame, List.any_cons]
  rw [show (rk y.1 == rk p.1) = false by simpa using Ne.symm this]
  rfl

theorem lsame_cons (k : Int) (y : Int × Int) (ys : Row) : lsame k (y :: ys) = (rk y.1 == rk k || lsame k ys) := rfl

theorem lmet_keep {t : Bool} (too : Bool) (n : Nat) (xs ys : Row) (hx : Srt t xs) (hy : Srt t ys) (hn : xs.length + ys.length ≤ n) : (lmet t n xs ys).filterMap (hkeep too) = lboth ys too xs := by
  induction n generalizing xs ys with
  | zero =>
    have : xs = [] := List.eq_nil_of_length_eq_zero (by omega)
    subst this
    simp [lmet, lboth]
  | succ n ih =>
    cases xs with
    | nil => cases ys with
      | nil => simp [lmet, lboth]
      | cons y ys =>
        simp only [List.length_cons, List.length_nil] at hn
        have := ih [] ys hx (List.Pairwise.of_cons hy) (by simp; omega)
        simp only [lmet]
        rw [List.filterMap_cons_none (by simp [hkeep, hB]), this]
        simp [lboth]
    | cons x xs => cases ys with
      | nil =>
        simp only [List.length_cons, List.length_nil] at hn
        have := ih xs [] (List.Pairwise.of_cons hx) hy (by simp; omega)
        simp only [lmet]
        cases too
        · rw [List.filterMap_cons_some (b := x) (by simp [hkeep, hA]), this]
          simp [lboth, lsame]
        · rw [List.filterMap_cons_none (by simp [hkeep, hA]), this]
          simp [lboth, lsame]
      | cons y ys =>
        simp only [List.length_cons] at hn
        have sx : ∀ {p}, p ∈ xs → lessB t x.1 p.1 = true := fun h => List.rel_of_pairwise_cons hx h
        have sy : ∀ {p}, p ∈ ys → lessB t y.1 p.1 = true := fun h => List.rel_of_pairwise_cons hy h
        simp only [lmet]
        by_cases e : rk x.1 = rk y.1
        · rw [if_pos e]
          have := ih xs ys (List.Pairwise.of_cons hx) (List.Pairwise.of_cons hy) (by omega)
          have sk : lboth (y :: ys) too xs = lboth ys too xs := lboth_skip fun p hp => by rw [← e]; exact (less_ne (sx hp)).symm
          have l1 : lboth (y :: ys) too (x :: xs) = (if too = true then [x] else []) ++ lboth (y :: ys) too xs := by
            unfold lboth
            rw [List.filter_cons, lsame_cons, e]
            cases too <;> simp
          rw [l1, sk]
          cases too
          · rw [List.filterMap_cons_none (by simp [hkeep, hAB]), this]; rfl
          · rw [List.filterMap_cons_some (b := x) (by simp [hkeep, hAB]), this]; rfl
        · rw [if_neg e]
          by_cases f : lessB t x.1 y.1 = true
          · rw [if_pos f]
            have := ih xs (y :: ys) (List.Pairwise.of_cons hx) hy (by simp; omega)
            have ns : lsame x.1 (y :: ys) = false := lsame_none fun p hp => by
              rcases List.mem_cons.1 hp with rfl | hp
              · exact Ne.symm e
              · exact (less_ne (less_trans f (sy hp))).symm
            have l1 : lboth (y :: ys) too (x :: xs) = (if too = true then [] else [x]) ++ lboth (y :: ys) too xs := by
              unfold lboth
              rw [List.filter_cons, ns]
              cases too <;> simp
            rw [l1]
            cases too
            · rw [List.filterMap_cons_some (b := x) (by simp [hkeep, hA]), this]; rfl
            · rw [List.filterMap_cons_none (by simp [hkeep, hA]), this]; rfl
          · rw [if_neg f]
            have g : lessB t y.1 x.1 = true := less_tot e (by simpa using f)
            have := ih (x :: xs) ys hx (List.Pairwise.of_cons hy) (by simp; omega)
            rw [List.filterMap_cons_none (by simp [hkeep, hB]), this]
            refine (lboth_skip fun p hp => ?_).symm
            rcases List.mem_cons.1 hp with rfl | hp
            · exact e
            · exact (less_ne (less_trans g (sx hp))).symm

theorem lboth_srt {t : Bool} {ys xs : Row} {has : Bool} (h : Srt t xs) : Srt t (lboth ys has xs) := List.Pairwise.sublist List.filter_sublist h
theorem lboth_le (ys : Row) (has : Bool) (xs : Row) : (lboth ys has xs).length ≤ xs.length := List.length_filter_le ..

/-- A row that stands whole below another one. -/
theorem lmet_below {t : Bool} (n : Nat) (xs ys : Row) (h : ∀ p ∈ xs, ∀ q ∈ ys, lessB t p.1 q.1 = true) (hn : xs.length + ys.length ≤ n) : lmet t n xs ys = xs.map hA ++ ys.map hB := by
  induction n generalizing xs ys with
  | zero =>
    have h1 : xs = [] := List.eq_nil_of_length_eq_zero (by omega)
    have h2 : ys = [] := List.eq_nil_of_length_eq_zero (by omega)
    subst h1; subst h2
    rfl
  | succ n ih =>
    cases xs with
    | nil => cases ys with
      | nil => rfl
      | cons y ys =>
        simp only [List.length_cons, List.length_nil] at hn
        simp only [lmet]
        rw [ih [] ys (fun p hp => by cases hp) (by simp; omega)]
        rfl
    | cons x xs => cases ys with
      | nil =>
        simp only [List.length_cons, List.length_nil] at hn
        simp only [lmet]
        rw [ih xs [] (fun p _ q hq => by cases hq) (by simp; omega)]
        rfl
      | cons y ys =>
        simp only [List.length_cons] at hn
        have f := h x (List.mem_cons.2 (Or.inl rfl)) y (List.mem_cons.2 (Or.inl rfl))
        simp only [lmet]
        rw [if_neg (less_ne f), if_pos f, ih xs (y :: ys) (fun p hp q hq => h p (List.mem_cons.2 (Or.inr hp)) q hq) (by simp; omega)]
        rfl

/-- A row with itself. -/
theorem lmet_self (t : Bool) (n : Nat) (xs : Row) (hn : xs.length + xs.length ≤ n) : lmet t n xs xs = xs.map fun p => hAB p p := by
  induction n generalizing xs with
  | zero =>
    have h1 : xs = [] := List.eq_nil_of_length_eq_zero (by omega)
    subst h1
    rfl
  | succ n ih =>
    cases xs with
    | nil => rfl
    | cons x xs =>
      simp only [List.length_cons] at hn
      simp only [lmet]
      rw [if_pos trivial, ih xs (by omega)]
      rfl

theorem srt_map {t : Bool} {xs : Row} (f : Int × Int → Int × Int) (hf : ∀ p, (f p).1 = p.1) (h : Srt t xs) : Srt t (xs.map f) := by
  unfold Srt at h ⊢
  rw [List.pairwise_map]
  exact h.imp fun {p q} e => by rw [hf, hf]; exact e

/-- How the next keys stand to each other, as 'side' tells it; what 'next' gives. -/
def msid (t : Bool) (xs ys : Row) : Int := match xs, ys with
  | [], _ => 1
  | _ :: _, [] => -1
  | x :: _, y :: _ => side t x.1 y.1

def mhd (t : Bool) (xs ys : Row) : Hd := match xs, ys with
  | [], [] => ⟨0, 0, 0, false, false⟩
  | [], y :: _ => hB y
  | x :: _, [] => hA x
  | x :: _, y :: _ => if rk x.1 = rk y.1 then hAB x y else if lessB t x.1 y.1 = true then hA x else hB y

theorem lmet_step (t : Bool) (n : Nat) (xs ys : Row) (h : 0 < xs.length + ys.length) : lmet t (n + 1) xs ys = mhd t xs ys :: lmet t n (if msid t xs ys ≤ 0 then xs.drop 1 else xs) (if 0 ≤ msid t xs ys then ys.drop 1 else ys) := by
  cases xs with
  | nil => cases ys with
    | nil => simp at h
    | cons y ys => simp [lmet, mhd, msid]
  | cons x xs => cases ys with
    | nil => simp [lmet, mhd, msid]
    | cons y ys =>
      have em : msid t (x :: xs) (y :: ys) = side t x.1 y.1 := rfl
      simp only [lmet, mhd]
      by_cases e : rk x.1 = rk y.1
      · have := (side_zero (t := t)).2 e
        rw [if_pos e, if_pos e, if_pos (by omega), if_pos (by omega)]; simp
      · rw [if_neg e, if_neg e]
        by_cases f : lessB t x.1 y.1 = true
        · have := (side_neg (t := t)).2 f
          rw [if_pos f, if_pos f, if_pos (by omega), if_neg (by omega)]; simp
        · have h1 : ¬ side t x.1 y.1 < 0 := fun h => f (side_neg.1 h)
          have h2 : side t x.1 y.1 ≠ 0 := fun h => e (side_zero.1 h)
          rw [if_neg f, if_neg f, if_neg (by omega), if_pos (by omega)]; simp

end Go.Proofs.YthbnbocpddddmaaGreat

namespace Go.Proofs.YthbnbocpddddmaaGreat
open Ieee

def nanB (b : Nat) : Bool := (double.read b).isNaN

theorem signed_eq (s : Bool) (m u : Nat) : signed s m u = (if s = true then -(m : Int) else (m : Int)) * 2 ^ u := by
  unfold signed
  cases s
  · simp [Nat.shiftLeft_eq]
  · simp [Nat.shiftLeft_eq, Int.neg_mul]

theorem signed_add (s : Bool) (m u v : Nat) : signed s m (u + v) = signed s m u * 2 ^ v := by
  rw [signed_eq, signed_eq, Int.pow_add, Int.mul_assoc]

theorem cmp_int (a b : Int) : compare a b = if a < b then .lt else if a = b then .eq else .gt := rfl

theorem pow_pos' (j : Nat) : (0 : Int) < 2 ^ j := Int.pow_pos (by decide)

theorem cmp_scale (a b : Int) (j : Nat) : compare (a * 2 ^ j) (b * 2 ^ j) = compare a b := by
  have hp := pow_pos' j
  rw [cmp_int, cmp_int]
  have h1 : a * 2 ^ j < b * 2 ^ j ↔ a < b := ⟨fun h => Int.lt_of_mul_lt_mul_right h (Int.le_of_lt hp), fun h => Int.mul_lt_mul_of_pos_right h hp⟩
  have h2 : a * 2 ^ j = b * 2 ^ j ↔ a = b := ⟨fun h => Int.eq_of_mul_eq_mul_right (by omega) h, fun h => by rw [h]⟩
  simp only [h1, h2]

theorem pow_le' {a b : Nat} (h : a ≤ b) : (2 : Int) ^ a ≤ 2 ^ b := by
  obtain ⟨c, rfl⟩ := Nat.exists_eq_add_of_le h
  rw [Int.pow_add]
  have h1 := pow_pos' a
  have h2 := pow_pos' c
  have h3 := Int.mul_le_mul_of_nonneg_left (show (1 : Int) ≤ 2 ^ c by omega) (Int.le_of_lt h1)
  rw [Int.mul_one] at h3
  exact h3
theorem big_pos : 0 < bigM := pow_pos' 2300

theorem read_num {b : Nat} {s : Bool} {m : Nat} {i : Int} (h : double.read b = .number s m i) : double.leastPlace ≤ i ∧ i ≤ double.leastPlace + 2046 ∧ m < 9007199254740992 := by
  have e1 : double.binade = 4503599627370496 := by decide
  have e2 : double.infRung = 2047 * 4503599627370496 := by decide
  unfold Format.read at h
  simp only [e1, e2] at h
  generalize b % double.signWeight = rung at h
  by_cases h1 : rung < 4503599627370496
  · rw [if_pos h1] at h
    cases h
    exact ⟨Int.le_refl _, by omega, by omega⟩
  · rw [if_neg h1] at h
    by_cases h2 : rung < 2047 * 4503599627370496
    · rw [if_pos h2] at h
      cases h
      refine ⟨by omega, ?_, by omega⟩
      have : rung / 4503599627370496 < 2047 := Nat.div_lt_of_lt_mul (by omega)
      omega
    · rw [if_neg h2] at h
      split at h <;> cases h

theorem vF_num {b : Nat} {s : Bool} {m : Nat} {i : Int} (h : double.read b = .number s m i) : -bigM < vF (.number s m i) ∧ vF (.number s m i) < bigM := by
  obtain ⟨h1, h2, h3⟩ := read_num h
  simp only [vF]
  rw [signed_eq]
  obtain ⟨u, hu⟩ : ∃ u : Nat, i - double.leastPlace = (u : Int) := Int.eq_ofNat_of_zero_le (by omega)
  rw [hu, Int.toNat_natCast]
  have hu' : u ≤ 2046 := by omega
  have hp := pow_pos' u
  have hm : (m : Int) < 2 ^ 53 := by
    have : ((2 : Int) ^ 53) = 9007199254740992 := by decide
    omega
  have hle : (2 : Int) ^ 53 * 2 ^ u ≤ bigM := by
    unfold bigM
    rw [← Int.pow_add]
    exact pow_le' (by omega)
  have h4 : (m : Int) * 2 ^ u < 2 ^ 53 * 2 ^ u := Int.mul_lt_mul_of_pos_right hm hp
  have h5 : (0 : Int) ≤ (m : Int) * 2 ^ u := Int.mul_nonneg (by omega) (Int.le_of_lt hp)
  generalize (2 : Int) ^ 53 * 2 ^ u = N at *
  cases s
  · simp only [Bool.false_eq_true, if_false]
    constructor <;> omega
  · simp only [if_true, Int.neg_mul]
    constructor <;> omega

theorem nan_rk {b : Nat} (h : nanB b = true) : rkF b = -bigM - 1 := by
  unfold nanB at h
  unfold rkF
  cases hr : double.read b <;> rw [hr] at h <;> first | (simp [Datum.isNaN] at h; done) | (simp only [vF])

theorem rk_low {b : Nat} (h : nanB b = false) : -bigM ≤ rkF b := by
  unfold nanB at h
  unfold rkF
  cases hr : double.read b with
  | number s m i => exact Int.le_of_lt (vF_num hr).1
  | infinity s =>
    have := big_pos
    simp only [vF]
    split <;> omega
  | nan s f => rw [hr] at h; simp [Datum.isNaN] at h

theorem rk_abs (b : Nat) : -bigM - 1 ≤ rkF b ∧ rkF b ≤ bigM := by
  have hp := big_pos
  unfold rkF
  cases hr : double.read b with
  | number s m i =>
    have := vF_num hr
    omega
  | infinity s =>
    simp only [vF]
    split <;> omega
  | nan s f =>
    simp only [vF]
    omega

theorem order_nan {x y : Nat} (h : nanB x = true ∨ nanB y = true) : double.order x y = none := by
  unfold Format.order
  unfold nanB at h
  rcases h with h | h
  · cases hr : double.read x <;> rw [hr] at h <;> first | rfl | (simp [Datum.isNaN] at h)
  · cases hr : double.read y <;> rw [hr] at h <;> first | (simp [Datum.isNaN] at h; done) | (cases double.read x <;> rfl)

theorem order_rk {x y : Nat} (hx : nanB x = false) (hy : nanB y = false) : double.order x y = some (compare (rkF x) (rkF y)) := by
  have hp := big_pos
  unfold Format.order rkF
  unfold nanB at hx hy
  cases hr : double.read x with
  | nan s f => rw [hr] at hx; simp [Datum.isNaN] at hx
  | infinity s =>
    cases hq : double.read y with
    | nan t f => rw [hq] at hy; simp [Datum.isNaN] at hy
    | infinity t =>
      simp only [Datum.order, vF, cmp_int]
      cases s <;> cases t
      · simp only [Bool.false_eq_true, if_false, Int.lt_irrefl, if_true]; decide
      · simp only [Bool.false_eq_true, if_false, if_true]; rw [if_neg (by omega), if_neg (by omega)]; decide
      · simp only [Bool.false_eq_true, if_false, if_true]; rw [if_pos (by omega)]; decide
      · simp only [if_true, Int.lt_irrefl, if_false]; decide
    | number t n j =>
      have hv := vF_num hq
      simp only [Datum.order, cmp_int]
      generalize vF (.number t n j) = V at *
      simp only [vF]
      cases s
      · simp only [Bool.false_eq_true, if_false]
        rw [if_neg (by omega), if_neg (by omega)]
      · simp only [if_true]
        rw [if_pos (by omega)]
  | number s m i =>
    cases hq : double.read y with
    | nan t f => rw [hq] at hy; simp [Datum.isNaN] at hy
    | infinity t =>
      have hv := vF_num hr
      simp only [Datum.order, cmp_int]
      generalize vF (.number s m i) = V at *
      simp only [vF]
      cases t
      · simp only [Bool.false_eq_true, if_false]
        rw [if_pos (by omega)]
      · simp only [if_true]
        rw [if_neg (by omega), if_neg (by omega)]
    | number t n j =>
      obtain ⟨a1, _, _⟩ := read_num hr
      obtain ⟨b1, _, _⟩ := read_num hq
      simp only [Datum.order, vF]
      obtain ⟨u, hu⟩ : ∃ u : Nat, min i j - double.leastPlace = (u : Int) := Int.eq_ofNat_of_zero_le (by omega)
      have e1 : (i - double.leastPlace).toNat = (i - min i j).toNat + u := by omega
      have e2 : (j - double.leastPlace).toNat = (j - min i j).toNat + u := by omega
      rw [e1, e2, signed_add, signed_add, cmp_scale]

end Go.Proofs.YthbnbocpddddmaaGreat
