import Derived.Below
import Derived.Deep.Draws
import Derived.Test.YthbnbocpddddmaaProg
import Derived.WalkKit
import Derived.WalkSpells
import Derived.WalkLawsBesides
import Derived.Deep.QuietTactic
import Derived.BigQuiet
import Derived.Deep.RegionWith
import Derived.Deep.RegionHeld3
import Derived.Deep.DeepCutAuto
import Derived.Deep.Light
import Derived.Deep.MidRow
namespace Go.Proofs.Ythbnbocpddddmaa
open Go.RowKit

/-- What a call leaves alone: every old block outside S. -/
structure Fr (S : Nat → Prop) (w w' : World) : Prop where
  os : w'.os = w.os
  tape : w'.tape = w.tape
  output : w'.output = w.output
  size : w.heap.size ≤ w'.heap.size
  block : ∀ k, k < w.heap.size → ¬ S k → w'.heap[k]? = w.heap[k]?

theorem Fr.refl (S : Nat → Prop) (w : World) : Fr S w w := ⟨rfl, rfl, rfl, Nat.le_refl _, fun _ _ _ => rfl⟩

theorem Fr.trans {S S' : Nat → Prop} {a b c : World} (h : Fr S a b) (k : Fr S' b c) (hs : ∀ x, x < a.heap.size → S' x → S x) : Fr S a c :=
  ⟨k.os.trans h.os, k.tape.trans h.tape, k.output.trans h.output, Nat.le_trans h.size k.size,
    fun i hi hn => (k.block i (Nat.lt_of_lt_of_le hi h.size) (fun c => hn (hs i hi c))).trans (h.block i hi hn)⟩

theorem Fr.mono {S S' : Nat → Prop} {a b : World} (h : Fr S a b) (hs : ∀ x, x < a.heap.size → S x → S' x) : Fr S' a b :=
  ⟨h.os, h.tape, h.output, h.size, fun i hi hn => h.block i hi (fun c => hn (hs i hi c))⟩

theorem Fr.drew {S : Nat → Prop} {a w : World} (h : Fr S a w) : Fr S a w.drew := ⟨h.os, h.tape, h.output, h.size, h.block⟩
theorem Fr.drewN {S : Nat → Prop} {a w : World} (h : Fr S a w) (n : Nat) : Fr S a (w.drewN n) := ⟨h.os, h.tape, h.output, h.size, h.block⟩

theorem Fr.alloc {S : Nat → Prop} {a w : World} (h : Fr S a w) (o : Obj) : Fr S a (w.alloc o) :=
  ⟨h.os, h.tape, h.output, by have := h.size; simp; omega, fun k hk hn => by
    rw [Below.heap_alloc _ _ _ (Nat.lt_of_lt_of_le hk h.size)]; exact h.block k hk hn⟩

theorem Fr.setCell {S : Nat → Prop} {a w : World} (h : Fr S a w) {p : Addr} (hp : p.block < a.heap.size → S p.block) (u : Value) : Fr S a (w.setCell p u) :=
  ⟨h.os, h.tape, h.output, by have := h.size; simp; omega, fun k hk hn => by
    by_cases e : k = p.block
    · subst e; exact absurd (hp hk) hn
    · rw [Below.heap_setCell _ _ _ _ e]; exact h.block k hk hn⟩

theorem Fr.below {w w' : World} {B : Nat} (h : Fr (fun k => B ≤ k) w w') (hB : B ≤ w.heap.size) : Below B w w' :=
  ⟨h.os, h.tape, h.output, h.size, fun k hk => h.block k (by omega) (by omega)⟩

theorem Fr.of_below {w w' : World} {B : Nat} (h : Below B w w') : Fr (fun k => B ≤ k) w w' :=
  ⟨h.os, h.tape, h.output, h.size, fun k _ hn => h.block k (by omega)⟩

theorem Fr.none_below {w w' : World} (h : Fr (fun _ => False) w w') : Below w.heap.size w w' :=
  ⟨h.os, h.tape, h.output, h.size, fun k hk => h.block k hk (fun c => c)⟩

theorem lt_of_blk {w : World} {b : Nat} {o : Obj} (h : w.heap[b]? = some o) : b < w.heap.size := by
  rcases Nat.lt_or_ge b w.heap.size with h1 | h1
  · exact h1
  · rw [Array.getElem?_eq_none h1] at h; cases h

theorem blk_new (w : World) (o : Obj) : (w.alloc o).heap[w.heap.size]? = some o := by
  show (w.heap.push o)[w.heap.size]? = _
  simp

/-- A cell, and its mark, off a block. -/
theorem cell_of {w : World} {b : Nat} {c : Array Value} {t : TypeId} {m : Nat × Nat} (h : w.heap[b]? = some (.cells c t m)) (o : Nat) : w.cell? ⟨b, o, none⟩ = c[o]? := by
  simp [World.cell?, h]
theorem frozen_of {w : World} {b : Nat} {c : Array Value} {t : TypeId} (h : w.heap[b]? = some (.cells c t (0, 0))) (o : Nat) : w.frozen? ⟨b, o, none⟩ = false := by
  simp [World.frozen?, h]

theorem blk_set {w : World} {b : Nat} {c : Array Value} {t : TypeId} {m : Nat × Nat} (h : w.heap[b]? = some (.cells c t m)) (o : Nat) (u : Value) :
    (w.setCell ⟨b, o, none⟩ u).heap[b]? = some (.cells (c.setIfInBounds o u) t m) := by
  simp [World.setCell, Array.getElem?_modify, h]

theorem blk_set_ne {w : World} {b b' : Nat} (o : Nat) (u : Value) (hne : b' ≠ b) : (w.setCell ⟨b, o, none⟩ u).heap[b']? = w.heap[b']? :=
  Below.heap_setCell _ _ _ _ hne

/-- A tree with its blocks. -/
inductive Tr where
  | nil : Tr
  | node (b : Nat) (l : Tr) (k v : Int) (r : Tr) : Tr

namespace Tr
def ad : Tr → Option Addr
  | nil => none
  | node b _ _ _ _ => some ⟨b, 0, none⟩
def size : Tr → Nat
  | nil => 0
  | node _ l _ _ r => l.size + r.size + 1
def ht : Tr → Nat
  | nil => 0
  | node _ l _ _ r => max l.ht r.ht + 1
def has : Tr → Nat → Prop
  | nil, _ => False
  | node b l _ _ r, x => x = b ∨ l.has x ∨ r.has x
def items : Tr → List (Int × Int)
  | nil => []
  | node _ l k v r => l.items ++ (k, v) :: r.items
def avl : Tr → Prop
  | nil => True
  | node _ l _ _ r => l.avl ∧ r.avl ∧ l.ht ≤ r.ht + 1 ∧ r.ht ≤ l.ht + 1

theorem size_items (t : Tr) : t.items.length = t.size := by
  induction t with
  | nil => rfl
  | node b l k v r il ir => simp [items, size, il, ir]; omega

theorem ht_le_size (t : Tr) : t.ht ≤ t.size := by
  induction t with
  | nil => exact Nat.le_refl _
  | node b l k v r il ir => simp only [ht, size]; omega
end Tr

/-- A node's block. -/
def nodeBlk (T : TypeId) (k v : Int) (lp rp : Option Addr) (s h : Int) : Obj := .cells #[.int .i64 k, .int .i64 v, .pointer lp, .pointer rp, .int .i64 s, .int .i64 h] T (0, 0)

/-- The tree lies in the world. -/
def Lies (T : TypeId) (w : World) : Tr → Prop
  | .nil => True
  | .node b l k v r => w.heap[b]? = some (nodeBlk T k v l.ad r.ad ((l.size + r.size + 1 : Nat) : Int) ((max l.ht r.ht + 1 : Nat) : Int)) ∧
      Lies T w l ∧ Lies T w r ∧ ¬ l.has b ∧ ¬ r.has b ∧ (∀ x, l.has x → ¬ r.has x)

theorem Lies.lt {T : TypeId} {w : World} {t : Tr} (h : Lies T w t) : ∀ x, t.has x → x < w.heap.size := by
  induction t with
  | nil => intro x hx; exact hx.elim
  | node b l k v r il ir =>
    intro x hx
    rcases hx with rfl | hx | hx
    · exact lt_of_blk h.1
    · exact il h.2.1 x hx
    · exact ir h.2.2.1 x hx

theorem Lies.congr {T : TypeId} {w w' : World} {t : Tr} (h : Lies T w t) (hc : ∀ x, t.has x → w'.heap[x]? = w.heap[x]?) : Lies T w' t := by
  induction t with
  | nil => exact trivial
  | node b l k v r il ir =>
    refine ⟨(hc b (Or.inl rfl)).trans h.1, il h.2.1 fun x hx => hc x (Or.inr (Or.inl hx)), ir h.2.2.1 fun x hx => hc x (Or.inr (Or.inr hx)), h.2.2.2⟩

theorem Lies.fr {T : TypeId} {S : Nat → Prop} {w w' : World} {t : Tr} (h : Lies T w t) (f : Fr S w w') (hd : ∀ x, t.has x → ¬ S x) : Lies T w' t :=
  h.congr fun x hx => f.block x (h.lt x hx) (hd x hx)

/-- What a pointer to a tree tells: its size and height. -/
def Top (T : TypeId) (w : World) (p : Option Addr) (s h : Int) : Prop :=
  (p = none ∧ s = 0 ∧ h = 0) ∨ ∃ b k v lp rp, p = some ⟨b, 0, none⟩ ∧ w.heap[b]? = some (nodeBlk T k v lp rp s h)

theorem Lies.top {T : TypeId} {w : World} {t : Tr} (h : Lies T w t) : Top T w t.ad t.size t.ht := by
  cases t with
  | nil => exact Or.inl ⟨rfl, rfl, rfl⟩
  | node b l k v r => exact Or.inr ⟨b, k, v, l.ad, r.ad, rfl, h.1⟩

theorem Top.congr {T : TypeId} {w w' : World} {p : Option Addr} {s h : Int} (t : Top T w p s h) (hc : ∀ b, p = some ⟨b, 0, none⟩ → w'.heap[b]? = w.heap[b]?) : Top T w' p s h := by
  rcases t with t | ⟨b, k, v, lp, rp, rfl, hb⟩
  · exact Or.inl t
  · exact Or.inr ⟨b, k, v, lp, rp, rfl, (hc b rfl).trans hb⟩

end Go.Proofs.Ythbnbocpddddmaa

namespace Go.Proofs.Ythbnbocpddddmaa
open Go.RowKit

set_option maxHeartbeats 400000 in
theorem count_any (p : Option Addr) (s h : Int) (w : World) (ht : Top 253 w p s h) :
    Calls Try.prog 151 #[.pointer p] w fun e w' => e = .returned (.int .i64 s) ∧ w' = w := by
  rcases ht with ⟨rfl, rfl, rfl⟩ | ⟨b, k, v, lp, rp, rfl, hb⟩
  · go_enter Try.func151, Try.ntmps151
    go_wp2
    go_ret
    exact ⟨rfl, rfl⟩
  · have c4 : w.cell? ⟨b, 4, none⟩ = some (.int .i64 s) := cell_of hb 4
    clear hb
    go_enter Try.func151, Try.ntmps151
    go_wp2
    go_ret
    exact ⟨rfl, rfl⟩

set_option maxHeartbeats 400000 in
theorem levels_any (p : Option Addr) (s h : Int) (w : World) (ht : Top 253 w p s h) :
    Calls Try.prog 156 #[.pointer p] w fun e w' => e = .returned (.int .i64 h) ∧ w' = w := by
  rcases ht with ⟨rfl, rfl, rfl⟩ | ⟨b, k, v, lp, rp, rfl, hb⟩
  · go_enter Try.func156, Try.ntmps156
    go_wp2
    go_ret
    exact ⟨rfl, rfl⟩
  · have c4 : w.cell? ⟨b, 5, none⟩ = some (.int .i64 h) := cell_of hb 5
    clear hb
    go_enter Try.func156, Try.ntmps156
    go_wp2
    go_ret
    exact ⟨rfl, rfl⟩

end Go.Proofs.Ythbnbocpddddmaa

namespace Go.Proofs.Ythbnbocpddddmaa

namespace Tr
/-- How many items the search has passed on its left; whether it met the key; how often it compared. -/
def rank (f : Int → Int) : Tr → Nat
  | nil => 0
  | node _ l k _ r => if f k = 0 then l.size else if f k < 0 then l.rank f else l.size + 1 + r.rank f
def same (f : Int → Int) : Tr → Bool
  | nil => false
  | node _ l k _ r => if f k = 0 then true else if f k < 0 then l.same f else r.same f
def cnt (f : Int → Int) : Tr → Nat
  | nil => 0
  | node _ l k _ r => if f k = 0 then 1 else if f k < 0 then l.cnt f + 1 else r.cnt f + 1

theorem cnt_le (f : Int → Int) (t : Tr) : t.cnt f ≤ t.ht := by
  induction t with
  | nil => exact Nat.le_refl _
  | node b l k v r il ir => simp only [cnt, ht]; split <;> (try split) <;> omega
theorem cnt_pos (f : Int → Int) (t : Tr) (h : 0 < t.size) : 1 ≤ t.cnt f := by
  cases t with
  | nil => simp [size] at h
  | node b l k v r => simp only [cnt]; split <;> (try split) <;> omega
theorem rank_le (f : Int → Int) (t : Tr) : t.rank f ≤ t.size := by
  induction t with
  | nil => exact Nat.le_refl _
  | node b l k v r il ir => simp only [rank, size]; split <;> (try split) <;> omega
theorem rank_lt (f : Int → Int) (t : Tr) (h : t.same f = true) : t.rank f < t.size := by
  induction t with
  | nil => simp [same] at h
  | node b l k v r il ir =>
    simp only [same] at h
    simp only [rank, size]
    by_cases h1 : f k = 0
    · rw [if_pos h1]; omega
    · rw [if_neg h1] at h ⊢
      by_cases h2 : f k < 0
      · rw [if_pos h2] at h ⊢; have := il h; omega
      · rw [if_neg h2] at h ⊢; have := ir h; omega
end Tr

end Go.Proofs.Ythbnbocpddddmaa

namespace Go.Proofs.Ythbnbocpddddmaa

def sgn (a b : Int) : Int := if a < b then -1 else if b < a then 1 else 0
/-- How the key sought stands to a key, by the order of numbers, turned or not. -/
def side (turned : Bool) (a b : Int) : Int := if turned = true then sgn b a else sgn a b
def lessB (turned : Bool) (a b : Int) : Bool := if turned = true then decide (b < a) else decide (a < b)

theorem side_zero {t : Bool} {a b : Int} : side t a b = 0 ↔ a = b := by unfold side sgn; (repeat' split) <;> omega
theorem side_neg {t : Bool} {a b : Int} : side t a b < 0 ↔ lessB t a b = true := by unfold side sgn lessB; cases t <;> simp <;> (repeat' split) <;> omega
theorem less_irr {t : Bool} {a : Int} : lessB t a a = false := by unfold lessB; cases t <;> simp
theorem less_trans {t : Bool} {a b c : Int} (h : lessB t a b = true) (g : lessB t b c = true) : lessB t a c = true := by unfold lessB at *; cases t <;> simp at * <;> omega
theorem less_tot {t : Bool} {a b : Int} (h : a ≠ b) (g : lessB t a b = false) : lessB t b a = true := by unfold lessB at *; cases t <;> simp at * <;> omega
theorem less_asym {t : Bool} {a b : Int} (h : lessB t a b = true) : lessB t b a = false := by unfold lessB at *; cases t <;> simp at * <;> omega
theorem less_ne {t : Bool} {a b : Int} (h : lessB t a b = true) : a ≠ b := by rintro rfl; rw [less_irr] at h; cases h

abbrev Row := List (Int × Int)
def Srt (t : Bool) (xs : Row) : Prop := xs.Pairwise fun p q => lessB t p.1 q.1 = true
/-- How many keys are below k; whether k is there. -/
def lrank (t : Bool) (k : Int) (xs : Row) : Nat := xs.countP fun p => lessB t p.1 k
def lsame (k : Int) (xs : Row) : Bool := xs.any fun p => p.1 == k

theorem lrank_le (t : Bool) (k : Int) (xs : Row) : lrank t k xs ≤ xs.length := List.countP_le_length

theorem lrank_all {t : Bool} {k : Int} {xs : Row} (h : ∀ p ∈ xs, lessB t p.1 k = true) : lrank t k xs = xs.length := List.countP_eq_length.2 h
theorem lrank_none {t : Bool} {k : Int} {xs : Row} (h : ∀ p ∈ xs, lessB t p.1 k = false) : lrank t k xs = 0 := List.countP_eq_zero.2 fun p hp => by rw [h p hp]; simp
theorem lsame_none {k : Int} {xs : Row} (h : ∀ p ∈ xs, p.1 ≠ k) : lsame k xs = false := by
  rw [lsame, List.any_eq_false]; intro p hp; simpa using h p hp

theorem tree_rank (t : Bool) (k : Int) (T : Tr) (h : Srt t T.items) : T.rank (side t k) = lrank t k T.items ∧ T.same (side t k) = lsame k T.items := by
  induction T with
  | nil => exact ⟨rfl, rfl⟩
  | node b L k1 v1 R il ir =>
    simp only [Tr.items, Srt, List.pairwise_append, List.pairwise_cons] at h
    obtain ⟨sL, ⟨h1, sR⟩, h2⟩ := h
    obtain ⟨r1, r2⟩ := il sL
    obtain ⟨q1, q2⟩ := ir sR
    have hL : ∀ p ∈ L.items, lessB t p.1 k1 = true := fun p hp => h2 p hp (k1, v1) (by simp)
    have hR : ∀ p ∈ R.items, lessB t k1 p.1 = true := fun p hp => h1 p hp
    have e1 : lrank t k (L.items ++ (k1, v1) :: R.items) = lrank t k L.items + ((if lessB t k1 k = true then 1 else 0) + lrank t k R.items) := by
      simp only [lrank, List.countP_append, List.countP_cons]; omega
    have e2 : lsame k (L.items ++ (k1, v1) :: R.items) = (lsame k L.items || (k1 == k || lsame k R.items)) := by simp [lsame]
    simp only [Tr.rank, Tr.same, Tr.items, e1, e2]
    by_cases f0 : side t k k1 = 0
    · have ek := side_zero.1 f0
      subst ek
      rw [if_pos f0, if_pos f0]
      rw [lrank_all hL, less_irr, lrank_none fun p hp => less_asym (hR p hp)]
      exact ⟨by simp [Tr.size_items], by simp⟩
    · have nk : k ≠ k1 := fun e => f0 (side_zero.2 e)
      rw [if_neg f0, if_neg f0]
      by_cases f1 : side t k k1 < 0
      · have fk := side_neg.1 f1
        rw [if_pos f1, if_pos f1, r1, r2, less_asym fk, lrank_none fun p hp => less_asym (less_trans fk (hR p hp)), lsame_none (xs := R.items) fun p hp => (less_ne (less_trans fk (hR p hp))).symm]
        exact ⟨by simp, by simp [Ne.symm nk]⟩
      · have fk : lessB t k1 k = true := less_tot nk (by cases hh : lessB t k k1 with | false => rfl | true => exact absurd (side_neg.2 hh) f1)
        rw [if_neg f1, if_neg f1, q1, q2, fk, lrank_all fun p hp => less_trans (hL p hp) fk, lsame_none (xs := L.items) fun p hp => less_ne (less_trans (hL p hp) fk)]
        exact ⟨by simp [Tr.size_items]; omega, by simp [Ne.symm nk]⟩

/-- What stands ahead of the rank is below, what stands behind it is not. -/
theorem take_below {t : Bool} {k : Int} {xs : Row} (h : Srt t xs) : (∀ p ∈ xs.take (lrank t k xs), lessB t p.1 k = true) ∧ (∀ p ∈ xs.drop (lrank t k xs), lessB t p.1 k = false) := by
  induction xs with
  | nil => simp
  | cons x xs ih =>
    simp only [Srt, List.pairwise_cons] at h
    obtain ⟨h1, h2⟩ := h
    obtain ⟨i1, i2⟩ := ih h2
    by_cases f : lessB t x.1 k = true
    · have e : lrank t k (x :: xs) = lrank t k xs + 1 := by simp [lrank, f]
      rw [e]
      simp only [List.take_succ_cons, List.drop_succ_cons]
      refine ⟨fun p hp => ?_, i2⟩
      rcases List.mem_cons.1 hp with rfl | hp
      · exact f
      · exact i1 p hp
    · have f' : lessB t x.1 k = false := by simpa using f
      have e0 : lrank t k xs = 0 := lrank_none fun p hp => by
        cases hh : lessB t p.1 k with
        | false => rfl
        | true => rw [less_trans (h1 p hp) hh] at f'; cases f'
      have e : lrank t k (x :: xs) = 0 := by simp only [lrank] at e0 ⊢; rw [List.countP_cons, e0, f']; rfl
      rw [e]
      refine ⟨by simp, fun p hp => ?_⟩
      rcases List.mem_cons.1 hp with rfl | hp
      · exact f'
      · exact i2 p (by rw [e0]; exact hp)

theorem at_rank {t : Bool} {k : Int} {xs : Row} (h : Srt t xs) (hs : lsame k xs = true) : ∃ v, xs[lrank t k xs]? = some (k, v) := by
  obtain ⟨h1, h2⟩ := take_below (k := k) h
  rw [lsame, List.any_eq_true] at hs
  obtain ⟨p, hp, e⟩ := hs
  have e' : p.1 = k := by simpa using e
  have hd : p ∈ xs.drop (lrank t k xs) := by
    rcases List.mem_append.1 (by rw [List.take_append_drop]; exact hp : p ∈ xs.take (lrank t k xs) ++ xs.drop (lrank t k xs)) with q | q
    · have := h1 p q; rw [e', less_irr] at this; cases this
    · exact q
  have hlt : lrank t k xs < xs.length := by
    rcases Nat.lt_or_ge (lrank t k xs) xs.length with q | q
    · exact q
    · rw [List.drop_eq_nil_of_le q] at hd; cases hd
  have hsrt : Srt t (xs.drop (lrank t k xs)) := List.Pairwise.sublist (List.drop_sublist _ _) h
  rw [List.drop_eq_getElem_cons hlt] at hd hsrt h2
  simp only [Srt, List.pairwise_cons] at hsrt
  rcases List.mem_cons.1 hd with q | q
  · exact ⟨p.2, by rw [List.getElem?_eq_getElem hlt, ← q, ← e']⟩
  · have a := hsrt.1 p q
    rw [e'] at a
    have b := h2 xs[lrank t k xs] (List.mem_cons.2 (Or.inl rfl))
    rw [a] at b; cases b

theorem srt_insert {t : Bool} {k v : Int} {xs : Row} (h : Srt t xs) (hs : lsame k xs = false) : Srt t (xs.take (lrank t k xs) ++ (k, v) :: xs.drop (lrank t k xs)) := by
  obtain ⟨h1, h2⟩ := take_below (k := k) h
  have hne : ∀ p ∈ xs, p.1 ≠ k := by
    rw [lsame, List.any_eq_false] at hs
    intro p hp; simpa using hs p hp
  rw [Srt, List.pairwise_append, List.pairwise_cons]
  refine ⟨List.Pairwise.sublist (List.take_sublist _ _) h, ⟨fun p hp => ?_, List.Pairwise.sublist (List.drop_sublist _ _) h⟩, fun p hp q hq => ?_⟩
  · exact less_tot (hne p (List.mem_of_mem_drop hp)) (h2 p hp)
  · rcases List.mem_cons.1 hq with rfl | hq
    · exact h1 p hp
    · exact less_trans (h1 p hp) (less_tot (hne q (List.mem_of_mem_drop hq)) (h2 q hq))

theorem srt_set {t : Bool} {k v u : Int} {xs : Row} {i : Nat} (h : Srt t xs) (hi : xs[i]? = some (k, u)) : Srt t (xs.set i (k, v)) := by
  induction xs generalizing i with
  | nil => simp [Srt]
  | cons x xs ih =>
    simp only [Srt, List.pairwise_cons] at h
    cases i with
    | zero =>
      simp at hi
      simp only [List.set_cons_zero, Srt, List.pairwise_cons]
      exact ⟨fun p hp => by have := h.1 p hp; rw [hi] at this; exact this, h.2⟩
    | succ i =>
      simp only [List.getElem?_cons_succ] at hi
      simp only [List.set_cons_succ, Srt, List.pairwise_cons]
      refine ⟨fun p hp => ?_, ih h.2 hi⟩
      rcases List.mem_or_eq_of_mem_set hp with q | q
      · exact h.1 p q
      · have := h.1 (k, u) (List.mem_of_getElem? hi); rw [q]; exact this

/-- Put, as rows go. -/
def lput (t : Bool) (k v : Int) (xs : Row) : Row := if lsame k xs = true then xs.set (lrank t k xs) (k, v) else xs.take (lrank t k xs) ++ (k, v) :: xs.drop (lrank t k xs)

theorem srt_put {t : Bool} {k v : Int} {xs : Row} (h : Srt t xs) : Srt t (lput t k v xs) := by
  unfold lput
  by_cases hs : lsame k xs = true
  · rw [if_pos hs]
    obtain ⟨u, hu⟩ := at_rank h hs
    exact srt_set h hu
  · rw [if_neg hs]
    exact srt_insert h (by simpa using hs)

theorem len_put (t : Bool) (k v : Int) (xs : Row) : (lput t k v xs).length = if lsame k xs = true then xs.length else xs.length + 1 := by
  unfold lput
  by_cases hs : lsame k xs = true
  · rw [if_pos hs, if_pos hs]; simp
  · rw [if_neg hs, if_neg hs]; have := lrank_le t k xs; simp; omega

/-- How many binary digits a number has. -/
def dg (n : Nat) : Nat := if h : n ≤ 1 then 1 else dg (n / 2) + 1
termination_by n
decreasing_by omega

theorem dg_pow (j n : Nat) (h : 2 ^ j ≤ n) : j + 1 ≤ dg n := by
  induction j generalizing n with
  | zero => unfold dg; split <;> omega
  | succ j ih =>
    rw [Nat.pow_succ] at h
    have : 0 < 2 ^ j := Nat.two_pow_pos j
    unfold dg
    rw [dif_neg (by omega)]
    have := ih (n / 2) (by omega)
    omega

theorem avl_size (T : Tr) (h : T.avl) : 2 ^ (T.ht / 2) ≤ T.size + 1 ∧ 2 ^ ((T.ht + 1) / 2) ≤ 2 * (T.size + 1) := by
  induction T with
  | nil => simp [Tr.ht, Tr.size]
  | node b L k v R il ir =>
    obtain ⟨aL, aR, h1, h2⟩ := h
    obtain ⟨l1, l2⟩ := il aL
    obtain ⟨r1, r2⟩ := ir aR
    simp only [Tr.ht, Tr.size]
    have key : 2 ^ ((max L.ht R.ht + 1) / 2) ≤ L.size + R.size + 2 := by
      rcases Nat.le_total L.ht R.ht with c | c
      · rw [Nat.max_eq_right c]
        have e : 2 ^ ((R.ht + 1) / 2) ≤ 2 * 2 ^ (L.ht / 2) := by
          rw [← Nat.pow_succ']
          exact Nat.pow_le_pow_right (by omega) (by omega)
        have e2 : 2 ^ ((R.ht + 1) / 2) ≤ 2 * (R.size + 1) := r2
        omega
      · rw [Nat.max_eq_left c]
        have e : 2 ^ ((L.ht + 1) / 2) ≤ 2 * 2 ^ (R.ht / 2) := by
          rw [← Nat.pow_succ']
          exact Nat.pow_le_pow_right (by omega) (by omega)
        have e2 : 2 ^ ((L.ht + 1) / 2) ≤ 2 * (L.size + 1) := l2
        omega
    refine ⟨by omega, ?_⟩
    have : (max L.ht R.ht + 1 + 1) / 2 ≤ (max L.ht R.ht + 1) / 2 + 1 := by omega
    have := Nat.pow_le_pow_right (n := 2) (by omega) this
    rw [Nat.pow_succ] at this
    omega

theorem cnt_few (f : Int → Int) (T : Tr) (h : T.avl) : T.cnt f ≤ 3 * dg (T.items.length + 1) := by
  rw [Tr.size_items]
  have a := (avl_size T h).1
  have b := dg_pow _ _ a
  have c := T.cnt_le f
  omega

/-- What At answers. -/
def latK (xs : Row) (i : Int) : Int := if 0 ≤ i ∧ i < xs.length then ((xs[i.toNat]?).getD (0, 0)).1 else 0
def latV (xs : Row) (i : Int) : Int := if 0 ≤ i ∧ i < xs.length then ((xs[i.toNat]?).getD (0, 0)).2 else 0
def latB (xs : Row) (i : Int) : Bool := if 0 ≤ i ∧ i < xs.length then true else false

/-- Get's value: 0 where the key is not there. -/
def lget (t : Bool) (k : Int) (xs : Row) : Int := if lsame k xs = true then ((xs[lrank t k xs]?).getD (0, 0)).2 else 0
/-- Put's answer: the value that was; whether; the error. -/
def lerr (k : Int) (xs : Row) : Int := if lsame k xs = true then 0 else if 400 ≤ xs.length then 3 else 0
def lputF (t : Bool) (k v : Int) (xs : Row) : Row := if lerr k xs = 0 then lput t k v xs else xs
/-- Floor's place. -/
def lfloor (t : Bool) (k : Int) (xs : Row) : Int := if lsame k xs = true then lrank t k xs else (lrank t k xs : Int) - 1

/-- Delete, as rows go. -/
def ldel (t : Bool) (k : Int) (xs : Row) : Row := if lsame k xs = true then xs.eraseIdx (lrank t k xs) else xs

theorem srt_del {t : Bool} {k : Int} {xs : Row} (h : Srt t xs) : Srt t (ldel t k xs) := by
  unfold ldel
  split
  · exact List.Pairwise.sublist (List.eraseIdx_sublist _ _) h
  · exact h

theorem len_del (t : Bool) (k : Int) (xs : Row) : (ldel t k xs).length ≤ xs.length := by
  unfold ldel
  split
  · exact List.length_eraseIdx_le _ _
  · exact Nat.le_refl _

end Go.Proofs.Ythbnbocpddddmaa

namespace Go.Proofs.Ythbnbocpddddmaa

namespace Tr
def nthB : Tr → Nat → Nat
  | nil, _ => 0
  | node b l _ _ r, i => if i < l.size then l.nthB i else if i = l.size then b else r.nthB (i - l.size - 1)
def setV (x : Nat) (u : Int) : Tr → Tr
  | nil => nil
  | node b l k v r => node b (l.setV x u) k (if b = x then u else v) (r.setV x u)

theorem ad_setV (x : Nat) (u : Int) (t : Tr) : (t.setV x u).ad = t.ad := by cases t <;> rfl
theorem size_setV (x : Nat) (u : Int) (t : Tr) : (t.setV x u).size = t.size := by
  induction t with
  | nil => rfl
  | node b l k v r il ir => simp only [setV, size, il, ir]
theorem ht_setV (x : Nat) (u : Int) (t : Tr) : (t.setV x u).ht = t.ht := by
  induction t with
  | nil => rfl
  | node b l k v r il ir => simp only [setV, ht, il, ir]
theorem has_setV (x : Nat) (u : Int) (t : Tr) (y : Nat) : (t.setV x u).has y ↔ t.has y := by
  induction t with
  | nil => exact Iff.rfl
  | node b l k v r il ir => simp only [setV, has, il, ir]
theorem avl_setV (x : Nat) (u : Int) (t : Tr) : (t.setV x u).avl ↔ t.avl := by
  induction t with
  | nil => exact Iff.rfl
  | node b l k v r il ir => simp only [setV, avl, il, ir, ht_setV]
theorem setV_id (x : Nat) (u : Int) (t : Tr) (h : ¬ t.has x) : t.setV x u = t := by
  induction t with
  | nil => rfl
  | node b l k v r il ir =>
    simp only [has, not_or] at h
    simp only [setV, il h.2.1, ir h.2.2, if_neg (Ne.symm h.1)]
theorem has_nthB (t : Tr) (i : Nat) (h : i < t.size) : t.has (t.nthB i) := by
  induction t generalizing i with
  | nil => simp [size] at h
  | node b l k v r il ir =>
    simp only [size] at h
    simp only [nthB, has]
    by_cases c : i < l.size
    · rw [if_pos c]; exact Or.inr (Or.inl (il i c))
    · rw [if_neg c]
      by_cases d : i = l.size
      · rw [if_pos d]; exact Or.inl rfl
      · rw [if_neg d]; exact Or.inr (Or.inr (ir _ (by omega)))
end Tr

theorem Lies.nth {N : TypeId} {w : World} {T : Tr} (h : Lies N w T) (i : Nat) (hi : i < T.size) :
    ∃ k v lp rp s g, w.heap[T.nthB i]? = some (nodeBlk N k v lp rp s g) ∧ T.items[i]? = some (k, v) := by
  induction T generalizing i with
  | nil => simp [Tr.size] at hi
  | node b L k v R il ir =>
    obtain ⟨hb, lL, lR, _⟩ := h
    simp only [Tr.size] at hi
    simp only [Tr.nthB, Tr.items]
    by_cases c : i < L.size
    · rw [if_pos c, List.getElem?_append_left (by rw [Tr.size_items]; exact c)]
      exact il lL i c
    · rw [if_neg c, List.getElem?_append_right (by rw [Tr.size_items]; omega), Tr.size_items]
      by_cases d : i = L.size
      · rw [if_pos d]
        exact ⟨k, v, _, _, _, _, hb, by subst d; simp⟩
      · rw [if_neg d]
        obtain ⟨k', v', lp, rp, s, g, h1, h2⟩ := ir lR (i - L.size - 1) (by omega)
        refine ⟨k', v', lp, rp, s, g, h1, ?_⟩
        rw [show i - L.size = (i - L.size - 1) + 1 by omega, List.getElem?_cons_succ]
        exact h2

/-- The value of the i-th item is set. -/
theorem Lies.set {N : TypeId} {w w' : World} {T : Tr} (h : Lies N w T) (i : Nat) (hi : i < T.size) (u : Int)
    (hs : ∀ k v lp rp s g, w.heap[T.nthB i]? = some (nodeBlk N k v lp rp s g) → w'.heap[T.nthB i]? = some (nodeBlk N k u lp rp s g))
    (ho : ∀ x, x ≠ T.nthB i → T.has x → w'.heap[x]? = w.heap[x]?) :
    Lies N w' (T.setV (T.nthB i) u) ∧ ∃ k v, T.items[i]? = some (k, v) ∧ (T.setV (T.nthB i) u).items = T.items.set i (k, u) := by
  induction T generalizing i with
  | nil => simp [Tr.size] at hi
  | node b L k v R il ir =>
    obtain ⟨hb, lL, lR, n1, n2, n3⟩ := h
    simp only [Tr.size] at hi
    simp only [Tr.nthB] at hs ho ⊢
    by_cases c : i < L.size
    · rw [if_pos c] at hs ho ⊢
      have hh := L.has_nthB i c
      have nb : b ≠ L.nthB i := fun e => n1 (e ▸ hh)
      have nr : ¬ R.has (L.nthB i) := n3 _ hh
      obtain ⟨a1, k', v', a2, a3⟩ := il lL i c hs fun x hx hy => ho x hx (Or.inr (Or.inl hy))
      simp only [Tr.setV, if_neg nb, Tr.setV_id _ _ R nr]
      refine ⟨⟨?_, a1, lR.congr fun x hx => ho x (fun e => nr (e ▸ hx)) (Or.inr (Or.inr hx)), fun e => n1 ((Tr.has_setV _ _ _ _).1 e), n2, fun x hx => n3 x ((Tr.has_setV _ _ _ _).1 hx)⟩, k', v', ?_, ?_⟩
      · rw [Tr.ad_setV, Tr.size_setV, Tr.ht_setV]; exact (ho b nb (Or.inl rfl)).trans hb
      · simp only [Tr.items]; rw [List.getElem?_append_left (by rw [Tr.size_items]; exact c)]; exact a2
      · simp only [Tr.items]; rw [a3, List.set_append_left _ _ (by rw [Tr.size_items]; exact c)]
    · rw [if_neg c] at hs ho ⊢
      by_cases d : i = L.size
      · rw [if_pos d] at hs ho ⊢
        have hb' := hs _ _ _ _ _ _ hb
        simp only [Tr.setV, if_pos, Tr.setV_id _ _ R n2, Tr.setV_id _ _ L n1]
        refine ⟨⟨hb', lL.congr fun x hx => ho x (fun e => n1 (e ▸ hx)) (Or.inr (Or.inl hx)), lR.congr fun x hx => ho x (fun e => n2 (e ▸ hx)) (Or.inr (Or.inr hx)), n1, n2, n3⟩, k, v, ?_, ?_⟩
        · simp only [Tr.items]; rw [List.getElem?_append_right (by rw [Tr.size_items]; omega), Tr.size_items, d]; simp
        · simp only [Tr.items]; rw [List.set_append_right _ _ (by rw [Tr.size_items]; omega), Tr.size_items, d]; simp
      · rw [if_neg d] at hs ho ⊢
        have hj : i - L.size - 1 < R.size := by omega
        have hh := R.has_nthB _ hj
        have nb : b ≠ R.nthB (i - L.size - 1) := fun e => n2 (e ▸ hh)
        have nl : ¬ L.has (R.nthB (i - L.size - 1)) := fun e => n3 _ e hh
        obtain ⟨a1, k', v', a2, a3⟩ := ir lR _ hj hs fun x hx hy => ho x hx (Or.inr (Or.inr hy))
        simp only [Tr.setV, if_neg nb, Tr.setV_id _ _ L nl]
        refine ⟨⟨?_, lL.congr fun x hx => ho x (fun e => nl (e ▸ hx)) (Or.inr (Or.inl hx)), a1, n1, fun e => n2 ((Tr.has_setV _ _ _ _).1 e), fun x hx e => n3 x hx ((Tr.has_setV _ _ _ _).1 e)⟩, k', v', ?_, ?_⟩
        · rw [Tr.ad_setV, Tr.size_setV, Tr.ht_setV]; exact (ho b nb (Or.inl rfl)).trans hb
        · simp only [Tr.items]; rw [List.getElem?_append_right (by rw [Tr.size_items]; omega), Tr.size_items, show i - L.size = (i - L.size - 1) + 1 by omega, List.getElem?_cons_succ]; exact a2
        · simp only [Tr.items]; rw [a3, List.set_append_right _ _ (by rw [Tr.size_items]; omega), Tr.size_items, show i - L.size = (i - L.size - 1) + 1 by omega, List.set_cons_succ]; simp

end Go.Proofs.Ythbnbocpddddmaa

namespace Go.Proofs.Ythbnbocpddddmaa

/-- The keys lie behind the slice's address. -/
def KeysAt (w : World) (a : Option Addr) (ks : List Int) : Prop :=
  ks = [] ∨ ∃ b off, a = some ⟨b, off, none⟩ ∧ b < w.heap.size ∧ ∀ i k, ks[i]? = some k → w.cell? ⟨b, off + i, none⟩ = some (.int .i64 k)

theorem KeysAt.fr {w w' : World} {a : Option Addr} {ks : List Int} (h : KeysAt w a ks) (f : Fr (fun _ => False) w w') : KeysAt w' a ks := by
  rcases h with h | ⟨b, off, e, hb, hc⟩
  · exact Or.inl h
  · exact Or.inr ⟨b, off, e, Nat.lt_of_lt_of_le hb f.size, fun i k hk => (World.cell?_of_block (w := w) (f.block b hb (fun e => e))).trans (hc i k hk)⟩

/-- The row of the first j keys, with their places. -/
def rowTo (t : Bool) (ks : List Int) : Nat → Row
  | 0 => []
  | j + 1 => lput t (ks.getD j 0) j (rowTo t ks j)

theorem rowTo_len (t : Bool) (ks : List Int) (j : Nat) : (rowTo t ks j).length ≤ j := by
  induction j with
  | zero => exact Nat.le_refl _
  | succ j ih => simp only [rowTo, len_put]; split <;> omega

theorem rowTo_srt (t : Bool) (ks : List Int) (j : Nat) : Srt t (rowTo t ks j) := by
  induction j with
  | zero => exact List.Pairwise.nil
  | succ j ih => exact srt_put ih

theorem lputF_room {t : Bool} {k v : Int} {xs : Row} (h : xs.length < 400) : lputF t k v xs = lput t k v xs ∧ lerr k xs = 0 := by
  have e : lerr k xs = 0 := by unfold lerr; split; rfl; rw [if_neg (by omega)]
  exact ⟨by unfold lputF; rw [if_pos e], e⟩

theorem dg_le (n : Nat) : dg n ≤ n + 1 := by
  induction n using Nat.strongRecOn with
  | _ n ih =>
    unfold dg
    split
    · omega
    · have := ih (n / 2) (by omega); omega

end Go.Proofs.Ythbnbocpddddmaa

namespace Go.Proofs.Ythbnbocpddddmaa

theorem lat_in {xs : Row} {i : Nat} {p : Int × Int} (h : xs[i]? = some p) : latK xs i = p.1 ∧ latV xs i = p.2 ∧ latB xs i = true := by
  have hl := (List.getElem?_eq_some_iff.1 h).1
  unfold latK latV latB
  rw [if_pos (by omega), if_pos (by omega), if_pos (by omega), Int.toNat_natCast, h]
  exact ⟨rfl, rfl, rfl⟩

theorem latB_lt {xs : Row} {i : Int} (h0 : 0 ≤ i) (h : i < xs.length) : latB xs i = true := by unfold latB; rw [if_pos ⟨h0, h⟩]
theorem latB_ge {xs : Row} {i : Int} (h : i < 0 ∨ (xs.length : Int) ≤ i) : latB xs i = false := by unfold latB; rw [if_neg (by omega)]

theorem same_rank {t : Bool} {k : Int} {xs : Row} (h : Srt t xs) (hs : lsame k xs = true) : lrank t k xs < xs.length ∧ latK xs (lrank t k xs) = k := by
  obtain ⟨v, hv⟩ := at_rank h hs
  exact ⟨(List.getElem?_eq_some_iff.1 hv).1, (lat_in hv).1⟩

theorem before_rank {t : Bool} {k : Int} {xs : Row} (h : Srt t xs) (hp : 0 < lrank t k xs) : lessB t (latK xs ((lrank t k xs : Int) - 1)) k = true := by
  have hl := lrank_le t k xs
  obtain ⟨p, hp'⟩ : ∃ p, xs[lrank t k xs - 1]? = some p := ⟨_, List.getElem?_eq_getElem (by omega)⟩
  have e : (lrank t k xs : Int) - 1 = ((lrank t k xs - 1 : Nat) : Int) := by omega
  rw [e, (lat_in hp').1]
  refine (take_below h).1 p (List.mem_of_getElem? (i := lrank t k xs - 1) ?_)
  rw [List.getElem?_take_of_lt (by omega)]; exact hp'

theorem next_rank {t : Bool} {k : Int} {xs : Row} (h : Srt t xs) (hs : lsame k xs = false) (hp : lrank t k xs < xs.length) : lessB t k (latK xs (lrank t k xs)) = true := by
  obtain ⟨p, hp'⟩ : ∃ p, xs[lrank t k xs]? = some p := ⟨_, List.getElem?_eq_getElem hp⟩
  rw [(lat_in hp').1]
  have hd : p ∈ xs.drop (lrank t k xs) := List.mem_of_getElem? (i := 0) (by rw [List.getElem?_drop]; simpa using hp')
  have hne : p.1 ≠ k := by
    rw [lsame, List.any_eq_false] at hs
    simpa using hs p (List.mem_of_getElem? hp')
  exact less_tot hne ((take_below h).2 p hd)

end Go.Proofs.Ythbnbocpddddmaa

namespace Go.Proofs.Ythbnbocpddddmaa

/-- Every entry of the row is one of the keys, with its place. -/
def Placed (ks : List Int) (xs : Row) : Prop := ∀ p ∈ xs, ∃ i : Nat, p.2 = i ∧ ks[i]? = some p.1

theorem lsame_iff {k : Int} {xs : Row} : lsame k xs = true ↔ ∃ p ∈ xs, p.1 = k := by
  unfold lsame
  rw [List.any_eq_true]
  exact ⟨fun ⟨p, h, e⟩ => ⟨p, h, by simpa using e⟩, fun ⟨p, h, e⟩ => ⟨p, h, by simpa using e⟩⟩

theorem mem_put {t : Bool} {k v : Int} {xs : Row} {p : Int × Int} (h : p ∈ lput t k v xs) : p = (k, v) ∨ p ∈ xs := by
  unfold lput at h
  split at h
  · rcases List.mem_or_eq_of_mem_set h with h | h
    · exact Or.inr h
    · exact Or.inl h
  · rcases List.mem_append.1 h with h | h
    · exact Or.inr (List.mem_of_mem_take h)
    · rcases List.mem_cons.1 h with h | h
      · exact Or.inl h
      · exact Or.inr (List.mem_of_mem_drop h)

theorem same_put {t : Bool} {k v k' : Int} {xs : Row} (hs : Srt t xs) : lsame k' (lput t k v xs) = true ↔ lsame k' xs = true ∨ k' = k := by
  constructor
  · intro h
    obtain ⟨p, hp, rfl⟩ := lsame_iff.1 h
    rcases mem_put hp with rfl | h
    · exact Or.inr rfl
    · exact Or.inl (lsame_iff.2 ⟨p, h, rfl⟩)
  · intro h
    rw [lsame_iff]
    unfold lput
    split
    · rename_i hk
      obtain ⟨u, hu⟩ := at_rank hs hk
      have hlt := (List.getElem?_eq_some_iff.1 hu).1
      have hkv : (k, v) ∈ xs.set (lrank t k xs) (k, v) := List.mem_iff_getElem?.2 ⟨lrank t k xs, by rw [List.getElem?_set_self hlt]⟩
      rcases h with h | rfl
      · obtain ⟨p, hp, rfl⟩ := lsame_iff.1 h
        obtain ⟨j, hj⟩ := List.mem_iff_getElem?.1 hp
        by_cases e : lrank t k xs = j
        · subst e
          rw [hu] at hj
          cases hj
          exact ⟨_, hkv, rfl⟩
        · exact ⟨p, List.mem_iff_getElem?.2 ⟨j, by rw [List.getElem?_set_ne e]; exact hj⟩, rfl⟩
      · exact ⟨_, hkv, rfl⟩
    · rcases h with h | rfl
      · obtain ⟨p, hp, rfl⟩ := lsame_iff.1 h
        rw [← List.take_append_drop (lrank t k xs) xs] at hp
        rcases List.mem_append.1 hp with hp | hp
        · exact ⟨p, List.mem_append.2 (Or.inl hp), rfl⟩
        · exact ⟨p, List.mem_append.2 (Or.inr (List.mem_cons.2 (Or.inr hp))), rfl⟩
      · exact ⟨_, List.mem_append.2 (Or.inr (List.mem_cons.2 (Or.inl rfl))), rfl⟩

theorem srt_ne {t : Bool} {xs : Row} (hs : Srt t xs) {i j : Nat} {p q : Int × Int} (hi : xs[i]? = some p) (hj : xs[j]? = some q) (ne : i ≠ j) : p.1 ≠ q.1 := by
  obtain ⟨a, rfl⟩ := List.getElem?_eq_some_iff.1 hi
  obtain ⟨b, rfl⟩ := List.getElem?_eq_some_iff.1 hj
  rcases Nat.lt_or_gt_of_ne ne with c | c
  · exact less_ne (List.pairwise_iff_getElem.1 hs i j a b c)
  · exact fun e => less_ne (List.pairwise_iff_getElem.1 hs j i b a c) e.symm

theorem same_del {t : Bool} {k k' : Int} {xs : Row} (hs : Srt t xs) : lsame k' (ldel t k xs) = true ↔ lsame k' xs = true ∧ k' ≠ k := by
  unfold ldel
  split
  · rename_i hk
    obtain ⟨u, hu⟩ := at_rank hs hk
    rw [lsame_iff, lsame_iff]
    constructor
    · rintro ⟨p, hp, rfl⟩
      obtain ⟨j, hj, hp⟩ := List.mem_eraseIdx_iff_getElem?.1 hp
      exact ⟨⟨p, List.mem_iff_getElem?.2 ⟨j, hp⟩, rfl⟩, srt_ne hs hp hu hj⟩
    · rintro ⟨⟨p, hp, rfl⟩, ne⟩
      obtain ⟨j, hj⟩ := List.mem_iff_getElem?.1 hp
      refine ⟨p, List.mem_eraseIdx_iff_getElem?.2 ⟨j, ?_, hj⟩, rfl⟩
      rintro rfl
      rw [hu] at hj
      cases hj
      exact ne rfl
  · rename_i hk
    refine ⟨fun h => ⟨h, ?_⟩, fun h => h.1⟩
    rintro rfl
    exact hk h

theorem mem_del {t : Bool} {k : Int} {xs : Row} {p : Int × Int} (h : p ∈ ldel t k xs) : p ∈ xs := by
  unfold ldel at h
  split at h
  · exact List.mem_of_mem_eraseIdx h
  · exact h

theorem rowTo_placed (t : Bool) (ks : List Int) (j : Nat) (hj : j ≤ ks.length) : Placed ks (rowTo t ks j) := by
  induction j with
  | zero => intro p hp; simp [rowTo] at hp
  | succ j ih =>
    intro p hp
    rcases mem_put (t := t) hp with rfl | h
    · refine ⟨j, rfl, ?_⟩
      simp [List.getElem?_eq_getElem (show j < ks.length by omega)]
    · exact ih (by omega) p h

theorem rowTo_same (t : Bool) (ks : List Int) (k : Int) (j : Nat) (hj : j ≤ ks.length) : lsame k (rowTo t ks j) = true ↔ k ∈ ks.take j := by
  induction j with
  | zero => simp [rowTo, lsame]
  | succ j ih =>
    simp only [rowTo]
    rw [same_put (rowTo_srt t ks j), ih (by omega), List.take_succ_eq_append_getElem (show j < ks.length by omega), List.mem_append, List.mem_singleton]
    simp [List.getElem?_eq_getElem (show j < ks.length by omega)]

/-- The row after j of the keys qs were taken away. -/
def delTo (t : Bool) (xs : Row) (qs : List Int) : Nat → Row
  | 0 => xs
  | j + 1 => ldel t (qs.getD j 0) (delTo t xs qs j)

theorem delTo_srt {t : Bool} {xs : Row} (qs : List Int) (h : Srt t xs) (j : Nat) : Srt t (delTo t xs qs j) := by
  induction j with
  | zero => exact h
  | succ j ih => exact srt_del ih

theorem delTo_len {t : Bool} {xs : Row} (qs : List Int) (h : xs.length ≤ 400) (j : Nat) : (delTo t xs qs j).length ≤ 400 := by
  induction j with
  | zero => exact h
  | succ j ih => exact Nat.le_trans (len_del _ _ _) ih

theorem delTo_placed {t : Bool} {ks : List Int} {xs : Row} (qs : List Int) (h : Placed ks xs) (j : Nat) : Placed ks (delTo t xs qs j) := by
  induction j with
  | zero => exact h
  | succ j ih => exact fun p hp => ih p (mem_del hp)

theorem delTo_same {t : Bool} {xs : Row} (qs : List Int) (h : Srt t xs) (k : Int) (j : Nat) (hj : j ≤ qs.length) : lsame k (delTo t xs qs j) = true ↔ lsame k xs = true ∧ k ∉ qs.take j := by
  induction j with
  | zero => simp [delTo]
  | succ j ih =>
    simp only [delTo]
    rw [same_del (delTo_srt qs h j), ih (by omega), List.take_succ_eq_append_getElem (show j < qs.length by omega), List.mem_append, List.mem_singleton]
    simp only [List.getD_eq_getElem?_getD, List.getElem?_eq_getElem (show j < qs.length by omega), Option.getD_some, not_or, and_assoc]

/-- What Delete gives is the key's place. -/
theorem get_placed {t : Bool} {ks : List Int} {xs : Row} {k : Int} (hp : Placed ks xs) (hs : Srt t xs) (h : lsame k xs = true) : ∃ i : Nat, lget t k xs = i ∧ ks[i]? = some k := by
  obtain ⟨u, hu⟩ := at_rank hs h
  obtain ⟨i, e, hi⟩ := hp _ (List.mem_iff_getElem?.2 ⟨_, hu⟩)
  exact ⟨i, by unfold lget; rw [if_pos h, hu]; exact e, hi⟩

theorem at_placed {ks : List Int} {xs : Row} (hp : Placed ks xs) (j : Nat) (h : j < xs.length) : latB xs j = true ∧ ∃ i : Nat, latV xs j = i ∧ ks[i]? = some (latK xs j) := by
  have hj := List.getElem?_eq_getElem h
  obtain ⟨e1, e2, e3⟩ := lat_in hj
  obtain ⟨i, e, hi⟩ := hp _ (List.getElem_mem h)
  exact ⟨e3, i, by rw [e2]; exact e, by rw [e1]; exact hi⟩

theorem at_rises {t : Bool} {xs : Row} (hs : Srt t xs) (j : Nat) (h : j + 1 < xs.length) : lessB t (latK xs j) (latK xs (j + 1 : Nat)) = true := by
  rw [(lat_in (List.getElem?_eq_getElem (show j < xs.length by omega))).1, (lat_in (List.getElem?_eq_getElem h)).1]
  exact List.pairwise_iff_getElem.1 hs j (j + 1) (by omega) h (by omega)

/-- Is k among the first j of qs? -/
def inTo (k : Int) (qs : List Int) (j : Nat) : Bool := (qs.take j).any (· == k)

theorem inTo_zero (k : Int) (qs : List Int) : inTo k qs 0 = false := rfl
theorem inTo_succ (k : Int) (qs : List Int) (j : Nat) (q : Int) (h : qs[j]? = some q) : inTo k qs (j + 1) = (inTo k qs j || q == k) := by
  obtain ⟨a, rfl⟩ := List.getElem?_eq_some_iff.1 h
  unfold inTo
  rw [List.take_succ_eq_append_getElem a, List.any_append]
  simp
theorem inTo_all (k : Int) (qs : List Int) : inTo k qs qs.length = true ↔ k ∈ qs := by
  unfold inTo
  rw [List.take_length, List.any_eq_true]
  exact ⟨fun ⟨x, h, e⟩ => by rw [← eq_of_beq e]; exact h, fun h => ⟨k, h, by simp⟩⟩

theorem left_in {t : Bool} {ks qs : List Int} {n j : Nat} {k : Int} (hn : n ≤ ks.length) (hj : j < n) (hk : ks[j]? = some k) : lsame k (delTo t (rowTo t ks n) qs qs.length) = !inTo k qs qs.length := by
  have h1 : lsame k (rowTo t ks n) = true := (rowTo_same t ks k n hn).2 (List.mem_iff_getElem?.2 ⟨j, by rw [List.getElem?_take_of_lt hj]; exact hk⟩)
  have h2 := delTo_same qs (rowTo_srt t ks n) k qs.length (Nat.le_refl _)
  rw [List.take_length] at h2
  have h3 := inTo_all k qs
  cases e : inTo k qs qs.length with
  | true =>
    cases d : lsame k (delTo t (rowTo t ks n) qs qs.length) with
    | true => exact absurd (h3.1 e) (h2.1 d).2
    | false => rfl
  | false =>
    refine h2.2 ⟨h1, fun h => ?_⟩
    rw [h3.2 h] at e
    cases e

end Go.Proofs.Ythbnbocpddddmaa

namespace Go.Proofs.Ythbnbocpddddmaa

/-- How many keys are ahead of a place: 0 ahead of all, 1 right ahead of k, 2 right behind k. -/
def pas (t : Bool) (s k : Int) (xs : Row) : Int := if s = 0 then 0 else (lrank t k xs : Int) + (if lsame k xs = true ∧ s = 2 then 1 else 0)

def even (p : Int × Int) : Bool := decide (p.1.tmod 2 = 0)
/-- The even keys. -/
def ev (xs : Row) : Row := xs.filter even
/-- How many even keys are not above L. -/
def cnt (L : Int) (xs : Row) : Nat := (ev xs).countP fun p => decide (p.1 ≤ L)
def rng (xs : Row) : Prop := ∀ p ∈ xs, 0 ≤ p.1 ∧ p.1 ≤ 4000

theorem ev_append (a b : Row) : ev (a ++ b) = ev a ++ ev b := List.filter_append ..
theorem ev_cons (x : Int × Int) (b : Row) : ev (x :: b) = (if even x = true then [x] else []) ++ ev b := by
  unfold ev; rw [List.filter_cons]; split <;> rfl

theorem ev_set {xs : Row} {i : Nat} {k u v : Int} (hi : xs[i]? = some (k, u)) (hk : even (k, v) = false) : ev (xs.set i (k, v)) = ev xs := by
  obtain ⟨hl, he⟩ := List.getElem?_eq_some_iff.1 hi
  have hk' : even (k, u) = false := hk
  have h1 : xs.set i (k, v) = xs.take i ++ (k, v) :: xs.drop (i + 1) := by rw [List.set_eq_take_append_cons_drop, if_pos hl]
  have h2 : xs = xs.take i ++ (k, u) :: xs.drop (i + 1) := by
    conv => lhs; rw [← List.take_append_drop i xs, List.drop_eq_getElem_cons hl, he]
  rw [h1, ev_append, ev_cons, hk]
  conv => rhs; rw [h2, ev_append, ev_cons, hk']
  rfl

theorem ev_put {k v : Int} {xs : Row} (h : Srt false xs) (hk : even (k, v) = false) : ev (lput false k v xs) = ev xs := by
  unfold lput
  by_cases hs : lsame k xs = true
  · rw [if_pos hs]
    obtain ⟨u, hu⟩ := at_rank h hs
    exact ev_set hu hk
  · rw [if_neg hs, ev_append, ev_cons, hk]
    conv => rhs; rw [← List.take_append_drop (lrank false k xs) xs, ev_append]
    rfl

theorem ev_del {k : Int} {xs : Row} (h : Srt false xs) (hk : even (k, 0) = false) : ev (ldel false k xs) = ev xs := by
  unfold ldel
  by_cases hs : lsame k xs = true
  · rw [if_pos hs]
    obtain ⟨u, hu⟩ := at_rank h hs
    obtain ⟨hl, he⟩ := List.getElem?_eq_some_iff.1 hu
    have hk' : even (k, u) = false := hk
    rw [List.eraseIdx_eq_take_drop_succ, ev_append]
    conv => rhs; rw [← List.take_append_drop (lrank false k xs) xs, List.drop_eq_getElem_cons hl, he, ev_append, ev_cons, hk']
    rfl
  · rw [if_neg hs]

theorem rng_put {k v : Int} {xs : Row} (h : rng xs) (h0 : 0 ≤ k) (h1 : k ≤ 4000) : rng (lput false k v xs) := by
  intro p hp
  rcases mem_put hp with rfl | hp
  · exact ⟨h0, h1⟩
  · exact h p hp

theorem rng_del {k : Int} {xs : Row} (h : rng xs) : rng (ldel false k xs) := by
  unfold ldel
  split
  · exact fun p hp => h p (List.mem_of_mem_eraseIdx hp)
  · exact h

theorem cnt_all {L : Int} {xs : Row} (h : ∀ p ∈ xs, p.1 ≤ L) : cnt L xs = (ev xs).length :=
  List.countP_eq_length.2 fun p hp => by simpa using h p (List.mem_filter.1 hp).1
theorem cnt_none {L : Int} {xs : Row} (h : ∀ p ∈ xs, L < p.1) : cnt L xs = 0 :=
  List.countP_eq_zero.2 fun p hp => by have := h p (List.mem_filter.1 hp).1; simp; omega
theorem cnt_append (L : Int) (a b : Row) : cnt L (a ++ b) = cnt L a + cnt L b := by unfold cnt; rw [ev_append, List.countP_append]
theorem cnt_one (L : Int) (x : Int × Int) : cnt L [x] = if even x = true ∧ x.1 ≤ L then 1 else 0 := by
  unfold cnt ev
  by_cases h : even x = true
  · by_cases g : x.1 ≤ L <;> simp [h, g]
  · simp [h]

/-- The row around a place. -/
theorem lrank_cut {L : Int} {xs : Row} (h : Srt false xs) : (∀ p ∈ xs.take (lrank false (L + 1) xs), p.1 ≤ L) ∧ (∀ p ∈ xs.drop (lrank false (L + 1) xs), L < p.1) := by
  obtain ⟨h1, h2⟩ := take_below (k := L + 1) h
  refine ⟨fun p hp => ?_, fun p hp => ?_⟩
  · have := h1 p hp; unfold lessB at this; simp at this; omega
  · have := h2 p hp; unfold lessB at this; simp at this; omega

theorem srt_drop {xs : Row} (h : Srt false xs) {r : Nat} (hr : r < xs.length) : (∀ p ∈ xs.take r, p.1 < (xs[r]).1) ∧ (∀ p ∈ xs.drop (r + 1), (xs[r]).1 < p.1) := by
  have e : xs = xs.take r ++ xs[r] :: xs.drop (r + 1) := by
    conv => lhs; rw [← List.take_append_drop r xs, List.drop_eq_getElem_cons hr]
  rw [e, Srt, List.pairwise_append, List.pairwise_cons] at h
  obtain ⟨_, ⟨h1, _⟩, h2⟩ := h
  refine ⟨fun p hp => ?_, fun p hp => ?_⟩
  · have := h2 p hp xs[r] (List.mem_cons.2 (Or.inl rfl)); unfold lessB at this; simpa using this
  · have := h1 p hp; unfold lessB at this; simpa using this

theorem cnt_split {L : Int} {xs : Row} {r : Nat} (hr : r < xs.length) : cnt L xs = cnt L (xs.take r) + ((if even xs[r] = true ∧ (xs[r]).1 ≤ L then 1 else 0) + cnt L (xs.drop (r + 1))) := by
  have e : xs = xs.take r ++ ([xs[r]] ++ xs.drop (r + 1)) := by
    conv => lhs; rw [← List.take_append_drop r xs, List.drop_eq_getElem_cons hr]
    rfl
  conv => lhs; rw [e, cnt_append, cnt_append, cnt_one]

theorem next_step {L : Int} {xs : Row} (h : Srt false xs) (hc : cnt L xs < (ev xs).length) :
    latB xs (lrank false (L + 1) xs) = true ∧ L < latK xs (lrank false (L + 1) xs) ∧
      cnt (latK xs (lrank false (L + 1) xs)) xs = cnt L xs + (if (latK xs (lrank false (L + 1) xs)).tmod 2 = 0 then 1 else 0) ∧ ∃ p ∈ xs, p.1 = latK xs (lrank false (L + 1) xs) := by
  obtain ⟨h1, h2⟩ := lrank_cut (L := L) h
  have hl := lrank_le false (L + 1) xs
  generalize lrank false (L + 1) xs = r at *
  have hr : r < xs.length := by
    rcases Nat.lt_or_ge r xs.length with q | q
    · exact q
    · rw [List.take_of_length_le q] at h1
      rw [cnt_all h1] at hc
      omega
  have hx := List.getElem?_eq_getElem hr
  obtain ⟨e1, _, e3⟩ := lat_in hx
  rw [e1, e3]
  have hL : L < (xs[r]).1 := h2 _ (by rw [List.drop_eq_getElem_cons hr]; exact List.mem_cons.2 (Or.inl rfl))
  obtain ⟨s1, s2⟩ := srt_drop h hr
  refine ⟨rfl, hL, ?_, xs[r], List.getElem_mem hr, rfl⟩
  rw [cnt_split (L := (xs[r]).1) hr, cnt_split (L := L) hr, cnt_all (L := L) h1, cnt_all (L := (xs[r]).1) fun p hp => by have := s1 p hp; omega,
    cnt_none (L := (xs[r]).1) s2, cnt_none (L := L) fun p hp => by have := s2 p hp; omega, if_neg (c := even xs[r] = true ∧ (xs[r]).1 ≤ L) (by omega)]
  unfold even
  by_cases g : (xs[r]).1.tmod 2 = 0
  · rw [if_pos (by simpa using g), if_pos g]
  · rw [if_neg (by simpa using g), if_neg g]

theorem prev_step {L : Int} {xs : Row} (h : Srt false xs) (hc : 0 < cnt L xs) :
    latB xs ((lrank false (L + 1) xs : Int) - 1) = true ∧ latK xs ((lrank false (L + 1) xs : Int) - 1) ≤ L ∧
      cnt L xs = cnt (latK xs ((lrank false (L + 1) xs : Int) - 1) - 1) xs + (if (latK xs ((lrank false (L + 1) xs : Int) - 1)).tmod 2 = 0 then 1 else 0) ∧ ∃ p ∈ xs, p.1 = latK xs ((lrank false (L + 1) xs : Int) - 1) := by
  obtain ⟨h1, h2⟩ := lrank_cut (L := L) h
  have hl := lrank_le false (L + 1) xs
  generalize lrank false (L + 1) xs = r at *
  have hr : 0 < r := by
    rcases Nat.eq_zero_or_pos r with q | q
    · subst q
      rw [cnt_none (by simpa using h2)] at hc
      omega
    · exact q
  obtain ⟨q, rfl⟩ : ∃ q, r = q + 1 := ⟨r - 1, by omega⟩
  have hq : q < xs.length := by omega
  have hx := List.getElem?_eq_getElem hq
  rw [show ((q + 1 : Nat) : Int) - 1 = (q : Int) by omega]
  obtain ⟨e1, _, e3⟩ := lat_in hx
  rw [e1, e3]
  have hL : (xs[q]).1 ≤ L := h1 _ (List.mem_of_getElem? (i := q) (by rw [List.getElem?_take_of_lt (by omega)]; exact hx))
  obtain ⟨s1, s2⟩ := srt_drop h hq
  refine ⟨rfl, hL, ?_, xs[q], List.getElem_mem hq, rfl⟩
  rw [cnt_split (L := L) hq, cnt_split (L := (xs[q]).1 - 1) hq, cnt_all (L := L) (fun p hp => by have := s1 p hp; omega), cnt_all (L := (xs[q]).1 - 1) fun p hp => by have := s1 p hp; omega,
    cnt_none (L := L) h2, cnt_none (L := (xs[q]).1 - 1) fun p hp => by have := s2 p hp; omega, if_neg (c := even xs[q] = true ∧ (xs[q]).1 ≤ (xs[q]).1 - 1) (by omega)]
  unfold even
  by_cases g : (xs[q]).1.tmod 2 = 0
  · rw [if_pos (by constructor; simpa using g; omega), if_pos g]
  · rw [if_neg (by rintro ⟨a, _⟩; exact g (by simpa using a)), if_neg g]

/-- Where a cursor stands, as the greatest number that it has passed. -/
def Stands (s k L : Int) : Prop := (s = 0 ∧ L = -1) ∨ (s = 2 ∧ k = L) ∨ (s = 1 ∧ k = L + 1)

theorem lrank_up {k : Int} {xs : Row} (h : Srt false xs) : (lrank false k xs : Int) + (if lsame k xs = true then 1 else 0) = lrank false (k + 1) xs := by
  induction xs with
  | nil => rfl
  | cons x xs ih =>
    simp only [Srt, List.pairwise_cons] at h
    have ih := ih h.2
    have e1 : ∀ j, lrank false j (x :: xs) = lrank false j xs + if x.1 < j then 1 else 0 := fun j => by simp [lrank, List.countP_cons, lessB]
    have e2 : lsame k (x :: xs) = (x.1 == k || lsame k xs) := by simp [lsame]
    rw [e1, e1, e2]
    by_cases g : x.1 = k
    · have n : lsame k xs = false := lsame_none fun p hp e => by
        have := h.1 p hp
        unfold lessB at this
        simp at this
        omega
      rw [n] at ih ⊢
      have q : (x.1 == k) = true := by simpa using g
      have a1 : ¬ x.1 < k := by omega
      have a2 : x.1 < k + 1 := by omega
      rw [q]
      simp only [Bool.true_or, if_true, if_neg a1, if_pos a2, Bool.false_eq_true, if_false] at ih ⊢
      omega
    · have q : (x.1 == k) = false := by simpa using g
      rw [q, Bool.false_or]
      by_cases g2 : x.1 < k
      · have a2 : x.1 < k + 1 := by omega
        simp only [if_pos g2, if_pos a2]
        omega
      · have a2 : ¬ x.1 < k + 1 := by omega
        simp only [if_neg g2, if_neg a2]
        omega

theorem pas_eq {s k L : Int} {xs : Row} (h : Srt false xs) (hr : rng xs) (hs : Stands s k L) : pas false s k xs = lrank false (L + 1) xs := by
  unfold pas
  rcases hs with ⟨rfl, rfl⟩ | ⟨rfl, rfl⟩ | ⟨rfl, rfl⟩
  · rw [if_pos rfl, lrank_none fun p hp => by have := (hr p hp).1; unfold lessB; simp; omega]; rfl
  · rw [if_neg (by omega), ← lrank_up h]; simp
  · rw [if_neg (by omega), if_neg (by omega)]; simp

/-- What pick answers. -/
def pkn (c n : Int) : Int := if c < 0 then (-(c + 1)) % n else c % n
theorem pkn_b (c n : Int) (h : 0 < n) : 0 ≤ pkn c n ∧ pkn c n < n := by
  unfold pkn; split
  · exact ⟨Int.emod_nonneg _ (by omega), Int.emod_lt_of_pos _ h⟩
  · exact ⟨Int.emod_nonneg _ (by omega), Int.emod_lt_of_pos _ h⟩

/-- The even numbers made of the first j keys. -/
def evs (ks : List Int) (j : Nat) : List Int := (ks.take j).map fun k => pkn k 1000 * 2
theorem evs_len (ks : List Int) (j : Nat) (h : j ≤ ks.length) : (evs ks j).length = j := by simp [evs]; omega
theorem evs_succ (ks : List Int) (j : Nat) (k : Int) (h : ks[j]? = some k) : evs ks (j + 1) = evs ks j ++ [pkn k 1000 * 2] := by
  unfold evs
  rw [List.take_add_one, h]
  simp
theorem evs_even (ks : List Int) (j : Nat) : ∀ y ∈ evs ks j, 0 ≤ y ∧ y ≤ 2000 ∧ y.tmod 2 = 0 := by
  intro y hy
  obtain ⟨k, _, rfl⟩ := List.mem_map.1 hy
  have := pkn_b k 1000 (by omega)
  refine ⟨by omega, by omega, ?_⟩
  rw [Int.tmod_eq_emod_of_nonneg (by omega)]; omega

theorem row_start (ks : List Int) (j : Nat) : let ys := evs ks j
    ev (rowTo false ys (min ys.length 400)) = rowTo false ys (min ys.length 400) ∧ rng (rowTo false ys (min ys.length 400)) := by
  intro ys
  have hm : ∀ p ∈ rowTo false ys (min ys.length 400), p.1 ∈ ys := fun p hp => by
    obtain ⟨i, _, e⟩ := rowTo_placed false ys (min ys.length 400) (by omega) p hp
    exact List.mem_of_getElem? e
  refine ⟨List.filter_eq_self.2 fun p hp => ?_, fun p hp => ?_⟩
  · have := (evs_even ks j p.1 (hm p hp)).2.2
    simpa [even] using this
  · have := evs_even ks j p.1 (hm p hp)
    exact ⟨this.1, by omega⟩

theorem odd_even (k : Int) (v : Int) : even (pkn k 2000 * 2 + 1, v) = false := by
  have := pkn_b k 2000 (by omega)
  unfold even
  simp only [decide_eq_false_iff_not]
  rw [Int.tmod_eq_emod_of_nonneg (by omega)]; omega

end Go.Proofs.Ythbnbocpddddmaa

namespace Go.Proofs.Ythbnbocpddddmaa

/-- The items of a row that another one has, or has not. -/
def lboth (ys : Row) (has : Bool) (xs : Row) : Row := xs.filter fun p => lsame p.1 ys == has

/-- A key that one of two rows has, or both, with its values there. -/
structure Hd where
  k : Int
  v : Int
  u : Int
  a : Bool
  b : Bool

def hA (x : Int × Int) : Hd := ⟨x.1, x.2, 0, true, false⟩
def hB (y : Int × Int) : Hd := ⟨y.1, 0, y.2, false, true⟩
def hAB (x y : Int × Int) : Hd := ⟨x.1, x.2, y.2, true, true⟩

/-- All keys of two rows, rising; so many rounds at most. -/
def lmet (t : Bool) : Nat → Row → Row → List Hd
  | 0, _, _ => []
  | n + 1, xs, ys => match xs, ys with
    | [], [] => []
    | x :: xs, [] => hA x :: lmet t n xs []
    | [], y :: ys => hB y :: lmet t n [] ys
    | x :: xs, y :: ys => if x.1 = y.1 then hAB x y :: lmet t n xs ys else if lessB t x.1 y.1 = true then hA x :: lmet t n xs (y :: ys) else hB y :: lmet t n (x :: xs) ys

theorem lmet_len (t : Bool) (n : Nat) (xs ys : Row) : (lmet t n xs ys).length ≤ xs.length + ys.length := by
  induction n generalizing xs ys with
  | zero => simp [lmet]
  | succ n ih =>
    cases xs with
    | nil => cases ys with
      | nil => simp [lmet]
      | cons y ys => have := ih [] ys; simp only [lmet, List.length_cons, List.length_nil] at *; omega
    | cons x xs => cases ys with
      | nil => have := ih xs []; simp only [lmet, List.length_cons, List.length_nil] at *; omega
      | cons y ys =>
        simp only [lmet]
        split
        · have := ih xs ys; simp only [List.length_cons] at *; omega
        · split
          · have := ih xs (y :: ys); simp only [List.length_cons] at *; omega
          · have := ih (x :: xs) ys; simp only [List.length_cons] at *; omega

/-- What Common and Without keep of it. -/
def hkeep (too : Bool) (h : Hd) : Option (Int × Int) := if h.a = true ∧ h.b = too then some (h.k, h.v) else none

theorem lboth_skip {y : Int × Int} {ys xs : Row} {has : Bool} (h : ∀ p ∈ xs, p.1 ≠ y.1) : lboth (y :: ys) has xs = lboth ys has xs := by
  unfold lboth
  apply List.filter_congr
  intro p hp
  have := h p hp
  simp only [lsame, List.any_cons]
  rw [show (y.1 == p.1) = false by simpa using Ne.symm this]
  rfl

theorem lsame_cons (k : Int) (y : Int × Int) (ys : Row) : lsame k (y :: ys) = (y.1 == k || lsame k ys) := rfl

theorem lmet_keep {t : Bool} (too : Bool) (n : Nat) (xs ys : Row) (hx : Srt t xs) (hy : Srt t ys) (hn : xs.length + ys.length ≤ n) : (lmet t n xs ys).filterMap (hkeep too) = lboth ys too xs := by
  induction n generalizing xs ys with
  | zero =>
    have : xs = [] := List.eq_nil_of_length_eq_zero (by omega)
    subst this
    simp [lmet, lboth]
  | succ n ih =>
    cases xs with
    | nil => cases ys with
      | nil => simp [lmet, lboth]
      | cons y ys =>
        simp only [List.length_cons, List.length_nil] at hn
        have := ih [] ys hx (List.Pairwise.of_cons hy) (by simp; omega)
        simp only [lmet]
        rw [List.filterMap_cons_none (by simp [hkeep, hB]), this]
        simp [lboth]
    | cons x xs => cases ys with
      | nil =>
        simp only [List.length_cons, List.length_nil] at hn
        have := ih xs [] (List.Pairwise.of_cons hx) hy (by simp; omega)
        simp only [lmet]
        cases too
        · rw [List.filterMap_cons_some (b := x) (by simp [hkeep, hA]), this]
          simp [lboth, lsame]
        · rw [List.filterMap_cons_none (by simp [hkeep, hA]), this]
          simp [lboth, lsame]
      | cons y ys =>
        simp only [List.length_cons] at hn
        have sx : ∀ {p}, p ∈ xs → lessB t x.1 p.1 = true := fun h => List.rel_of_pairwise_cons hx h
        have sy : ∀ {p}, p ∈ ys → lessB t y.1 p.1 = true := fun h => List.rel_of_pairwise_cons hy h
        simp only [lmet]
        by_cases e : x.1 = y.1
        · rw [if_pos e]
          have := ih xs ys (List.Pairwise.of_cons hx) (List.Pairwise.of_cons hy) (by omega)
          have sk : lboth (y :: ys) too xs = lboth ys too xs := lboth_skip fun p hp => by rw [← e]; exact (less_ne (sx hp)).symm
          have l1 : lboth (y :: ys) too (x :: xs) = (if too = true then [x] else []) ++ lboth (y :: ys) too xs := by
            unfold lboth
            rw [List.filter_cons, lsame_cons, e]
            cases too <;> simp
          rw [l1, sk]
          cases too
          · rw [List.filterMap_cons_none (by simp [hkeep, hAB]), this]; rfl
          · rw [List.filterMap_cons_some (b := x) (by simp [hkeep, hAB]), this]; rfl
        · rw [if_neg e]
          by_cases f : lessB t x.1 y.1 = true
          · rw [if_pos f]
            have := ih xs (y :: ys) (List.Pairwise.of_cons hx) hy (by simp; omega)
            have ns : lsame x.1 (y :: ys) = false := lsame_none fun p hp => by
              rcases List.mem_cons.1 hp with rfl | hp
              · exact Ne.symm e
              · exact (less_ne (less_trans f (sy hp))).symm
            have l1 : lboth (y :: ys) too (x :: xs) = (if too = true then [] else [x]) ++ lboth (y :: ys) too xs := by
              unfold lboth
              rw [List.filter_cons, ns]
              cases too <;> simp
            rw [l1]
            cases too
            · rw [List.filterMap_cons_some (b := x) (by simp [hkeep, hA]), this]; rfl
            · rw [List.filterMap_cons_none (by simp [hkeep, hA]), this]; rfl
          · rw [if_neg f]
            have g : lessB t y.1 x.1 = true := less_tot e (by simpa using f)
            have := ih (x :: xs) ys hx (List.Pairwise.of_cons hy) (by simp; omega)
            rw [List.filterMap_cons_none (by simp [hkeep, hB]), this]
            refine (lboth_skip fun p hp => ?_).symm
            rcases List.mem_cons.1 hp with rfl | hp
            · exact e
            · exact (less_ne (less_trans g (sx hp))).symm

theorem lboth_srt {t : Bool} {ys xs : Row} {has : Bool} (h : Srt t xs) : Srt t (lboth ys has xs) := List.Pairwise.sublist List.filter_sublist h
theorem lboth_le (ys : Row) (has : Bool) (xs : Row) : (lboth ys has xs).length ≤ xs.length := List.length_filter_le ..

/-- A row that stands whole below another one. -/
theorem lmet_below {t : Bool} (n : Nat) (xs ys : Row) (h : ∀ p ∈ xs, ∀ q ∈ ys, lessB t p.1 q.1 = true) (hn : xs.length + ys.length ≤ n) : lmet t n xs ys = xs.map hA ++ ys.map hB := by
  induction n generalizing xs ys with
  | zero =>
    have h1 : xs = [] := List.eq_nil_of_length_eq_zero (by omega)
    have h2 : ys = [] := List.eq_nil_of_length_eq_zero (by omega)
    subst h1; subst h2
    rfl
  | succ n ih =>
    cases xs with
    | nil => cases ys with
      | nil => rfl
      | cons y ys =>
        simp only [List.length_cons, List.length_nil] at hn
        simp only [lmet]
        rw [ih [] ys (fun p hp => by cases hp) (by simp; omega)]
        rfl
    | cons x xs => cases ys with
      | nil =>
        simp only [List.length_cons, List.length_nil] at hn
        simp only [lmet]
        rw [ih xs [] (fun p _ q hq => by cases hq) (by simp; omega)]
        rfl
      | cons y ys =>
        simp only [List.length_cons] at hn
        have f := h x (List.mem_cons.2 (Or.inl rfl)) y (List.mem_cons.2 (Or.inl rfl))
        simp only [lmet]
        rw [if_neg (less_ne f), if_pos f, ih xs (y :: ys) (fun p hp q hq => h p (List.mem_cons.2 (Or.inr hp)) q hq) (by simp; omega)]
        rfl

/-- A row with itself. -/
theorem lmet_self (t : Bool) (n : Nat) (xs : Row) (hn : xs.length + xs.length ≤ n) : lmet t n xs xs = xs.map fun p => hAB p p := by
  induction n generalizing xs with
  | zero =>
    have h1 : xs = [] := List.eq_nil_of_length_eq_zero (by omega)
    subst h1
    rfl
  | succ n ih =>
    cases xs with
    | nil => rfl
    | cons x xs =>
      simp only [List.length_cons] at hn
      simp only [lmet]
      rw [if_pos trivial, ih xs (by omega)]
      rfl

/-- What Merge makes of it. -/
def hmer (g : Int → Int → Int) (h : Hd) : Int × Int := (h.k, if h.a = false then h.u else if h.b = false then h.v else g h.v h.u)

theorem mer_below (g : Int → Int → Int) (xs ys : Row) : (xs.map hA ++ ys.map hB).map (hmer g) = xs ++ ys := by
  rw [List.map_append, List.map_map, List.map_map]
  have e1 : (hmer g ∘ hA) = id := by funext p; rfl
  have e2 : (hmer g ∘ hB) = id := by funext p; rfl
  rw [e1, e2, List.map_id, List.map_id]

theorem mer_self (g : Int → Int → Int) (xs : Row) : (xs.map fun p => hAB p p).map (hmer g) = xs.map fun p => (p.1, g p.2 p.2) := by
  rw [List.map_map]; rfl

theorem srt_map {t : Bool} {xs : Row} (f : Int × Int → Int × Int) (hf : ∀ p, (f p).1 = p.1) (h : Srt t xs) : Srt t (xs.map f) := by
  unfold Srt at h ⊢
  rw [List.pairwise_map]
  exact h.imp fun {p q} e => by rw [hf, hf]; exact e

/-- How the next keys stand to each other, as 'side' tells it; what 'next' gives. -/
def msid (t : Bool) (xs ys : Row) : Int := match xs, ys with
  | [], _ => 1
  | _ :: _, [] => -1
  | x :: _, y :: _ => side t x.1 y.1

def mhd (t : Bool) (xs ys : Row) : Hd := match xs, ys with
  | [], [] => ⟨0, 0, 0, false, false⟩
  | [], y :: _ => hB y
  | x :: _, [] => hA x
  | x :: _, y :: _ => if x.1 = y.1 then hAB x y else if lessB t x.1 y.1 = true then hA x else hB y

theorem lmet_step (t : Bool) (n : Nat) (xs ys : Row) (h : 0 < xs.length + ys.length) : lmet t (n + 1) xs ys = mhd t xs ys :: lmet t n (if msid t xs ys ≤ 0 then xs.drop 1 else xs) (if 0 ≤ msid t xs ys then ys.drop 1 else ys) := by
  cases xs with
  | nil => cases ys with
    | nil => simp at h
    | cons y ys => simp [lmet, mhd, msid]
  | cons x xs => cases ys with
    | nil => simp [lmet, mhd, msid]
    | cons y ys =>
      have em : msid t (x :: xs) (y :: ys) = side t x.1 y.1 := rfl
      simp only [lmet, mhd]
      by_cases e : x.1 = y.1
      · have := (side_zero (t := t)).2 e
        rw [if_pos e, if_pos e, if_pos (by omega), if_pos (by omega)]; simp
      · rw [if_neg e, if_neg e]
        by_cases f : lessB t x.1 y.1 = true
        · have := (side_neg (t := t)).2 f
          rw [if_pos f, if_pos f, if_pos (by omega), if_neg (by omega)]; simp
        · have h1 : ¬ side t x.1 y.1 < 0 := fun h => f (side_neg.1 h)
          have h2 : side t x.1 y.1 ≠ 0 := fun h => e (side_zero.1 h)
          rw [if_neg f, if_neg f, if_neg (by omega), if_pos (by omega)]; simp

end Go.Proofs.Ythbnbocpddddmaa
