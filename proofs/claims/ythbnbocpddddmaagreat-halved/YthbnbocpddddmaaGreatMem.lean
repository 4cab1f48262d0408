/- Memory and trees, without the program: frames over worlds, a tree of nodes that lies in a world, height balance. -/
import Derived.Below
import Derived.Deep.Draws
namespace Go.Proofs.YthbnbocpddddmaaGreat
open Go.RowKit

/-- What a call leaves alone: every old block outside S. -/
structure Fr (S : Nat → Prop) (w w' : World) : Prop where
  os : w'.os = w.os
  tape : w'.tape = w.tape
  output : w'.output = w.output
  size : w.heap.size ≤ w'.heap.size
  block : ∀ k, k < w.heap.size → ¬ S k → w'.heap[k]? = w.heap[k]?

theorem Fr.refl (S : Nat → Prop) (w : World) : Fr S w w := ⟨rfl, rfl, rfl, Nat.le_refl _, fun _ _ _ => rfl⟩

theorem Fr.trans {S S' : Nat → Prop} {a b c : World} (h : Fr S a b) (k : Fr S' b c) (hs : ∀ x, x < a.heap.size → S' x → S x) : Fr S a c :=
  ⟨k.os.trans h.os, k.tape.trans h.tape, k.output.trans h.output, Nat.le_trans h.size k.size,
    fun i hi hn => (k.block i (Nat.lt_of_lt_of_le hi h.size) (fun c => hn (hs i hi c))).trans (h.block i hi hn)⟩

theorem Fr.mono {S S' : Nat → Prop} {a b : World} (h : Fr S a b) (hs : ∀ x, x < a.heap.size → S x → S' x) : Fr S' a b :=
  ⟨h.os, h.tape, h.output, h.size, fun i hi hn => h.block i hi (fun c => hn (hs i hi c))⟩

theorem Fr.drew {S : Nat → Prop} {a w : World} (h : Fr S a w) : Fr S a w.drew := ⟨h.os, h.tape, h.output, h.size, h.block⟩
theorem Fr.drewN {S : Nat → Prop} {a w : World} (h : Fr S a w) (n : Nat) : Fr S a (w.drewN n) := ⟨h.os, h.tape, h.output, h.size, h.block⟩

theorem Fr.alloc {S : Nat → Prop} {a w : World} (h : Fr S a w) (o : Obj) : Fr S a (w.alloc o) :=
  ⟨h.os, h.tape, h.output, by have := h.size; simp; omega, fun k hk hn => by
    rw [Below.heap_alloc _ _ _ (Nat.lt_of_lt_of_le hk h.size)]; exact h.block k hk hn⟩

theorem Fr.setCell {S : Nat → Prop} {a w : World} (h : Fr S a w) {p : Addr} (hp : p.block < a.heap.size → S p.block) (u : Value) : Fr S a (w.setCell p u) :=
  ⟨h.os, h.tape, h.output, by have := h.size; simp; omega, fun k hk hn => by
    by_cases e : k = p.block
    · subst e; exact absurd (hp hk) hn
    · rw [Below.heap_setCell _ _ _ _ e]; exact h.block k hk hn⟩

theorem Fr.below {w w' : World} {B : Nat} (h : Fr (fun k => B ≤ k) w w') (hB : B ≤ w.heap.size) : Below B w w' :=
  ⟨h.os, h.tape, h.output, h.size, fun k hk => h.block k (by omega) (by omega)⟩

theorem Fr.of_below {w w' : World} {B : Nat} (h : Below B w w') : Fr (fun k => B ≤ k) w w' :=
  ⟨h.os, h.tape, h.output, h.size, fun k _ hn => h.block k (by omega)⟩

theorem Fr.none_below {w w' : World} (h : Fr (fun _ => False) w w') : Below w.heap.size w w' :=
  ⟨h.os, h.tape, h.output, h.size, fun k hk => h.block k hk (fun c => c)⟩

theorem lt_of_blk {w : World} {b : Nat} {o : Obj} (h : w.heap[b]? = some o) : b < w.heap.size := by
  rcases Nat.lt_or_ge b w.heap.size with h1 | h1
  · exact h1
  · rw [Array.getElem?_eq_none h1] at h; cases h

theorem blk_new (w : World) (o : Obj) : (w.alloc o).heap[w.heap.size]? = some o := by
  show (w.heap.push o)[w.heap.size]? = _
  simp

/-- A cell, and its mark, off a block. -/
theorem cell_of {w : World} {b : Nat} {c : Array Value} {t : TypeId} {m : Nat × Nat} (h : w.heap[b]? = some (.cells c t m)) (o : Nat) : w.cell? ⟨b, o, none⟩ = c[o]? := by
  simp [World.cell?, h]
theorem frozen_of {w : World} {b : Nat} {c : Array Value} {t : TypeId} (h : w.heap[b]? = some (.cells c t (0, 0))) (o : Nat) : w.frozen? ⟨b, o, none⟩ = false := by
  simp [World.frozen?, h]

theorem blk_set {w : World} {b : Nat} {c : Array Value} {t : TypeId} {m : Nat × Nat} (h : w.heap[b]? = some (.cells c t m)) (o : Nat) (u : Value) :
    (w.setCell ⟨b, o, none⟩ u).heap[b]? = some (.cells (c.setIfInBounds o u) t m) := by
  simp [World.setCell, Array.getElem?_modify, h]

theorem blk_set_ne {w : World} {b b' : Nat} (o : Nat) (u : Value) (hne : b' ≠ b) : (w.setCell ⟨b, o, none⟩ u).heap[b']? = w.heap[b']? :=
  Below.heap_setCell _ _ _ _ hne

/-- A tree with its blocks. -/
inductive Tr where
  | nil : Tr
  | node (b : Nat) (l : Tr) (k v : Int) (r : Tr) : Tr

namespace Tr
def ad : Tr → Option Addr
  | nil => none
  | node b _ _ _ _ => some ⟨b, 0, none⟩
def size : Tr → Nat
  | nil => 0
  | node _ l _ _ r => l.size + r.size + 1
def ht : Tr → Nat
  | nil => 0
  | node _ l _ _ r => max l.ht r.ht + 1
def has : Tr → Nat → Prop
  | nil, _ => False
  | node b l _ _ r, x => x = b ∨ l.has x ∨ r.has x
def items : Tr → List (Int × Int)
  | nil => []
  | node _ l k v r => l.items ++ (k, v) :: r.items
def avl : Tr → Prop
  | nil => True
  | node _ l _ _ r => l.avl ∧ r.avl ∧ l.ht ≤ r.ht + 1 ∧ r.ht ≤ l.ht + 1

theorem size_items (t : Tr) : t.items.length = t.size := by
  induction t with
  | nil => rfl
  | node b l k v r il ir => simp [items, size, il, ir]; omega

theorem ht_le_size (t : Tr) : t.ht ≤ t.size := by
  induction t with
  | nil => exact Nat.le_refl _
  | node b l k v r il ir => simp only [ht, size]; omega
end Tr

/-- A node's block. -/
def nodeBlk (T : TypeId) (k v : Int) (lp rp : Option Addr) (s h : Int) : Obj := .cells #[.int .i64 k, .int .i64 v, .pointer lp, .pointer rp, .int .i64 s, .int .i64 h] T (0, 0)

/-- The tree lies in the world. -/
def Lies (T : TypeId) (w : World) : Tr → Prop
  | .nil => True
  | .node b l k v r => w.heap[b]? = some (nodeBlk T k v l.ad r.ad ((l.size + r.size + 1 : Nat) : Int) ((max l.ht r.ht + 1 : Nat) : Int)) ∧
      Lies T w l ∧ Lies T w r ∧ ¬ l.has b ∧ ¬ r.has b ∧ (∀ x, l.has x → ¬ r.has x)

theorem Lies.lt {T : TypeId} {w : World} {t : Tr} (h : Lies T w t) : ∀ x, t.has x → x < w.heap.size := by
  induction t with
  | nil => intro x hx; exact hx.elim
  | node b l k v r il ir =>
    intro x hx
    rcases hx with rfl | hx | hx
    · exact lt_of_blk h.1
    · exact il h.2.1 x hx
    · exact ir h.2.2.1 x hx

theorem Lies.congr {T : TypeId} {w w' : World} {t : Tr} (h : Lies T w t) (hc : ∀ x, t.has x → w'.heap[x]? = w.heap[x]?) : Lies T w' t := by
  induction t with
  | nil => exact trivial
  | node b l k v r il ir =>
    refine ⟨(hc b (Or.inl rfl)).trans h.1, il h.2.1 fun x hx => hc x (Or.inr (Or.inl hx)), ir h.2.2.1 fun x hx => hc x (Or.inr (Or.inr hx)), h.2.2.2⟩

theorem Lies.fr {T : TypeId} {S : Nat → Prop} {w w' : World} {t : Tr} (h : Lies T w t) (f : Fr S w w') (hd : ∀ x, t.has x → ¬ S x) : Lies T w' t :=
  h.congr fun x hx => f.block x (h.lt x hx) (hd x hx)

/-- What a pointer to a tree tells: its size and height. -/
def Top (T : TypeId) (w : World) (p : Option Addr) (s h : Int) : Prop :=
  (p = none ∧ s = 0 ∧ h = 0) ∨ ∃ b k v lp rp, p = some ⟨b, 0, none⟩ ∧ w.heap[b]? = some (nodeBlk T k v lp rp s h)

theorem Lies.top {T : TypeId} {w : World} {t : Tr} (h : Lies T w t) : Top T w t.ad t.size t.ht := by
  cases t with
  | nil => exact Or.inl ⟨rfl, rfl, rfl⟩
  | node b l k v r => exact Or.inr ⟨b, k, v, l.ad, r.ad, rfl, h.1⟩

theorem Top.congr {T : TypeId} {w w' : World} {p : Option Addr} {s h : Int} (t : Top T w p s h) (hc : ∀ b, p = some ⟨b, 0, none⟩ → w'.heap[b]? = w.heap[b]?) : Top T w' p s h := by
  rcases t with t | ⟨b, k, v, lp, rp, rfl, hb⟩
  · exact Or.inl t
  · exact Or.inr ⟨b, k, v, lp, rp, rfl, (hc b rfl).trans hb⟩

end Go.Proofs.YthbnbocpddddmaaGreat
