import Derived.Test.YthbnbocpddddmaaGreatQA
namespace Go.Proofs.YthbnbocpddddmaaGreat.SkI
open Go.RowKit

structure Nd where
  nb : Nat
  lb : Nat
  h : Nat
  k : Int
  v : Int

def nodeB (n : Nd) : Obj := .cells #[kv n.k, kv n.v, .slice (some ⟨n.lb, 0, none⟩) n.h n.h] 220 (0, 0)
def lcells (h : Nat) (g : Nat → Option Addr × Int) : List Value := (List.range h).flatMap fun l => [.pointer (g l).1, .int .i64 (g l).2]
def linkB (h : Nat) (g : Nat → Option Addr × Int) : Obj := .cells (lcells h g).toArray 222 (0, 0)
def listB (hb : Nat) (n : Nat) (laid : Int) : Obj := .cells #[.pointer (some ⟨hb, 0, none⟩), .int .i64 n, .int .u64 laid] 224 (0, 0)

theorem lcells_len (h : Nat) (g : Nat → Option Addr × Int) : (lcells h g).length = 2 * h := by
  unfold lcells
  induction h with
  | zero => rfl
  | succ h ih => rw [List.range_succ, List.flatMap_append, List.length_append, ih]; simp; omega

theorem lcells_succ (h : Nat) (g : Nat → Option Addr × Int) : lcells (h + 1) g = lcells h g ++ [.pointer (g h).1, .int .i64 (g h).2] := by
  unfold lcells; rw [List.range_succ, List.flatMap_append]; simp

theorem lcells_at (h : Nat) (g : Nat → Option Addr × Int) (l : Nat) (hl : l < h) : (lcells h g)[2 * l]? = some (.pointer (g l).1) ∧ (lcells h g)[2 * l + 1]? = some (.int .i64 (g l).2) := by
  induction h with
  | zero => omega
  | succ h ih =>
    rw [lcells_succ]
    by_cases c : l = h
    · subst c
      rw [List.getElem?_append_right (by rw [lcells_len]; omega), List.getElem?_append_right (by rw [lcells_len]; omega), lcells_len]
      simp
    · rw [List.getElem?_append_left (by rw [lcells_len]; omega), List.getElem?_append_left (by rw [lcells_len]; omega)]
      exact ih (by omega)

theorem lcells_congr (h : Nat) (g g' : Nat → Option Addr × Int) (e : ∀ m, m < h → g m = g' m) : lcells h g = lcells h g' := by
  induction h with
  | zero => rfl
  | succ h ih => rw [lcells_succ, lcells_succ, ih fun m hm => e m (by omega), e h (by omega)]

theorem lcells_set (h : Nat) (g : Nat → Option Addr × Int) (l : Nat) (hl : l < h) (x : Option Addr × Int) :
    ((lcells h g).set (2 * l) (.pointer x.1)).set (2 * l + 1) (.int .i64 x.2) = lcells h (fun m => if m = l then x else g m) := by
  induction h with
  | zero => omega
  | succ h ih =>
    rw [lcells_succ, lcells_succ]
    by_cases c : l = h
    · subst c
      rw [List.set_append_right _ _ (by rw [lcells_len]; omega), List.set_append_right _ _ (by rw [lcells_len]; omega), lcells_len]
      have e : lcells l (fun m => if m = l then x else g m) = lcells l g := lcells_congr _ _ _ fun m hm => if_neg (by omega)
      rw [e]; simp
    · rw [List.set_append_left _ _ (by rw [lcells_len]; omega), List.set_append_left _ _ (by simp [lcells_len]; omega), ih (by omega)]
      simp [show h ≠ l by omega]

theorem lcells_set1 (h : Nat) (g : Nat → Option Addr × Int) (l : Nat) (hl : l < h) (x : Int) :
    (lcells h g).set (2 * l + 1) (.int .i64 x) = lcells h (fun m => if m = l then ((g l).1, x) else g m) := by
  rw [← lcells_set h g l hl ((g l).1, x)]
  congr 1
  obtain ⟨hlt, e⟩ := List.getElem?_eq_some_iff.1 (lcells_at h g l hl).1
  have := (List.set_getElem_self hlt : (lcells h g).set (2 * l) (lcells h g)[2 * l] = lcells h g)
  rw [e] at this
  exact this.symm

/-- How far the next node is that reaches level l, and which it is. -/
def dist (l : Nat) : List Nd → Nat
  | [] => 1
  | n :: r => if l < n.h then 1 else dist l r + 1
def tgt (l : Nat) : List Nd → Option Addr
  | [] => none
  | n :: r => if l < n.h then some ⟨n.nb, 0, none⟩ else tgt l r

/-- The links as they should be. -/
def canon (ns : List Nd) (j l : Nat) : Option Addr × Int := (tgt l (ns.drop (j + 1)), (dist l (ns.drop (j + 1)) : Nat))

def blocks (ns : List Nd) : List Nat := ns.flatMap fun n => [n.nb, n.lb]

def SkipAt (w : World) (ns : List Nd) (lk : Nat → Nat → Option Addr × Int) : Prop :=
  (∀ j n, ns[j]? = some n → w.heap[n.nb]? = some (nodeB n) ∧ w.heap[n.lb]? = some (linkB n.h (lk j))) ∧ (blocks ns).Nodup

theorem mem_blocks {ns : List Nd} {x : Nat} : x ∈ blocks ns ↔ ∃ n ∈ ns, x = n.nb ∨ x = n.lb := by simp [blocks]

theorem SkipAt.lt {w : World} {ns : List Nd} {lk : Nat → Nat → Option Addr × Int} (h : SkipAt w ns lk) : ∀ x ∈ blocks ns, x < w.heap.size := by
  intro x hx
  obtain ⟨n, hn, e⟩ := mem_blocks.1 hx
  obtain ⟨j, hj⟩ := List.getElem?_of_mem hn
  obtain ⟨h1, h2⟩ := h.1 j n hj
  rcases e with rfl | rfl
  · exact lt_of_blk h1
  · exact lt_of_blk h2

theorem SkipAt.congr {w w' : World} {ns : List Nd} {lk : Nat → Nat → Option Addr × Int} (h : SkipAt w ns lk) (hc : ∀ x ∈ blocks ns, w'.heap[x]? = w.heap[x]?) : SkipAt w' ns lk := by
  refine ⟨fun j n hj => ?_, h.2⟩
  have hm := List.mem_of_getElem? hj
  obtain ⟨h1, h2⟩ := h.1 j n hj
  exact ⟨(hc _ (mem_blocks.2 ⟨n, hm, Or.inl rfl⟩)).trans h1, (hc _ (mem_blocks.2 ⟨n, hm, Or.inr rfl⟩)).trans h2⟩

/-- Blocks tell nodes apart. -/
theorem blocks_inj {ns : List Nd} (h : (blocks ns).Nodup) {i j : Nat} {a b : Nd} (hi : ns[i]? = some a) (hj : ns[j]? = some b) (e : a.nb = b.nb ∨ a.lb = b.lb) : i = j := by
  induction ns generalizing i j with
  | nil => simp at hi
  | cons n r ih =>
    simp only [blocks, List.flatMap_cons, List.cons_append, List.nil_append] at h
    rw [List.nodup_cons, List.nodup_cons] at h
    obtain ⟨h1, h2, h3⟩ := h
    have g1 : ∀ m ∈ r, n.nb ≠ m.nb := fun m hm e => h1 (List.mem_cons.2 (Or.inr (mem_blocks.2 ⟨m, hm, Or.inl e⟩)))
    have g2 : ∀ m ∈ r, n.lb ≠ m.lb := fun m hm e => h2 (mem_blocks.2 ⟨m, hm, Or.inr e⟩)
    cases i with
    | zero =>
      cases j with
      | zero => rfl
      | succ j =>
        simp at hi; subst hi
        have hm := List.mem_of_getElem? (by simpa using hj : r[j]? = some b)
        rcases e with e | e
        · exact absurd e (g1 b hm)
        · exact absurd e (g2 b hm)
    | succ i =>
      cases j with
      | zero =>
        simp at hj; subst hj
        have hm := List.mem_of_getElem? (by simpa using hi : r[i]? = some a)
        rcases e with e | e
        · exact absurd e.symm (g1 a hm)
        · exact absurd e.symm (g2 a hm)
      | succ j => exact congrArg (· + 1) (ih h3 (by simpa using hi) (by simpa using hj))

theorem nb_ne_lb {ns : List Nd} (h : (blocks ns).Nodup) {a b : Nd} (ha : a ∈ ns) (hb : b ∈ ns) : a.nb ≠ b.lb := by
  induction ns with
  | nil => cases ha
  | cons n r ih =>
    simp only [blocks, List.flatMap_cons, List.cons_append, List.nil_append] at h
    rw [List.nodup_cons, List.nodup_cons] at h
    obtain ⟨h1, h2, h3⟩ := h
    rcases List.mem_cons.1 ha with ea | ha'
    · rcases List.mem_cons.1 hb with eb | hb'
      · exact fun e => h1 (List.mem_cons.2 (Or.inl (by rw [ea, eb] at e; exact e)))
      · exact fun e => h1 (List.mem_cons.2 (Or.inr (mem_blocks.2 ⟨b, hb', Or.inr (by rw [← ea]; exact e)⟩)))
    · rcases List.mem_cons.1 hb with eb | hb'
      · exact fun e => h2 (mem_blocks.2 ⟨a, ha', Or.inl (by rw [← eb]; exact e.symm)⟩)
      · exact ih h3 ha' hb'

/-- What the next place on a level is. -/
theorem dist_spec (l : Nat) (r : List Nd) : 1 ≤ dist l r ∧ dist l r ≤ r.length + 1 ∧ (∀ e n, e + 1 < dist l r → r[e]? = some n → n.h ≤ l) ∧
    ((∃ n, dist l r ≤ r.length ∧ r[dist l r - 1]? = some n ∧ l < n.h ∧ tgt l r = some ⟨n.nb, 0, none⟩) ∨ (dist l r = r.length + 1 ∧ tgt l r = none)) := by
  induction r with
  | nil => exact ⟨Nat.le_refl _, Nat.le_refl _, fun e n h => by simp [dist] at h, Or.inr ⟨rfl, rfl⟩⟩
  | cons n r ih =>
    obtain ⟨i1, i2, i3, i4⟩ := ih
    simp only [dist, tgt]
    by_cases c : l < n.h
    · rw [if_pos c, if_pos c]
      exact ⟨Nat.le_refl _, by simp, fun e m h => by omega, Or.inl ⟨n, by simp, by simp, c, rfl⟩⟩
    · rw [if_neg c, if_neg c]
      refine ⟨by omega, by simp; omega, fun e m h hm => ?_, ?_⟩
      · cases e with
        | zero => simp at hm; subst hm; omega
        | succ e => exact i3 e m (by omega) (by simpa using hm)
      · rcases i4 with ⟨m, a, b, d, f⟩ | ⟨a, b⟩
        · refine Or.inl ⟨m, by simp; omega, ?_, d, f⟩
          rw [show dist l r + 1 - 1 = (dist l r - 1) + 1 by omega, List.getElem?_cons_succ]; exact b
        · exact Or.inr ⟨by simp; omega, b⟩

end Go.Proofs.YthbnbocpddddmaaGreat.SkI
