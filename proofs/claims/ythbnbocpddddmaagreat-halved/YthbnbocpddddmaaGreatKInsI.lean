/- A node comes into a skip list: plain. -/
import Derived.Test.YthbnbocpddddmaaGreatWTrailI
namespace Go.Proofs.YthbnbocpddddmaaGreat.SkI
open Go.RowKit

theorem dist_none (l : Nat) (a b : List Nd) (h : ∀ n ∈ a, n.h ≤ l) : dist l (a ++ b) = a.length + dist l b ∧ tgt l (a ++ b) = tgt l b := by
  induction a with
  | nil => simp
  | cons n a ih =>
    obtain ⟨i1, i2⟩ := ih fun m hm => h m (by simp [hm])
    have := h n (by simp)
    simp only [List.cons_append, dist, tgt, List.length_cons]
    rw [if_neg (by omega), if_neg (by omega), i1, i2]
    exact ⟨by omega, rfl⟩

theorem dist_some (l : Nat) (a b b' : List Nd) (h : ∃ n ∈ a, l < n.h) : dist l (a ++ b) = dist l (a ++ b') ∧ tgt l (a ++ b) = tgt l (a ++ b') := by
  induction a with
  | nil => obtain ⟨n, hn, _⟩ := h; cases hn
  | cons n a ih =>
    simp only [List.cons_append, dist, tgt]
    by_cases c : l < n.h
    · rw [if_pos c, if_pos c, if_pos c, if_pos c]; exact ⟨rfl, rfl⟩
    · rw [if_neg c, if_neg c, if_neg c, if_neg c]
      obtain ⟨m, hm, hl⟩ := h
      rcases List.mem_cons.1 hm with rfl | hm
      · exact absurd hl c
      · obtain ⟨e1, e2⟩ := ih ⟨m, hm, hl⟩
        rw [e1, e2]; exact ⟨rfl, rfl⟩

/-- A link set. -/
theorem SkipAt.set2 {w : World} {L : List Nd} {lk : Nat → Nat → Option Addr × Int} (h : SkipAt w L lk) {j : Nat} {n : Nd} (hj : L[j]? = some n) {l : Nat} (hl : l < n.h) (x : Option Addr) (y : Int) :
    SkipAt ((w.setCell ⟨n.lb, l * 2, none⟩ (.pointer x)).setCell ⟨n.lb, l * 2 + 1, none⟩ (.int .i64 y)) L (fun j' m => if j' = j ∧ m = l then (x, y) else lk j' m) := by
  refine ⟨fun j' n' hj' => ?_, h.2⟩
  obtain ⟨h1, h2⟩ := h.1 j' n' hj'
  have hm := List.mem_of_getElem? hj
  have hm' := List.mem_of_getElem? hj'
  have ne1 : n'.nb ≠ n.lb := nb_ne_lb h.2 hm' hm
  refine ⟨by rw [blk_set_ne _ _ ne1, blk_set_ne _ _ ne1]; exact h1, ?_⟩
  by_cases c : j' = j
  · subst c
    rw [hj] at hj'; simp only [Option.some.injEq] at hj'; subst hj'
    rw [blk_set (blk_set h2 _ _) _ _]
    simp only [linkB, true_and]
    have := lcells_set n.h (lk j') l hl (x, y)
    rw [Nat.mul_comm 2 l] at this
    rw [← this]
    simp
  · have ne2 : n'.lb ≠ n.lb := fun e => c (blocks_inj h.2 hj' hj (Or.inr e))
    rw [blk_set_ne _ _ ne2, blk_set_ne _ _ ne2]
    simp only [c, false_and, if_false]
    exact h2

theorem SkipAt.set1 {w : World} {L : List Nd} {lk : Nat → Nat → Option Addr × Int} (h : SkipAt w L lk) {j : Nat} {n : Nd} (hj : L[j]? = some n) {l : Nat} (hl : l < n.h) (y : Int) :
    SkipAt (w.setCell ⟨n.lb, l * 2 + 1, none⟩ (.int .i64 y)) L (fun j' m => if j' = j ∧ m = l then ((lk j l).1, y) else lk j' m) := by
  refine ⟨fun j' n' hj' => ?_, h.2⟩
  obtain ⟨h1, h2⟩ := h.1 j' n' hj'
  have hm := List.mem_of_getElem? hj
  have hm' := List.mem_of_getElem? hj'
  have ne1 : n'.nb ≠ n.lb := nb_ne_lb h.2 hm' hm
  refine ⟨by rw [blk_set_ne _ _ ne1]; exact h1, ?_⟩
  by_cases c : j' = j
  · subst c
    rw [hj] at hj'; simp only [Option.some.injEq] at hj'; subst hj'
    rw [blk_set h2 _ _]
    simp only [linkB, true_and]
    have := lcells_set1 n.h (lk j') l hl y
    rw [Nat.mul_comm 2 l] at this
    rw [← this]
    simp
  · have ne2 : n'.lb ≠ n.lb := fun e => c (blocks_inj h.2 hj' hj (Or.inr e))
    rw [blk_set_ne _ _ ne2]
    simp only [c, false_and, if_false]
    exact h2

theorem SkipAt.lk {w : World} {L : List Nd} {lk lk' : Nat → Nat → Option Addr × Int} (h : SkipAt w L lk) (e : ∀ j n, L[j]? = some n → ∀ m, m < n.h → lk j m = lk' j m) : SkipAt w L lk' := by
  refine ⟨fun j n hj => ?_, h.2⟩
  obtain ⟨h1, h2⟩ := h.1 j n hj
  refine ⟨h1, ?_⟩
  rw [h2]
  simp only [linkB]
  rw [lcells_congr n.h (lk j) (lk' j) (e j n hj)]

/-- The links when the levels below l have been done: the new node stands behind all others. -/
def lkL (all : List Nd) (nw : Nd) (i : Nat) (Q : Nat → Nat) (l j m : Nat) : Option Addr × Int :=
  if j < all.length then
    if m < l ∧ j = Q m then (if m < nw.h then (some ⟨nw.nb, 0, none⟩, (i : Int) - Q m + 1) else ((canon all j m).1, (canon all j m).2 + 1)) else canon all j m
  else if m < l ∧ m < nw.h then ((canon all (Q m) m).1, (canon all (Q m) m).2 - ((i : Int) - Q m)) else (none, 0)

theorem lkL_stop {all : List Nd} {nw : Nd} {i l : Nat} {Q : Nat → Nat} {j : Nat} (hj : j < all.length) : lkL all nw i Q l j l = canon all j l := by
  unfold lkL; rw [if_pos hj, if_neg (by omega)]

theorem lkL_succ_lo {all : List Nd} {nw : Nd} {i l : Nat} {Q : Nat → Nat} (hq : Q l < all.length) (hh : l < nw.h) (j m : Nat) :
    (if j = Q l ∧ m = l then ((some ⟨nw.nb, 0, none⟩ : Option Addr), (i : Int) - Q l + 1) else (if j = all.length ∧ m = l then ((canon all (Q l) l).1, (canon all (Q l) l).2 - ((i : Int) - Q l)) else lkL all nw i Q l j m)) = (if j ≤ all.length then lkL all nw i Q (l + 1) j m else lkL all nw i Q l j m) := by
  unfold lkL
  by_cases c : m = l
  · subst c
    by_cases d : j = Q m
    · subst d; simp [hq, hh, Nat.le_of_lt hq]
    · by_cases e : j = all.length
      · subst e; simp [d, hh]
      · by_cases f : j < all.length
        · simp [d, f, e, Nat.le_of_lt f]
        · simp [d, e, f, show ¬ j ≤ all.length by omega]
  · have e1 : (m < l + 1) = (m < l) := by simp; omega
    simp only [c, and_false, if_false, e1]
    by_cases g : j ≤ all.length <;> simp [g]

theorem lkL_succ_hi {all : List Nd} {nw : Nd} {i l : Nat} {Q : Nat → Nat} (hq : Q l < all.length) (hh : ¬ l < nw.h) (j m : Nat) :
    (if j = Q l ∧ m = l then ((canon all (Q l) l).1, (canon all (Q l) l).2 + 1) else lkL all nw i Q l j m) = lkL all nw i Q (l + 1) j m := by
  unfold lkL
  by_cases c : m = l
  · subst c
    by_cases d : j = Q m
    · subst d; simp [hq, hh]
    · by_cases f : j < all.length
      · simp [d, f]
      · simp [d, f, hh]
  · have e1 : (m < l + 1) = (m < l) := by simp; omega
    simp only [c, and_false, if_false, e1]

/-- All levels done: the new list. -/
theorem skip_inserted {w : World} {all : List Nd} {nw : Nd} {i : Nat} {Q : Nat → Nat} (h : SkipAt w (all ++ [nw]) (lkL all nw i Q 9)) (hi : i < all.length) (h9 : ∀ n ∈ all, n.h ≤ 9) (hw : nw.h ≤ 9)
    (hQ : ∀ l, l < 9 → ∃ n, Stop all i l (Q l) n) : SkipAt w (all.take (i + 1) ++ nw :: all.drop (i + 1)) (canon (all.take (i + 1) ++ nw :: all.drop (i + 1))) := by
  have hlen : (all.take (i + 1)).length = i + 1 := by simp; omega
  have hperm : (blocks (all.take (i + 1) ++ nw :: all.drop (i + 1))).Nodup := by
    have e : (blocks (all.take (i + 1) ++ nw :: all.drop (i + 1))).Perm (blocks (all ++ [nw])) := by
      unfold blocks
      apply List.Perm.flatMap_right
      have : (all ++ [nw]) = all.take (i + 1) ++ (all.drop (i + 1) ++ [nw]) := by rw [← List.append_assoc, List.take_append_drop]
      rw [this]
      exact List.Perm.append_left _ (List.perm_append_comm (l₁ := [nw]) (l₂ := all.drop (i + 1)))
    exact e.nodup_iff.2 h.2
  refine ⟨fun j n hj => ?_, hperm⟩
  rcases Nat.lt_or_ge j (i + 1) with c | c
  · -- ahead of the new node
    rw [List.getElem?_append_left (by omega), List.getElem?_take_of_lt c] at hj
    have hjl : j < all.length := by omega
    obtain ⟨g1, g2⟩ := h.1 j n (by rw [List.getElem?_append_left hjl]; exact hj)
    refine ⟨g1, g2.trans ?_⟩
    simp only [linkB]
    congr 3
    refine lcells_congr _ _ _ fun m hm => ?_
    have hn9 := h9 n (List.mem_of_getElem? hj)
    obtain ⟨qn, s1, s2, s3, s4⟩ := hQ m (by omega)
    have er : all.drop (j + 1) = (all.take (i + 1)).drop (j + 1) ++ all.drop (i + 1) := by
      rw [← List.drop_append_of_le_length (by omega : j + 1 ≤ (all.take (i + 1)).length), List.take_append_drop]
    have er' : (all.take (i + 1) ++ nw :: all.drop (i + 1)).drop (j + 1) = (all.take (i + 1)).drop (j + 1) ++ nw :: all.drop (i + 1) := List.drop_append_of_le_length (by omega)
    have el : ((all.take (i + 1)).drop (j + 1)).length = i - j := by simp; omega
    unfold lkL
    rw [if_pos hjl]
    by_cases d : j = Q m
    · rw [if_pos ⟨by omega, d⟩]
      have hno : ∀ x ∈ (all.take (i + 1)).drop (j + 1), x.h ≤ m := by
        intro x hx
        obtain ⟨t, ht⟩ := List.getElem?_of_mem hx
        have htl : t < ((all.take (i + 1)).drop (j + 1)).length := (List.getElem?_eq_some_iff.1 ht).1
        rw [List.getElem?_drop, List.getElem?_take_of_lt (by omega)] at ht
        exact s4 (j + 1 + t) x (by omega) (by omega) ht
      obtain ⟨a1, a2⟩ := dist_none m _ (all.drop (i + 1)) hno
      obtain ⟨b1, b2⟩ := dist_none m _ (nw :: all.drop (i + 1)) hno
      simp only [canon]
      rw [er, er', a1, a2, b1, b2, el]
      simp only [dist, tgt]
      by_cases e : m < nw.h
      · rw [if_pos e, if_pos e, if_pos e, ← d]; congr 1 <;> omega
      · rw [if_neg e, if_neg e, if_neg e]; congr 1 <;> omega
    · rw [if_neg (fun e => d e.2)]
      have hso : ∃ x ∈ (all.take (i + 1)).drop (j + 1), m < x.h := by
        have hlt : j < Q m := by
          rcases Nat.lt_or_ge j (Q m) with f | f
          · exact f
          · have := s4 j n (by omega) (by omega) hj; omega
        refine ⟨qn, ?_, s3⟩
        refine List.mem_of_getElem? (i := Q m - (j + 1)) ?_
        rw [List.getElem?_drop, List.getElem?_take_of_lt (by omega), ← s1]; congr 1; omega
      obtain ⟨a1, a2⟩ := dist_some m _ (all.drop (i + 1)) (nw :: all.drop (i + 1)) hso
      simp only [canon]
      rw [er, er', a1, a2]
  · rcases Nat.eq_or_lt_of_le c with c | c
    · -- the new node itself
      subst c
      rw [List.getElem?_append_right (by omega), hlen] at hj
      simp at hj
      subst hj
      obtain ⟨g1, g2⟩ := h.1 all.length nw (by simp)
      refine ⟨g1, g2.trans ?_⟩
      simp only [linkB]
      congr 3
      refine lcells_congr _ _ _ fun m hm => ?_
      obtain ⟨qn, s1, s2, s3, s4⟩ := hQ m (by omega)
      unfold lkL
      rw [if_neg (by omega), if_pos ⟨by omega, hm⟩]
      have er : all.drop (Q m + 1) = (all.take (i + 1)).drop (Q m + 1) ++ all.drop (i + 1) := by
        rw [← List.drop_append_of_le_length (by omega : Q m + 1 ≤ (all.take (i + 1)).length), List.take_append_drop]
      have el : ((all.take (i + 1)).drop (Q m + 1)).length = i - Q m := by simp; omega
      have hno : ∀ x ∈ (all.take (i + 1)).drop (Q m + 1), x.h ≤ m := by
        intro x hx
        obtain ⟨t, ht⟩ := List.getElem?_of_mem hx
        have htl : t < ((all.take (i + 1)).drop (Q m + 1)).length := (List.getElem?_eq_some_iff.1 ht).1
        rw [List.getElem?_drop, List.getElem?_take_of_lt (by omega)] at ht
        exact s4 (Q m + 1 + t) x (by omega) (by omega) ht
      obtain ⟨a1, a2⟩ := dist_none m _ (all.drop (i + 1)) hno
      have et : (all.take (i + 1) ++ nw :: all.drop (i + 1)).drop (i + 1 + 1) = all.drop (i + 1) := by
        rw [List.drop_append, hlen, List.drop_eq_nil_of_le (by omega)]; simp
      simp only [canon]
      rw [er, a1, a2, et, el]
      congr 1; omega
    · -- behind it
      rw [List.getElem?_append_right (by omega), hlen, show j - (i + 1) = (j - (i + 1) - 1) + 1 by omega, List.getElem?_cons_succ, List.getElem?_drop] at hj
      have hj' : all[j - 1]? = some n := by rw [← hj]; congr 1; omega
      have hjl : j - 1 < all.length := (List.getElem?_eq_some_iff.1 hj').1
      obtain ⟨g1, g2⟩ := h.1 (j - 1) n (by rw [List.getElem?_append_left hjl]; exact hj')
      refine ⟨g1, g2.trans ?_⟩
      simp only [linkB]
      congr 3
      refine lcells_congr _ _ _ fun m hm => ?_
      have hn9 := h9 n (List.mem_of_getElem? hj')
      obtain ⟨qn, s1, s2, s3, s4⟩ := hQ m (by omega)
      unfold lkL
      rw [if_pos hjl, if_neg (by omega)]
      have et : (all.take (i + 1) ++ nw :: all.drop (i + 1)).drop (j + 1) = all.drop (j - 1 + 1) := by
        rw [List.drop_append, hlen, List.drop_eq_nil_of_le (by omega), show j + 1 - (i + 1) = (j - i - 1) + 1 by omega, List.drop_succ_cons, List.drop_drop]
        simp only [List.nil_append]; congr 1; omega
      simp only [canon]
      rw [et]

end Go.Proofs.YthbnbocpddddmaaGreat.SkI
