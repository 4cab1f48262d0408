/- Sorted rows of keys and values: plain. -/
import Derived.Test.YthbnbocpddddmaaGreatPlain
namespace Go.Proofs.YthbnbocpddddmaaGreat

def sgn (a b : Int) : Int := if a < b then -1 else if b < a then 1 else 0
/-- How the key sought stands to a key, by the order of numbers, turned or not. -/
def side (turned : Bool) (a b : Int) : Int := if turned = true then sgn b a else sgn a b
def lessB (turned : Bool) (a b : Int) : Bool := if turned = true then decide (b < a) else decide (a < b)

theorem side_zero {t : Bool} {a b : Int} : side t a b = 0 ↔ a = b := by unfold side sgn; (repeat' split) <;> omega
theorem side_neg {t : Bool} {a b : Int} : side t a b < 0 ↔ lessB t a b = true := by unfold side sgn lessB; cases t <;> simp <;> (repeat' split) <;> omega
theorem less_irr {t : Bool} {a : Int} : lessB t a a = false := by unfold lessB; cases t <;> simp
theorem less_trans {t : Bool} {a b c : Int} (h : lessB t a b = true) (g : lessB t b c = true) : lessB t a c = true := by unfold lessB at *; cases t <;> simp at * <;> omega
theorem less_tot {t : Bool} {a b : Int} (h : a ≠ b) (g : lessB t a b = false) : lessB t b a = true := by unfold lessB at *; cases t <;> simp at * <;> omega
theorem less_asym {t : Bool} {a b : Int} (h : lessB t a b = true) : lessB t b a = false := by unfold lessB at *; cases t <;> simp at * <;> omega
theorem less_ne {t : Bool} {a b : Int} (h : lessB t a b = true) : a ≠ b := by rintro rfl; rw [less_irr] at h; cases h

abbrev Row := List (Int × Int)
def Srt (t : Bool) (xs : Row) : Prop := xs.Pairwise fun p q => lessB t p.1 q.1 = true
/-- How many keys are below k; whether k is there. -/
def lrank (t : Bool) (k : Int) (xs : Row) : Nat := xs.countP fun p => lessB t p.1 k
def lsame (k : Int) (xs : Row) : Bool := xs.any fun p => p.1 == k

theorem lrank_le (t : Bool) (k : Int) (xs : Row) : lrank t k xs ≤ xs.length := List.countP_le_length

theorem lrank_all {t : Bool} {k : Int} {xs : Row} (h : ∀ p ∈ xs, lessB t p.1 k = true) : lrank t k xs = xs.length := List.countP_eq_length.2 h
theorem lrank_none {t : Bool} {k : Int} {xs : Row} (h : ∀ p ∈ xs, lessB t p.1 k = false) : lrank t k xs = 0 := List.countP_eq_zero.2 fun p hp => by rw [h p hp]; simp
theorem lsame_none {k : Int} {xs : Row} (h : ∀ p ∈ xs, p.1 ≠ k) : lsame k xs = false := by
  rw [lsame, List.any_eq_false]; intro p hp; simpa using h p hp

theorem tree_rank (t : Bool) (k : Int) (T : Tr) (h : Srt t T.items) : T.rank (side t k) = lrank t k T.items ∧ T.same (side t k) = lsame k T.items := by
  induction T with
  | nil => exact ⟨rfl, rfl⟩
  | node b L k1 v1 R il ir =>
    simp only [Tr.items, Srt, List.pairwise_append, List.pairwise_cons] at h
    obtain ⟨sL, ⟨h1, sR⟩, h2⟩ := h
    obtain ⟨r1, r2⟩ := il sL
    obtain ⟨q1, q2⟩ := ir sR
    have hL : ∀ p ∈ L.items, lessB t p.1 k1 = true := fun p hp => h2 p hp (k1, v1) (by simp)
    have hR : ∀ p ∈ R.items, lessB t k1 p.1 = true := fun p hp => h1 p hp
    have e1 : lrank t k (L.items ++ (k1, v1) :: R.items) = lrank t k L.items + ((if lessB t k1 k = true then 1 else 0) + lrank t k R.items) := by
      simp only [lrank, List.countP_append, List.countP_cons]; omega
    have e2 : lsame k (L.items ++ (k1, v1) :: R.items) = (lsame k L.items || (k1 == k || lsame k R.items)) := by simp [lsame]
    simp only [Tr.rank, Tr.same, Tr.items, e1, e2]
    by_cases f0 : side t k k1 = 0
    · have ek := side_zero.1 f0
      subst ek
      rw [if_pos f0, if_pos f0]
      rw [lrank_all hL, less_irr, lrank_none fun p hp => less_asym (hR p hp)]
      exact ⟨by simp [Tr.size_items], by simp⟩
    · have nk : k ≠ k1 := fun e => f0 (side_zero.2 e)
      rw [if_neg f0, if_neg f0]
      by_cases f1 : side t k k1 < 0
      · have fk := side_neg.1 f1
        rw [if_pos f1, if_pos f1, r1, r2, less_asym fk, lrank_none fun p hp => less_asym (less_trans fk (hR p hp)), lsame_none (xs := R.items) fun p hp => (less_ne (less_trans fk (hR p hp))).symm]
        exact ⟨by simp, by simp [Ne.symm nk]⟩
      · have fk : lessB t k1 k = true := less_tot nk (by cases hh : lessB t k k1 with | false => rfl | true => exact absurd (side_neg.2 hh) f1)
        rw [if_neg f1, if_neg f1, q1, q2, fk, lrank_all fun p hp => less_trans (hL p hp) fk, lsame_none (xs := L.items) fun p hp => less_ne (less_trans (hL p hp) fk)]
        exact ⟨by simp [Tr.size_items]; omega, by simp [Ne.symm nk]⟩

/-- What stands ahead of the rank is below, what stands behind it is not. -/
theorem take_below {t : Bool} {k : Int} {xs : Row} (h : Srt t xs) : (∀ p ∈ xs.take (lrank t k xs), lessB t p.1 k = true) ∧ (∀ p ∈ xs.drop (lrank t k xs), lessB t p.1 k = false) := by
  induction xs with
  | nil => simp
  | cons x xs ih =>
    simp only [Srt, List.pairwise_cons] at h
    obtain ⟨h1, h2⟩ := h
    obtain ⟨i1, i2⟩ := ih h2
    by_cases f : lessB t x.1 k = true
    · have e : lrank t k (x :: xs) = lrank t k xs + 1 := by simp [lrank, f]
      rw [e]
      simp only [List.take_succ_cons, List.drop_succ_cons]
      refine ⟨fun p hp => ?_, i2⟩
      rcases List.mem_cons.1 hp with rfl | hp
      · exact f
      · exact i1 p hp
    · have f' : lessB t x.1 k = false := by simpa using f
      have e0 : lrank t k xs = 0 := lrank_none fun p hp => by
        cases hh : lessB t p.1 k with
        | false => rfl
        | true => rw [less_trans (h1 p hp) hh] at f'; cases f'
      have e : lrank t k (x :: xs) = 0 := by simp only [lrank] at e0 ⊢; rw [List.countP_cons, e0, f']; rfl
      rw [e]
      refine ⟨by simp, fun p hp => ?_⟩
      rcases List.mem_cons.1 hp with rfl | hp
      · exact f'
      · exact i2 p (by rw [e0]; exact hp)

theorem at_rank {t : Bool} {k : Int} {xs : Row} (h : Srt t xs) (hs : lsame k xs = true) : ∃ v, xs[lrank t k xs]? = some (k, v) := by
  obtain ⟨h1, h2⟩ := take_below (k := k) h
  rw [lsame, List.any_eq_true] at hs
  obtain ⟨p, hp, e⟩ := hs
  have e' : p.1 = k := by simpa using e
  have hd : p ∈ xs.drop (lrank t k xs) := by
    rcases List.mem_append.1 (by rw [List.take_append_drop]; exact hp : p ∈ xs.take (lrank t k xs) ++ xs.drop (lrank t k xs)) with q | q
    · have := h1 p q; rw [e', less_irr] at this; cases this
    · exact q
  have hlt : lrank t k xs < xs.length := by
    rcases Nat.lt_or_ge (lrank t k xs) xs.length with q | q
    · exact q
    · rw [List.drop_eq_nil_of_le q] at hd; cases hd
  have hsrt : Srt t (xs.drop (lrank t k xs)) := List.Pairwise.sublist (List.drop_sublist _ _) h
  rw [List.drop_eq_getElem_cons hlt] at hd hsrt h2
  simp only [Srt, List.pairwise_cons] at hsrt
  rcases List.mem_cons.1 hd with q | q
  · exact ⟨p.2, by rw [List.getElem?_eq_getElem hlt, ← q, ← e']⟩
  · have a := hsrt.1 p q
    rw [e'] at a
    have b := h2 xs[lrank t k xs] (List.mem_cons.2 (Or.inl rfl))
    rw [a] at b; cases b

theorem srt_insert {t : Bool} {k v : Int} {xs : Row} (h : Srt t xs) (hs : lsame k xs = false) : Srt t (xs.take (lrank t k xs) ++ (k, v) :: xs.drop (lrank t k xs)) := by
  obtain ⟨h1, h2⟩ := take_below (k := k) h
  have hne : ∀ p ∈ xs, p.1 ≠ k := by
    rw [lsame, List.any_eq_false] at hs
    intro p hp; simpa using hs p hp
  rw [Srt, List.pairwise_append, List.pairwise_cons]
  refine ⟨List.Pairwise.sublist (List.take_sublist _ _) h, ⟨fun p hp => ?_, List.Pairwise.sublist (List.drop_sublist _ _) h⟩, fun p hp q hq => ?_⟩
  · exact less_tot (hne p (List.mem_of_mem_drop hp)) (h2 p hp)
  · rcases List.mem_cons.1 hq with rfl | hq
    · exact h1 p hp
    · exact less_trans (h1 p hp) (less_tot (hne q (List.mem_of_mem_drop hq)) (h2 q hq))

theorem srt_set {t : Bool} {k v u : Int} {xs : Row} {i : Nat} (h : Srt t xs) (hi : xs[i]? = some (k, u)) : Srt t (xs.set i (k, v)) := by
  induction xs generalizing i with
  | nil => simp [Srt]
  | cons x xs ih =>
    simp only [Srt, List.pairwise_cons] at h
    cases i with
    | zero =>
      simp at hi
      simp only [List.set_cons_zero, Srt, List.pairwise_cons]
      exact ⟨fun p hp => by have := h.1 p hp; rw [hi] at this; exact this, h.2⟩
    | succ i =>
      simp only [List.getElem?_cons_succ] at hi
      simp only [List.set_cons_succ, Srt, List.pairwise_cons]
      refine ⟨fun p hp => ?_, ih h.2 hi⟩
      rcases List.mem_or_eq_of_mem_set hp with q | q
      · exact h.1 p q
      · have := h.1 (k, u) (List.mem_of_getElem? hi); rw [q]; exact this

/-- Put, as rows go. -/
def lput (t : Bool) (k v : Int) (xs : Row) : Row := if lsame k xs = true then xs.set (lrank t k xs) (k, v) else xs.take (lrank t k xs) ++ (k, v) :: xs.drop (lrank t k xs)

theorem srt_put {t : Bool} {k v : Int} {xs : Row} (h : Srt t xs) : Srt t (lput t k v xs) := by
  unfold lput
  by_cases hs : lsame k xs = true
  · rw [if_pos hs]
    obtain ⟨u, hu⟩ := at_rank h hs
    exact srt_set h hu
  · rw [if_neg hs]
    exact srt_insert h (by simpa using hs)

theorem len_put (t : Bool) (k v : Int) (xs : Row) : (lput t k v xs).length = if lsame k xs = true then xs.length else xs.length + 1 := by
  unfold lput
  by_cases hs : lsame k xs = true
  · rw [if_pos hs, if_pos hs]; simp
  · rw [if_neg hs, if_neg hs]; have := lrank_le t k xs; simp; omega

/-- How many binary digits a number has. -/
def dg (n : Nat) : Nat := if h : n ≤ 1 then 1 else dg (n / 2) + 1
termination_by n
decreasing_by omega

theorem dg_pow (j n : Nat) (h : 2 ^ j ≤ n) : j + 1 ≤ dg n := by
  induction j generalizing n with
  | zero => unfold dg; split <;> omega
  | succ j ih =>
    rw [Nat.pow_succ] at h
    have : 0 < 2 ^ j := Nat.two_pow_pos j
    unfold dg
    rw [dif_neg (by omega)]
    have := ih (n / 2) (by omega)
    omega

theorem avl_size (T : Tr) (h : T.avl) : 2 ^ (T.ht / 2) ≤ T.size + 1 ∧ 2 ^ ((T.ht + 1) / 2) ≤ 2 * (T.size + 1) := by
  induction T with
  | nil => simp [Tr.ht, Tr.size]
  | node b L k v R il ir =>
    obtain ⟨aL, aR, h1, h2⟩ := h
    obtain ⟨l1, l2⟩ := il aL
    obtain ⟨r1, r2⟩ := ir aR
    simp only [Tr.ht, Tr.size]
    have key : 2 ^ ((max L.ht R.ht + 1) / 2) ≤ L.size + R.size + 2 := by
      rcases Nat.le_total L.ht R.ht with c | c
      · rw [Nat.max_eq_right c]
        have e : 2 ^ ((R.ht + 1) / 2) ≤ 2 * 2 ^ (L.ht / 2) := by
          rw [← Nat.pow_succ']
          exact Nat.pow_le_pow_right (by omega) (by omega)
        have e2 : 2 ^ ((R.ht + 1) / 2) ≤ 2 * (R.size + 1) := r2
        omega
      · rw [Nat.max_eq_left c]
        have e : 2 ^ ((L.ht + 1) / 2) ≤ 2 * 2 ^ (R.ht / 2) := by
          rw [← Nat.pow_succ']
          exact Nat.pow_le_pow_right (by omega) (by omega)
        have e2 : 2 ^ ((L.ht + 1) / 2) ≤ 2 * (L.size + 1) := l2
        omega
    refine ⟨by omega, ?_⟩
    have : (max L.ht R.ht + 1 + 1) / 2 ≤ (max L.ht R.ht + 1) / 2 + 1 := by omega
    have := Nat.pow_le_pow_right (n := 2) (by omega) this
    rw [Nat.pow_succ] at this
    omega

theorem cnt_few (f : Int → Int) (T : Tr) (h : T.avl) : T.cnt f ≤ 3 * dg (T.items.length + 1) := by
  rw [Tr.size_items]
  have a := (avl_size T h).1
  have b := dg_pow _ _ a
  have c := T.cnt_le f
  omega

/-- What At answers. -/
def latK (xs : Row) (i : Int) : Int := if 0 ≤ i ∧ i < xs.length then ((xs[i.toNat]?).getD (0, 0)).1 else 0
def latV (xs : Row) (i : Int) : Int := if 0 ≤ i ∧ i < xs.length then ((xs[i.toNat]?).getD (0, 0)).2 else 0
def latB (xs : Row) (i : Int) : Bool := if 0 ≤ i ∧ i < xs.length then true else false

/-- Get's value: 0 where the key is not there. -/
def lget (t : Bool) (k : Int) (xs : Row) : Int := if lsame k xs = true then ((xs[lrank t k xs]?).getD (0, 0)).2 else 0
/-- Put's answer: the value that was; whether; the error. -/
def lerr (k : Int) (xs : Row) : Int := if lsame k xs = true then 0 else if 400 ≤ xs.length then 3 else 0
def lputF (t : Bool) (k v : Int) (xs : Row) : Row := if lerr k xs = 0 then lput t k v xs else xs
/-- Floor's place. -/
def lfloor (t : Bool) (k : Int) (xs : Row) : Int := if lsame k xs = true then lrank t k xs else (lrank t k xs : Int) - 1

/-- Delete, as rows go. -/
def ldel (t : Bool) (k : Int) (xs : Row) : Row := if lsame k xs = true then xs.eraseIdx (lrank t k xs) else xs

theorem srt_del {t : Bool} {k : Int} {xs : Row} (h : Srt t xs) : Srt t (ldel t k xs) := by
  unfold ldel
  split
  · exact List.Pairwise.sublist (List.eraseIdx_sublist _ _) h
  · exact h

theorem len_del (t : Bool) (k : Int) (xs : Row) : (ldel t k xs).length ≤ xs.length := by
  unfold ldel
  split
  · exact List.length_eraseIdx_le _ _
  · exact Nat.le_refl _

end Go.Proofs.YthbnbocpddddmaaGreat
