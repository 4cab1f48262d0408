/- What Sorted asks of rows: plain. -/
import Derived.Test.YthbnbocpddddmaaGreatRank
namespace Go.Proofs.YthbnbocpddddmaaGreat

/-- Every entry of the row is one of the keys, with its place. -/
def Placed (ks : List Int) (xs : Row) : Prop := ∀ p ∈ xs, ∃ i : Nat, p.2 = i ∧ ks[i]? = some p.1

theorem lsame_iff {k : Int} {xs : Row} : lsame k xs = true ↔ ∃ p ∈ xs, p.1 = k := by
  unfold lsame
  rw [List.any_eq_true]
  exact ⟨fun ⟨p, h, e⟩ => ⟨p, h, by simpa using e⟩, fun ⟨p, h, e⟩ => ⟨p, h, by simpa using e⟩⟩

theorem mem_put {t : Bool} {k v : Int} {xs : Row} {p : Int × Int} (h : p ∈ lput t k v xs) : p = (k, v) ∨ p ∈ xs := by
  unfold lput at h
  split at h
  · rcases List.mem_or_eq_of_mem_set h with h | h
    · exact Or.inr h
    · exact Or.inl h
  · rcases List.mem_append.1 h with h | h
    · exact Or.inr (List.mem_of_mem_take h)
    · rcases List.mem_cons.1 h with h | h
      · exact Or.inl h
      · exact Or.inr (List.mem_of_mem_drop h)

theorem same_put {t : Bool} {k v k' : Int} {xs : Row} (hs : Srt t xs) : lsame k' (lput t k v xs) = true ↔ lsame k' xs = true ∨ k' = k := by
  constructor
  · intro h
    obtain ⟨p, hp, rfl⟩ := lsame_iff.1 h
    rcases mem_put hp with rfl | h
    · exact Or.inr rfl
    · exact Or.inl (lsame_iff.2 ⟨p, h, rfl⟩)
  · intro h
    rw [lsame_iff]
    unfold lput
    split
    · rename_i hk
      obtain ⟨u, hu⟩ := at_rank hs hk
      have hlt := (List.getElem?_eq_some_iff.1 hu).1
      have hkv : (k, v) ∈ xs.set (lrank t k xs) (k, v) := List.mem_iff_getElem?.2 ⟨lrank t k xs, by rw [List.getElem?_set_self hlt]⟩
      rcases h with h | rfl
      · obtain ⟨p, hp, rfl⟩ := lsame_iff.1 h
        obtain ⟨j, hj⟩ := List.mem_iff_getElem?.1 hp
        by_cases e : lrank t k xs = j
        · subst e
          rw [hu] at hj
          cases hj
          exact ⟨_, hkv, rfl⟩
        · exact ⟨p, List.mem_iff_getElem?.2 ⟨j, by rw [List.getElem?_set_ne e]; exact hj⟩, rfl⟩
      · exact ⟨_, hkv, rfl⟩
    · rcases h with h | rfl
      · obtain ⟨p, hp, rfl⟩ := lsame_iff.1 h
        rw [← List.take_append_drop (lrank t k xs) xs] at hp
        rcases List.mem_append.1 hp with hp | hp
        · exact ⟨p, List.mem_append.2 (Or.inl hp), rfl⟩
        · exact ⟨p, List.mem_append.2 (Or.inr (List.mem_cons.2 (Or.inr hp))), rfl⟩
      · exact ⟨_, List.mem_append.2 (Or.inr (List.mem_cons.2 (Or.inl rfl))), rfl⟩

theorem srt_ne {t : Bool} {xs : Row} (hs : Srt t xs) {i j : Nat} {p q : Int × Int} (hi : xs[i]? = some p) (hj : xs[j]? = some q) (ne : i ≠ j) : p.1 ≠ q.1 := by
  obtain ⟨a, rfl⟩ := List.getElem?_eq_some_iff.1 hi
  obtain ⟨b, rfl⟩ := List.getElem?_eq_some_iff.1 hj
  rcases Nat.lt_or_gt_of_ne ne with c | c
  · exact less_ne (List.pairwise_iff_getElem.1 hs i j a b c)
  · exact fun e => less_ne (List.pairwise_iff_getElem.1 hs j i b a c) e.symm

theorem same_del {t : Bool} {k k' : Int} {xs : Row} (hs : Srt t xs) : lsame k' (ldel t k xs) = true ↔ lsame k' xs = true ∧ k' ≠ k := by
  unfold ldel
  split
  · rename_i hk
    obtain ⟨u, hu⟩ := at_rank hs hk
    rw [lsame_iff, lsame_iff]
    constructor
    · rintro ⟨p, hp, rfl⟩
      obtain ⟨j, hj, hp⟩ := List.mem_eraseIdx_iff_getElem?.1 hp
      exact ⟨⟨p, List.mem_iff_getElem?.2 ⟨j, hp⟩, rfl⟩, srt_ne hs hp hu hj⟩
    · rintro ⟨⟨p, hp, rfl⟩, ne⟩
      obtain ⟨j, hj⟩ := List.mem_iff_getElem?.1 hp
      refine ⟨p, List.mem_eraseIdx_iff_getElem?.2 ⟨j, ?_, hj⟩, rfl⟩
      rintro rfl
      rw [hu] at hj
      cases hj
      exact ne rfl
  · rename_i hk
    refine ⟨fun h => ⟨h, ?_⟩, fun h => h.1⟩
    rintro rfl
    exact hk h

theorem mem_del {t : Bool} {k : Int} {xs : Row} {p : Int × Int} (h : p ∈ ldel t k xs) : p ∈ xs := by
  unfold ldel at h
  split at h
  · exact List.mem_of_mem_eraseIdx h
  · exact h

theorem rowTo_placed (t : Bool) (ks : List Int) (j : Nat) (hj : j ≤ ks.length) : Placed ks (rowTo t ks j) := by
  induction j with
  | zero => intro p hp; simp [rowTo] at hp
  | succ j ih =>
    intro p hp
    rcases mem_put (t := t) hp with rfl | h
    · refine ⟨j, rfl, ?_⟩
      simp [List.getElem?_eq_getElem (show j < ks.length by omega)]
    · exact ih (by omega) p h

theorem rowTo_same (t : Bool) (ks : List Int) (k : Int) (j : Nat) (hj : j ≤ ks.length) : lsame k (rowTo t ks j) = true ↔ k ∈ ks.take j := by
  induction j with
  | zero => simp [rowTo, lsame]
  | succ j ih =>
    simp only [rowTo]
    rw [same_put (rowTo_srt t ks j), ih (by omega), List.take_succ_eq_append_getElem (show j < ks.length by omega), List.mem_append, List.mem_singleton]
    simp [List.getElem?_eq_getElem (show j < ks.length by omega)]

/-- The row after j of the keys qs were taken away. -/
def delTo (t : Bool) (xs : Row) (qs : List Int) : Nat → Row
  | 0 => xs
  | j + 1 => ldel t (qs.getD j 0) (delTo t xs qs j)

theorem delTo_srt {t : Bool} {xs : Row} (qs : List Int) (h : Srt t xs) (j : Nat) : Srt t (delTo t xs qs j) := by
  induction j with
  | zero => exact h
  | succ j ih => exact srt_del ih

theorem delTo_len {t : Bool} {xs : Row} (qs : List Int) (h : xs.length ≤ 400) (j : Nat) : (delTo t xs qs j).length ≤ 400 := by
  induction j with
  | zero => exact h
  | succ j ih => exact Nat.le_trans (len_del _ _ _) ih

theorem delTo_placed {t : Bool} {ks : List Int} {xs : Row} (qs : List Int) (h : Placed ks xs) (j : Nat) : Placed ks (delTo t xs qs j) := by
  induction j with
  | zero => exact h
  | succ j ih => exact fun p hp => ih p (mem_del hp)

theorem delTo_same {t : Bool} {xs : Row} (qs : List Int) (h : Srt t xs) (k : Int) (j : Nat) (hj : j ≤ qs.length) : lsame k (delTo t xs qs j) = true ↔ lsame k xs = true ∧ k ∉ qs.take j := by
  induction j with
  | zero => simp [delTo]
  | succ j ih =>
    simp only [delTo]
    rw [same_del (delTo_srt qs h j), ih (by omega), List.take_succ_eq_append_getElem (show j < qs.length by omega), List.mem_append, List.mem_singleton]
    simp only [List.getD_eq_getElem?_getD, List.getElem?_eq_getElem (show j < qs.length by omega), Option.getD_some, not_or, and_assoc]

/-- What Delete gives is the key's place. -/
theorem get_placed {t : Bool} {ks : List Int} {xs : Row} {k : Int} (hp : Placed ks xs) (hs : Srt t xs) (h : lsame k xs = true) : ∃ i : Nat, lget t k xs = i ∧ ks[i]? = some k := by
  obtain ⟨u, hu⟩ := at_rank hs h
  obtain ⟨i, e, hi⟩ := hp _ (List.mem_iff_getElem?.2 ⟨_, hu⟩)
  exact ⟨i, by unfold lget; rw [if_pos h, hu]; exact e, hi⟩

theorem at_placed {ks : List Int} {xs : Row} (hp : Placed ks xs) (j : Nat) (h : j < xs.length) : latB xs j = true ∧ ∃ i : Nat, latV xs j = i ∧ ks[i]? = some (latK xs j) := by
  have hj := List.getElem?_eq_getElem h
  obtain ⟨e1, e2, e3⟩ := lat_in hj
  obtain ⟨i, e, hi⟩ := hp _ (List.getElem_mem h)
  exact ⟨e3, i, by rw [e2]; exact e, by rw [e1]; exact hi⟩

theorem at_rises {t : Bool} {xs : Row} (hs : Srt t xs) (j : Nat) (h : j + 1 < xs.length) : lessB t (latK xs j) (latK xs (j + 1 : Nat)) = true := by
  rw [(lat_in (List.getElem?_eq_getElem (show j < xs.length by omega))).1, (lat_in (List.getElem?_eq_getElem h)).1]
  exact List.pairwise_iff_getElem.1 hs j (j + 1) (by omega) h (by omega)

/-- Is k among the first j of qs? -/
def inTo (k : Int) (qs : List Int) (j : Nat) : Bool := (qs.take j).any (· == k)

theorem inTo_zero (k : Int) (qs : List Int) : inTo k qs 0 = false := rfl
theorem inTo_succ (k : Int) (qs : List Int) (j : Nat) (q : Int) (h : qs[j]? = some q) : inTo k qs (j + 1) = (inTo k qs j || q == k) := by
  obtain ⟨a, rfl⟩ := List.getElem?_eq_some_iff.1 h
  unfold inTo
  rw [List.take_succ_eq_append_getElem a, List.any_append]
  simp
theorem inTo_all (k : Int) (qs : List Int) : inTo k qs qs.length = true ↔ k ∈ qs := by
  unfold inTo
  rw [List.take_length, List.any_eq_true]
  exact ⟨fun ⟨x, h, e⟩ => by rw [← eq_of_beq e]; exact h, fun h => ⟨k, h, by simp⟩⟩

theorem left_in {t : Bool} {ks qs : List Int} {n j : Nat} {k : Int} (hn : n ≤ ks.length) (hj : j < n) (hk : ks[j]? = some k) : lsame k (delTo t (rowTo t ks n) qs qs.length) = !inTo k qs qs.length := by
  have h1 : lsame k (rowTo t ks n) = true := (rowTo_same t ks k n hn).2 (List.mem_iff_getElem?.2 ⟨j, by rw [List.getElem?_take_of_lt hj]; exact hk⟩)
  have h2 := delTo_same qs (rowTo_srt t ks n) k qs.length (Nat.le_refl _)
  rw [List.take_length] at h2
  have h3 := inTo_all k qs
  cases e : inTo k qs qs.length with
  | true =>
    cases d : lsame k (delTo t (rowTo t ks n) qs qs.length) with
    | true => exact absurd (h3.1 e) (h2.1 d).2
    | false => rfl
  | false =>
    refine h2.2 ⟨h1, fun h => ?_⟩
    rw [h3.2 h] at e
    cases e

end Go.Proofs.YthbnbocpddddmaaGreat
