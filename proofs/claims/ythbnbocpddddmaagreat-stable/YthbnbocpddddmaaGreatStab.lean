/- What Stable asks of rows: plain. -/
import Derived.Test.YthbnbocpddddmaaGreatGone
namespace Go.Proofs.YthbnbocpddddmaaGreat

/-- How many keys are ahead of a place: 0 ahead of all, 1 right ahead of k, 2 right behind k. -/
def pas (t : Bool) (s k : Int) (xs : Row) : Int := if s = 0 then 0 else (lrank t k xs : Int) + (if lsame k xs = true ∧ s = 2 then 1 else 0)

def even (p : Int × Int) : Bool := decide (p.1.tmod 2 = 0)
/-- The even keys. -/
def ev (xs : Row) : Row := xs.filter even
/-- How many even keys are not above L. -/
def cnt (L : Int) (xs : Row) : Nat := (ev xs).countP fun p => decide (p.1 ≤ L)
def rng (xs : Row) : Prop := ∀ p ∈ xs, 0 ≤ p.1 ∧ p.1 ≤ 4000

theorem ev_append (a b : Row) : ev (a ++ b) = ev a ++ ev b := List.filter_append ..
theorem ev_cons (x : Int × Int) (b : Row) : ev (x :: b) = (if even x = true then [x] else []) ++ ev b := by
  unfold ev; rw [List.filter_cons]; split <;> rfl

theorem ev_set {xs : Row} {i : Nat} {k u v : Int} (hi : xs[i]? = some (k, u)) (hk : even (k, v) = false) : ev (xs.set i (k, v)) = ev xs := by
  obtain ⟨hl, he⟩ := List.getElem?_eq_some_iff.1 hi
  have hk' : even (k, u) = false := hk
  have h1 : xs.set i (k, v) = xs.take i ++ (k, v) :: xs.drop (i + 1) := by rw [List.set_eq_take_append_cons_drop, if_pos hl]
  have h2 : xs = xs.take i ++ (k, u) :: xs.drop (i + 1) := by
    conv => lhs; rw [← List.take_append_drop i xs, List.drop_eq_getElem_cons hl, he]
  rw [h1, ev_append, ev_cons, hk]
  conv => rhs; rw [h2, ev_append, ev_cons, hk']
  rfl

theorem ev_put {k v : Int} {xs : Row} (h : Srt false xs) (hk : even (k, v) = false) : ev (lput false k v xs) = ev xs := by
  unfold lput
  by_cases hs : lsame k xs = true
  · rw [if_pos hs]
    obtain ⟨u, hu⟩ := at_rank h hs
    exact ev_set hu hk
  · rw [if_neg hs, ev_append, ev_cons, hk]
    conv => rhs; rw [← List.take_append_drop (lrank false k xs) xs, ev_append]
    rfl

theorem ev_del {k : Int} {xs : Row} (h : Srt false xs) (hk : even (k, 0) = false) : ev (ldel false k xs) = ev xs := by
  unfold ldel
  by_cases hs : lsame k xs = true
  · rw [if_pos hs]
    obtain ⟨u, hu⟩ := at_rank h hs
    obtain ⟨hl, he⟩ := List.getElem?_eq_some_iff.1 hu
    have hk' : even (k, u) = false := hk
    rw [List.eraseIdx_eq_take_drop_succ, ev_append]
    conv => rhs; rw [← List.take_append_drop (lrank false k xs) xs, List.drop_eq_getElem_cons hl, he, ev_append, ev_cons, hk']
    rfl
  · rw [if_neg hs]

theorem rng_put {k v : Int} {xs : Row} (h : rng xs) (h0 : 0 ≤ k) (h1 : k ≤ 4000) : rng (lput false k v xs) := by
  intro p hp
  rcases mem_put hp with rfl | hp
  · exact ⟨h0, h1⟩
  · exact h p hp

theorem rng_del {k : Int} {xs : Row} (h : rng xs) : rng (ldel false k xs) := by
  unfold ldel
  split
  · exact fun p hp => h p (List.mem_of_mem_eraseIdx hp)
  · exact h

theorem cnt_all {L : Int} {xs : Row} (h : ∀ p ∈ xs, p.1 ≤ L) : cnt L xs = (ev xs).length :=
  List.countP_eq_length.2 fun p hp => by simpa using h p (List.mem_filter.1 hp).1
theorem cnt_none {L : Int} {xs : Row} (h : ∀ p ∈ xs, L < p.1) : cnt L xs = 0 :=
  List.countP_eq_zero.2 fun p hp => by have := h p (List.mem_filter.1 hp).1; simp; omega
theorem cnt_append (L : Int) (a b : Row) : cnt L (a ++ b) = cnt L a + cnt L b := by unfold cnt; rw [ev_append, List.countP_append]
theorem cnt_one (L : Int) (x : Int × Int) : cnt L [x] = if even x = true ∧ x.1 ≤ L then 1 else 0 := by
  unfold cnt ev
  by_cases h : even x = true
  · by_cases g : x.1 ≤ L <;> simp [h, g]
  · simp [h]

/-- The row around a place. -/
theorem lrank_cut {L : Int} {xs : Row} (h : Srt false xs) : (∀ p ∈ xs.take (lrank false (L + 1) xs), p.1 ≤ L) ∧ (∀ p ∈ xs.drop (lrank false (L + 1) xs), L < p.1) := by
  obtain ⟨h1, h2⟩ := take_below (k := L + 1) h
  refine ⟨fun p hp => ?_, fun p hp => ?_⟩
  · have := h1 p hp; unfold lessB at this; simp at this; omega
  · have := h2 p hp; unfold lessB at this; simp at this; omega

theorem srt_drop {xs : Row} (h : Srt false xs) {r : Nat} (hr : r < xs.length) : (∀ p ∈ xs.take r, p.1 < (xs[r]).1) ∧ (∀ p ∈ xs.drop (r + 1), (xs[r]).1 < p.1) := by
  have e : xs = xs.take r ++ xs[r] :: xs.drop (r + 1) := by
    conv => lhs; rw [← List.take_append_drop r xs, List.drop_eq_getElem_cons hr]
  rw [e, Srt, List.pairwise_append, List.pairwise_cons] at h
  obtain ⟨_, ⟨h1, _⟩, h2⟩ := h
  refine ⟨fun p hp => ?_, fun p hp => ?_⟩
  · have := h2 p hp xs[r] (List.mem_cons.2 (Or.inl rfl)); unfold lessB at this; simpa using this
  · have := h1 p hp; unfold lessB at this; simpa using this

theorem cnt_split {L : Int} {xs : Row} {r : Nat} (hr : r < xs.length) : cnt L xs = cnt L (xs.take r) + ((if even xs[r] = true ∧ (xs[r]).1 ≤ L then 1 else 0) + cnt L (xs.drop (r + 1))) := by
  have e : xs = xs.take r ++ ([xs[r]] ++ xs.drop (r + 1)) := by
    conv => lhs; rw [← List.take_append_drop r xs, List.drop_eq_getElem_cons hr]
    rfl
  conv => lhs; rw [e, cnt_append, cnt_append, cnt_one]

theorem next_step {L : Int} {xs : Row} (h : Srt false xs) (hc : cnt L xs < (ev xs).length) :
    latB xs (lrank false (L + 1) xs) = true ∧ L < latK xs (lrank false (L + 1) xs) ∧
      cnt (latK xs (lrank false (L + 1) xs)) xs = cnt L xs + (if (latK xs (lrank false (L + 1) xs)).tmod 2 = 0 then 1 else 0) ∧ ∃ p ∈ xs, p.1 = latK xs (lrank false (L + 1) xs) := by
  obtain ⟨h1, h2⟩ := lrank_cut (L := L) h
  have hl := lrank_le false (L + 1) xs
  generalize lrank false (L + 1) xs = r at *
  have hr : r < xs.length := by
    rcases Nat.lt_or_ge r xs.length with q | q
    · exact q
    · rw [List.take_of_length_le q] at h1
      rw [cnt_all h1] at hc
      omega
  have hx := List.getElem?_eq_getElem hr
  obtain ⟨e1, _, e3⟩ := lat_in hx
  rw [e1, e3]
  have hL : L < (xs[r]).1 := h2 _ (by rw [List.drop_eq_getElem_cons hr]; exact List.mem_cons.2 (Or.inl rfl))
  obtain ⟨s1, s2⟩ := srt_drop h hr
  refine ⟨rfl, hL, ?_, xs[r], List.getElem_mem hr, rfl⟩
  rw [cnt_split (L := (xs[r]).1) hr, cnt_split (L := L) hr, cnt_all (L := L) h1, cnt_all (L := (xs[r]).1) fun p hp => by have := s1 p hp; omega,
    cnt_none (L := (xs[r]).1) s2, cnt_none (L := L) fun p hp => by have := s2 p hp; omega, if_neg (c := even xs[r] = true ∧ (xs[r]).1 ≤ L) (by omega)]
  unfold even
  by_cases g : (xs[r]).1.tmod 2 = 0
  · rw [if_pos (by simpa using g), if_pos g]
  · rw [if_neg (by simpa using g), if_neg g]

theorem prev_step {L : Int} {xs : Row} (h : Srt false xs) (hc : 0 < cnt L xs) :
    latB xs ((lrank false (L + 1) xs : Int) - 1) = true ∧ latK xs ((lrank false (L + 1) xs : Int) - 1) ≤ L ∧
      cnt L xs = cnt (latK xs ((lrank false (L + 1) xs : Int) - 1) - 1) xs + (if (latK xs ((lrank false (L + 1) xs : Int) - 1)).tmod 2 = 0 then 1 else 0) ∧ ∃ p ∈ xs, p.1 = latK xs ((lrank false (L + 1) xs : Int) - 1) := by
  obtain ⟨h1, h2⟩ := lrank_cut (L := L) h
  have hl := lrank_le false (L + 1) xs
  generalize lrank false (L + 1) xs = r at *
  have hr : 0 < r := by
    rcases Nat.eq_zero_or_pos r with q | q
    · subst q
      rw [cnt_none (by simpa using h2)] at hc
      omega
    · exact q
  obtain ⟨q, rfl⟩ : ∃ q, r = q + 1 := ⟨r - 1, by omega⟩
  have hq : q < xs.length := by omega
  have hx := List.getElem?_eq_getElem hq
  rw [show ((q + 1 : Nat) : Int) - 1 = (q : Int) by omega]
  obtain ⟨e1, _, e3⟩ := lat_in hx
  rw [e1, e3]
  have hL : (xs[q]).1 ≤ L := h1 _ (List.mem_of_getElem? (i := q) (by rw [List.getElem?_take_of_lt (by omega)]; exact hx))
  obtain ⟨s1, s2⟩ := srt_drop h hq
  refine ⟨rfl, hL, ?_, xs[q], List.getElem_mem hq, rfl⟩
  rw [cnt_split (L := L) hq, cnt_split (L := (xs[q]).1 - 1) hq, cnt_all (L := L) (fun p hp => by have := s1 p hp; omega), cnt_all (L := (xs[q]).1 - 1) fun p hp => by have := s1 p hp; omega,
    cnt_none (L := L) h2, cnt_none (L := (xs[q]).1 - 1) fun p hp => by have := s2 p hp; omega, if_neg (c := even xs[q] = true ∧ (xs[q]).1 ≤ (xs[q]).1 - 1) (by omega)]
  unfold even
  by_cases g : (xs[q]).1.tmod 2 = 0
  · rw [if_pos (by constructor; simpa using g; omega), if_pos g]
  · rw [if_neg (by rintro ⟨a, _⟩; exact g (by simpa using a)), if_neg g]

/-- Where a cursor stands, as the greatest number that it has passed. -/
def Stands (s k L : Int) : Prop := (s = 0 ∧ L = -1) ∨ (s = 2 ∧ k = L) ∨ (s = 1 ∧ k = L + 1)

theorem lrank_up {k : Int} {xs : Row} (h : Srt false xs) : (lrank false k xs : Int) + (if lsame k xs = true then 1 else 0) = lrank false (k + 1) xs := by
  induction xs with
  | nil => rfl
  | cons x xs ih =>
    simp only [Srt, List.pairwise_cons] at h
    have ih := ih h.2
    have e1 : ∀ j, lrank false j (x :: xs) = lrank false j xs + if x.1 < j then 1 else 0 := fun j => by simp [lrank, List.countP_cons, lessB]
    have e2 : lsame k (x :: xs) = (x.1 == k || lsame k xs) := by simp [lsame]
    rw [e1, e1, e2]
    by_cases g : x.1 = k
    · have n : lsame k xs = false := lsame_none fun p hp e => by
        have := h.1 p hp
        unfold lessB at this
        simp at this
        omega
      rw [n] at ih ⊢
      have q : (x.1 == k) = true := by simpa using g
      have a1 : ¬ x.1 < k := by omega
      have a2 : x.1 < k + 1 := by omega
      rw [q]
      simp only [Bool.true_or, if_true, if_neg a1, if_pos a2, Bool.false_eq_true, if_false] at ih ⊢
      omega
    · have q : (x.1 == k) = false := by simpa using g
      rw [q, Bool.false_or]
      by_cases g2 : x.1 < k
      · have a2 : x.1 < k + 1 := by omega
        simp only [if_pos g2, if_pos a2]
        omega
      · have a2 : ¬ x.1 < k + 1 := by omega
        simp only [if_neg g2, if_neg a2]
        omega

theorem pas_eq {s k L : Int} {xs : Row} (h : Srt false xs) (hr : rng xs) (hs : Stands s k L) : pas false s k xs = lrank false (L + 1) xs := by
  unfold pas
  rcases hs with ⟨rfl, rfl⟩ | ⟨rfl, rfl⟩ | ⟨rfl, rfl⟩
  · rw [if_pos rfl, lrank_none fun p hp => by have := (hr p hp).1; unfold lessB; simp; omega]; rfl
  · rw [if_neg (by omega), ← lrank_up h]; simp
  · rw [if_neg (by omega), if_neg (by omega)]; simp

/-- What pick answers. -/
def pkn (c n : Int) : Int := if c < 0 then (-(c + 1)) % n else c % n
theorem pkn_b (c n : Int) (h : 0 < n) : 0 ≤ pkn c n ∧ pkn c n < n := by
  unfold pkn; split
  · exact ⟨Int.emod_nonneg _ (by omega), Int.emod_lt_of_pos _ h⟩
  · exact ⟨Int.emod_nonneg _ (by omega), Int.emod_lt_of_pos _ h⟩

/-- The even numbers made of the first j keys. -/
def evs (ks : List Int) (j : Nat) : List Int := (ks.take j).map fun k => pkn k 1000 * 2
theorem evs_len (ks : List Int) (j : Nat) (h : j ≤ ks.length) : (evs ks j).length = j := by simp [evs]; omega
theorem evs_succ (ks : List Int) (j : Nat) (k : Int) (h : ks[j]? = some k) : evs ks (j + 1) = evs ks j ++ [pkn k 1000 * 2] := by
  unfold evs
  rw [List.take_add_one, h]
  simp
theorem evs_even (ks : List Int) (j : Nat) : ∀ y ∈ evs ks j, 0 ≤ y ∧ y ≤ 2000 ∧ y.tmod 2 = 0 := by
  intro y hy
  obtain ⟨k, _, rfl⟩ := List.mem_map.1 hy
  have := pkn_b k 1000 (by omega)
  refine ⟨by omega, by omega, ?_⟩
  rw [Int.tmod_eq_emod_of_nonneg (by omega)]; omega

theorem row_start (ks : List Int) (j : Nat) : let ys := evs ks j
    ev (rowTo false ys (min ys.length 400)) = rowTo false ys (min ys.length 400) ∧ rng (rowTo false ys (min ys.length 400)) := by
  intro ys
  have hm : ∀ p ∈ rowTo false ys (min ys.length 400), p.1 ∈ ys := fun p hp => by
    obtain ⟨i, _, e⟩ := rowTo_placed false ys (min ys.length 400) (by omega) p hp
    exact List.mem_of_getElem? e
  refine ⟨List.filter_eq_self.2 fun p hp => ?_, fun p hp => ?_⟩
  · have := (evs_even ks j p.1 (hm p hp)).2.2
    simpa [even] using this
  · have := evs_even ks j p.1 (hm p hp)
    exact ⟨this.1, by omega⟩

theorem odd_even (k : Int) (v : Int) : even (pkn k 2000 * 2 + 1, v) = false := by
  have := pkn_b k 2000 (by omega)
  unfold even
  simp only [decide_eq_false_iff_not]
  rw [Int.tmod_eq_emod_of_nonneg (by omega)]; omega

end Go.Proofs.YthbnbocpddddmaaGreat
