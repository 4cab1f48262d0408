/- Two sorted rows side by side: plain. -/
import Derived.Test.YthbnbocpddddmaaGreatRank
namespace Go.Proofs.YthbnbocpddddmaaGreat

/-- The items of a row that another one has, or has not. -/
def lboth (ys : Row) (has : Bool) (xs : Row) : Row := xs.filter fun p => lsame p.1 ys == has

/-- A key that one of two rows has, or both, with its values there. -/
structure Hd where
  k : Int
  v : Int
  u : Int
  a : Bool
  b : Bool

def hA (x : Int × Int) : Hd := ⟨x.1, x.2, 0, true, false⟩
def hB (y : Int × Int) : Hd := ⟨y.1, 0, y.2, false, true⟩
def hAB (x y : Int × Int) : Hd := ⟨x.1, x.2, y.2, true, true⟩

/-- All keys of two rows, rising; so many rounds at most. -/
def lmet (t : Bool) : Nat → Row → Row → List Hd
  | 0, _, _ => []
  | n + 1, xs, ys => match xs, ys with
    | [], [] => []
    | x :: xs, [] => hA x :: lmet t n xs []
    | [], y :: ys => hB y :: lmet t n [] ys
    | x :: xs, y :: ys => if x.1 = y.1 then hAB x y :: lmet t n xs ys else if lessB t x.1 y.1 = true then hA x :: lmet t n xs (y :: ys) else hB y :: lmet t n (x :: xs) ys

theorem lmet_len (t : Bool) (n : Nat) (xs ys : Row) : (lmet t n xs ys).length ≤ xs.length + ys.length := by
  induction n generalizing xs ys with
  | zero => simp [lmet]
  | succ n ih =>
    cases xs with
    | nil => cases ys with
      | nil => simp [lmet]
      | cons y ys => have := ih [] ys; simp only [lmet, List.length_cons, List.length_nil] at *; omega
    | cons x xs => cases ys with
      | nil => have := ih xs []; simp only [lmet, List.length_cons, List.length_nil] at *; omega
      | cons y ys =>
        simp only [lmet]
        split
        · have := ih xs ys; simp only [List.length_cons] at *; omega
        · split
          · have := ih xs (y :: ys); simp only [List.length_cons] at *; omega
          · have := ih (x :: xs) ys; simp only [List.length_cons] at *; omega

/-- What Common and Without keep of it. -/
def hkeep (too : Bool) (h : Hd) : Option (Int × Int) := if h.a = true ∧ h.b = too then some (h.k, h.v) else none

theorem lboth_skip {y : Int × Int} {ys xs : Row} {has : Bool} (h : ∀ p ∈ xs, p.1 ≠ y.1) : lboth (y :: ys) has xs = lboth ys has xs := by
  unfold lboth
  apply List.filter_congr
  intro p hp
  have := h p hp
  simp only [lsame, List.any_cons]
  rw [show (y.1 == p.1) = false by simpa using Ne.symm this]
  rfl

theorem lsame_cons (k : Int) (y : Int × Int) (ys : Row) : lsame k (y :: ys) = (y.1 == k || lsame k ys) := rfl

theorem lmet_keep {t : Bool} (too : Bool) (n : Nat) (xs ys : Row) (hx : Srt t xs) (hy : Srt t ys) (hn : xs.length + ys.length ≤ n) : (lmet t n xs ys).filterMap (hkeep too) = lboth ys too xs := by
  induction n generalizing xs ys with
  | zero =>
    have : xs = [] := List.eq_nil_of_length_eq_zero (by omega)
    subst this
    simp [lmet, lboth]
  | succ n ih =>
    cases xs with
    | nil => cases ys with
      | nil => simp [lmet, lboth]
      | cons y ys =>
        simp only [List.length_cons, List.length_nil] at hn
        have := ih [] ys hx (List.Pairwise.of_cons hy) (by simp; omega)
        simp only [lmet]
        rw [List.filterMap_cons_none (by simp [hkeep, hB]), this]
        simp [lboth]
    | cons x xs => cases ys with
      | nil =>
        simp only [List.length_cons, List.length_nil] at hn
        have := ih xs [] (List.Pairwise.of_cons hx) hy (by simp; omega)
        simp only [lmet]
        cases too
        · rw [List.filterMap_cons_some (b := x) (by simp [hkeep, hA]), this]
          simp [lboth, lsame]
        · rw [List.filterMap_cons_none (by simp [hkeep, hA]), this]
          simp [lboth, lsame]
      | cons y ys =>
        simp only [List.length_cons] at hn
        have sx : ∀ {p}, p ∈ xs → lessB t x.1 p.1 = true := fun h => List.rel_of_pairwise_cons hx h
        have sy : ∀ {p}, p ∈ ys → lessB t y.1 p.1 = true := fun h => List.rel_of_pairwise_cons hy h
        simp only [lmet]
        by_cases e : x.1 = y.1
        · rw [if_pos e]
          have := ih xs ys (List.Pairwise.of_cons hx) (List.Pairwise.of_cons hy) (by omega)
          have sk : lboth (y :: ys) too xs = lboth ys too xs := lboth_skip fun p hp => by rw [← e]; exact (less_ne (sx hp)).symm
          have l1 : lboth (y :: ys) too (x :: xs) = (if too = true then [x] else []) ++ lboth (y :: ys) too xs := by
            unfold lboth
            rw [List.filter_cons, lsame_cons, e]
            cases too <;> simp
          rw [l1, sk]
          cases too
          · rw [List.filterMap_cons_none (by simp [hkeep, hAB]), this]; rfl
          · rw [List.filterMap_cons_some (b := x) (by simp [hkeep, hAB]), this]; rfl
        · rw [if_neg e]
          by_cases f : lessB t x.1 y.1 = true
          · rw [if_pos f]
            have := ih xs (y :: ys) (List.Pairwise.of_cons hx) hy (by simp; omega)
            have ns : lsame x.1 (y :: ys) = false := lsame_none fun p hp => by
              rcases List.mem_cons.1 hp with rfl | hp
              · exact Ne.symm e
              · exact (less_ne (less_trans f (sy hp))).symm
            have l1 : lboth (y :: ys) too (x :: xs) = (if too = true then [] else [x]) ++ lboth (y :: ys) too xs := by
              unfold lboth
              rw [List.filter_cons, ns]
              cases too <;> simp
            rw [l1]
            cases too
            · rw [List.filterMap_cons_some (b := x) (by simp [hkeep, hA]), this]; rfl
            · rw [List.filterMap_cons_none (by simp [hkeep, hA]), this]; rfl
          · rw [if_neg f]
            have g : lessB t y.1 x.1 = true := less_tot e (by simpa using f)
            have := ih (x :: xs) ys hx (List.Pairwise.of_cons hy) (by simp; omega)
            rw [List.filterMap_cons_none (by simp [hkeep, hB]), this]
            refine (lboth_skip fun p hp => ?_).symm
            rcases List.mem_cons.1 hp with rfl | hp
            · exact e
            · exact (less_ne (less_trans g (sx hp))).symm

theorem lboth_srt {t : Bool} {ys xs : Row} {has : Bool} (h : Srt t xs) : Srt t (lboth ys has xs) := List.Pairwise.sublist List.filter_sublist h
theorem lboth_le (ys : Row) (has : Bool) (xs : Row) : (lboth ys has xs).length ≤ xs.length := List.length_filter_le ..

/-- A row that stands whole below another one. -/
theorem lmet_below {t : Bool} (n : Nat) (xs ys : Row) (h : ∀ p ∈ xs, ∀ q ∈ ys, lessB t p.1 q.1 = true) (hn : xs.length + ys.length ≤ n) : lmet t n xs ys = xs.map hA ++ ys.map hB := by
  induction n generalizing xs ys with
  | zero =>
    have h1 : xs = [] := List.eq_nil_of_length_eq_zero (by omega)
    have h2 : ys = [] := List.eq_nil_of_length_eq_zero (by omega)
    subst h1; subst h2
    rfl
  | succ n ih =>
    cases xs with
    | nil => cases ys with
      | nil => rfl
      | cons y ys =>
        simp only [List.length_cons, List.length_nil] at hn
        simp only [lmet]
        rw [ih [] ys (fun p hp => by cases hp) (by simp; omega)]
        rfl
    | cons x xs => cases ys with
      | nil =>
        simp only [List.length_cons, List.length_nil] at hn
        simp only [lmet]
        rw [ih xs [] (fun p _ q hq => by cases hq) (by simp; omega)]
        rfl
      | cons y ys =>
        simp only [List.length_cons] at hn
        have f := h x (List.mem_cons.2 (Or.inl rfl)) y (List.mem_cons.2 (Or.inl rfl))
        simp only [lmet]
        rw [if_neg (less_ne f), if_pos f, ih xs (y :: ys) (fun p hp q hq => h p (List.mem_cons.2 (Or.inr hp)) q hq) (by simp; omega)]
        rfl

/-- A row with itself. -/
theorem lmet_self (t : Bool) (n : Nat) (xs : Row) (hn : xs.length + xs.length ≤ n) : lmet t n xs xs = xs.map fun p => hAB p p := by
  induction n generalizing xs with
  | zero =>
    have h1 : xs = [] := List.eq_nil_of_length_eq_zero (by omega)
    subst h1
    rfl
  | succ n ih =>
    cases xs with
    | nil => rfl
    | cons x xs =>
      simp only [List.length_cons] at hn
      simp only [lmet]
      rw [if_pos trivial, ih xs (by omega)]
      rfl

/-- What Merge makes of it. -/
def hmer (g : Int → Int → Int) (h : Hd) : Int × Int := (h.k, if h.a = false then h.u else if h.b = false then h.v else g h.v h.u)

theorem mer_below (g : Int → Int → Int) (xs ys : Row) : (xs.map hA ++ ys.map hB).map (hmer g) = xs ++ ys := by
  rw [List.map_append, List.map_map, List.map_map]
  have e1 : (hmer g ∘ hA) = id := by funext p; rfl
  have e2 : (hmer g ∘ hB) = id := by funext p; rfl
  rw [e1, e2, List.map_id, List.map_id]

theorem mer_self (g : Int → Int → Int) (xs : Row) : (xs.map fun p => hAB p p).map (hmer g) = xs.map fun p => (p.1, g p.2 p.2) := by
  rw [List.map_map]; rfl

theorem srt_map {t : Bool} {xs : Row} (f : Int × Int → Int × Int) (hf : ∀ p, (f p).1 = p.1) (h : Srt t xs) : Srt t (xs.map f) := by
  unfold Srt at h ⊢
  rw [List.pairwise_map]
  exact h.imp fun {p q} e => by rw [hf, hf]; exact e

/-- How the next keys stand to each other, as 'side' tells it; what 'next' gives. -/
def msid (t : Bool) (xs ys : Row) : Int := match xs, ys with
  | [], _ => 1
  | _ :: _, [] => -1
  | x :: _, y :: _ => side t x.1 y.1

def mhd (t : Bool) (xs ys : Row) : Hd := match xs, ys with
  | [], [] => ⟨0, 0, 0, false, false⟩
  | [], y :: _ => hB y
  | x :: _, [] => hA x
  | x :: _, y :: _ => if x.1 = y.1 then hAB x y else if lessB t x.1 y.1 = true then hA x else hB y

theorem lmet_step (t : Bool) (n : Nat) (xs ys : Row) (h : 0 < xs.length + ys.length) : lmet t (n + 1) xs ys = mhd t xs ys :: lmet t n (if msid t xs ys ≤ 0 then xs.drop 1 else xs) (if 0 ≤ msid t xs ys then ys.drop 1 else ys) := by
  cases xs with
  | nil => cases ys with
    | nil => simp at h
    | cons y ys => simp [lmet, mhd, msid]
  | cons x xs => cases ys with
    | nil => simp [lmet, mhd, msid]
    | cons y ys =>
      have em : msid t (x :: xs) (y :: ys) = side t x.1 y.1 := rfl
      simp only [lmet, mhd]
      by_cases e : x.1 = y.1
      · have := (side_zero (t := t)).2 e
        rw [if_pos e, if_pos e, if_pos (by omega), if_pos (by omega)]; simp
      · rw [if_neg e, if_neg e]
        by_cases f : lessB t x.1 y.1 = true
        · have := (side_neg (t := t)).2 f
          rw [if_pos f, if_pos f, if_pos (by omega), if_neg (by omega)]; simp
        · have h1 : ¬ side t x.1 y.1 < 0 := fun h => f (side_neg.1 h)
          have h2 : side t x.1 y.1 ≠ 0 := fun h => e (side_zero.1 h)
          rw [if_neg f, if_neg f, if_neg (by omega), if_pos (by omega)]; simp

end Go.Proofs.YthbnbocpddddmaaGreat
