/- Ranks and neighbours in a sorted row: plain. -/
import Derived.Test.YthbnbocpddddmaaGreatKeys
namespace Go.Proofs.YthbnbocpddddmaaGreat

theorem lat_in {xs : Row} {i : Nat} {p : Int × Int} (h : xs[i]? = some p) : latK xs i = p.1 ∧ latV xs i = p.2 ∧ latB xs i = true := by
  have hl := (List.getElem?_eq_some_iff.1 h).1
  unfold latK latV latB
  rw [if_pos (by omega), if_pos (by omega), if_pos (by omega), Int.toNat_natCast, h]
  exact ⟨rfl, rfl, rfl⟩

theorem latB_lt {xs : Row} {i : Int} (h0 : 0 ≤ i) (h : i < xs.length) : latB xs i = true := by unfold latB; rw [if_pos ⟨h0, h⟩]
theorem latB_ge {xs : Row} {i : Int} (h : i < 0 ∨ (xs.length : Int) ≤ i) : latB xs i = false := by unfold latB; rw [if_neg (by omega)]

theorem same_rank {t : Bool} {k : Int} {xs : Row} (h : Srt t xs) (hs : lsame k xs = true) : lrank t k xs < xs.length ∧ latK xs (lrank t k xs) = k := by
  obtain ⟨v, hv⟩ := at_rank h hs
  exact ⟨(List.getElem?_eq_some_iff.1 hv).1, (lat_in hv).1⟩

theorem before_rank {t : Bool} {k : Int} {xs : Row} (h : Srt t xs) (hp : 0 < lrank t k xs) : lessB t (latK xs ((lrank t k xs : Int) - 1)) k = true := by
  have hl := lrank_le t k xs
  obtain ⟨p, hp'⟩ : ∃ p, xs[lrank t k xs - 1]? = some p := ⟨_, List.getElem?_eq_getElem (by omega)⟩
  have e : (lrank t k xs : Int) - 1 = ((lrank t k xs - 1 : Nat) : Int) := by omega
  rw [e, (lat_in hp').1]
  refine (take_below h).1 p (List.mem_of_getElem? (i := lrank t k xs - 1) ?_)
  rw [List.getElem?_take_of_lt (by omega)]; exact hp'

theorem next_rank {t : Bool} {k : Int} {xs : Row} (h : Srt t xs) (hs : lsame k xs = false) (hp : lrank t k xs < xs.length) : lessB t k (latK xs (lrank t k xs)) = true := by
  obtain ⟨p, hp'⟩ : ∃ p, xs[lrank t k xs]? = some p := ⟨_, List.getElem?_eq_getElem hp⟩
  rw [(lat_in hp').1]
  have hd : p ∈ xs.drop (lrank t k xs) := List.mem_of_getElem? (i := 0) (by rw [List.getElem?_drop]; simpa using hp')
  have hne : p.1 ≠ k := by
    rw [lsame, List.any_eq_false] at hs
    simpa using hs p (List.mem_of_getElem? hp')
  exact less_tot hne ((take_below h).2 p hd)

end Go.Proofs.YthbnbocpddddmaaGreat
