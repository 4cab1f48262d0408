/- made, Delete, whole: maps of either engine. -/
import Derived.Test.YthbnbocpddddmaaGreatWMapG
import Derived.Test.YthbnbocpddddmaaGreatWMadeT
import Derived.Test.YthbnbocpddddmaaGreatWMadeK
import Derived.Test.YthbnbocpddddmaaGreatWDelT
import Derived.Test.YthbnbocpddddmaaGreatWDelK
namespace Go.Proofs.YthbnbocpddddmaaGreat
open Go.RowKit

theorem made_anyG (g : Bool) (eng : Int) (t : Bool) (a : Option Addr) (ks : List Int) (cap : Nat) (w : World) (e0 : -9223372036854775808 ≤ eng) (e1 : eng < 9223372036854775808) (hpk : pk eng = engI g) (hks : KeysAt w a ks) (hkl : ks.length < 9223372036854775808) :
    Calls Tryz.prog 32 #[.int .i64 eng, .bool t, .slice a ks.length cap] w fun e w' => ∃ m : Nat, e = .returned (.pointer (some ⟨m, 0, none⟩)) ∧ ∃ (c : Int) (own : Nat → Prop), MapG g w' m t c own (rowTo t ks (min ks.length 400)) ∧ 0 ≤ c ∧ c ≤ 4000000 ∧
      (∀ x, own x → w.heap.size ≤ x) ∧ Fr (fun _ => False) w w' := by
  cases g
  · exact made_anyT eng t a ks cap w e0 e1 hpk hks hkl
  · exact made_anyK eng t a ks cap w e0 e1 hpk hks hkl

theorem pk_eng (c : Int) : ∃ g, pk c = engI g := by
  rcases pk_01 c with h | h
  · exact ⟨false, h⟩
  · exact ⟨true, h⟩

theorem delete_anyG (g : Bool) (m : Nat) (t : Bool) (c : Int) (own : Nat → Prop) (xs : Row) (k : Int) (w : World) (h : MapG g w m t c own xs) (b0 : 0 ≤ c) (b1 : c ≤ 8000000000000000000) (hs : xs.length ≤ 400) :
    Calls Tryz.prog 33 #[.pointer (some ⟨m, 0, none⟩), .int .i64 k] w fun e w' => ∃ (n : Nat) (own' : Nat → Prop), e = .returned (.tuple #[.int .i64 (lget t k xs), .bool (lsame k xs)]) ∧
      MapG g w' m t (c + n) own' (ldel t k xs) ∧ n ≤ 10000 ∧ (∀ x, own' x → own x ∨ w.heap.size ≤ x) ∧ Fr own w w' := by
  cases g
  · exact (delete_anyT m t c own xs k w h b0 b1 hs).mono fun e w' ⟨n, o, q1, q2, q3, q4⟩ => ⟨n, o, q1, q2, Nat.le_trans q3 (few_le hs), q4⟩
  · exact delete_anyK m t c own xs k w h b0 b1 hs

set_option maxRecDepth 100000 in
set_option maxHeartbeats 1000000 in
theorem whole_anyG (ga gb : Bool) (a b : Nat) (t u : Bool) (ca cb : Int) (oa ob : Nat → Prop) (xs : Row) (w : World) (ha : MapG ga w a t ca oa xs) (hb : MapG gb w b u cb ob xs) (hl : xs.length ≤ 400) :
    Calls Tryz.prog 38 #[.pointer (some ⟨a, 0, none⟩), .pointer (some ⟨b, 0, none⟩)] w fun e w' => e = .returned (.bool true) ∧ Fr (fun _ => False) w w' := by
  have hl' : (xs.length : Int) ≤ 400 := by omega
  have hlA := len_anyG ga a t ca oa xs w ha
  have hlB := len_anyG gb b u cb ob xs w hb
  go_enter Tryz.func38, Tryz.ntmps38
  go_wp2_with fail
  refine hlA.mono ?_
  rintro e w1 ⟨rfl, rfl⟩
  go_wp2_with fail
  refine hlB.mono ?_
  rintro e w1 ⟨rfl, rfl⟩
  go_wp2_with fail
  go_loopg [5] xs.length (fun gk s5 wr => ∃ j : Nat, gk + j = xs.length ∧ s5 = .int .i64 j ∧ MapG ga wr a t ca oa xs ∧ MapG gb wr b u cb ob xs ∧ Fr (fun _ => False) w1 wr)
  case atStart => exact ⟨0, by omega, rfl, ha, hb, Fr.refl _ _⟩
  case round =>
    obtain ⟨j, y0, rfl, h2, h3, F⟩ := hrel
    have hlen := len_anyG ga a t ca oa xs wr h2
    have y0' : (j : Int) ≤ 400 := by omega
    have HY : Hid (gk + j = xs.length) := y0
    by_cases hj : j < xs.length
    · have hj1 : (j : Int) < (xs.length : Int) := by omega
      have hA := at_anyG ga a t ca oa xs j wr h2 hl
      have hB := fun w' h' => at_anyG gb b u cb ob xs j w' h' hl
      have hlb : latB xs j = true := by unfold latB; rw [if_pos (by omega)]
      rw [hlb] at hA hB
      generalize latK xs j = K at *
      generalize latV xs j = V at *
      clear hlb y0
      go_wp2_with fail
      refine hlen.mono ?_
      rintro e w2 ⟨rfl, rfl⟩
      go_wp2_with fail
      refine hA.mono ?_
      rintro e w3 ⟨rfl, f3⟩
      have h5 := h3.fr f3 fun _ _ e => e
      have h4 := h2.fr f3 fun _ _ e => e
      have F3 := F.trans f3 fun _ _ e => e
      go_wp2_with fail
      refine (hB _ h5).mono ?_
      rintro e w4 ⟨rfl, f4⟩
      go_wp2_with fail
      go_roundg (gk - 1)
      case measure => have := HY.out; omega
      case rel => exact ⟨j + 1, by have := HY.out; omega, by go_num, h4.fr f4 fun _ _ e => e, h5.fr f4 fun _ _ e => e, F3.trans f4 fun _ _ e => e⟩
    · have hj1 : ¬ (j : Int) < (xs.length : Int) := by omega
      clear y0
      go_wp2_with fail
      refine hlen.mono ?_
      rintro e w2 ⟨rfl, rfl⟩
      go_wp2_with fail
      go_ret
      exact ⟨rfl, F⟩

/-- What Get gives for a key that is there. -/
theorem lget_mem {t : Bool} {zs : Row} (h : Srt t zs) {k v : Int} (hm : (k, v) ∈ zs) : lsame k zs = true ∧ lget t k zs = v := by
  have hs : lsame k zs = true := by unfold lsame; rw [List.any_eq_true]; exact ⟨_, hm, by simp⟩
  refine ⟨hs, ?_⟩
  obtain ⟨u, hu⟩ := at_rank h hs
  unfold lget
  rw [if_pos hs, hu]
  obtain ⟨j, hj⟩ := List.mem_iff_getElem?.1 hm
  by_cases e : lrank t k zs = j
  · subst e
    rw [hu] at hj
    cases hj
    rfl
  · obtain ⟨p1, q1⟩ := List.getElem?_eq_some_iff.1 hu
    obtain ⟨p2, q2⟩ := List.getElem?_eq_some_iff.1 hj
    exfalso
    rcases Nat.lt_or_gt_of_ne e with c | c
    · have := List.pairwise_iff_getElem.1 h _ _ p1 p2 c
      rw [q1, q2, less_irr] at this
      cases this
    · have := List.pairwise_iff_getElem.1 h _ _ p2 p1 c
      rw [q1, q2, less_irr] at this
      cases this

end Go.Proofs.YthbnbocpddddmaaGreat
