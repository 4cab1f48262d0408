/- Ranked, over one engine: the walk. -/
import Derived.Test.YthbnbocpddddmaaWMadeK
import Derived.Test.YthbnbocpddddmaaRank
import Derived.Test.YthbnbocpddddmaaWLess
namespace Go.Proofs.Ythbnbocpddddmaa
open Go.RowKit

set_option maxRecDepth 100000 in
set_option maxHeartbeats 4000000 in
theorem ranked_anyK (eng : Int) (t : Bool) (a : Option Addr) (ks : List Int) (cap : Nat) (k : Int) (w : World) (e0 : -9223372036854775808 ≤ eng) (e1 : eng < 9223372036854775808) (hpk : pk eng = 1) (hks : KeysAt w a ks) (hkl : ks.length < 9223372036854775808) :
    Calls Try.prog 7 #[.int .i64 eng, .bool t, .slice a ks.length cap, .int .i64 k] w fun e w' => e = .returned (.bool true) ∧ Fr (fun _ => False) w w' := by
  have hmade := made_anyK eng t a ks cap w e0 e1 hpk hks hkl
  have hL : (rowTo t ks (min ks.length 400)).length ≤ 400 := Nat.le_trans (rowTo_len _ _ _) (by omega)
  have hsr := rowTo_srt t ks (min ks.length 400)
  generalize rowTo t ks (min ks.length 400) = xs at *
  clear hks hkl hpk e0 e1
  have hrl := lrank_le t k xs
  have q1 := fun h => same_rank (k := k) hsr h
  have q2 := fun h => before_rank (k := k) hsr h
  have q3 := fun h h' => next_rank (k := k) hsr h h'
  have q4 : (lrank t k xs : Int) < (xs.length : Int) → latB xs (lrank t k xs) = true := fun h => latB_lt (by omega) h
  have q5 : (xs.length : Int) ≤ (lrank t k xs : Int) → latB xs (lrank t k xs) = false := fun h => latB_ge (Or.inr h)
  have q6 : 0 < (lrank t k xs : Int) → latB xs ((lrank t k xs : Int) - 1) = true := fun h => latB_lt (by omega) (by omega)
  have q7 : (lrank t k xs : Int) = 0 → latB xs ((lrank t k xs : Int) - 1) = false := fun h => latB_ge (Or.inl (by omega))
  have qf : lfloor t k xs = if lsame k xs = true then (lrank t k xs : Int) else (lrank t k xs : Int) - 1 := rfl
  have g1 := fun m own c (c0 : 0 ≤ c) (c1 : c ≤ 100000000) w' h => get_anyK m t c own xs k w' h c0 (by omega) (by omega)
  have g2 := fun m own c (c0 : 0 ≤ c) (c1 : c ≤ 100000000) w' h => rank_anyK m t c own xs k w' h c0 (by omega) (by omega)
  have g3 := fun m own c (c0 : 0 ≤ c) (c1 : c ≤ 100000000) w' h => floor_anyK m t c own xs k w' h c0 (by omega) (by omega)
  have g4 := fun m own c (c0 : 0 ≤ c) (c1 : c ≤ 100000000) w' h => ceiling_anyK m t c own xs k w' h c0 (by omega) (by omega)
  have g6 := fun m own c w' h i => at_anyK m t c own xs i w' h (by omega)
  have g7 := fun m own c w' h => len_anyK m t c own xs w' h
  rw [qf] at g3
  clear qf hsr
  have hB : (10000 : Nat) < 10001 := Nat.lt_succ_self _
  obtain ⟨L, eL⟩ : ∃ L : Int, L = (xs.length : Int) := ⟨_, rfl⟩
  obtain ⟨r, er⟩ : ∃ r : Int, r = (lrank t k xs : Int) := ⟨_, rfl⟩
  have hr0 : 0 ≤ r := by omega
  have hrL : r ≤ L := by omega
  have hL4 : L ≤ 400 := by omega
  have q1' : lsame k xs = true → r < L ∧ latK xs r = k := fun h => ⟨by have := (q1 h).1; omega, by rw [er]; exact (q1 h).2⟩
  have q2' : 0 < r → lessB t (latK xs (r - 1)) k = true := fun h => by rw [er]; exact q2 (by omega)
  have q3' : lsame k xs = false → r < L → lessB t k (latK xs r) = true := fun h h' => by rw [er]; exact q3 h (by omega)
  rw [← er, ← eL] at q4 q5
  rw [← er] at q6 q7 g2 g3 g4
  rw [← eL] at g7
  clear q1 q2 q3 hrl er eL hL
  obtain ⟨NN, hNN⟩ : ∃ NN : Nat, NN = 10000 := ⟨_, rfl⟩
  rw [← hNN] at g1 g2 g3 g4 hB
  clear hNN
  generalize lget t k xs = gv at *
  have a1 := fun m own c w' h => g6 m own c w' h r
  have a2 := fun m own c w' h => g6 m own c w' h (r - 1)
  clear g6
  cases hs : lsame k xs with
  | true =>
    obtain ⟨hlt, hx⟩ := q1' hs
    have ok := q4 hlt
    rw [hs] at g1 g3
    simp only [if_true] at g3
    rw [hx, ok] at a1 g3 g4
    clear hs q1' q3' q4 q5 hx ok
    by_cases hp : 0 < r
    · have be := q6 hp
      have le := q2' hp
      rw [be] at a2
      clear q6 q7 q2' be
      generalize latK xs (r - 1) = Y at *
      generalize latV xs r = v1 at *
      generalize latV xs (r - 1) = v2 at *
      go_enter Try.func7, Try.ntmps7
      go_wp2_with fail
      refine hmade.mono ?_
      rintro e w1 ⟨m, rfl, c, own, hM, c0, c1, hown, F1⟩
      have om : own m := (hM.choose_spec.choose_spec.2.2.2.1 m).2 (Or.inl rfl)
      have nw := hown m om
      go_wp2_with fail
      refine (g2 m own c c0 (by omega) _ hM).mono ?_
      rintro e w2 ⟨n2, rfl, h2, b2, _, f2⟩
      have F2 : Fr (fun _ => False) w w2 := F1.trans f2 fun x h e => by omega
      clear hM F1 f2
      go_wp2_with fail
      refine (g1 m own _ (by omega) (by omega) _ h2).mono ?_
      rintro e w3 ⟨n3, rfl, h3, b3, _, f3⟩
      have F3 : Fr (fun _ => False) w w3 := F2.trans f3 fun x h e => by omega
      clear h2 F2 f3
      go_wp2_with fail
      refine (a1 m own _ _ h3).mono ?_
      rintro e w4 ⟨rfl, f4⟩
      have F4 : Fr (fun _ => False) w w4 := F3.trans f4 fun x h e => e
      have h4 := h3.fr f4 fun _ _ e => e
      clear h3 F3 f4
      go_wp2_with fail
      refine (a2 m own _ _ h4).mono ?_
      rintro e w5 ⟨rfl, f5⟩
      have F5 : Fr (fun _ => False) w w5 := F4.trans f5 fun x h e => e
      have h5 := h4.fr f5 fun _ _ e => e
      clear h4 F4 f5
      go_wp2_with fail
      refine (g3 m own _ (by omega) (by omega) _ h5).mono ?_
      rintro e w6 ⟨n6, rfl, h6, b6, _, f6⟩
      have F6 : Fr (fun _ => False) w w6 := F5.trans f6 fun x h e => by omega
      clear h5 F5 f6
      go_wp2_with fail
      refine (g4 m own _ (by omega) (by omega) _ h6).mono ?_
      rintro e w7 ⟨n7, rfl, h7, b7, _, f7⟩
      have F7 : Fr (fun _ => False) w w7 := F6.trans f7 fun x h e => by omega
      clear h6 F6 f7 hown om nw g1 g2 g3 g4 a1 a2 hmade
      go_wp2_with fail
      refine (g7 m own _ _ h7).mono ?_
      rintro e w8 ⟨rfl, rfl⟩
      go_wp2_with fail
      refine (g7 m own _ _ h7).mono ?_
      rintro e w9 ⟨rfl, rfl⟩
      go_wp2_with fail
      refine (less_any _ _ _ _).mono ?_
      rintro e w10 ⟨rfl, rfl⟩
      rw [le]
      go_wp2_with fail
      go_ret
      exact ⟨rfl, F7⟩
    · have be := q7 (by omega)
      rw [be] at a2
      clear q6 q7 q2' be
      generalize latK xs (r - 1) = Y at *
      generalize latV xs r = v1 at *
      generalize latV xs (r - 1) = v2 at *
      go_enter Try.func7, Try.ntmps7
      go_wp2_with fail
      refine hmade.mono ?_
      rintro e w1 ⟨m, rfl, c, own, hM, c0, c1, hown, F1⟩
      have om : own m := (hM.choose_spec.choose_spec.2.2.2.1 m).2 (Or.inl rfl)
      have nw := hown m om
      go_wp2_with fail
      refine (g2 m own c c0 (by omega) _ hM).mono ?_
      rintro e w2 ⟨n2, rfl, h2, b2, _, f2⟩
      have F2 : Fr (fun _ => False) w w2 := F1.trans f2 fun x h e => by omega
      clear hM F1 f2
      go_wp2_with fail
      refine (g1 m own _ (by omega) (by omega) _ h2).mono ?_
      rintro e w3 ⟨n3, rfl, h3, b3, _, f3⟩
      have F3 : Fr (fun _ => False) w w3 := F2.trans f3 fun x h e => by omega
      clear h2 F2 f3
      go_wp2_with fail
      refine (a1 m own _ _ h3).mono ?_
      rintro e w4 ⟨rfl, f4⟩
      have F4 : Fr (fun _ => False) w w4 := F3.trans f4 fun x h e => e
      have h4 := h3.fr f4 fun _ _ e => e
      clear h3 F3 f4
      go_wp2_with fail
      refine (a2 m own _ _ h4).mono ?_
      rintro e w5 ⟨rfl, f5⟩
      have F5 : Fr (fun _ => False) w w5 := F4.trans f5 fun x h e => e
      have h5 := h4.fr f5 fun _ _ e => e
      clear h4 F4 f5
      go_wp2_with fail
      refine (g3 m own _ (by omega) (by omega) _ h5).mono ?_
      rintro e w6 ⟨n6, rfl, h6, b6, _, f6⟩
      have F6 : Fr (fun _ => False) w w6 := F5.trans f6 fun x h e => by omega
      clear h5 F5 f6
      go_wp2_with fail
      refine (g4 m own _ (by omega) (by omega) _ h6).mono ?_
      rintro e w7 ⟨n7, rfl, h7, b7, _, f7⟩
      have F7 : Fr (fun _ => False) w w7 := F6.trans f7 fun x h e => by omega
      clear h6 F6 f7 hown om nw g1 g2 g3 g4 a1 a2 hmade
      go_wp2_with fail
      refine (g7 m own _ _ h7).mono ?_
      rintro e w8 ⟨rfl, rfl⟩
      go_wp2_with fail
      refine (g7 m own _ _ h7).mono ?_
      rintro e w9 ⟨rfl, rfl⟩
      go_wp2_with fail
      go_ret
      exact ⟨rfl, F7⟩
  | false =>
    rw [hs] at g1 g3
    simp only [Bool.false_eq_true, if_false] at g3
    by_cases hlt : r < L
    · have ok := q4 hlt
      have lx := q3' hs hlt
      rw [ok] at a1 g4
      clear hs q1' q3' q4 q5 ok
      by_cases hp : 0 < r
      · have be := q6 hp
        have le := q2' hp
        rw [be] at a2 g3
        clear q6 q7 q2' be
        generalize latK xs (r - 1) = Y at *
        generalize latK xs r = X at *
        generalize latV xs r = v1 at *
        generalize latV xs (r - 1) = v2 at *
        go_enter Try.func7, Try.ntmps7
        go_wp2_with fail
        refine hmade.mono ?_
        rintro e w1 ⟨m, rfl, c, own, hM, c0, c1, hown, F1⟩
        have om : own m := (hM.choose_spec.choose_spec.2.2.2.1 m).2 (Or.inl rfl)
        have nw := hown m om
        go_wp2_with fail
        refine (g2 m own c c0 (by omega) _ hM).mono ?_
        rintro e w2 ⟨n2, rfl, h2, b2, _, f2⟩
        have F2 : Fr (fun _ => False) w w2 := F1.trans f2 fun x h e => by omega
        clear hM F1 f2
        go_wp2_with fail
        refine (g1 m own _ (by omega) (by omega) _ h2).mono ?_
        rintro e w3 ⟨n3, rfl, h3, b3, _, f3⟩
        have F3 : Fr (fun _ => False) w w3 := F2.trans f3 fun x h e => by omega
        clear h2 F2 f3
        go_wp2_with fail
        refine (a1 m own _ _ h3).mono ?_
        rintro e w4 ⟨rfl, f4⟩
        have F4 : Fr (fun _ => False) w w4 := F3.trans f4 fun x h e => e
        have h4 := h3.fr f4 fun _ _ e => e
        clear h3 F3 f4
        go_wp2_with fail
        refine (a2 m own _ _ h4).mono ?_
        rintro e w5 ⟨rfl, f5⟩
        have F5 : Fr (fun _ => False) w w5 := F4.trans f5 fun x h e => e
        have h5 := h4.fr f5 fun _ _ e => e
        clear h4 F4 f5
        go_wp2_with fail
        refine (g3 m own _ (by omega) (by omega) _ h5).mono ?_
        rintro e w6 ⟨n6, rfl, h6, b6, _, f6⟩
        have F6 : Fr (fun _ => False) w w6 := F5.trans f6 fun x h e => by omega
        clear h5 F5 f6
        go_wp2_with fail
        refine (g4 m own _ (by omega) (by omega) _ h6).mono ?_
        rintro e w7 ⟨n7, rfl, h7, b7, _, f7⟩
        have F7 : Fr (fun _ => False) w w7 := F6.trans f7 fun x h e => by omega
        clear h6 F6 f7 hown om nw g1 g2 g3 g4 a1 a2 hmade
        go_wp2_with fail
        refine (g7 m own _ _ h7).mono ?_
        rintro e w8 ⟨rfl, rfl⟩
        go_wp2_with fail
        refine (g7 m own _ _ h7).mono ?_
        rintro e w9 ⟨rfl, rfl⟩
        go_wp2_with fail
        refine (less_any _ _ _ _).mono ?_
        rintro e w10 ⟨rfl, rfl⟩
        rw [le]
        go_wp2_with fail
        refine (less_any _ _ _ _).mono ?_
        rintro e w11 ⟨rfl, rfl⟩
        rw [lx]
        go_wp2_with fail
        go_ret
        exact ⟨rfl, F7⟩
      · have be := q7 (by omega)
        rw [be] at a2 g3
        clear q6 q7 q2' be
        generalize latK xs (r - 1) = Y at *
        generalize latK xs r = X at *
        generalize latV xs r = v1 at *
        generalize latV xs (r - 1) = v2 at *
        go_enter Try.func7, Try.ntmps7
        go_wp2_with fail
        refine hmade.mono ?_
        rintro e w1 ⟨m, rfl, c, own, hM, c0, c1, hown, F1⟩
        have om : own m := (hM.choose_spec.choose_spec.2.2.2.1 m).2 (Or.inl rfl)
        have nw := hown m om
        go_wp2_with fail
        refine (g2 m own c c0 (by omega) _ hM).mono ?_
        rintro e w2 ⟨n2, rfl, h2, b2, _, f2⟩
        have F2 : Fr (fun _ => False) w w2 := F1.trans f2 fun x h e => by omega
        clear hM F1 f2
        go_wp2_with fail
        refine (g1 m own _ (by omega) (by omega) _ h2).mono ?_
        rintro e w3 ⟨n3, rfl, h3, b3, _, f3⟩
        have F3 : Fr (fun _ => False) w w3 := F2.trans f3 fun x h e => by omega
        clear h2 F2 f3
        go_wp2_with fail
        refine (a1 m own _ _ h3).mono ?_
        rintro e w4 ⟨rfl, f4⟩
        have F4 : Fr (fun _ => False) w w4 := F3.trans f4 fun x h e => e
        have h4 := h3.fr f4 fun _ _ e => e
        clear h3 F3 f4
        go_wp2_with fail
        refine (a2 m own _ _ h4).mono ?_
        rintro e w5 ⟨rfl, f5⟩
        have F5 : Fr (fun _ => False) w w5 := F4.trans f5 fun x h e => e
        have h5 := h4.fr f5 fun _ _ e => e
        clear h4 F4 f5
        go_wp2_with fail
        refine (g3 m own _ (by omega) (by omega) _ h5).mono ?_
        rintro e w6 ⟨n6, rfl, h6, b6, _, f6⟩
        have F6 : Fr (fun _ => False) w w6 := F5.trans f6 fun x h e => by omega
        clear h5 F5 f6
        go_wp2_with fail
        refine (g4 m own _ (by omega) (by omega) _ h6).mono ?_
        rintro e w7 ⟨n7, rfl, h7, b7, _, f7⟩
        have F7 : Fr (fun _ => False) w w7 := F6.trans f7 fun x h e => by omega
        clear h6 F6 f7 hown om nw g1 g2 g3 g4 a1 a2 hmade
        go_wp2_with fail
        refine (g7 m own _ _ h7).mono ?_
        rintro e w8 ⟨rfl, rfl⟩
        go_wp2_with fail
        refine (g7 m own _ _ h7).mono ?_
        rintro e w9 ⟨rfl, rfl⟩
        go_wp2_with fail
        refine (less_any _ _ _ _).mono ?_
        rintro e w11 ⟨rfl, rfl⟩
        rw [lx]
        go_wp2_with fail
        go_ret
        exact ⟨rfl, F7⟩
    · have ok := q5 (by omega)
      rw [ok] at a1 g4
      clear hs q1' q3' q4 q5 ok
      by_cases hp : 0 < r
      · have be := q6 hp
        have le := q2' hp
        rw [be] at a2 g3
        clear q6 q7 q2' be
        generalize latK xs (r - 1) = Y at *
        generalize latK xs r = X at *
        generalize latV xs r = v1 at *
        generalize latV xs (r - 1) = v2 at *
        go_enter Try.func7, Try.ntmps7
        go_wp2_with fail
        refine hmade.mono ?_
        rintro e w1 ⟨m, rfl, c, own, hM, c0, c1, hown, F1⟩
        have om : own m := (hM.choose_spec.choose_spec.2.2.2.1 m).2 (Or.inl rfl)
        have nw := hown m om
        go_wp2_with fail
        refine (g2 m own c c0 (by omega) _ hM).mono ?_
        rintro e w2 ⟨n2, rfl, h2, b2, _, f2⟩
        have F2 : Fr (fun _ => False) w w2 := F1.trans f2 fun x h e => by omega
        clear hM F1 f2
        go_wp2_with fail
        refine (g1 m own _ (by omega) (by omega) _ h2).mono ?_
        rintro e w3 ⟨n3, rfl, h3, b3, _, f3⟩
        have F3 : Fr (fun _ => False) w w3 := F2.trans f3 fun x h e => by omega
        clear h2 F2 f3
        go_wp2_with fail
        refine (a1 m own _ _ h3).mono ?_
        rintro e w4 ⟨rfl, f4⟩
        have F4 : Fr (fun _ => False) w w4 := F3.trans f4 fun x h e => e
        have h4 := h3.fr f4 fun _ _ e => e
        clear h3 F3 f4
        go_wp2_with fail
        refine (a2 m own _ _ h4).mono ?_
        rintro e w5 ⟨rfl, f5⟩
        have F5 : Fr (fun _ => False) w w5 := F4.trans f5 fun x h e => e
        have h5 := h4.fr f5 fun _ _ e => e
        clear h4 F4 f5
        go_wp2_with fail
        refine (g3 m own _ (by omega) (by omega) _ h5).mono ?_
        rintro e w6 ⟨n6, rfl, h6, b6, _, f6⟩
        have F6 : Fr (fun _ => False) w w6 := F5.trans f6 fun x h e => by omega
        clear h5 F5 f6
        go_wp2_with fail
        refine (g4 m own _ (by omega) (by omega) _ h6).mono ?_
        rintro e w7 ⟨n7, rfl, h7, b7, _, f7⟩
        have F7 : Fr (fun _ => False) w w7 := F6.trans f7 fun x h e => by omega
        clear h6 F6 f7 hown om nw g1 g2 g3 g4 a1 a2 hmade
        go_wp2_with fail
        refine (g7 m own _ _ h7).mono ?_
        rintro e w8 ⟨rfl, rfl⟩
        go_wp2_with fail
        refine (g7 m own _ _ h7).mono ?_
        rintro e w9 ⟨rfl, rfl⟩
        go_wp2_with fail
        refine (less_any _ _ _ _).mono ?_
        rintro e w10 ⟨rfl, rfl⟩
        rw [le]
        go_wp2_with fail
        go_ret
        exact ⟨rfl, F7⟩
      · have be := q7 (by omega)
        rw [be] at a2 g3
        clear q6 q7 q2' be
        generalize latK xs (r - 1) = Y at *
        generalize latK xs r = X at *
        generalize latV xs r = v1 at *
        generalize latV xs (r - 1) = v2 at *
        go_enter Try.func7, Try.ntmps7
        go_wp2_with fail
        refine hmade.mono ?_
        rintro e w1 ⟨m, rfl, c, own, hM, c0, c1, hown, F1⟩
        have om : own m := (hM.choose_spec.choose_spec.2.2.2.1 m).2 (Or.inl rfl)
        have nw := hown m om
        go_wp2_with fail
        refine (g2 m own c c0 (by omega) _ hM).mono ?_
        rintro e w2 ⟨n2, rfl, h2, b2, _, f2⟩
        have F2 : Fr (fun _ => False) w w2 := F1.trans f2 fun x h e => by omega
        clear hM F1 f2
        go_wp2_with fail
        refine (g1 m own _ (by omega) (by omega) _ h2).mono ?_
        rintro e w3 ⟨n3, rfl, h3, b3, _, f3⟩
        have F3 : Fr (fun _ => False) w w3 := F2.trans f3 fun x h e => by omega
        clear h2 F2 f3
        go_wp2_with fail
        refine (a1 m own _ _ h3).mono ?_
        rintro e w4 ⟨rfl, f4⟩
        have F4 : Fr (fun _ => False) w w4 := F3.trans f4 fun x h e => e
        have h4 := h3.fr f4 fun _ _ e => e
        clear h3 F3 f4
        go_wp2_with fail
        refine (a2 m own _ _ h4).mono ?_
        rintro e w5 ⟨rfl, f5⟩
        have F5 : Fr (fun _ => False) w w5 := F4.trans f5 fun x h e => e
        have h5 := h4.fr f5 fun _ _ e => e
        clear h4 F4 f5
        go_wp2_with fail
        refine (g3 m own _ (by omega) (by omega) _ h5).mono ?_
        rintro e w6 ⟨n6, rfl, h6, b6, _, f6⟩
        have F6 : Fr (fun _ => False) w w6 := F5.trans f6 fun x h e => by omega
        clear h5 F5 f6
        go_wp2_with fail
        refine (g4 m own _ (by omega) (by omega) _ h6).mono ?_
        rintro e w7 ⟨n7, rfl, h7, b7, _, f7⟩
        have F7 : Fr (fun _ => False) w w7 := F6.trans f7 fun x h e => by omega
        clear h6 F6 f7 hown om nw g1 g2 g3 g4 a1 a2 hmade
        go_wp2_with fail
        refine (g7 m own _ _ h7).mono ?_
        rintro e w8 ⟨rfl, rfl⟩
        go_wp2_with fail
        refine (g7 m own _ _ h7).mono ?_
        rintro e w9 ⟨rfl, rfl⟩
        go_wp2_with fail
        go_ret
        exact ⟨rfl, F7⟩

end Go.Proofs.Ythbnbocpddddmaa
