/- Few: the walk. -/
import Derived.Test.YthbnbocpddddmabWMadeT
namespace Go.Proofs.Ythbnbocpddddmab
open Go.RowKit

theorem dg_half {n : Nat} (h : 1 < n) : dg n = dg (n / 2) + 1 := by
  rw [dg]; rw [dif_neg (by omega)]
theorem dg_one {n : Nat} (h : n ≤ 1) : dg n = 1 := by rw [dg]; rw [dif_pos h]
theorem pk_zero : pk 0 = 0 := by decide

set_option maxRecDepth 100000 in
set_option maxHeartbeats 2000000 in
theorem few_any (t : Bool) (a : Option Addr) (ks : List Int) (cap : Nat) (k : Int) (w : World) (hks : KeysAt w a ks) (hkl : ks.length < 9223372036854775808) :
    Calls Try.prog 3 #[.bool t, .slice a ks.length cap, .int .i64 k] w fun e w' => e = .returned (.bool true) ∧ Fr (fun _ => False) w w' := by
  have hmade := made_anyT 0 t a ks cap w (by omega) (by omega) pk_zero hks hkl
  have hL : (rowTo t ks (min ks.length 400)).length ≤ 400 := Nat.le_trans (rowTo_len _ _ _) (by omega)
  generalize rowTo t ks (min ks.length 400) = xs at *
  clear hks hkl
  go_enter Try.func3, Try.ntmps3
  go_wp2_with fail
  refine hmade.mono ?_
  rintro e w1 ⟨m, rfl, c, own, hM, c0, c1, hown, F1⟩
  have hlen := fun w' h => len_anyT m t c own xs w' h
  go_wp2_with fail
  refine (len_anyT m t c own xs _ hM).mono ?_
  rintro e w2 ⟨rfl, rfl⟩
  have hd := dg_le (xs.length + 1)
  have hL' : (xs.length : Int) ≤ 400 := by omega
  go_wp2_with fail
  go_loopg [8, 9] xs.length (fun gk s8 s9 wr => ∃ (n mo : Nat), n ≤ gk + 1 ∧ 1 ≤ n ∧ n ≤ 401 ∧ s9 = .int .i64 n ∧ s8 = .int .i64 mo ∧ mo + 3 * dg n = 3 * dg (xs.length + 1) + 3 ∧ wr = w2)
  case atStart => exact ⟨xs.length + 1, 3, by omega, by omega, by omega, by go_num, rfl, by omega, rfl⟩
  case round =>
    obtain ⟨n, mo, y0, y1, y2, rfl, rfl, y3, rfl⟩ := hrel
    by_cases hn : n ≤ 1
    · have hmo : mo = 3 * dg (xs.length + 1) := by rw [dg_one hn] at y3; omega
      have hmo2 : mo ≤ 2000 := by omega
      have hn' : ¬ (1 : Int) < (n : Int) := by omega
      have HM : Hid (mo = 3 * dg (xs.length + 1)) := hmo
      obtain ⟨L, eL⟩ : ∃ L : Int, L = (xs.length : Int) := ⟨_, rfl⟩
      have HL : Hid (L = (xs.length : Int)) := eL
      have hL0 : 0 ≤ L := by omega
      have hL4 : L ≤ 400 := by omega
      have hlenL := fun c w' h => len_anyT m t c own xs w' h
      rw [← eL] at hlenL
      clear y0 y1 y2 y3 hn hmo hd hlen eL
      have g1 := fun c (c0 : 0 ≤ c) (c1 : c ≤ 100000000) w' h => get_anyT m t c own xs k w' h c0 (by omega) (by omega)
      have g2 := fun c (c0 : 0 ≤ c) (c1 : c ≤ 100000000) w' h => rank_anyT m t c own xs k w' h c0 (by omega) (by omega)
      have g3 := fun c (c0 : 0 ≤ c) (c1 : c ≤ 100000000) w' h => floor_anyT m t c own xs k w' h c0 (by omega) (by omega)
      have g4 := fun c (c0 : 0 ≤ c) (c1 : c ≤ 100000000) w' h => ceiling_anyT m t c own xs k w' h c0 (by omega) (by omega)
      have g5 := fun c w' h => compared_anyT m t c own xs w' h
      have g6 := fun c w' h => at_anyT m t c own xs 0 w' h (by omega)
      have om : own m := (hM.choose_spec.choose_spec.2.2.2.1 m).2 (Or.inl rfl)
      have nw := hown m om
      clear hL hL'
      go_wp2_with fail
      refine (g5 c _ hM).mono ?_
      rintro e w3 ⟨rfl, rfl⟩
      go_wp2_with fail
      refine (g1 c c0 (by omega) _ hM).mono ?_
      rintro e w4 ⟨n1, rfl, h4, b1, p1, f4⟩
      have F4 : Fr (fun _ => False) w w4 := F1.trans f4 fun x h e => by omega
      obtain ⟨B, eB⟩ : ∃ B : Int, B = c + n1 := ⟨_, rfl⟩
      rw [← eB] at h4
      have B1 : c ≤ B := by omega
      have B2 : B ≤ c + mo := by have := HM.out; omega
      have B3 : 0 < L → c < B := fun h => by have := HL.out; have := p1 (by omega); omega
      clear eB b1 p1 f4 F1 hM
      go_wp2_with fail
      refine (g5 B _ h4).mono ?_
      rintro e w5 ⟨rfl, rfl⟩
      go_wp2_with fail
      refine (g2 B (by omega) (by omega) _ h4).mono ?_
      rintro e w6 ⟨n2, rfl, h6, b2, p2, f6⟩
      have F6 : Fr (fun _ => False) w w6 := F4.trans f6 fun x h e => by omega
      obtain ⟨C, eC⟩ : ∃ C : Int, C = B + n2 := ⟨_, rfl⟩
      rw [← eC] at h6
      have C1 : B ≤ C := by omega
      have C2 : C ≤ B + mo := by have := HM.out; omega
      have C3 : 0 < L → B < C := fun h => by have := HL.out; have := p2 (by omega); omega
      clear eC b2 p2 f6 F4 h4
      go_wp2_with fail
      refine (g5 C _ h6).mono ?_
      rintro e w7 ⟨rfl, rfl⟩
      go_wp2_with fail
      refine (g3 C (by omega) (by omega) _ h6).mono ?_
      rintro e w8 ⟨n3, rfl, h8, b3, p3, f8⟩
      have F8 : Fr (fun _ => False) w w8 := F6.trans f8 fun x h e => by omega
      go_wp2_with fail
      refine (g4 (C + n3) (by omega) (by have := HM.out; omega) _ h8).mono ?_
      rintro e w9 ⟨n4, rfl, h9, b4, p4, f9⟩
      have F9 : Fr (fun _ => False) w w9 := F8.trans f9 fun x h e => by omega
      obtain ⟨D, eD⟩ : ∃ D : Int, D = C + n3 + n4 := ⟨_, rfl⟩
      rw [← eD] at h9
      have D1 : C ≤ D := by omega
      have D2 : D ≤ C + 2 * mo := by have := HM.out; omega
      have D3 : 0 < L → C + 2 ≤ D := fun h => by have := HL.out; have := p3 (by omega); have := p4 (by omega); omega
      clear eD b3 p3 b4 p4 f8 f9 F6 F8 h6 h8
      go_wp2_with fail
      refine (g5 D _ h9).mono ?_
      rintro e w10 ⟨rfl, rfl⟩
      go_wp2_with fail
      refine (g6 D _ h9).mono ?_
      rintro e w11 ⟨rfl, f11⟩
      have F11 : Fr (fun _ => False) w w11 := F9.trans f11 fun x h e => e
      have h11 := h9.fr f11 fun _ _ e => e
      clear h9 f11 F9
      go_wp2_with fail
      refine (hlenL D _ h11).mono ?_
      rintro e w12 ⟨rfl, rfl⟩
      go_wp2_with fail
      refine (g5 D _ h11).mono ?_
      rintro e w13 ⟨rfl, rfl⟩
      go_wp2_with fail
      refine (hlenL D _ h11).mono ?_
      rintro e w14 ⟨rfl, rfl⟩
      have hmo3 : (mo : Int) ≤ 2000 := by omega
      clear h11 g1 g2 g3 g4 g5 g6 hlenL om nw hown hmade
      have t1 : B - c ≤ (mo : Int) := by omega
      have t2 : C - B ≤ (mo : Int) := by omega
      have t3 : D - C ≤ 2 * (mo : Int) := by omega
      have t4 : 0 ≤ (mo : Int) := by omega
      clear HL HM hmo2
      generalize (mo : Int) = M at *
      by_cases hL1 : 0 < L
      · have u1 : (B == c) = false := by rw [beq_eq_false_iff_ne]; have := B3 hL1; omega
        have u2 : (C == B) = false := by rw [beq_eq_false_iff_ne]; have := C3 hL1; omega
        have u3 : ¬ D - C < 2 := by have := D3 hL1; omega
        clear B3 C3 D3
        go_wp2_with fail
        go_ret
        exact ⟨rfl, F11⟩
      · clear B3 C3 D3
        go_wp2_with fail
        go_ret
        exact ⟨rfl, F11⟩
    · have hn' : (1 : Int) < (n : Int) := by omega
      have y2' : (n : Int) ≤ 401 := by omega
      have hmo : (mo : Int) ≤ 2000 := by omega
      have HY : Hid (n ≤ gk + 1 ∧ 1 ≤ n ∧ n ≤ 401 ∧ mo + 3 * dg n = 3 * dg (xs.length + 1) + 3 ∧ ¬ n ≤ 1) := ⟨y0, y1, y2, y3, hn⟩
      clear y0 y1 y2 y3 hn
      go_wp2_with fail
      go_roundg (n / 2 - 1)
      case measure => have := HY.out; omega
      case rel =>
        obtain ⟨y0, y1, y2, y3, hn⟩ := HY.out
        have := dg_half (n := n) (by omega)
        exact ⟨n / 2, mo + 3, by omega, by omega, by omega, by go_num, by go_num, by omega, rfl⟩

end Go.Proofs.Ythbnbocpddddmab
