/- Sorted, over one engine: the walk. -/
import Derived.Test.YthbnbocpddddmaaGreatWMadeK
import Derived.Test.YthbnbocpddddmaaGreatWDelK
import Derived.Test.YthbnbocpddddmaaGreatGone
import Derived.Test.YthbnbocpddddmaaGreatWLess
import Derived.Deep.QuietTactic
import Derived.BigQuiet
namespace Go.Proofs.YthbnbocpddddmaaGreat
open Go.RowKit

set_option maxRecDepth 100000 in
set_option maxHeartbeats 4000000 in
theorem sorted_anyK (eng : Int) (t : Bool) (a1 : Option Addr) (ks : List Int) (cap1 : Nat) (a2 : Option Addr) (qs : List Int) (cap2 : Nat) (w : World) (e0 : -9223372036854775808 ≤ eng) (e1 : eng < 9223372036854775808) (hpk : pk eng = 1) (hks : KeysAt w a1 ks) (hkl : ks.length ≤ 17592186044416) (hqs : KeysAt w a2 qs) (hql : qs.length ≤ 17592186044416) :
    Calls Tryz.prog 6 #[.int .i64 eng, .bool t, .slice a1 ks.length cap1, .slice a2 qs.length cap2] w fun e w' => e = .returned (.bool true) ∧ Fr (fun _ => False) w w' := by
  have hL : (rowTo t ks (min ks.length 400)).length ≤ 400 := Nat.le_trans (rowTo_len _ _ _) (by omega)
  have hsr := rowTo_srt t ks (min ks.length 400)
  have hpl := rowTo_placed t ks (min ks.length 400) (by omega)
  have HIN : Hid (∀ (j : Nat) (k : Int), j < min ks.length 400 → ks[j]? = some k → lsame k (delTo t (rowTo t ks (min ks.length 400)) qs qs.length) = !inTo k qs qs.length) := fun j k hj hk => left_in (by omega) hj hk
  have hmade := made_anyK eng t a1 ks cap1 w e0 e1 hpk hks (by omega)
  generalize rowTo t ks (min ks.length 400) = xs at *
  have hkl' : (ks.length : Int) ≤ 17592186044416 := by omega
  have hql' : (qs.length : Int) ≤ 17592186044416 := by omega
  have HB : Hid (∀ xs : Row, xs.length ≤ 400 → 10000 ≤ 10000) := by
    intro xs hx
    first
      | exact Nat.le_refl _
      | (have := dg_le (xs.length + 1); omega)
  clear hpk e0 e1
  go_enter Tryz.func6, Tryz.ntmps6
  go_wp2_with fail
  refine hmade.mono ?_
  rintro e w1 ⟨m, rfl, c, own, hM, c0, c1, hown, F1⟩
  go_wp2_with fail
  go_loopg [10] qs.length (fun gk s10 wr => ∃ (j : Nat) (c : Int) (own : Nat → Prop), gk + j = qs.length ∧ s10 = .int .i64 j ∧ MapK wr m t c own (delTo t xs qs j) ∧ 0 ≤ c ∧ c ≤ 4000000 + 40000 * j ∧
    (∀ x, own x → w.heap.size ≤ x) ∧ Fr (fun _ => False) w wr)
  case atStart => exact ⟨0, c, own, by omega, rfl, hM, c0, by omega, hown, F1⟩
  case round =>
    clear hM c0 c1 hown F1 hmade
    obtain ⟨j, c, own, y0, rfl, hM, c0, c1, hown, F⟩ := hrel
    have hrow := delTo_len (t := t) qs hL j
    by_cases hj : j < qs.length
    · have hj1 : (j : Int) < (qs.length : Int) := by omega
      obtain ⟨q, hq⟩ : ∃ q, qs[j]? = some q := ⟨_, List.getElem?_eq_getElem hj⟩
      have hqd : qs.getD j 0 = q := by rw [List.getD_eq_getElem?_getD, hq]; rfl
      have hrow' : delTo t xs qs (j + 1) = ldel t q (delTo t xs qs j) := by simp only [delTo]; rw [hqd]
      have hO := delete_anyK m t c own (delTo t xs qs j) q wr hM c0 (by omega) hrow
      have hno : lsame q (delTo t xs qs (j + 1)) = false := by
        cases e : lsame q (delTo t xs qs (j + 1)) with
        | false => rfl
        | true => rw [hrow'] at e; exact absurd rfl ((same_del (delTo_srt qs hsr j)).1 e).2
      have hrow1 := delTo_len (t := t) qs hL (j + 1)
      have hG := fun c (o : Nat → Prop) w' h' (c0 : 0 ≤ c) (c1 : c ≤ 8000000000000000000) => get_anyK m t c o (delTo t xs qs (j + 1)) q w' h' c0 c1 (by omega)
      have hp := fun h => get_placed (k := q) (delTo_placed qs hpl j) (delTo_srt qs hsr j) h
      have HR : Hid ((delTo t xs qs j).length ≤ 400 ∧ (delTo t xs qs (j + 1)).length ≤ 400) := ⟨hrow, hrow1⟩
      rw [← hrow'] at hO
      rw [hno] at hG
      generalize hzs : delTo t xs qs (j + 1) = zs at *
      have HZ : Hid (delTo t xs qs (j + 1) = zs) := hzs
      clear hzs hrow' hno hrow1 hqd
      generalize delTo t xs qs j = ys at *
      generalize lget t q zs = gz at *
      rcases hqs with rfl | ⟨sb, off, rfl, hsb, hcell⟩
      · simp at hj
      · have hc := fun (w' : World) (F : Fr (fun _ => False) w w') => (F.cell (b := sb) (off + j) hsb (fun e => e)).trans (hcell j q hq)
        have HY : Hid (gk + j = qs.length ∧ j < qs.length ∧ 0 ≤ c ∧ c ≤ 4000000 + 40000 * j) := ⟨y0, hj, c0, c1⟩
        have hc0 := hc _ F
        cases hsm : lsame q ys with
        | true =>
          obtain ⟨i, hi, hki⟩ := hp hsm
          rw [hi, hsm] at hO
          have hi1 : i < ks.length := (List.getElem?_eq_some_iff.1 hki).1
          have hi2 : (i : Int) < (ks.length : Int) := by omega
          have hd0 : decide ((i : Int) < 0) = false := by simp
          have hd1 : decide (ks.length ≤ i) = false := by simp; omega
          rcases hks with rfl | ⟨kb, koff, rfl, hkb, hkcell⟩
          · simp at hki
          · have hkc := fun (w' : World) (F : Fr (fun _ => False) w w') => (F.cell (b := kb) (koff + i) hkb (fun e => e)).trans (hkcell i q hki)
            clear hcell hkcell hp hsm hi hki hq hrow hL hsr hpl y0 hj c0 c1 hM hi1
            go_wp2_with fail
            refine hO.mono ?_
            rintro e w3 ⟨n3, o3, rfl, m3, c3, s3, f3⟩
            have F3 : Fr (fun _ => False) w w3 := F.trans f3 fun x h e => by have := hown x e; omega
            have o3w : ∀ x, o3 x → w.heap.size ≤ x := fun x e => by
              rcases s3 x e with e | e
              · exact hown x e
              · exact Nat.le_trans F.size e
            have h3 := hc _ F3
            have k3 := hkc _ F3
            clear hO s3 f3 hown F hc0
            go_wp2_with fail
            go_quiet (fail)
            have h3' : (w3.drewN nq).cell? ⟨sb, off + j, none⟩ = some (.int .i64 q) := h3
            go_wp2_with fail
            refine (hG _ _ (w3.drewN nq) (m3.same rfl) (by have := HY.out; omega) (by have := HY.out; have := HB.out _ HR.out.1; omega)).mono ?_
            rintro e w4 ⟨n4, rfl, m4, c4, _, f4⟩
            have F4 : Fr (fun _ => False) w w4 := (F3.drewN nq).trans f4 fun x h e => by have := o3w m ((m3.choose_spec.choose_spec.2.2.2.1 m).2 (Or.inl rfl)); omega
            clear F3 f4 m3 h3 h3' k3
            go_wp2_with fail
            go_roundg (gk - 1)
            case measure => have := HY.out; omega
            case rel =>
              obtain ⟨y0, hj, c0, c1⟩ := HY.out
              have b1 := HB.out _ HR.out.1
              have b2 := HB.out _ HR.out.2
              have hz := HZ.out
              subst hz
              exact ⟨j + 1, c + n3 + n4, o3, by omega, by go_num, m4, by omega, by omega, o3w, F4⟩
        | false =>
          rw [hsm] at hO
          generalize lget t q ys = gy at *
          clear hcell hp hsm hq hrow hL hsr hpl y0 hj c0 c1 hM hks
          go_wp2_with fail
          refine hO.mono ?_
          rintro e w3 ⟨n3, o3, rfl, m3, c3, s3, f3⟩
          have F3 : Fr (fun _ => False) w w3 := F.trans f3 fun x h e => by have := hown x e; omega
          have o3w : ∀ x, o3 x → w.heap.size ≤ x := fun x e => by
            rcases s3 x e with e | e
            · exact hown x e
            · exact Nat.le_trans F.size e
          have h3 := hc _ F3
          clear hO s3 f3 hown F hc0
          go_wp2_with fail
          go_quiet (fail)
          have h3' : (w3.drewN nq).cell? ⟨sb, off + j, none⟩ = some (.int .i64 q) := h3
          go_wp2_with fail
          refine (hG _ _ (w3.drewN nq) (m3.same rfl) (by have := HY.out; omega) (by have := HY.out; have := HB.out _ HR.out.1; omega)).mono ?_
          rintro e w4 ⟨n4, rfl, m4, c4, _, f4⟩
          have F4 : Fr (fun _ => False) w w4 := (F3.drewN nq).trans f4 fun x h e => by have := o3w m ((m3.choose_spec.choose_spec.2.2.2.1 m).2 (Or.inl rfl)); omega
          clear F3 f4 m3 h3 h3'
          go_wp2_with fail
          go_roundg (gk - 1)
          case measure => have := HY.out; omega
          case rel =>
            obtain ⟨y0, hj, c0, c1⟩ := HY.out
            have b1 := HB.out _ HR.out.1
            have b2 := HB.out _ HR.out.2
            have hz := HZ.out
            subst hz
            exact ⟨j + 1, c + n3 + n4, o3, by omega, by go_num, m4, by omega, by omega, o3w, F4⟩
    · have ej : j = qs.length := by omega
      subst ej
      have hj1 : ¬ (qs.length : Int) < (qs.length : Int) := by omega
      have hys := delTo_srt qs hsr qs.length
      have hpy := delTo_placed (t := t) qs hpl qs.length
      have cc : c ≤ 800000000000000000 := by omega
      generalize delTo t xs qs qs.length = ys at *
      have om := hown m ((hM.choose_spec.choose_spec.2.2.2.1 m).2 (Or.inl rfl))
      have hrow' : (ys.length : Int) ≤ 400 := by omega
      clear hj hL hsr hpl c1 hown y0
      go_wp2_with fail
      go_loopg [15, 16] ys.length (fun gk s15 s16 wr => ∃ (j : Nat) (la : Int), gk + j = ys.length ∧ s16 = .int .i64 j ∧ s15 = .int .i64 la ∧ (0 < j → la = latK ys ((j - 1 : Nat) : Int)) ∧ MapK wr m t c own ys ∧ Fr (fun _ => False) w wr)
      case atStart => exact ⟨0, 0, by omega, rfl, rfl, fun e => absurd e (by omega), hM, F⟩
      case round =>
        clear hM F
        obtain ⟨j, la, y0, rfl, rfl, hla, hM, F⟩ := hrel
        have hlen := len_anyK m t c own ys wr hM
        have y0' : (j : Int) ≤ 400 := by omega
        by_cases hj : j < ys.length
        · have hj1 : (j : Int) < (ys.length : Int) := by omega
          have hA := at_anyK m t c own ys j wr hM (by omega)
          obtain ⟨hb, i, hi, hki⟩ := at_placed hpy j hj
          rw [hb, hi] at hA
          have hlt : 0 < j → lessB t la (latK ys j) = true := fun h => by
            rw [hla h]
            have := at_rises hys (j - 1) (by omega)
            rw [show j - 1 + 1 = j by omega] at this
            exact this
          have hlk : ∀ j' : Nat, j' = j → latK ys j = latK ys (j' : Int) := fun j' e => by rw [e]
          have HLK : Hid (latK ys j = latK ys ((j + 1 - 1 : Nat) : Int)) := hlk _ (by omega)
          have hi1 : i < ks.length := (List.getElem?_eq_some_iff.1 hki).1
          have hi2 : (i : Int) < (ks.length : Int) := by omega
          have hd0 : decide ((i : Int) < 0) = false := by simp
          have hd1 : decide (ks.length ≤ i) = false := by simp; omega
          generalize hK : latK ys j = K at *
          have HY : Hid (gk + j = ys.length ∧ j < ys.length) := ⟨y0, hj⟩
          clear hlk hla hK hb hi
          rcases hks with rfl | ⟨kb, koff, rfl, hkb, hkcell⟩
          · simp at hki
          · have hkc := fun (w' : World) (F : Fr (fun _ => False) w w') => (F.cell (b := kb) (koff + i) hkb (fun e => e)).trans (hkcell i K hki)
            by_cases h0 : 0 < j
            · have hi0 : (0 : Int) < (j : Int) := by omega
              have hl := fun w' => less_any la K t w'
              rw [hlt h0] at hl
              clear hlt hkcell hki hi1 h0 hj y0
              go_wp2_with fail
              refine hlen.mono ?_
              rintro e w2 ⟨rfl, rfl⟩
              go_wp2_with fail
              refine hA.mono ?_
              rintro e w3 ⟨rfl, f3⟩
              have M3 := hM.fr f3 fun _ _ e => e
              have F3 := F.trans f3 fun _ _ e => e
              have k3 := hkc _ F3
              clear hM F f3 hA hlen
              go_wp2_with fail
              refine (hl _).mono ?_
              rintro e w5 ⟨rfl, rfl⟩
              go_wp2_with fail
              go_roundg (gk - 1)
              case measure => have := HY.out; omega
              case rel => exact ⟨j + 1, K, by have := HY.out; omega, by go_num, rfl, fun _ => HLK.out, M3, F3⟩
            · have hi0 : decide ((0 : Int) < (j : Int)) = false := by simp; omega
              have hi0' : decide (0 < j) = false := by simp; omega
              clear hlt hkcell hki hi1 h0 hj y0
              go_wp2_with fail
              refine hlen.mono ?_
              rintro e w2 ⟨rfl, rfl⟩
              go_wp2_with fail
              refine hA.mono ?_
              rintro e w3 ⟨rfl, f3⟩
              have M3 := hM.fr f3 fun _ _ e => e
              have F3 := F.trans f3 fun _ _ e => e
              have k3 := hkc _ F3
              clear hM F f3 hA hlen
              go_wp2_with fail
              go_roundg (gk - 1)
              case measure => have := HY.out; omega
              case rel => exact ⟨j + 1, K, by have := HY.out; omega, by go_num, rfl, fun _ => HLK.out, M3, F3⟩
        · have hj1 : ¬ (j : Int) < (ys.length : Int) := by omega
          have hjd : decide (j < ys.length) = false := by simp; omega
          clear hla hys hpy y0 hj
          go_wp2_with fail
          refine hlen.mono ?_
          rintro e w2 ⟨rfl, rfl⟩
          go_wp2_with fail
          go_loopg [20] (min ks.length 400) (fun gk s20 wr => ∃ (j : Nat) (c : Int), gk + j = min ks.length 400 ∧ s20 = .int .i64 j ∧ MapK wr m t c own ys ∧ 0 ≤ c ∧ c ≤ 800000000000000000 + 10000 * j ∧ Fr (fun _ => False) w wr)
          case atStart => exact ⟨0, c, by omega, rfl, hM, c0, by omega, F⟩
          case round =>
            clear hM F c0 cc hlen
            obtain ⟨j, c, y0, rfl, hM, c0, c1, F⟩ := hrel
            by_cases hj : j < min ks.length 400
            · obtain ⟨G, rfl⟩ : ∃ G, gk = G + 1 := ⟨gk - 1, by omega⟩
              have hj1 : (j : Int) < (ks.length : Int) := by omega
              have hj2 : (j : Int) < 400 := by omega
              obtain ⟨k, hk⟩ : ∃ k, ks[j]? = some k := ⟨_, List.getElem?_eq_getElem (by omega)⟩
              have hin := HIN.out j k hj hk
              have hG := get_anyK m t c own ys k wr hM c0 (by omega) (by omega)
              rw [hin] at hG
              generalize lget t k ys = gv at *
              have HY : Hid (G + 1 + j = min ks.length 400 ∧ j < min ks.length 400 ∧ 0 ≤ c ∧ c ≤ 800000000000000000 + 10000 * j ∧ ys.length ≤ 400) := ⟨y0, hj, c0, c1, hrow⟩
              rcases hks with rfl | ⟨kb, koff, rfl, hkb, hkcell⟩
              · simp at hj1; omega
              · have hkc := fun (w' : World) (F : Fr (fun _ => False) w w') => (F.cell (b := kb) (koff + j) hkb (fun e => e)).trans (hkcell j k hk)
                have k2 := hkc _ F
                clear hin hkcell hk hj y0 c0 c1 hM
                go_wp2_with fail
                refine hG.mono ?_
                rintro e w4 ⟨n4, rfl, m4, c4, _, f4⟩
                have F4 : Fr (fun _ => False) w w4 := F.trans f4 fun x h e => by omega
                clear F f4 k2 hG
                go_wp2_with fail
                go_loopg [23, 24] qs.length (fun gk s23 s24 wr => ∃ i : Nat, gk + i = qs.length ∧ s24 = .int .i64 i ∧ s23 = .bool (inTo k qs i) ∧ MapK wr m t (c + n4) own ys ∧ Fr (fun _ => False) w wr)
                case atStart => exact ⟨0, by omega, rfl, rfl, m4, F4⟩
                case round =>
                  clear m4 F4
                  obtain ⟨i, z0, rfl, rfl, m5, F5⟩ := hrel
                  by_cases hi : i < qs.length
                  · have hi1 : (i : Int) < (qs.length : Int) := by omega
                    obtain ⟨q, hq⟩ : ∃ q, qs[i]? = some q := ⟨_, List.getElem?_eq_getElem hi⟩
                    have hst := inTo_succ k qs i q hq
                    have k5 := hkc _ F5
                    rcases hqs with rfl | ⟨sb, off, rfl, hsb, hcell⟩
                    · simp at hi
                    · have h5 := (F5.cell (b := sb) (off + i) hsb (fun e => e)).trans (hcell i q hq)
                      have HX : Hid (gk + i = qs.length ∧ i < qs.length) := ⟨z0, hi⟩
                      cases hn : inTo k qs i with
                      | true =>
                        rw [hn] at hst
                        have HST : Hid (inTo k qs (i + 1) = true) := hst
                        clear hst hn hcell hq hi z0
                        go_wp2_with fail
                        go_quiet (fail)
                        go_wp2_with fail
                        go_roundg (gk - 1)
                        case measure => have := HX.out; omega
                        case rel => exact ⟨i + 1, by have := HX.out; omega, by go_num, by rw [HST.out], m5.same rfl, F5.drewN _⟩
                      | false =>
                        rw [hn] at hst
                        have HST : Hid (inTo k qs (i + 1) = (q == k)) := by rw [hst]; rfl
                        clear hst hn hcell hq hi z0
                        go_wp2_with fail
                        go_quiet (fail)
                        go_wp2_with fail
                        go_roundg (gk - 1)
                        case measure => have := HX.out; omega
                        case rel => exact ⟨i + 1, by have := HX.out; omega, by go_num, by rw [HST.out], m5.same rfl, F5.drewN _⟩
                  · have ei : i = qs.length := by omega
                    subst ei
                    have hi1 : ¬ (qs.length : Int) < (qs.length : Int) := by omega
                    clear hi z0
                    cases hn : inTo k qs qs.length with
                    | true =>
                      clear hn
                      go_wp2_with fail
                      go_roundg G
                      case measure => omega
                      case rel =>
                        obtain ⟨y0, hj, c0, c1, hl⟩ := HY.out
                        have := HB.out _ hl
                        exact ⟨j + 1, c + n4, by omega, by go_num, m5, by omega, by omega, F5⟩
                    | false =>
                      clear hn
                      go_wp2_with fail
                      go_roundg G
                      case measure => omega
                      case rel =>
                        obtain ⟨y0, hj, c0, c1, hl⟩ := HY.out
                        have := HB.out _ hl
                        exact ⟨j + 1, c + n4, by omega, by go_num, m5, by omega, by omega, F5⟩
            · by_cases hj1 : (j : Int) < (ks.length : Int)
              · have hj2 : ¬ (j : Int) < 400 := by omega
                clear hM c0 c1 y0 hj
                go_wp2_with fail
                go_ret
                exact ⟨rfl, F⟩
              · clear hM c0 c1 y0 hj
                go_wp2_with fail
                go_ret
                exact ⟨rfl, F⟩

end Go.Proofs.YthbnbocpddddmaaGreat
