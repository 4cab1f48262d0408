/- Tree's place, At, Set, Insert, Len. -/
import Derived.Test.YthbnbocpddddmaaGreatWFind
import Derived.Test.YthbnbocpddddmaaGreatWIns
import Derived.Test.YthbnbocpddddmaaGreatNth
namespace Go.Proofs.YthbnbocpddddmaaGreat
open Go.RowKit

set_option maxHeartbeats 1000000 in
theorem place_any (tb : Nat) (T : Tr) (i : Int) (w : World) (htb : w.heap[tb]? = some (treeBlk T.ad)) (hT : Lies 336 w T) (i0 : 0 ≤ i) (i1 : i < T.size) (hs : T.size ≤ 10000) :
    Calls Tryz.prog 204 #[.pointer (some ⟨tb, 0, none⟩), .int .i64 i] w fun e w' => e = .returned (.pointer (some ⟨T.nthB i.toNat, 0, none⟩)) ∧ w' = w := by
  have t0 : w.cell? ⟨tb, 0, none⟩ = some (.pointer T.ad) := cell_of htb 0
  generalize hTa : T.ad = tp at t0
  have HTA : Hid (T.ad = tp) := hTa
  clear hTa htb
  go_enter Tryz.func204, Tryz.ntmps204
  go_wp2_with fail
  go_loopg [1, 5] T.size (fun gk s1 s5 wr => ∃ (t : Tr) (j : Nat), t.size = gk ∧ s1 = .int .i64 j ∧ s5 = .pointer t.ad ∧ Lies 336 w t ∧ wr = w ∧ j < t.size ∧ t.size ≤ 10000 ∧ T.nthB i.toNat = t.nthB j)
  case atStart => exact ⟨T, i.toNat, rfl, by rw [Int.toNat_of_nonneg i0], by rw [HTA.out], hT, rfl, by omega, hs, rfl⟩
  case round =>
    obtain ⟨t, j, hk, rfl, rfl, hl, rfl, z1, z0, z2⟩ := hrel
    cases t with
    | nil => simp [Tr.size] at z1
    | node b L k1 v1 R =>
      have hb := hl.1
      have lL := hl.2.1
      have lR := hl.2.2.1
      have tl := lL.top
      have c2 : wr.cell? ⟨b, 2, none⟩ = some (.pointer L.ad) := cell_of hb 2
      have c3 : wr.cell? ⟨b, 3, none⟩ = some (.pointer R.ad) := cell_of hb 3
      simp only [Tr.size] at hk z1 z0
      show Code.wp _ _ _ _ _
      simp only [Tr.ad]
      obtain ⟨sl, esl⟩ : ∃ sl : Nat, sl = L.size := ⟨_, rfl⟩
      rw [← esl] at tl
      have HK : Hid (sl = L.size ∧ L.size + R.size + 1 = gk ∧ j < L.size + R.size + 1 ∧ L.size + R.size + 1 ≤ 10000) := ⟨esl, hk, z1, z0⟩
      have zj : j ≤ 10000 := by omega
      have zs : sl ≤ 10000 := by omega
      generalize hLa : L.ad = lp at c2 tl
      have HLA : Hid (L.ad = lp) := hLa
      have HZ : Hid (T.nthB i.toNat = (Tr.node b L k1 v1 R).nthB j) := z2
      clear hLa hk z1 z0 esl z2 hb
      by_cases c : j = sl
      · have b1 : ((j : Int) != (sl : Int)) = false := by simp [c]
        go_wp2_with fail
        refine (count_any lp sl L.ht _ tl).mono ?_
        rintro e w2 ⟨rfl, rfl⟩
        go_wp2_with fail
        go_ret
        obtain ⟨esl, hk, z1, z0⟩ := HK.out
        rw [HZ.out]
        refine ⟨?_, rfl⟩
        simp only [Tr.nthB]
        rw [if_neg (by omega), if_pos (by omega)]
        rfl
      · have b1 : ((j : Int) != (sl : Int)) = true := by rw [bne_iff_ne]; omega
        by_cases d : j < sl
        · have d' : (j : Int) < (sl : Int) := by omega
          go_wp2_with fail
          refine (count_any lp sl L.ht _ tl).mono ?_
          rintro e w2 ⟨rfl, rfl⟩
          go_wp2_with fail
          refine (count_any lp sl L.ht _ tl).mono ?_
          rintro e w2 ⟨rfl, rfl⟩
          go_wp2_with fail
          obtain ⟨esl, hk, z1, z0⟩ := HK.out
          go_roundg L.size
          case measure => omega
          case rel => exact ⟨L, j, rfl, rfl, by rw [HLA.out], lL, rfl, by omega, by omega, by rw [HZ.out]; simp only [Tr.nthB]; rw [if_pos (by omega)]⟩
        · have d' : ¬ (j : Int) < (sl : Int) := by omega
          have HC : Hid (sl < j) := by unfold Hid; omega
          go_wp2_with fail
          refine (count_any lp sl L.ht _ tl).mono ?_
          rintro e w2 ⟨rfl, rfl⟩
          go_wp2_with fail
          refine (count_any lp sl L.ht _ tl).mono ?_
          rintro e w2 ⟨rfl, rfl⟩
          go_wp2_with fail
          refine (count_any lp sl L.ht _ tl).mono ?_
          rintro e w2 ⟨rfl, rfl⟩
          go_wp2_with fail
          obtain ⟨esl, hk, z1, z0⟩ := HK.out
          have hc := HC.out
          go_roundg R.size
          case measure => omega
          case rel => exact ⟨R, j - L.size - 1, rfl, by congr 1; omega, rfl, lR, rfl, by omega, by omega, by rw [HZ.out]; simp only [Tr.nthB]; rw [if_neg (by omega), if_neg (by omega)]⟩

end Go.Proofs.YthbnbocpddddmaaGreat
