/- Tree.Find. -/
import Derived.Test.YthbnbocpddddmaaGreatWSide
import Derived.Test.YthbnbocpddddmaaGreatPlain
import Derived.Deep.LoopGhost
namespace Go.Proofs.YthbnbocpddddmaaGreat
open Go.RowKit

def treeBlk (p : Option Addr) : Obj := .cells #[.pointer p] 190 (0, 0)

set_option maxHeartbeats 1000000 in
theorem tFind_any (tb m mb kb : Nat) (T : Tr) (turned : Bool) (items : Value) (c k : Int) (w : World) (htb : w.heap[tb]? = some (treeBlk T.ad)) (hm : w.heap[m]? = some (mapBlk turned items c))
    (hmb : w.heap[mb]? = some (.cells #[.pointer (some ⟨m, 0, none⟩)] 31 (0, 0))) (hkb : w.heap[kb]? = some (.cells #[.int .i64 k] 3 (0, 0)))
    (hT : Lies 336 w T) (nT : ¬ T.has m) (n1 : mb ≠ m) (n2 : kb ≠ m) (b0 : 0 ≤ c) (b1 : c ≤ 8000000000000000000) (hs : T.size ≤ 10000) :
    Calls Tryz.prog 199 #[.pointer (some ⟨tb, 0, none⟩), .func (.func 92) #[] #[.pointer (some ⟨mb, 0, none⟩), .pointer (some ⟨kb, 0, none⟩)]] w fun e w' =>
      e = .returned (.tuple #[.int .i64 (T.rank (side turned k)), .bool (T.same (side turned k))]) ∧
      w'.heap[m]? = some (mapBlk turned items (c + T.cnt (side turned k))) ∧ Fr (fun x => x = m) w w' := by
  have t0 : w.cell? ⟨tb, 0, none⟩ = some (.pointer T.ad) := cell_of htb 0
  have l1 := lt_of_blk hmb
  have l2 := lt_of_blk hkb
  generalize hTa : T.ad = tp at t0
  have HTA : Hid (T.ad = tp) := hTa
  clear hTa htb
  go_enter Tryz.func199, Tryz.ntmps199
  go_wp2_with fail
  go_loopg [6, 7] T.size (fun gk s6 s7 wr => ∃ (t : Tr) (cur n : Nat), t.size = gk ∧ s6 = .int .i64 cur ∧ s7 = .pointer t.ad ∧ Lies 336 wr t ∧ ¬ t.has m ∧ wr.heap[m]? = some (mapBlk turned items (c + n)) ∧ Fr (fun x => x = m) w wr ∧
    cur + t.size ≤ T.size ∧ n + t.ht ≤ T.ht ∧ T.rank (side turned k) = cur + t.rank (side turned k) ∧ T.same (side turned k) = t.same (side turned k) ∧ T.cnt (side turned k) = n + t.cnt (side turned k))
  case atStart => exact ⟨T, 0, 0, rfl, rfl, by rw [HTA.out], hT, nT, by simpa using hm, Fr.refl _ _, by omega, by omega, by omega, rfl, by omega⟩
  case round =>
    obtain ⟨t, cur, n, hk, rfl, rfl, hl, nt, hmr, fr, z1, z2, z3, z4, z5⟩ := hrel
    have g1 := T.ht_le_size
    cases t with
    | nil =>
      have HZ : Hid (T.rank (side turned k) = cur ∧ T.same (side turned k) = false ∧ T.cnt (side turned k) = n) := ⟨by simpa [Tr.rank] using z3, by simpa [Tr.same] using z4, by simpa [Tr.cnt] using z5⟩
      clear z3 z4 z5 hk
      show Code.wp _ _ _ _ _
      simp only [Tr.ad]
      go_wp2_with fail
      go_ret2
      rw [HZ.out.1, HZ.out.2.1, HZ.out.2.2]
      exact ⟨rfl, hmr, fr⟩
    | node b L k1 v1 R =>
      have hb := hl.1
      have lL := hl.2.1
      have lR := hl.2.2.1
      have nb : b ≠ m := fun e => nt (Or.inl e.symm)
      have nL : ¬ L.has m := fun e => nt (Or.inr (Or.inl e))
      have nR : ¬ R.has m := fun e => nt (Or.inr (Or.inr e))
      have c0 : wr.cell? ⟨b, 0, none⟩ = some (.int .i64 k1) := cell_of hb 0
      have hbl := lt_of_blk hb
      have l1' : mb < wr.heap.size := Nat.lt_of_lt_of_le l1 fr.size
      have l2' : kb < wr.heap.size := Nat.lt_of_lt_of_le l2 fr.size
      have hside := side_any m mb kb turned items (c + n) k k1 wr hmr ((fr.block mb l1 n1).trans hmb) ((fr.block kb l2 n2).trans hkb) n1 n2 (by omega) (by omega)
      simp only [Tr.size, Tr.ht] at hk z1 z2
      show Code.wp _ _ _ _ _
      simp only [Tr.ad]
      by_cases f0 : side turned k k1 = 0
      · have HZ : Hid (T.rank (side turned k) = cur + L.size ∧ T.same (side turned k) = true ∧ T.cnt (side turned k) = n + 1) := ⟨by simpa [Tr.rank, f0] using z3, by simpa [Tr.same, f0] using z4, by simpa [Tr.cnt, f0] using z5⟩
        rw [f0] at hside
        clear z3 z4 z5 hk
        go_wp2_with fail
        refine hside.mono ?_
        rintro e w1 ⟨rfl, hm1, fr1⟩
        have hb1 := (fr1.block b hbl nb).trans hb
        have c2 : w1.cell? ⟨b, 2, none⟩ = some (.pointer L.ad) := cell_of hb1 2
        have tl := (lL.fr fr1 fun x hx e => nL (e ▸ hx)).top
        generalize hLa : L.ad = lp at c2 tl
        clear hLa
        go_wp2_with fail
        refine (count_any lp L.size L.ht _ tl).mono ?_
        rintro e w2 ⟨rfl, rfl⟩
        go_wp2_with fail
        go_ret2
        rw [HZ.out.1, HZ.out.2.1, HZ.out.2.2]
        exact ⟨by push_cast; rfl, by rw [hm1]; congr 2; omega, fr.trans fr1 fun _ _ e => e⟩
      · by_cases f1 : side turned k k1 < 0
        · have HZ : Hid (T.rank (side turned k) = cur + L.rank (side turned k) ∧ T.same (side turned k) = L.same (side turned k) ∧ T.cnt (side turned k) = n + 1 + L.cnt (side turned k)) := ⟨by simpa [Tr.rank, f0, f1] using z3, by simpa [Tr.same, f0, f1] using z4, by simp [Tr.cnt, f0, f1] at z5; omega⟩
          have HK : Hid (L.size + R.size + 1 = gk) := hk
          have b1 : (side turned k k1 == 0) = false := by rw [beq_eq_false_iff_ne]; exact f0
          clear z3 z4 z5 hk
          go_wp2_with fail
          refine hside.mono ?_
          rintro e w1 ⟨rfl, hm1, fr1⟩
          have hb1 := (fr1.block b hbl nb).trans hb
          have c2 : w1.cell? ⟨b, 2, none⟩ = some (.pointer L.ad) := cell_of hb1 2
          go_wp2_with fail
          go_roundg L.size
          case measure => have := HK.out; omega
          case rel => exact ⟨L, cur, n + 1, rfl, rfl, rfl, lL.fr fr1 fun x hx e => nL (e ▸ hx), nL, by rw [hm1]; congr 2; omega, fr.trans fr1 fun _ _ e => e, by omega, by omega, HZ.out.1, HZ.out.2.1, HZ.out.2.2⟩
        · have HZ : Hid (T.rank (side turned k) = cur + L.size + 1 + R.rank (side turned k) ∧ T.same (side turned k) = R.same (side turned k) ∧ T.cnt (side turned k) = n + 1 + R.cnt (side turned k)) := ⟨by simp [Tr.rank, f0, f1] at z3; omega, by simpa [Tr.same, f0, f1] using z4, by simp [Tr.cnt, f0, f1] at z5; omega⟩
          have HK : Hid (L.size + R.size + 1 = gk) := hk
          have b1 : (side turned k k1 == 0) = false := by rw [beq_eq_false_iff_ne]; exact f0
          clear z3 z4 z5 hk
          go_wp2_with fail
          refine hside.mono ?_
          rintro e w1 ⟨rfl, hm1, fr1⟩
          have hb1 := (fr1.block b hbl nb).trans hb
          have c2 : w1.cell? ⟨b, 2, none⟩ = some (.pointer L.ad) := cell_of hb1 2
          have c3 : w1.cell? ⟨b, 3, none⟩ = some (.pointer R.ad) := cell_of hb1 3
          have tl := (lL.fr fr1 fun x hx e => nL (e ▸ hx)).top
          generalize hLa : L.ad = lp at c2 tl
          clear hLa
          go_wp2_with fail
          refine (count_any lp L.size L.ht _ tl).mono ?_
          rintro e w2 ⟨rfl, rfl⟩
          go_wp2_with fail
          go_roundg R.size
          case measure => have := HK.out; omega
          case rel => exact ⟨R, cur + L.size + 1, n + 1, rfl, by go_num, rfl, lR.fr fr1 fun x hx e => nR (e ▸ hx), nR, by rw [hm1]; congr 2; omega, fr.trans fr1 fun _ _ e => e, by omega, by omega, HZ.out.1, HZ.out.2.1, HZ.out.2.2⟩

end Go.Proofs.YthbnbocpddddmaaGreat
