import Derived.Test.YthbnbocpddddmaaGreatQA
import Derived.Deep.LoopGhost
namespace Go.Proofs.YthbnbocpddddmaaGreat
open Go.RowKit

theorem ord_self (a : Nat) : (FloatKind.f64.format.order a a != some Ordering.eq) = nanB a := by
  show (Ieee.double.order a a != some Ordering.eq) = nanB a
  cases h : nanB a
  · rw [order_rk h h, cmp_int]; simp
  · rw [order_nan (Or.inl h)]; rfl

theorem ord_lt {a b : Nat} (ha : nanB a = false) (hb : nanB b = false) : (FloatKind.f64.format.order a b == some Ordering.lt) = decide (rkF a < rkF b) := by
  show (Ieee.double.order a b == some Ordering.lt) = _
  rw [order_rk ha hb, cmp_int]
  by_cases h : rkF a < rkF b
  · rw [if_pos h]; simp [h]
  · rw [if_neg h]; split <;> simp [h]

theorem ord_gt {a b : Nat} (ha : nanB a = false) (hb : nanB b = false) : (FloatKind.f64.format.order a b == some Ordering.gt) = decide (rkF b < rkF a) := by
  show (Ieee.double.order a b == some Ordering.gt) = _
  rw [order_rk ha hb, cmp_int]
  by_cases h : rkF b < rkF a
  · rw [if_neg (by omega), if_neg (by omega)]; simp [h]
  · split
    · simp [h]
    · rw [if_pos (by omega)]; simp [h]

set_option maxHeartbeats 400000 in
theorem isNaN_any (a : Nat) (w : World) : Calls Tryz.prog 287 #[.float .f64 a] w fun e w' => e = .returned (.bool (nanB a)) ∧ w' = w := by
  have h := ord_self a
  go_enter Tryz.func287, Tryz.ntmps287
  go_wp2
  go_ret
  exact ⟨by simp, rfl⟩

set_option maxHeartbeats 400000 in
theorem cmp_any (a b : Nat) (w : World) : Calls Tryz.prog 286 #[.float .f64 a, .float .f64 b] w fun e w' => e = .returned (.int .i64 (sgn (rkF a) (rkF b))) ∧ w' = w := by
  unfold sgn
  have h1 := isNaN_any a
  have h2 := isNaN_any b
  have hp := big_pos
  cases ha : nanB a
  · cases hb : nanB b
    · have hl := ord_lt ha hb
      have hg := ord_gt ha hb
      rw [ha] at h1
      rw [hb] at h2
      by_cases c1 : rkF a < rkF b
      · rw [if_pos c1]
        rw [decide_eq_true c1] at hl
        clear hg ha hb
        go_enter Tryz.func286, Tryz.ntmps286
        go_wp2_with fail
        refine (h1 _).mono ?_
        rintro e w' ⟨rfl, rfl⟩
        go_wp2_with fail
        refine (h2 _).mono ?_
        rintro e w' ⟨rfl, rfl⟩
        go_wp2_with fail
        go_ret
        exact ⟨rfl, rfl⟩
      · rw [if_neg c1]
        rw [decide_eq_false c1] at hl
        by_cases c2 : rkF b < rkF a
        · rw [if_pos c2]
          rw [decide_eq_true c2] at hg
          clear ha hb
          go_enter Tryz.func286, Tryz.ntmps286
          go_wp2_with fail
          refine (h1 _).mono ?_
          rintro e w' ⟨rfl, rfl⟩
          go_wp2_with fail
          refine (h2 _).mono ?_
          rintro e w' ⟨rfl, rfl⟩
          go_wp2_with fail
          go_ret
          exact ⟨rfl, rfl⟩
        · rw [if_neg c2]
          rw [decide_eq_false c2] at hg
          clear ha hb
          go_enter Tryz.func286, Tryz.ntmps286
          go_wp2_with fail
          refine (h1 _).mono ?_
          rintro e w' ⟨rfl, rfl⟩
          go_wp2_with fail
          refine (h2 _).mono ?_
          rintro e w' ⟨rfl, rfl⟩
          go_wp2_with fail
          go_ret
          exact ⟨rfl, rfl⟩
    · have l1 := rk_low ha
      have l2 := nan_rk hb
      rw [if_neg (by omega), if_pos (by omega)]
      rw [ha] at h1
      rw [hb] at h2
      clear ha hb l1 l2
      go_enter Tryz.func286, Tryz.ntmps286
      go_wp2_with fail
      refine (h1 _).mono ?_
      rintro e w' ⟨rfl, rfl⟩
      go_wp2_with fail
      refine (h2 _).mono ?_
      rintro e w' ⟨rfl, rfl⟩
      go_wp2_with fail
      go_ret
      exact ⟨rfl, rfl⟩
  · cases hb : nanB b
    · have l1 := rk_low hb
      have l2 := nan_rk ha
      rw [if_pos (by omega)]
      rw [ha] at h1
      rw [hb] at h2
      clear ha hb l1 l2
      go_enter Tryz.func286, Tryz.ntmps286
      go_wp2_with fail
      refine (h1 _).mono ?_
      rintro e w' ⟨rfl, rfl⟩
      go_wp2_with fail
      refine (h2 _).mono ?_
      rintro e w' ⟨rfl, rfl⟩
      go_wp2_with fail
      go_ret
      exact ⟨rfl, rfl⟩
    · have l1 := nan_rk hb
      have l2 := nan_rk ha
      rw [if_neg (by omega), if_neg (by omega)]
      rw [ha] at h1
      rw [hb] at h2
      clear ha hb l1 l2
      go_enter Tryz.func286, Tryz.ntmps286
      go_wp2_with fail
      refine (h1 _).mono ?_
      rintro e w' ⟨rfl, rfl⟩
      go_wp2_with fail
      refine (h2 _).mono ?_
      rintro e w' ⟨rfl, rfl⟩
      go_wp2_with fail
      go_ret
      exact ⟨rfl, rfl⟩

/-- The parts tell how points stand. -/
theorem sgn_rk (a b : Int) : sgn (rk a) (rk b) = if sgn (rkF (reB a)) (rkF (reB b)) ≠ 0 then sgn (rkF (reB a)) (rkF (reB b)) else sgn (rkF (imB a)) (rkF (imB b)) := by
  have hp := big_pos
  obtain ⟨a1, a2⟩ := rk_abs (imB a)
  obtain ⟨b1, b2⟩ := rk_abs (imB b)
  unfold rk
  generalize rkF (reB a) = x at *
  generalize rkF (reB b) = y at *
  generalize rkF (imB a) = u at *
  generalize rkF (imB b) = v at *
  rcases (show x < y ∨ y < x ∨ x = y by omega) with h | h | h
  · have h1 : x * (4 * bigM) + 4 * bigM ≤ y * (4 * bigM) := by
      have := Int.mul_le_mul_of_nonneg_right (show x + 1 ≤ y by omega) (show 0 ≤ 4 * bigM by omega)
      rw [Int.add_mul, Int.one_mul] at this
      exact this
    generalize x * (4 * bigM) = X at *
    generalize y * (4 * bigM) = Y at *
    have e1 : sgn x y = -1 := by unfold sgn; rw [if_pos h]
    have e2 : sgn (X + u) (Y + v) = -1 := by unfold sgn; rw [if_pos (by omega)]
    rw [e1, e2]; rfl
  · have h1 : y * (4 * bigM) + 4 * bigM ≤ x * (4 * bigM) := by
      have := Int.mul_le_mul_of_nonneg_right (show y + 1 ≤ x by omega) (show 0 ≤ 4 * bigM by omega)
      rw [Int.add_mul, Int.one_mul] at this
      exact this
    generalize x * (4 * bigM) = X at *
    generalize y * (4 * bigM) = Y at *
    have e1 : sgn x y = 1 := by unfold sgn; rw [if_neg (by omega), if_pos h]
    have e2 : sgn (X + u) (Y + v) = 1 := by unfold sgn; rw [if_neg (by omega), if_pos (by omega)]
    rw [e1, e2]; rfl
  · subst h
    generalize x * (4 * bigM) = X at *
    have e1 : sgn x x = 0 := by unfold sgn; rw [if_neg (by omega), if_neg (by omega)]
    rw [e1, if_neg (by simp)]
    unfold sgn
    (repeat' split) <;> omega

set_option maxHeartbeats 400000 in
theorem intsCompare_any (a b : Int) (w : World) : Calls Tryz.prog 285 #[.agg #[], kv a, kv b] w fun e w' => e = .returned (.int .i64 (sgn (rk a) (rk b))) ∧ Fr (fun _ => False) w w' := by
  rw [sgn_rk]
  have h1 := cmp_any (reB a) (reB b)
  have h2 := cmp_any (imB a) (imB b)
  generalize sgn (rkF (reB a)) (rkF (reB b)) = s1 at *
  generalize sgn (rkF (imB a)) (rkF (imB b)) = s2 at *
  by_cases c : s1 = 0
  · subst c
    go_enter Tryz.func285, Tryz.ntmps285
    go_wp2_with fail
    refine (h1 _).mono ?_
    rintro e w' ⟨rfl, rfl⟩
    go_wp2_with fail
    refine (h2 _).mono ?_
    rintro e w' ⟨rfl, rfl⟩
    go_wp2_with fail
    go_ret
    exact ⟨by simp, Fr.alloc (Fr.refl _ _) _⟩
  · rw [if_pos c]
    go_enter Tryz.func285, Tryz.ntmps285
    go_wp2_with fail
    refine (h1 _).mono ?_
    rintro e w' ⟨rfl, rfl⟩
    go_wp2_with fail
    go_ret
    exact ⟨by simp, Fr.alloc (Fr.refl _ _) _⟩

theorem method_compare (w : World) : (method 489 213 (.agg #[]) "Compare").run Tryz.prog w = .ok (285, .agg #[]) w := by kernel_rfl

set_option maxRecDepth 100000 in
set_option maxHeartbeats 400000 in
theorem compare_any (turned : Bool) (a b : Int) (w : World) : Calls Tryz.prog 120 #[.agg #[.iface 213 (.agg #[]), .bool turned], kv a, kv b] w fun e w' => e = .returned (.int .i64 (side turned a b)) ∧ Fr (fun _ => False) w w' := by
  have hm := method_compare
  cases turned
  · go_enter Tryz.func120, Tryz.ntmps120
    go_wp2_with fail
    refine (intsCompare_any _ _ _).mono ?_
    rintro e w' ⟨rfl, fr⟩
    go_wp2_with fail
    go_ret
    exact ⟨rfl, (Fr.alloc (Fr.refl _ _) _).trans fr fun _ _ e => e⟩
  · go_enter Tryz.func120, Tryz.ntmps120
    go_wp2_with fail
    refine (intsCompare_any _ _ _).mono ?_
    rintro e w' ⟨rfl, fr⟩
    go_wp2_with fail
    go_ret
    exact ⟨rfl, (Fr.alloc (Fr.refl _ _) _).trans fr fun _ _ e => e⟩

end Go.Proofs.YthbnbocpddddmaaGreat

namespace Go.Proofs.YthbnbocpddddmaaGreat
open Go.RowKit

/-- The engine that an engine value is of; a map's block. -/
def engOf : Value → Int
  | .iface t _ => if t = 136 then 1 else 0
  | _ => 0
def mapBlk (turned : Bool) (items : Value) (c : Int) : Obj := .cells #[.iface 213 (.agg #[]), .bool turned, .int .i64 (engOf items), items, .int .i64 c] 135 (0, 0)

/-- A cursor's block. -/
def curBlk (m : Nat) (s k : Int) : Obj := .cells #[.pointer (some ⟨m, 0, none⟩), .int .i64 s, kv k] 282 (0, 0)

theorem Fr.cell {S : Nat → Prop} {w w' : World} (h : Fr S w w') {b : Nat} (o : Nat) (hb : b < w.heap.size) (hn : ¬ S b) : w'.cell? ⟨b, o, none⟩ = w.cell? ⟨b, o, none⟩ := World.cell?_of_block (w := w) (h.block b hb hn)

set_option maxHeartbeats 1000000 in
theorem mcompare_any (m : Nat) (turned : Bool) (items : Value) (c a b : Int) (w : World) (hm : w.heap[m]? = some (mapBlk turned items c)) (b0 : 0 ≤ c) (b1 : c ≤ 9000000000000000000) :
    Calls Tryz.prog 97 #[.pointer (some ⟨m, 0, none⟩), kv a, kv b] w fun e w' => e = .returned (.int .i64 (side turned a b)) ∧
      w'.heap[m]? = some (mapBlk turned items (c + 1)) ∧ Fr (fun x => x = m) w w' := by
  have x1 := lt_of_blk hm
  have c0 : w.cell? ⟨m, 0, none⟩ = some (.iface 213 (.agg #[])) := cell_of hm 0
  have c1 : w.cell? ⟨m, 1, none⟩ = some (.bool turned) := cell_of hm 1
  have c3 : w.cell? ⟨m, 4, none⟩ = some (.int .i64 c) := cell_of hm 4
  have f3 : w.frozen? ⟨m, 4, none⟩ = false := frozen_of hm 4
  go_enter Tryz.func97, Tryz.ntmps97
  go_wp2_with fail
  refine (compare_any turned a b _).mono ?_
  rintro e w1 ⟨rfl, fr⟩
  go_wp2_with fail
  go_ret
  refine ⟨rfl, (fr.block m (by simpa using x1) (fun e => e)).trans ((blk_set hm 4 _).trans rfl), ?_⟩
  exact Fr.trans (Fr.setCell (Fr.refl _ _) (by exact fun _ => rfl) _) fr (fun _ _ e => e.elim)

set_option maxHeartbeats 1000000 in
theorem side_any (m mb kb : Nat) (turned : Bool) (items : Value) (c k key : Int) (w : World) (hm : w.heap[m]? = some (mapBlk turned items c))
    (hmb : w.heap[mb]? = some (.cells #[.pointer (some ⟨m, 0, none⟩)] 50 (0, 0))) (hkb : w.heap[kb]? = some (.cells #[kv k] 53 (0, 0)))
    (_n1 : mb ≠ m) (_n2 : kb ≠ m) (b0 : 0 ≤ c) (b1 : c ≤ 9000000000000000000) :
    Calls Tryz.prog 96 #[kv key, .pointer (some ⟨mb, 0, none⟩), .pointer (some ⟨kb, 0, none⟩)] w fun e w' => e = .returned (.int .i64 (side turned k key)) ∧
      w'.heap[m]? = some (mapBlk turned items (c + 1)) ∧ Fr (fun x => x = m) w w' := by
  have d0 : w.cell? ⟨mb, 0, none⟩ = some (.pointer (some ⟨m, 0, none⟩)) := cell_of hmb 0
  have e0 : w.cell? ⟨kb, 0, none⟩ = some (kv k) := cell_of hkb 0
  have hc := mcompare_any m turned items c k key w hm b0 b1
  clear hm hmb hkb
  go_enter Tryz.func96, Tryz.ntmps96
  go_wp2_with fail
  refine hc.mono ?_
  rintro e w1 ⟨rfl, g1, g2⟩
  go_wp2_with fail
  go_ret
  exact ⟨rfl, g1, g2⟩

end Go.Proofs.YthbnbocpddddmaaGreat

namespace Go.Proofs.YthbnbocpddddmaaGreat
open Go.RowKit

def treeBlk (p : Option Addr) : Obj := .cells #[.pointer p] 216 (0, 0)

set_option maxHeartbeats 1000000 in
theorem tFind_any (tb m mb kb : Nat) (T : Tr) (turned : Bool) (items : Value) (c k : Int) (w : World) (htb : w.heap[tb]? = some (treeBlk T.ad)) (hm : w.heap[m]? = some (mapBlk turned items c))
    (hmb : w.heap[mb]? = some (.cells #[.pointer (some ⟨m, 0, none⟩)] 50 (0, 0))) (hkb : w.heap[kb]? = some (.cells #[kv k] 53 (0, 0)))
    (hT : Lies 360 w T) (nT : ¬ T.has m) (n1 : mb ≠ m) (n2 : kb ≠ m) (b0 : 0 ≤ c) (b1 : c ≤ 8000000000000000000) (hs : T.size ≤ 10000) :
    Calls Tryz.prog 250 #[.pointer (some ⟨tb, 0, none⟩), .func (.func 96) #[] #[.pointer (some ⟨mb, 0, none⟩), .pointer (some ⟨kb, 0, none⟩)]] w fun e w' =>
      e = .returned (.tuple #[.int .i64 (T.rank (side turned k)), .bool (T.same (side turned k))]) ∧
      w'.heap[m]? = some (mapBlk turned items (c + T.cnt (side turned k))) ∧ Fr (fun x => x = m) w w' := by
  have t0 : w.cell? ⟨tb, 0, none⟩ = some (.pointer T.ad) := cell_of htb 0
  have l1 := lt_of_blk hmb
  have l2 := lt_of_blk hkb
  generalize hTa : T.ad = tp at t0
  have HTA : Hid (T.ad = tp) := hTa
  clear hTa htb
  go_enter Tryz.func250, Tryz.ntmps250
  go_wp2_with fail
  go_loopg [6, 7] T.size (fun gk s6 s7 wr => ∃ (t : Tr) (cur n : Nat), t.size = gk ∧ s6 = .int .i64 cur ∧ s7 = .pointer t.ad ∧ Lies 360 wr t ∧ ¬ t.has m ∧ wr.heap[m]? = some (mapBlk turned items (c + n)) ∧ Fr (fun x => x = m) w wr ∧
    cur + t.size ≤ T.size ∧ n + t.ht ≤ T.ht ∧ T.rank (side turned k) = cur + t.rank (side turned k) ∧ T.same (side turned k) = t.same (side turned k) ∧ T.cnt (side turned k) = n + t.cnt (side turned k))
  case atStart => exact ⟨T, 0, 0, rfl, rfl, by rw [HTA.out], hT, nT, by simpa using hm, Fr.refl _ _, by omega, by omega, by omega, rfl, by omega⟩
  case round =>
    obtain ⟨t, cur, n, hk, rfl, rfl, hl, nt, hmr, fr, z1, z2, z3, z4, z5⟩ := hrel
    have g1 := T.ht_le_size
    cases t with
    | nil =>
      have HZ : Hid (T.rank (side turned k) = cur ∧ T.same (side turned k) = false ∧ T.cnt (side turned k) = n) := ⟨by simpa [Tr.rank] using z3, by simpa [Tr.same] using z4, by simpa [Tr.cnt] using z5⟩
      clear z3 z4 z5 hk
      show Code.wp _ _ _ _ _
      simp only [Tr.ad]
      go_wp2_with fail
      go_ret2
      rw [HZ.out.1, HZ.out.2.1, HZ.out.2.2]
      exact ⟨rfl, hmr, fr⟩
    | node b L k1 v1 R =>
      have hb := hl.1
      have lL := hl.2.1
      have lR := hl.2.2.1
      have nb : b ≠ m := fun e => nt (Or.inl e.symm)
      have nL : ¬ L.has m := fun e => nt (Or.inr (Or.inl e))
      have nR : ¬ R.has m := fun e => nt (Or.inr (Or.inr e))
      have c0 : wr.cell? ⟨b, 0, none⟩ = some (kv k1) := cell_of hb 0
      have hbl := lt_of_blk hb
      have l1' : mb < wr.heap.size := Nat.lt_of_lt_of_le l1 fr.size
      have l2' : kb < wr.heap.size := Nat.lt_of_lt_of_le l2 fr.size
      have hside := side_any m mb kb turned items (c + n) k k1 wr hmr ((fr.block mb l1 n1).trans hmb) ((fr.block kb l2 n2).trans hkb) n1 n2 (by omega) (by omega)
      simp only [Tr.size, Tr.ht] at hk z1 z2
      show Code.wp _ _ _ _ _
      simp only [Tr.ad]
      by_cases f0 : side turned k k1 = 0
      · have HZ : Hid (T.rank (side turned k) = cur + L.size ∧ T.same (side turned k) = true ∧ T.cnt (side turned k) = n + 1) := ⟨by simpa [Tr.rank, f0] using z3, by simpa [Tr.same, f0] using z4, by simpa [Tr.cnt, f0] using z5⟩
        rw [f0] at hside
        clear z3 z4 z5 hk
        go_wp2_with fail
        refine hside.mono ?_
        rintro e w1 ⟨rfl, hm1, fr1⟩
        have hb1 := (fr1.block b hbl nb).trans hb
        have c2 : w1.cell? ⟨b, 2, none⟩ = some (.pointer L.ad) := cell_of hb1 2
        have tl := (lL.fr fr1 fun x hx e => nL (e ▸ hx)).top
        generalize hLa : L.ad = lp at c2 tl
        clear hLa
        go_wp2_with fail
        refine (count_any lp L.size L.ht _ tl).mono ?_
        rintro e w2 ⟨rfl, rfl⟩
        go_wp2_with fail
        go_ret2
        rw [HZ.out.1, HZ.out.2.1, HZ.out.2.2]
        exact ⟨by push_cast; rfl, by rw [hm1]; congr 2; omega, fr.trans fr1 fun _ _ e => e⟩
      · by_cases f1 : side turned k k1 < 0
        · have HZ : Hid (T.rank (side turned k) = cur + L.rank (side turned k) ∧ T.same (side turned k) = L.same (side turned k) ∧ T.cnt (side turned k) = n + 1 + L.cnt (side turned k)) := ⟨by simpa [Tr.rank, f0, f1] using z3, by simpa [Tr.same, f0, f1] using z4, by simp [Tr.cnt, f0, f1] at z5; omega⟩
          have HK : Hid (L.size + R.size + 1 = gk) := hk
          have b1 : (side turned k k1 == 0) = false := by rw [beq_eq_false_iff_ne]; exact f0
          clear z3 z4 z5 hk
          go_wp2_with fail
          refine hside.mono ?_
          rintro e w1 ⟨rfl, hm1, fr1⟩
          have hb1 := (fr1.block b hbl nb).trans hb
          have c2 : w1.cell? ⟨b, 2, none⟩ = some (.pointer L.ad) := cell_of hb1 2
          go_wp2_with fail
          go_roundg L.size
          case measure => have := HK.out; omega
          case rel => exact ⟨L, cur, n + 1, rfl, rfl, rfl, lL.fr fr1 fun x hx e => nL (e ▸ hx), nL, by rw [hm1]; congr 2; omega, fr.trans fr1 fun _ _ e => e, by omega, by omega, HZ.out.1, HZ.out.2.1, HZ.out.2.2⟩
        · have HZ : Hid (T.rank (side turned k) = cur + L.size + 1 + R.rank (side turned k) ∧ T.same (side turned k) = R.same (side turned k) ∧ T.cnt (side turned k) = n + 1 + R.cnt (side turned k)) := ⟨by simp [Tr.rank, f0, f1] at z3; omega, by simpa [Tr.same, f0, f1] using z4, by simp [Tr.cnt, f0, f1] at z5; omega⟩
          have HK : Hid (L.size + R.size + 1 = gk) := hk
          have b1 : (side turned k k1 == 0) = false := by rw [beq_eq_false_iff_ne]; exact f0
          clear z3 z4 z5 hk
          go_wp2_with fail
          refine hside.mono ?_
          rintro e w1 ⟨rfl, hm1, fr1⟩
          have hb1 := (fr1.block b hbl nb).trans hb
          have c2 : w1.cell? ⟨b, 2, none⟩ = some (.pointer L.ad) := cell_of hb1 2
          have c3 : w1.cell? ⟨b, 3, none⟩ = some (.pointer R.ad) := cell_of hb1 3
          have tl := (lL.fr fr1 fun x hx e => nL (e ▸ hx)).top
          generalize hLa : L.ad = lp at c2 tl
          clear hLa
          go_wp2_with fail
          refine (count_any lp L.size L.ht _ tl).mono ?_
          rintro e w2 ⟨rfl, rfl⟩
          go_wp2_with fail
          go_roundg R.size
          case measure => have := HK.out; omega
          case rel => exact ⟨R, cur + L.size + 1, n + 1, rfl, by go_num, rfl, lR.fr fr1 fun x hx e => nR (e ▸ hx), nR, by rw [hm1]; congr 2; omega, fr.trans fr1 fun _ _ e => e, by omega, by omega, HZ.out.1, HZ.out.2.1, HZ.out.2.2⟩

end Go.Proofs.YthbnbocpddddmaaGreat
