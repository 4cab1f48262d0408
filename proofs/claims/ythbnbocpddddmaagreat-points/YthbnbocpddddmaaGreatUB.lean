import Derived.Test.YthbnbocpddddmaaGreatUA
import Derived.Test.YthbnbocpddddmaaGreatQV
import Derived.Test.YthbnbocpddddmaaGreatQW
namespace Go.Proofs.YthbnbocpddddmaaGreat
open Go.RowKit

set_option maxRecDepth 100000 in
set_option maxHeartbeats 8000000 in
theorem step_seek (w : World) (B S : Nat) (lab : Nat → Nat) (V : Nat → Value) (ms : List MR) (cs : List CR) (bd : Int) (h : Sh w B S lab V ms cs bd) (i : Nat) (r : MR) (hr : ms[i]? = some r) (hcs : cs.length ≤ 10000000000000) (_hbd : bd ≤ 7000000000000000000)
    (mp ot en n a b : Int) (s t : ByteArray) (x y z : Nat) (n0 : -9223372036854775808 ≤ n) (n1 : n < 9223372036854775808) (hx0 : x < 18446744073709551616) (hy0 : y < 18446744073709551616) :
    Calls Tryz.prog 110 #[.pointer (some ⟨S, 0, none⟩), opV 13 mp ot en n a b s t x y z, .int .i64 i] w (Res w B S lab cs.length r bd fun _ => True) := by
  have A0 : Fr (fun _ => False) w (w.alloc (opBlk 13 mp ot en n a b s t x y z)) := Fr.alloc (Fr.refl _ _) _
  have hb := h.old A0
  have hob := blk_new w (opBlk 13 mp ot en n a b s t x y z)
  have HSame : Hid (∀ w', Fr (fun _ => False) w w' → Res w B S lab cs.length r bd (fun _ => True) (.returned (.bool true)) w') := fun w' f => by
    have h' := h.old f
    exact ⟨rfl, ⟨lab, V, ms, cs, h'.keep (Fr.refl (fun _ => False) _) (fun _ _ => rfl) (fun _ e => e.elim) (by omega), Nat.le_succ _⟩, ⟨0, r.oP, r.xs, by simpa using (h'.m i r hr).1, Nat.zero_le _, trivial⟩, f.mono fun _ _ e => e.elim⟩
  obtain ⟨aC, cC, vC⟩ := own_shape (hb.x.own 2 (by omega))
  have nC : (rows ms cs 2).length = cs.length := List.length_map ..
  rw [nC] at vC
  have u2 : (w.alloc (opBlk 13 mp ot en n a b s t x y z)).cell? ⟨S, 2, none⟩ = some (.slice aC cs.length cC) := (cell_of hb.x.blk 2).trans (by rw [← vC]; rfl)
  by_cases hz : cs.length = 0
  · rw [hz] at u2
    clear h hb hr hob vC nC
    go_enter Tryz.func110, Tryz.ntmps110
    go_wp2_with fail
    go_ret
    exact HSame.out _ A0
  · have o4 : (w.alloc (opBlk 13 mp ot en n a b s t x y z)).cell? ⟨w.heap.size, 4, none⟩ = some (.int .i64 n) := cell_of hob 4
    have o0 : (w.alloc (opBlk 13 mp ot en n a b s t x y z)).cell? ⟨w.heap.size, 0, none⟩ = some (.int .i64 13) := cell_of hob 0
    have hp := fun w' => lpick_any n cs.length w' n0 n1 (by omega) (by omega)
    obtain ⟨p0, p1⟩ := pkn_b n cs.length (by omega)
    obtain ⟨j, hj⟩ := Int.eq_ofNat_of_zero_le p0
    rw [hj] at hp p1
    have hjl : j < cs.length := by omega
    obtain ⟨q, hq⟩ : ∃ q, cs[j]? = some q := ⟨_, List.getElem?_eq_getElem hjl⟩
    have hr4 : (rows ms cs 4)[j]? = some (.int .i64 q.o) := by show (cs.map _)[j]? = _; rw [List.getElem?_map, hq]; rfl
    obtain ⟨qo, co, vO, e4, _, l4, z4⟩ := hb.x.here 4 (by omega) hr4
    have nO : (rows ms cs 4).length = cs.length := List.length_map ..
    rw [nO] at vO
    have u4 : (w.alloc (opBlk 13 mp ot en n a b s t x y z)).cell? ⟨S, 4, none⟩ = some (.slice (some ⟨qo, 0, none⟩) cs.length co) := (cell_of hb.x.blk 4).trans (by rw [← vO]; rfl)
    have hzi : ¬ (cs.length : Int) = 0 := by omega
    have zS := lt_of_blk hb.x.blk
    rcases h.c j q hq with ho | ⟨i', r', ho, hr', hm', b1', b2', lc, ld, h3⟩
    · rw [ho] at e4
      clear h hb hr hob vC nC vO nO hq hr4 n0 n1
      go_enter Tryz.func110, Tryz.ntmps110
      go_wp2_with fail
      go_region_held3 (fun w' => w'.cell? ⟨w.heap.size, 4, none⟩ = some (.int .i64 n) ∧ w'.cell? ⟨S, 2, none⟩ = some (.slice aC cs.length cC))
        (first | exact ⟨o4, u2⟩)
        ((go_at_call 48; refine (hp _).mono ?_; rintro e w2 ⟨rfl, rfl⟩))
      go_wp2_with fail
      go_ret
      exact HSame.out _ (Fr.drew A0)
    · obtain ⟨g1, g2, g3, g4, g5, g6, g7⟩ := hb.m i' r' hr'
      obtain ⟨q0, cap0, q1, cap1, R⟩ := hb.rd hr'
      have hr2 : (rows ms cs 2)[j]? = some (ptr q.cb) := by show (cs.map _)[j]? = _; rw [List.getElem?_map, hq]; rfl
      have hr3 : (rows ms cs 3)[j]? = some (ptr q.db) := by show (cs.map _)[j]? = _; rw [List.getElem?_map, hq]; rfl
      obtain ⟨qc, cc, vC2, e2, _, l2, z2⟩ := hb.x.here 2 (by omega) hr2
      obtain ⟨qd, cd, vD, e3, _, l3, z3⟩ := hb.x.here 3 (by omega) hr3
      have nD : (rows ms cs 3).length = cs.length := List.length_map ..
      rw [nD] at vD
      rw [nC] at vC2
      have hac : aC = some ⟨qc, 0, none⟩ := (by simpa using (vC.symm.trans vC2) : aC = some ⟨qc, 0, none⟩ ∧ cC = cc).1
      subst hac
      have u3 : (w.alloc (opBlk 13 mp ot en n a b s t x y z)).cell? ⟨S, 3, none⟩ = some (.slice (some ⟨qd, 0, none⟩) cs.length cd) := (cell_of hb.x.blk 3).trans (by rw [← vD]; rfl)
      have R2 := R.s1
      have R3 := R.c1
      have hi' := (List.getElem?_eq_some_iff.1 hr').1
      have hil : (i' : Int) < (ms.length : Int) := by omega
      have hi0 : ¬ (i' : Int) < 0 := by omega
      rw [ho] at e4
      have hjl' : (j : Int) < (cs.length : Int) := by omega
      have c1' := A0.kept b1' fun e => e
      have c2' := A0.kept b2' fun e => e
      have hself := (g3 r'.pm g1.self).1
      have nS : ∀ y, lab y ≤ 6 → ¬ (y = r'.pm ∨ y = q.cb) := fun y hy e => by
        rcases e with e | e
        · rw [e] at hy; omega
        · rw [e] at hy; omega
      have h8 := h.n8
      have lc1 := lc.1
      have ld1 := ld.1
      have ncb : ¬ r'.oP q.cb := fun e => by have := (g3 _ e).1; omega
      have ndb : ¬ (q.db = r'.pm ∨ q.db = q.cb) := fun e => by
        have h1 := ld.1
        rcases e with e | e
        · rw [e, hself] at h1; have := h.n8; omega
        · rw [e, lc.1] at h1; omega
      have noR : ∀ y, r'.oR y → ¬ (y = r'.pm ∨ y = q.cb) := fun y hy e => by
        have h1 := (g4 y hy).1
        rcases e with e | e
        · rw [e, hself] at h1; omega
        · rw [e, lc.1] at h1; have := h.n8; omega
      rw [hm'] at c1'
      have o5 : (w.alloc (opBlk 13 mp ot en n a b s t x y z)).cell? ⟨w.heap.size, 9, none⟩ = some (.float .f64 x) := cell_of hob 9
      have o6 : (w.alloc (opBlk 13 mp ot en n a b s t x y z)).cell? ⟨w.heap.size, 10, none⟩ = some (.float .f64 y) := cell_of hob 10
      have zO := lt_of_blk hob
      have hsk := fun w' (f : Fr (fun _ => False) (w.alloc (opBlk 13 mp ot en n a b s t x y z)) w') => cseek_anyT r'.pm q.cb q.s q.k (cod x y) w' (f.kept c1' fun e => e)
      rw [kv_cod hx0 hy0] at hsk
      have nOb : w.heap.size ≠ q.cb := fun e => by have := lt_of_blk b1'; omega
      have nOd : w.heap.size ≠ q.db := fun e => by have := lt_of_blk b2'; omega
      have M0 := g1
      have nSd : ∀ y, lab y ≤ 6 → y ≠ q.db := fun y hy e => by rw [e] at hy; omega
      have hsr := g1.srt
      have HH : Hid (Sh w B S lab V ms cs bd ∧ ms[i']? = some r' ∧ cs[j]? = some q ∧ q.o = ((i' : Nat) : Int) ∧ ms[i]? = some r ∧ q.m = r'.pm ∧ (B ≤ r'.pm ∧ lab r'.pm ≠ 7) ∧ (B ≤ q.cb ∧ lab q.cb ≠ 7) ∧ (B ≤ q.db ∧ lab q.db ≠ 7) ∧ 0 ≤ r'.c ∧ r'.c ≤ bd) := ⟨h, hr', hq, ho, hr, hm', ⟨(g3 _ g1.self).2, by omega⟩, ⟨lc.2, by omega⟩, ⟨ld.2, by omega⟩, g6, g7⟩
      have lS := h.x.lab0
      unfold ptr at e2 e3
      clear h hb hr hob vC nC vO nO hq hr4 n0 n1 vC2 vD nD hr2 hr3 hr' g1 g3 g4 R
      go_enter Tryz.func110, Tryz.ntmps110
      go_wp2_with fail
      go_region_held3 (fun w' => w'.cell? ⟨w.heap.size, 4, none⟩ = some (.int .i64 n) ∧ w'.cell? ⟨S, 2, none⟩ = some (.slice (some ⟨qc, 0, none⟩) cs.length cC))
        (first | exact ⟨o4, u2⟩)
        ((go_at_call 48; refine (hp _).mono ?_; rintro e w2 ⟨rfl, rfl⟩))
      go_wp2_with fail
      go_region
      go_wp2_with fail
      go_region_held3 (fun w' => w'.cell? ⟨S, 2, none⟩ = some (.slice (some ⟨qc, 0, none⟩) cs.length cC) ∧ w'.cell? ⟨qc, j, none⟩ = some (.pointer (some ⟨q.cb, 0, none⟩)) ∧ w'.cell? ⟨w.heap.size, 9, none⟩ = some (.float .f64 x) ∧ w'.cell? ⟨w.heap.size, 10, none⟩ = some (.float .f64 y))
        (first | exact ⟨u2, e2, o5, o6⟩ | exact ⟨x2, x3, x5, x6⟩)
        ((go_at_call 140; refine (hsk _ (Fr.drew (Fr.drew (Fr.drew (Fr.refl _ _))))).mono ?_; rintro e w3 ⟨rfl, C3, f3⟩; have A3 : Fr (fun x => x = q.cb) (w.alloc (opBlk 13 mp ot en n a b s t x y z)) w3 := Fr.trans (S' := fun x => x = q.cb) (Fr.drew (Fr.drew (Fr.drew (Fr.refl _ _)))) f3 fun _ _ e => e; have x2 := (A3.cell (b := S) 2 zS fun e => nS S (by omega) (Or.inr e)).trans u2; have x3 := (A3.cell (b := qc) j z2 fun e => nS qc (by omega) (Or.inr e)).trans e2; have x5 := (A3.cell (b := w.heap.size) 9 zO nOb).trans o5; have x6 := (A3.cell (b := w.heap.size) 10 zO nOb).trans o6))
      have v3 := (A3.cell (b := S) 3 zS fun e => nS S (by omega) (Or.inr e)).trans u3
      have v4 := (A3.cell (b := qd) j z3 fun e => nS qd (by omega) (Or.inr e)).trans e3
      have D3 := A3.kept c2' fun e => ndb (Or.inr e)
      have M3 := M0.fr A3 fun x hx e => ncb (e ▸ hx)
      have d0 := cell_of D3 0
      have y0 := frozen_of D3 0
      have D4 : (w3.setCell ⟨q.db, 0, none⟩ (.int .i64 1)).heap[q.db]? = some (rcurBlk 1 q.k) := (blk_set D3 0 _).trans rfl
      have B4 : Fr (fun x => x = q.db) w3 (w3.setCell ⟨q.db, 0, none⟩ (.int .i64 1)) := Fr.setCell (Fr.refl _ _) (by exact fun _ => rfl) _
      have v5 := (B4.cell (b := S) 3 (Nat.lt_of_lt_of_le zS A3.size) (nSd S (by omega))).trans v3
      have v6 := (B4.cell (b := qd) j (Nat.lt_of_lt_of_le z3 A3.size) (nSd qd (by omega))).trans v4
      have v7 := (B4.cell (b := w.heap.size) 9 (Nat.lt_of_lt_of_le zO A3.size) nOd).trans x5
      have v8 := (B4.cell (b := w.heap.size) 10 (Nat.lt_of_lt_of_le zO A3.size) nOd).trans x6
      have d1 : (w3.setCell ⟨q.db, 0, none⟩ (.int .i64 1)).cell? ⟨q.db, 1, none⟩ = some (.int .i64 0) := cell_of D4 1
      have d2 : (w3.setCell ⟨q.db, 0, none⟩ (.int .i64 1)).cell? ⟨q.db, 2, none⟩ = some s0 := cell_of D4 2
      have d3 : (w3.setCell ⟨q.db, 0, none⟩ (.int .i64 1)).cell? ⟨q.db, 3, none⟩ = some (fx q.k) := cell_of D4 3
      have d4 : (w3.setCell ⟨q.db, 0, none⟩ (.int .i64 1)).cell? ⟨q.db, 4, none⟩ = some (fy q.k) := cell_of D4 4
      have y1 : (w3.setCell ⟨q.db, 0, none⟩ (.int .i64 1)).frozen? ⟨q.db, 1, none⟩ = false := frozen_of D4 1
      have y2 : (w3.setCell ⟨q.db, 0, none⟩ (.int .i64 1)).frozen? ⟨q.db, 2, none⟩ = false := frozen_of D4 2
      have y3 : (w3.setCell ⟨q.db, 0, none⟩ (.int .i64 1)).frozen? ⟨q.db, 3, none⟩ = false := frozen_of D4 3
      have y4 : (w3.setCell ⟨q.db, 0, none⟩ (.int .i64 1)).frozen? ⟨q.db, 4, none⟩ = false := frozen_of D4 4
      have hsf := store_f0
      have HFin : Hid (∀ w6, Fr (fun x => x = q.db) w3 w6 → w6.heap[q.db]? = some (rcurBlk 1 (cod x y)) → Res w B S lab cs.length r bd (fun _ => True) (.returned (.bool true)) w6) := by
        intro w6 f6 D6
        obtain ⟨k1, k2, k3, k4, k5, k6, k7, k8, k9, k10, k11⟩ := HH.out
        have F1 := (A0.mono (S' := fun x => x = r'.pm ∨ x = q.cb) fun _ _ e => e.elim).trans A3 fun _ _ e => Or.inr e
        obtain ⟨z1, z2⟩ := Sh.cur k1 k2 k3 k4 F1 f6 M3 (by rw [k6]; exact C3) D6 (Or.inr (Or.inl rfl)) k10 (by omega : r'.c ≤ bd + 5000000) (by omega)
        refine ⟨rfl, ⟨lab, V, _, _, z1, by simp⟩, ?_, (F1.mono fun x _ e => by rcases e with e | e <;> rw [e] <;> assumption).trans f6 fun x _ e => by rw [e]; exact k9⟩
        by_cases hii : i' = i
        · subst hii
          rw [k2] at k5
          cases k5
          exact ⟨0, _, _, by simpa using z2, Nat.zero_le _, trivial⟩
        · exact ⟨0, _, _, by simpa using (z1.m i r (by rw [List.getElem?_set, if_neg hii]; exact k5)).1, Nat.zero_le _, trivial⟩
      clear HSame hsk f3 u2 u3 u4 e2 e3 e4 o4 o0 o5 R2 R3 x2 x3 x5 x6 o6 b1' b2' c1' c2' ndb ncb noR M3 M0 C3 g2
      go_wp2_with fail
      go_region
      all_goals
        have J : Fr (fun x => x = q.db) w3 ((((((w3.setCell ⟨q.db, 0, none⟩ (.int .i64 1)).setCell ⟨q.db, 1, none⟩ (.int .i64 0)).setCell ⟨q.db, 2, none⟩ (.string ⟨#[]⟩)).setCell ⟨q.db, 3, none⟩ (.float .f64 x)).setCell ⟨q.db, 4, none⟩ (.float .f64 y)).drew) := Fr.drew (Fr.setCell (Fr.setCell (Fr.setCell (Fr.setCell B4 (by exact fun _ => rfl) _) (by exact fun _ => rfl) _) (by exact fun _ => rfl) _) (by exact fun _ => rfl) _)
        have D6 : ((((((w3.setCell ⟨q.db, 0, none⟩ (.int .i64 1)).setCell ⟨q.db, 1, none⟩ (.int .i64 0)).setCell ⟨q.db, 2, none⟩ (.string ⟨#[]⟩)).setCell ⟨q.db, 3, none⟩ (.float .f64 x)).setCell ⟨q.db, 4, none⟩ (.float .f64 y)).drew).heap[q.db]? = some (rcurBlk 1 (cod x y)) := (blk_set (blk_set (blk_set (blk_set D4 1 _) 2 _) 3 _) 4 _).trans (by rw [rcur_cod 1 hx0 hy0]; rfl)
        go_wp2_with fail
        go_ret
        exact HFin.out _ J D6

end Go.Proofs.YthbnbocpddddmaaGreat

namespace Go.Proofs.YthbnbocpddddmaaGreat
open Go.RowKit

theorem Res.from {w wb : World} {B S : Nat} {lab : Nat → Nat} {N : Nat} {r : MR} {bd : Int} {K : Nat → Prop} {e : Ending} {w' : World} (h : Res wb B S lab N r bd K e w') (f : Fr (fun _ => False) w wb) : Res w B S lab N r bd K e w' :=
  ⟨h.1, h.2.1, h.2.2.1, (f.mono fun _ _ e => e.elim).trans h.2.2.2 fun _ _ e => e⟩

set_option maxRecDepth 100000 in
set_option maxHeartbeats 4000000 in
theorem does_put (w : World) (B S : Nat) (lab : Nat → Nat) (V : Nat → Value) (ms : List MR) (cs : List CR) (bd : Int) (h : Sh w B S lab V ms cs bd) (i : Nat) (r : MR) (hr : ms[i]? = some r) (hbd : bd ≤ 7000000000000000000)
    (mp ot en n a b : Int) (s t : ByteArray) (x y z : Nat) (jj : Int) (hx0 : x < 18446744073709551616) (hy0 : y < 18446744073709551616) (hz0 : z < 18446744073709551616) :
    Calls Tryz.prog 79 #[.pointer (some ⟨S, 0, none⟩), opV 2 mp ot en n a b s t x y z, .int .i64 i, .int .i64 jj] w (Res w B S lab cs.length r bd fun m => (0 < r.xs.length → 1 ≤ m) ∧ (r.g = false → m ≤ 3 * dg (r.xs.length + 1))) := by
  have A0 : Fr (fun _ => False) w (w.alloc (opBlk 2 mp ot en n a b s t x y z)) := Fr.alloc (Fr.refl _ _) _
  have hc := step_put (w.alloc (opBlk 2 mp ot en n a b s t x y z)) B S lab V ms cs bd (h.old A0) i r hr hbd mp ot en n a b s t x y z hx0 hy0 hz0
  clear h hr
  go_enter Tryz.func79, Tryz.ntmps79
  go_wp2_with fail
  refine hc.mono ?_
  rintro e w1 hR
  obtain ⟨rfl, h2, h3, h4⟩ := hR.from A0
  go_wp2_with fail
  go_ret
  exact ⟨rfl, h2, h3, h4⟩

set_option maxRecDepth 100000 in
set_option maxHeartbeats 4000000 in
theorem does_get (w : World) (B S : Nat) (lab : Nat → Nat) (V : Nat → Value) (ms : List MR) (cs : List CR) (bd : Int) (h : Sh w B S lab V ms cs bd) (i : Nat) (r : MR) (hr : ms[i]? = some r) (hbd : bd ≤ 7000000000000000000)
    (mp ot en n a b : Int) (s t : ByteArray) (x y z : Nat) (jj : Int) (hx0 : x < 18446744073709551616) (hy0 : y < 18446744073709551616) :
    Calls Tryz.prog 79 #[.pointer (some ⟨S, 0, none⟩), opV 3 mp ot en n a b s t x y z, .int .i64 i, .int .i64 jj] w (Res w B S lab cs.length r bd fun m => (0 < r.xs.length → 1 ≤ m) ∧ (r.g = false → m ≤ 3 * dg (r.xs.length + 1))) := by
  have A0 : Fr (fun _ => False) w (w.alloc (opBlk 3 mp ot en n a b s t x y z)) := Fr.alloc (Fr.refl _ _) _
  have hc := step_get (w.alloc (opBlk 3 mp ot en n a b s t x y z)) B S lab V ms cs bd (h.old A0) i r hr hbd mp ot en n a b s t x y z hx0 hy0
  clear h hr
  go_enter Tryz.func79, Tryz.ntmps79
  go_wp2_with fail
  refine hc.mono ?_
  rintro e w1 hR
  obtain ⟨rfl, h2, h3, h4⟩ := hR.from A0
  go_wp2_with fail
  go_ret
  exact ⟨rfl, h2, h3, h4⟩

set_option maxRecDepth 100000 in
set_option maxHeartbeats 4000000 in
theorem does_del (w : World) (B S : Nat) (lab : Nat → Nat) (V : Nat → Value) (ms : List MR) (cs : List CR) (bd : Int) (h : Sh w B S lab V ms cs bd) (i : Nat) (r : MR) (hr : ms[i]? = some r) (hbd : bd ≤ 7000000000000000000)
    (mp ot en n a b : Int) (s t : ByteArray) (x y z : Nat) (jj : Int) (hx0 : x < 18446744073709551616) (hy0 : y < 18446744073709551616) :
    Calls Tryz.prog 79 #[.pointer (some ⟨S, 0, none⟩), opV 4 mp ot en n a b s t x y z, .int .i64 i, .int .i64 jj] w (Res w B S lab cs.length r bd fun m => (0 < r.xs.length → 1 ≤ m) ∧ (r.g = false → m ≤ 3 * dg (r.xs.length + 1))) := by
  have A0 : Fr (fun _ => False) w (w.alloc (opBlk 4 mp ot en n a b s t x y z)) := Fr.alloc (Fr.refl _ _) _
  have hc := step_del (w.alloc (opBlk 4 mp ot en n a b s t x y z)) B S lab V ms cs bd (h.old A0) i r hr hbd mp ot en n a b s t x y z hx0 hy0
  clear h hr
  go_enter Tryz.func79, Tryz.ntmps79
  go_wp2_with fail
  refine hc.mono ?_
  rintro e w1 hR
  obtain ⟨rfl, h2, h3, h4⟩ := hR.from A0
  go_wp2_with fail
  go_ret
  exact ⟨rfl, h2, h3, h4⟩

set_option maxRecDepth 100000 in
set_option maxHeartbeats 4000000 in
theorem does_cursor (w : World) (B S : Nat) (lab : Nat → Nat) (V : Nat → Value) (ms : List MR) (cs : List CR) (bd : Int) (h : Sh w B S lab V ms cs bd) (i : Nat) (r : MR) (hr : ms[i]? = some r) (hcs : cs.length ≤ 10000000000000)
    (mp ot en n a b : Int) (s t : ByteArray) (x y z : Nat) (jj : Int) :
    Calls Tryz.prog 79 #[.pointer (some ⟨S, 0, none⟩), opV 10 mp ot en n a b s t x y z, .int .i64 i, .int .i64 jj] w (Res w B S lab cs.length r bd fun _ => True) := by
  have A0 : Fr (fun _ => False) w (w.alloc (opBlk 10 mp ot en n a b s t x y z)) := Fr.alloc (Fr.refl _ _) _
  have hc := step_cursor (w.alloc (opBlk 10 mp ot en n a b s t x y z)) B S lab V ms cs bd (h.old A0) i r hr hcs mp ot en n a b s t x y z
  clear h hr
  go_enter Tryz.func79, Tryz.ntmps79
  go_wp2_with fail
  refine hc.mono ?_
  rintro e w1 hR
  obtain ⟨rfl, h2, h3, h4⟩ := hR.from A0
  go_wp2_with fail
  go_ret
  exact ⟨rfl, h2, h3, h4⟩

set_option maxRecDepth 100000 in
set_option maxHeartbeats 4000000 in
theorem does_next (w : World) (B S : Nat) (lab : Nat → Nat) (V : Nat → Value) (ms : List MR) (cs : List CR) (bd : Int) (h : Sh w B S lab V ms cs bd) (i : Nat) (r : MR) (hr : ms[i]? = some r) (hcs : cs.length ≤ 10000000000000) (hbd : bd ≤ 7000000000000000000)
    (mp ot en n a b : Int) (s t : ByteArray) (x y z : Nat) (jj : Int) (n0 : -9223372036854775808 ≤ n) (n1 : n < 9223372036854775808) :
    Calls Tryz.prog 79 #[.pointer (some ⟨S, 0, none⟩), opV 11 mp ot en n a b s t x y z, .int .i64 i, .int .i64 jj] w (Res w B S lab cs.length r bd fun _ => True) := by
  have A0 : Fr (fun _ => False) w (w.alloc (opBlk 11 mp ot en n a b s t x y z)) := Fr.alloc (Fr.refl _ _) _
  have hc := step_next (w.alloc (opBlk 11 mp ot en n a b s t x y z)) B S lab V ms cs bd (h.old A0) i r hr hcs hbd mp ot en n a b s t x y z n0 n1
  clear h hr
  go_enter Tryz.func79, Tryz.ntmps79
  go_wp2_with fail
  refine hc.mono ?_
  rintro e w1 hR
  obtain ⟨rfl, h2, h3, h4⟩ := hR.from A0
  go_wp2_with fail
  go_ret
  exact ⟨rfl, h2, h3, h4⟩

set_option maxRecDepth 100000 in
set_option maxHeartbeats 4000000 in
theorem does_prev (w : World) (B S : Nat) (lab : Nat → Nat) (V : Nat → Value) (ms : List MR) (cs : List CR) (bd : Int) (h : Sh w B S lab V ms cs bd) (i : Nat) (r : MR) (hr : ms[i]? = some r) (hcs : cs.length ≤ 10000000000000) (hbd : bd ≤ 7000000000000000000)
    (mp ot en n a b : Int) (s t : ByteArray) (x y z : Nat) (jj : Int) (n0 : -9223372036854775808 ≤ n) (n1 : n < 9223372036854775808) :
    Calls Tryz.prog 79 #[.pointer (some ⟨S, 0, none⟩), opV 12 mp ot en n a b s t x y z, .int .i64 i, .int .i64 jj] w (Res w B S lab cs.length r bd fun _ => True) := by
  have A0 : Fr (fun _ => False) w (w.alloc (opBlk 12 mp ot en n a b s t x y z)) := Fr.alloc (Fr.refl _ _) _
  have hc := step_prev (w.alloc (opBlk 12 mp ot en n a b s t x y z)) B S lab V ms cs bd (h.old A0) i r hr hcs hbd mp ot en n a b s t x y z n0 n1
  clear h hr
  go_enter Tryz.func79, Tryz.ntmps79
  go_wp2_with fail
  refine hc.mono ?_
  rintro e w1 hR
  obtain ⟨rfl, h2, h3, h4⟩ := hR.from A0
  go_wp2_with fail
  go_ret
  exact ⟨rfl, h2, h3, h4⟩

set_option maxRecDepth 100000 in
set_option maxHeartbeats 4000000 in
theorem does_seek (w : World) (B S : Nat) (lab : Nat → Nat) (V : Nat → Value) (ms : List MR) (cs : List CR) (bd : Int) (h : Sh w B S lab V ms cs bd) (i : Nat) (r : MR) (hr : ms[i]? = some r) (hcs : cs.length ≤ 10000000000000) (hbd : bd ≤ 7000000000000000000)
    (mp ot en n a b : Int) (s t : ByteArray) (x y z : Nat) (jj : Int) (hx0 : x < 18446744073709551616) (hy0 : y < 18446744073709551616) (n0 : -9223372036854775808 ≤ n) (n1 : n < 9223372036854775808) :
    Calls Tryz.prog 79 #[.pointer (some ⟨S, 0, none⟩), opV 13 mp ot en n a b s t x y z, .int .i64 i, .int .i64 jj] w (Res w B S lab cs.length r bd fun _ => True) := by
  have A0 : Fr (fun _ => False) w (w.alloc (opBlk 13 mp ot en n a b s t x y z)) := Fr.alloc (Fr.refl _ _) _
  have hc := step_seek (w.alloc (opBlk 13 mp ot en n a b s t x y z)) B S lab V ms cs bd (h.old A0) i r hr hcs hbd mp ot en n a b s t x y z n0 n1 hx0 hy0
  clear h hr
  go_enter Tryz.func79, Tryz.ntmps79
  go_wp2_with fail
  refine hc.mono ?_
  rintro e w1 hR
  obtain ⟨rfl, h2, h3, h4⟩ := hR.from A0
  go_wp2_with fail
  go_ret
  exact ⟨rfl, h2, h3, h4⟩

end Go.Proofs.YthbnbocpddddmaaGreat
