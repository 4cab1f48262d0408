import Derived.Test.YthbnbocpddddmaaGreatUF
namespace Go.Proofs.YthbnbocpddddmaaGreat
open Go.RowKit

set_option maxRecDepth 100000 in
set_option maxHeartbeats 16000000 in
theorem step_comB (w : World) (B S : Nat) (lab : Nat → Nat) (V : Nat → Value) (ms : List MR) (cs : List CR) (bd : Int) (h : Sh w B S lab V ms cs bd) (i jj : Nat) (r q : MR) (hr : ms[i]? = some r) (hq : ms[jj]? = some q) (hcs : cs.length ≤ 10000000000000) (hbd : bd ≤ 7000000000000000000) (hte : r.t = q.t) (hN : 8 ≤ ms.length)
    (mp ot en n a b : Int) (s t : ByteArray) (x y z : Nat) :
    Calls Tryz.prog 111 #[.pointer (some ⟨S, 0, none⟩), opV 15 mp ot en n a b s t x y z, .int .i64 i, .int .i64 jj] w (Res w B S lab cs.length r bd fun _ => True) := by
  obtain ⟨i0, hi0, hz0, hz1, hz2⟩ := info_parts info_pMap
  obtain ⟨i1, hi1, hy0, hy1, hy2⟩ := info_parts info_pRMap
  obtain ⟨i2, hi2, hx0, hx1, hx2⟩ := info_parts info_intN
  have A0 : Fr (fun _ => False) w (w.alloc (opBlk 15 mp ot en n a b s t x y z)) := Fr.alloc (Fr.refl _ _) _
  have hb := h.old A0
  have hob := blk_new w (opBlk 15 mp ot en n a b s t x y z)
  obtain ⟨g1, g2, g3, g4, g5, g6, g7⟩ := hb.m i r hr
  obtain ⟨k1, k2, k3, k4, k5, k6, k7⟩ := hb.m jj q hq
  obtain ⟨q0, cap0, q1, cap1, R⟩ := hb.rd hr
  obtain ⟨q0', cap0', q1', cap1', R'⟩ := hb.rd hq
  have hap : q0 = q0' ∧ cap0 = cap0' := by
    have := R.s0.symm.trans R'.s0
    simpa using this
  obtain ⟨rfl, rfl⟩ := hap
  have hap : q1 = q1' ∧ cap1 = cap1' := by
    have := R.s1.symm.trans R'.s1
    simpa using this
  obtain ⟨rfl, rfl⟩ := hap
  have tO : ∀ y, r.oP y ∨ q.oP y → y ≠ w.heap.size := fun y e e' => by
    obtain ⟨e1, _⟩ := h.m i r hr
    obtain ⟨e2, _⟩ := h.m jj q hq
    subst e'
    rcases e with e | e
    · have := e1.lt _ e; omega
    · have := e2.lt _ e; omega
  have hi := (List.getElem?_eq_some_iff.1 hr).1
  have hj := (List.getElem?_eq_some_iff.1 hq).1
  have h8 := h.n8
  have hil : (i : Int) < (ms.length : Int) := by omega
  have hjl : (jj : Int) < (ms.length : Int) := by omega
  have tl : ∀ y, lab y ≤ 2 → ¬ (y = r.pm ∨ y = q.pm) := fun y hy e => by
    have l1 := (g3 r.pm g1.self).1
    have l2 := (k3 q.pm k1.self).1
    rcases e with e | e <;> subst e <;> omega
  generalize hwb : w.alloc (opBlk 15 mp ot en n a b s t x y z) = wb at *
  have HWB : Hid (w.alloc (opBlk 15 mp ot en n a b s t x y z) = wb) := hwb
  have D1 : Fr (fun _ => False) wb wb.drew := Fr.drew (Fr.refl _ _)
  have hpr : (∀ x, r.oP x → ¬ q.oP x) ∨ (r.pm = q.pm ∧ r.g = q.g ∧ r.c = q.c ∧ r.oP = q.oP ∧ r.xs = q.xs) := by
    by_cases c : i = jj
    · subst c
      rw [hr] at hq
      cases hq
      exact Or.inr ⟨rfl, rfl, rfl, rfl, rfl⟩
    · exact Or.inl fun x e e' => by have := (g3 x e).1; have := (k3 x e').1; omega
  have hput := common_one r.g q.g r.pm q.pm r.t r.c q.c r.oP q.oP r.xs q.xs wb.drew (Pr.old ⟨g1, hte ▸ k1, hpr⟩ D1) g5 k5 g6 (by omega) k6 (by omega)
  have R0 := R.s0
  have R1 := R.c0
  have R2' := R'.c0
  have RR0 := R.s1
  have RR1 := R.c1
  have RR2 := R'.c1
  have zS := R.zS
  have z0 := R.z0
  have z1 := R.z1
  have o0 : wb.cell? ⟨w.heap.size, 0, none⟩ = some (.int .i64 15) := cell_of hob 0
  have hBb := hb.hB
  have nS : ¬ (S = r.pm ∨ S = q.pm) := fun e => by
    rcases e with e | e
    · exact R.nS (Or.inl (by rw [e]; exact g1.self))
    · exact R'.nS (Or.inl (by rw [e]; exact k1.self))
  have nq0 : ¬ (q0 = r.pm ∨ q0 = q.pm) := fun e => by
    rcases e with e | e
    · exact R.n0 (Or.inl (by rw [e]; exact g1.self))
    · exact R'.n0 (Or.inl (by rw [e]; exact k1.self))
  have nq1 : ¬ (q1 = r.pm ∨ q1 = q.pm) := fun e => by
    rcases e with e | e
    · exact R.n1 (Or.inl (by rw [e]; exact g1.self))
    · exact R'.n1 (Or.inl (by rw [e]; exact k1.self))
  have dPR : ∀ y, r.oR y ∨ q.oR y → ¬ (y = r.pm ∨ y = q.pm) := fun y e e' => by
    have l1 := (g3 r.pm g1.self).1
    have l2 := (k3 q.pm k1.self).1
    have l3 : lab y = 11 + 2 * i ∨ lab y = 11 + 2 * jj := by
      rcases e with e | e
      · exact Or.inl (g4 y e).1
      · exact Or.inr (k4 y e).1
    rcases e' with e' | e' <;> rw [e'] at l3 <;> omega
  have hsy := k1.srt
  have HH : Hid (Sh wb B S lab V ms cs bd ∧ ms[i]? = some r ∧ Fr (fun _ => False) w wb ∧ 0 ≤ bd ∧ ms[jj]? = some q) := ⟨hb, hr, A0, by omega, hq⟩
  clear h hb hr hq hwb g1 g3 g4 g6 g7 k1 k3 k4 k6 k7 R R' tl tO hob hpr
  go_enter Tryz.func111, Tryz.ntmps111
  go_wp2_with fail
  rw [HWB.out]
  go_region_held3 (fun w' => w'.cell? ⟨S, 0, none⟩ = some (.slice (some ⟨q0, 0, none⟩) ms.length cap0) ∧ w'.cell? ⟨q0, i, none⟩ = some (.pointer (some ⟨r.pm, 0, none⟩)) ∧ w'.cell? ⟨q0, jj, none⟩ = some (.pointer (some ⟨q.pm, 0, none⟩)))
    (first | exact ⟨R0, R1, R2'⟩ | exact ⟨s0, c0, c1⟩)
    ((go_at_call 142; refine hput.mono ?_; rintro e w3 ⟨n1, rfl, m3, o1, L3, s1, b3, P3, f3⟩; have F3 : Fr (fun x => x = r.pm ∨ x = q.pm) wb w3 := Fr.trans (S' := fun x => x = r.pm ∨ x = q.pm) (D1.mono fun _ _ e => e.elim) f3 fun _ _ e => e; have s0 := (F3.cell (b := S) 0 zS (nS)).trans R0; have s1' := (F3.cell (b := S) 1 zS (nS)).trans RR0; have c2 := (F3.cell (b := q1) i z1 (nq1)).trans RR1; have c3 := (F3.cell (b := q1) jj z1 (nq1)).trans RR2; have c0 := (F3.cell (b := q0) i z0 (nq0)).trans R1; have c1 := (F3.cell (b := q0) jj z0 (nq0)).trans R2'))
  have RM1 := g2.fr F3 (fun y e => dPR y (Or.inl e))
  have RM2 := k2.fr F3 (fun y e => dPR y (Or.inr e))
  have D3 : Fr (fun _ => False) w3 w3.drew := Fr.drew (Fr.refl _ _)
  have hrp := fun w' (f : Fr (fun _ => False) w3 w') => rboth_any B r.rb q.rb r.t q.t r.oR q.oR r.xs q.xs true w' (RM1.fr f fun _ _ e => e) (RM2.fr f fun _ _ e => e) hsy g5 k5 (Nat.le_trans hBb (Nat.le_trans F3.size f.size))
  have z3 := F3.size
  have HC2 : Hid (∀ w', Fr (fun _ => False) w3 w' → w'.cell? ⟨S, 1, none⟩ = some (.slice (some ⟨q1, 0, none⟩) ms.length cap1) ∧ w'.cell? ⟨q1, i, none⟩ = some (.pointer (some ⟨r.rb, 0, none⟩)) ∧ w'.cell? ⟨q1, jj, none⟩ = some (.pointer (some ⟨q.rb, 0, none⟩))) := fun w' f =>
    ⟨(f.cell (b := S) 1 (by omega) fun e => e).trans s1', (f.cell (b := q1) i (by omega) fun e => e).trans c2, (f.cell (b := q1) jj (by omega) fun e => e).trans c3⟩
  have hrp' : ∀ w', Fr (fun _ => False) w3 w' → Calls Tryz.prog 134 #[.pointer (some ⟨r.rb, 0, none⟩), .pointer (some ⟨q.rb, 0, none⟩), .bool true] w' fun e w4 => ∃ mb : Nat, e = .returned (.tuple #[.pointer (some ⟨mb, 0, none⟩), .bool true]) ∧ ∃ om : Nat → Prop, RefM w4 B mb r.t om (lboth q.xs true r.xs) ∧ (∀ x, om x → w'.heap.size ≤ x) ∧ Fr (fun _ => False) w' w4 := fun w' f => (hrp w' f).mono fun e w4 hh => by
    rcases hh with ⟨h1, _⟩ | ⟨_, h2⟩
    · exact absurd hte h1
    · exact h2
  have hlx : (lboth q.xs true r.xs).length ≤ 400 := Nat.le_trans (lboth_le _ _ _) g5
  have HM : Hid (MapG r.g w3 n1 r.t 0 o1 (lboth q.xs true r.xs) ∧ (∀ x, o1 x → wb.heap.size ≤ x) ∧ m3 ≤ 10000 ∧ Pr w3 r.g q.g r.pm q.pm r.t (r.c + m3) (q.c + m3) r.oP q.oP r.xs q.xs ∧ Fr (fun x => x = r.pm ∨ x = q.pm) wb w3) := ⟨L3, s1, by omega, P3, F3⟩
  generalize lboth q.xs true r.xs = xL at *
  clear hrp hput R0 R1 R2' RR0 RR1 RR2 o0 RM1 RM2 g2 k2 L3 s1 b3 P3 f3 F3 dPR nS nq0 nq1
  go_wp2_with fail
  go_region_held3 (fun w' => Fr (fun _ => False) w3 w' ∧ w'.cell? ⟨S, 1, none⟩ = some (.slice (some ⟨q1, 0, none⟩) ms.length cap1) ∧ w'.cell? ⟨q1, i, none⟩ = some (.pointer (some ⟨r.rb, 0, none⟩)) ∧ w'.cell? ⟨q1, jj, none⟩ = some (.pointer (some ⟨q.rb, 0, none⟩)))
    (first | with_reducible exact ⟨D3, HC2.out _ D3⟩ | with_reducible exact ⟨K4, HC2.out _ K4⟩)
    ((go_at_call 134; (with_reducible refine (hrp' _ D3).mono ?_); rintro e w4 ⟨lb, rfl, ol, RL, t1, f4⟩; have K4 : Fr (fun _ => False) w3 w4 := D3.trans f4 fun _ _ e => e))
  obtain ⟨k1, k2, k3, k0, k9⟩ := HH.out
  obtain ⟨L3, s1, b3, P3, F3⟩ := HM.out
  obtain ⟨mt, hlen, h5, T0, Mr, hP, FF, hl⟩ := made_lab k1 k2 k9 F3 K4 P3.1 (by have := P3.2.1; rw [hte] at this; exact this) b3 b3 o1 (fun _ => False) ol (fun _ => False) (10 + 2 * jj) 0
  have OkL : MOk w4 B (labN wb.heap.size lab o1 (fun _ => False) ol (fun _ => False) (10 + 2 * jj) 0) (bd + 5000000) (jj) ⟨n1, lb, r.g, r.t, 0, o1, ol, xL⟩ := made_1 L3 K4 s1 F3.size RL t1 hBb (fun x e => e.elim) hlx (by omega)
  generalize labN wb.heap.size lab o1 (fun _ => False) ol (fun _ => False) (10 + 2 * jj) 0 = lab4 at *
  have HOK : Hid (MapG r.g w4 r.pm r.t (r.c + (m3 : Nat)) r.oP r.xs ∧ m3 ≤ 10000 ∧ (∀ x, r.oP x → 7 ≤ lab4 x) ∧ Fr (fun x => B ≤ x ∧ lab x ≠ 7) w w4 ∧ (∀ x, x < w.heap.size → lab4 x = lab x) ∧ MOk w4 B lab4 (bd + 5000000) (jj) ⟨n1, lb, r.g, r.t, 0, o1, ol, xL⟩) :=
    ⟨Mr, b3, hP, (k3.mono fun _ _ e => e.elim).trans FF fun _ _ e => e, fun x hx => hl x (Nat.lt_of_lt_of_le hx k3.size), OkL⟩
  obtain ⟨EE, hEE⟩ : ∃ EE, EE = engI r.g := ⟨_, rfl⟩
  rw [← hEE] at h5
  have HEE : Hid (EE = engI r.g) := hEE
  clear k1 k2 k3 k9 L3 s1 b3 P3 F3 Mr hP FF hl OkL RL t1 f4 K4 hrp' HC2 D1 D3 A0 HH HM HWB hEE
  have HN : Hid (mt.length = ms.length) := hlen
  have hjm : (jj : Int) < (mt.length : Int) := by omega
  have hln : ¬ (mt.length : Int) < 8 := by omega
  have hilm : (i : Int) < (mt.length : Int) := by omega
  clear hlen
  obtain ⟨p0, c0, p1, c1, a2, c2, a3, c3, a4, c4, p5, c5, T⟩ := T0.shape (i := i) (by omega)
  have nn0 : (rows mt cs 0).length = mt.length := List.length_map ..
  have nn1 : (rows mt cs 1).length = mt.length := List.length_map ..
  have nn5 : (rows mt cs 5).length = mt.length := List.length_map ..
  clear T0
  have hjn : jj < mt.length := by omega
  have hjl : (jj : Int) < (mt.length : Int) := by omega
  have hilm : (i : Int) < (mt.length : Int) := by omega
  obtain ⟨x0, gx0⟩ : ∃ x, (rows mt cs 0)[jj]? = some x := ⟨_, List.getElem?_eq_getElem (by rw [nn0]; exact hjn)⟩
  obtain ⟨x1, gx1⟩ : ∃ x, (rows mt cs 1)[jj]? = some x := ⟨_, List.getElem?_eq_getElem (by rw [nn1]; exact hjn)⟩
  obtain ⟨x5, gx5⟩ : ∃ x, (rows mt cs 5)[jj]? = some x := ⟨_, List.getElem?_eq_getElem (by rw [nn5]; exact hjn)⟩
  have u0 : w4.cell? ⟨S, 0, none⟩ = some (.slice (some ⟨p0, 0, none⟩) mt.length c0) := T.cell 0
  obtain ⟨y0, z0⟩ := T.get0 gx0
  have T1 := T.set0 jj (.pointer (some ⟨n1, 0, none⟩)) (by rw [nn0]; exact hjn)
  have u1 : (w4.setCell ⟨p0, jj, none⟩ (.pointer (some ⟨n1, 0, none⟩))).cell? ⟨S, 1, none⟩ = some (.slice (some ⟨p1, 0, none⟩) mt.length c1) := T1.cell 1
  obtain ⟨y1, z1⟩ := T1.get1 gx1
  have T2 := T1.set1 jj (.pointer (some ⟨lb, 0, none⟩)) (by rw [nn1]; exact hjn)
  clear T T1
  go_wp2_with fail
  clear u0 y0 z0 u1 y1 z1
  generalize ((w4.setCell ⟨p0, jj, none⟩ (.pointer (some ⟨n1, 0, none⟩))).setCell ⟨p1, jj, none⟩ (.pointer (some ⟨lb, 0, none⟩))) = wh at *
  have u5 : wh.cell? ⟨S, 5, none⟩ = some (.slice (some ⟨p5, 0, none⟩) mt.length c5) := T2.cell 5
  have e5 := (T2.get5 h5).1
  obtain ⟨y5, z5⟩ := T2.get5 gx5
  have T3 := T2.set5 jj (.int .i64 EE) (by rw [nn5]; exact hjn)
  have T4 := T3.old (Fr.drew (Fr.refl _ _))
  clear T2 T3
  go_region
  all_goals
    go_wp2_with fail
    have LX := fun U (h : U = (wh.setCell ⟨p5, jj, none⟩ (.int .i64 EE)).drew) => (h ▸ T4 : Tl w4 lab4 B S _ _ mt cs (bd + 5000000) U)
    clear u5 e5 y5 z5
    have HT : Hid (Tl w4 lab4 B S (six (.slice (some ⟨p0, 0, none⟩) mt.length c0) (.slice (some ⟨p1, 0, none⟩) mt.length c1) (.slice a2 cs.length c2) (.slice a3 cs.length c3) (.slice a4 cs.length c4) (.slice (some ⟨p5, 0, none⟩) mt.length c5)) (six ((rows mt cs 0).set jj (.pointer (some ⟨n1, 0, none⟩))) ((rows mt cs 1).set jj (.pointer (some ⟨lb, 0, none⟩))) (rows mt cs 2) (rows mt cs 3) (ro jj 0 cs) ((rows mt cs 5).set jj (.int .i64 EE))) mt cs (bd + 5000000) (wh.setCell ⟨p5, jj, none⟩ (.int .i64 EE)).drew) := by rw [ro_zero jj mt cs]; exact T4
    clear T4 LX
    generalize (wh.setCell ⟨p5, jj, none⟩ (.int .i64 EE)).drew = wi at *
    go_loopg [17] cs.length (fun gk s17 wr => ∃ k : Nat, gk + k = cs.length ∧ s17 = .int .i64 k ∧ Tl w4 lab4 B S (six (.slice (some ⟨p0, 0, none⟩) mt.length c0) (.slice (some ⟨p1, 0, none⟩) mt.length c1) (.slice a2 cs.length c2) (.slice a3 cs.length c3) (.slice a4 cs.length c4) (.slice (some ⟨p5, 0, none⟩) mt.length c5)) (six ((rows mt cs 0).set jj (.pointer (some ⟨n1, 0, none⟩))) ((rows mt cs 1).set jj (.pointer (some ⟨lb, 0, none⟩))) (rows mt cs 2) (rows mt cs 3) (ro jj k cs) ((rows mt cs 5).set jj (.int .i64 EE))) mt cs (bd + 5000000) wr)
    case atStart => exact ⟨0, by omega, rfl, HT.out⟩
    case round =>
      obtain ⟨k, y0, rfl, TR⟩ := hrel
      have HY : Hid (gk + k = cs.length) := y0
      have u4 : wr.cell? ⟨S, 4, none⟩ = some (.slice a4 cs.length c4) := TR.cell 4
      by_cases hk : k < cs.length
      · obtain ⟨q, hq⟩ : ∃ q, cs[k]? = some q := ⟨_, List.getElem?_eq_getElem hk⟩
        obtain ⟨p4, c4', e4, y4, z4⟩ := TR.at4 (ro_len jj k cs (by omega)) (ro_at jj k cs q hq)
        obtain ⟨rfl, _, rfl⟩ := Value.slice.inj e4
        have hkl : (k : Int) < (cs.length : Int) := by omega
        have hk2 : k ≤ 10000000000000 := by omega
        by_cases he : q.o = ((jj : Nat) : Int)
        · have TS := TR.set4 k (.int .i64 (-1)) (by rw [ro_len jj k cs (by omega)]; exact hk)
          rw [ro_hit jj k cs q hq he] at TS
          have HTS : Hid (Tl w4 lab4 B S _ _ mt cs (bd + 5000000) _) := TS
          rw [he] at y4
          clear TR y0 TS hq e4
          go_wp2_with fail
          go_roundg (gk - 1)
          case measure => have := HY.out; omega
          case rel => exact ⟨k + 1, by have := HY.out; omega, by go_num, HTS.out⟩
        · rw [ro_miss jj k cs q hq he] at TR
          have HTS : Hid (Tl w4 lab4 B S _ _ mt cs (bd + 5000000) wr) := TR
          clear TR y0 hq e4
          go_wp2_with fail
          go_roundg (gk - 1)
          case measure => have := HY.out; omega
          case rel => exact ⟨k + 1, by have := HY.out; omega, by go_num, HTS.out⟩
      · have hkl : ¬ (k : Int) < (cs.length : Int) := by omega
        have hke : k = cs.length := by omega
        subst hke
        have HTS : Hid (Tl w4 lab4 B S _ _ mt cs (bd + 5000000) wr) := TR
        clear TR y0
        go_wp2_with fail
        go_ret
        have TP := Tl.putted (r := ⟨n1, lb, r.g, r.t, 0, o1, ol, xL⟩) (by have := HEE.out; subst this; exact HTS.out) hjn (HOK.out.2.2.2.2.2)
        have := HOK.out
        exact Tl.res TP (by simp) this.1 this.2.1 this.2.2.1 this.2.2.2.1 this.2.2.2.2.1

end Go.Proofs.YthbnbocpddddmaaGreat

namespace Go.Proofs.YthbnbocpddddmaaGreat
open Go.RowKit

set_option maxRecDepth 100000 in
set_option maxHeartbeats 16000000 in
theorem step_comC (w : World) (B S : Nat) (lab : Nat → Nat) (V : Nat → Value) (ms : List MR) (cs : List CR) (bd : Int) (h : Sh w B S lab V ms cs bd) (i jj : Nat) (r q : MR) (hr : ms[i]? = some r) (hq : ms[jj]? = some q) (_hcs : cs.length ≤ 10000000000000) (_hbd : bd ≤ 7000000000000000000) (hne : r.t ≠ q.t)
    (mp ot en n a b : Int) (s t : ByteArray) (x y z : Nat) :
    Calls Tryz.prog 111 #[.pointer (some ⟨S, 0, none⟩), opV 15 mp ot en n a b s t x y z, .int .i64 i, .int .i64 jj] w (Res w B S lab cs.length r bd fun _ => True) := by
  obtain ⟨i0, hi0, hz0, hz1, hz2⟩ := info_parts info_pMap
  obtain ⟨i1, hi1, hy0, hy1, hy2⟩ := info_parts info_pRMap
  obtain ⟨i2, hi2, hx0, hx1, hx2⟩ := info_parts info_intN
  have A0 : Fr (fun _ => False) w (w.alloc (opBlk 15 mp ot en n a b s t x y z)) := Fr.alloc (Fr.refl _ _) _
  have hb := h.old A0
  have hob := blk_new w (opBlk 15 mp ot en n a b s t x y z)
  obtain ⟨g1, g2, g3, g4, g5, g6, g7⟩ := hb.m i r hr
  obtain ⟨k1, k2, k3, k4, k5, k6, k7⟩ := hb.m jj q hq
  obtain ⟨q0, cap0, q1, cap1, R⟩ := hb.rd hr
  obtain ⟨q0', cap0', q1', cap1', R'⟩ := hb.rd hq
  have hap : q0 = q0' ∧ cap0 = cap0' := by
    have := R.s0.symm.trans R'.s0
    simpa using this
  obtain ⟨rfl, rfl⟩ := hap
  have hap : q1 = q1' ∧ cap1 = cap1' := by
    have := R.s1.symm.trans R'.s1
    simpa using this
  obtain ⟨rfl, rfl⟩ := hap
  have tO : ∀ y, r.oP y ∨ q.oP y → y ≠ w.heap.size := fun y e e' => by
    obtain ⟨e1, _⟩ := h.m i r hr
    obtain ⟨e2, _⟩ := h.m jj q hq
    subst e'
    rcases e with e | e
    · have := e1.lt _ e; omega
    · have := e2.lt _ e; omega
  have hi := (List.getElem?_eq_some_iff.1 hr).1
  have hj := (List.getElem?_eq_some_iff.1 hq).1
  have h8 := h.n8
  have hil : (i : Int) < (ms.length : Int) := by omega
  have hjl : (jj : Int) < (ms.length : Int) := by omega
  have tl : ∀ y, lab y ≤ 2 → ¬ (y = r.pm ∨ y = q.pm) := fun y hy e => by
    have l1 := (g3 r.pm g1.self).1
    have l2 := (k3 q.pm k1.self).1
    rcases e with e | e <;> subst e <;> omega
  generalize hwb : w.alloc (opBlk 15 mp ot en n a b s t x y z) = wb at *
  have HWB : Hid (w.alloc (opBlk 15 mp ot en n a b s t x y z) = wb) := hwb
  have D1 : Fr (fun _ => False) wb wb.drew := Fr.drew (Fr.refl _ _)
  have hput := common_other r.g q.g r.pm q.pm r.t q.t r.c q.c r.oP q.oP r.xs q.xs wb.drew (g1.fr D1 fun _ _ e => e) (k1.fr D1 fun _ _ e => e) hne
  have R0 := R.s0
  have R1 := R.c0
  have R2' := R'.c0
  have RR0 := R.s1
  have RR1 := R.c1
  have RR2 := R'.c1
  have zS := R.zS
  have z0 := R.z0
  have z1 := R.z1
  have o0 : wb.cell? ⟨w.heap.size, 0, none⟩ = some (.int .i64 15) := cell_of hob 0
  have hBb := hb.hB
  have nS : ¬ (S = r.pm ∨ S = q.pm) := fun e => by
    rcases e with e | e
    · exact R.nS (Or.inl (by rw [e]; exact g1.self))
    · exact R'.nS (Or.inl (by rw [e]; exact k1.self))
  have nq0 : ¬ (q0 = r.pm ∨ q0 = q.pm) := fun e => by
    rcases e with e | e
    · exact R.n0 (Or.inl (by rw [e]; exact g1.self))
    · exact R'.n0 (Or.inl (by rw [e]; exact k1.self))
  have nq1 : ¬ (q1 = r.pm ∨ q1 = q.pm) := fun e => by
    rcases e with e | e
    · exact R.n1 (Or.inl (by rw [e]; exact g1.self))
    · exact R'.n1 (Or.inl (by rw [e]; exact k1.self))
  have dPR : ∀ y, r.oR y ∨ q.oR y → ¬ (y = r.pm ∨ y = q.pm) := fun y e e' => by
    have l1 := (g3 r.pm g1.self).1
    have l2 := (k3 q.pm k1.self).1
    have l3 : lab y = 11 + 2 * i ∨ lab y = 11 + 2 * jj := by
      rcases e with e | e
      · exact Or.inl (g4 y e).1
      · exact Or.inr (k4 y e).1
    rcases e' with e' | e' <;> rw [e'] at l3 <;> omega
  have hsy := k1.srt
  have HH : Hid (Sh wb B S lab V ms cs bd ∧ ms[i]? = some r ∧ Fr (fun _ => False) w wb ∧ 0 ≤ bd ∧ ms[jj]? = some q) := ⟨hb, hr, A0, by omega, hq⟩
  clear h hb hr hq hwb g1 g3 g4 g6 g7 k1 k3 k4 k6 k7 R R' tl tO hob
  go_enter Tryz.func111, Tryz.ntmps111
  go_wp2_with fail
  rw [HWB.out]
  go_region_held3 (fun w' => w'.cell? ⟨S, 0, none⟩ = some (.slice (some ⟨q0, 0, none⟩) ms.length cap0) ∧ w'.cell? ⟨q0, i, none⟩ = some (.pointer (some ⟨r.pm, 0, none⟩)) ∧ w'.cell? ⟨q0, jj, none⟩ = some (.pointer (some ⟨q.pm, 0, none⟩)))
    (first | exact ⟨R0, R1, R2'⟩ | exact ⟨s0, c0, c1⟩)
    ((go_at_call 142; refine hput.mono ?_; rintro e w3 ⟨rfl, f3⟩; have F3 : Fr (fun _ => False) wb w3 := Fr.trans (S' := fun _ => False) (D1.mono fun _ _ e => e.elim) f3 fun _ _ e => e; have s0 := (F3.cell (b := S) 0 zS (fun e => e)).trans R0; have s1' := (F3.cell (b := S) 1 zS (fun e => e)).trans RR0; have c2 := (F3.cell (b := q1) i z1 (fun e => e)).trans RR1; have c3 := (F3.cell (b := q1) jj z1 (fun e => e)).trans RR2; have c0 := (F3.cell (b := q0) i z0 (fun e => e)).trans R1; have c1 := (F3.cell (b := q0) jj z0 (fun e => e)).trans R2'))
  have RM1 := g2.fr F3 (fun _ _ e => e)
  have RM2 := k2.fr F3 (fun _ _ e => e)
  have D3 : Fr (fun _ => False) w3 w3.drew := Fr.drew (Fr.refl _ _)
  have hrp := fun w' (f : Fr (fun _ => False) w3 w') => rboth_any B r.rb q.rb r.t q.t r.oR q.oR r.xs q.xs true w' (RM1.fr f fun _ _ e => e) (RM2.fr f fun _ _ e => e) hsy g5 k5 (Nat.le_trans hBb (Nat.le_trans F3.size f.size))
  have z3 := F3.size
  have HC2 : Hid (∀ w', Fr (fun _ => False) w3 w' → w'.cell? ⟨S, 1, none⟩ = some (.slice (some ⟨q1, 0, none⟩) ms.length cap1) ∧ w'.cell? ⟨q1, i, none⟩ = some (.pointer (some ⟨r.rb, 0, none⟩)) ∧ w'.cell? ⟨q1, jj, none⟩ = some (.pointer (some ⟨q.rb, 0, none⟩))) := fun w' f =>
    ⟨(f.cell (b := S) 1 (by omega) fun e => e).trans s1', (f.cell (b := q1) i (by omega) fun e => e).trans c2, (f.cell (b := q1) jj (by omega) fun e => e).trans c3⟩
  have hrp' : ∀ w', Fr (fun _ => False) w3 w' → Calls Tryz.prog 134 #[.pointer (some ⟨r.rb, 0, none⟩), .pointer (some ⟨q.rb, 0, none⟩), .bool true] w' fun e w4 => e = .returned (.tuple #[.pointer none, .bool false]) ∧ Fr (fun _ => False) w' w4 := fun w' f => (hrp w' f).mono fun e w4 hh => by
    rcases hh with ⟨_, h1, h2⟩ | ⟨h1, _⟩
    · exact ⟨h1, h2⟩
    · exact absurd h1 hne
  have FB : Fr (fun _ => False) wb w3 := F3
  clear hrp hput R0 R1 R2' RR0 RR1 RR2 o0 RM1 RM2 g2 k2 f3 F3 dPR nS nq0 nq1
  go_wp2_with fail
  go_region_held3 (fun w' => Fr (fun _ => False) w3 w' ∧ w'.cell? ⟨S, 1, none⟩ = some (.slice (some ⟨q1, 0, none⟩) ms.length cap1) ∧ w'.cell? ⟨q1, i, none⟩ = some (.pointer (some ⟨r.rb, 0, none⟩)) ∧ w'.cell? ⟨q1, jj, none⟩ = some (.pointer (some ⟨q.rb, 0, none⟩)))
    (first | with_reducible exact ⟨D3, HC2.out _ D3⟩ | with_reducible exact ⟨K4, HC2.out _ K4⟩)
    ((go_at_call 134; (with_reducible refine (hrp' _ D3).mono ?_); rintro e w4 ⟨rfl, f4⟩; have K4 : Fr (fun _ => False) w3 w4 := D3.trans f4 fun _ _ e => e))
  obtain ⟨k1, k2, k3, k0, _⟩ := HH.out
  have HZ : Hid (Res w B S lab cs.length r bd (fun _ => True) (.returned (.bool true)) w4) := by
    have F := (k3.trans FB fun _ _ e => e).trans K4 fun _ _ e => e
    have h' := k1.old (FB.trans K4 fun _ _ e => e)
    exact ⟨rfl, ⟨lab, V, ms, cs, h'.keep (Fr.refl (fun _ => False) _) (fun _ _ => rfl) (fun _ e => e.elim) (by omega), Nat.le_succ _⟩, ⟨0, r.oP, r.xs, by simpa using (h'.m i r k2).1, Nat.zero_le _, trivial⟩, F.mono fun _ _ e => e.elim⟩
  clear k1 k2 k3 HH hrp' HC2
  go_wp2_with fail
  go_ret
  exact HZ.out

end Go.Proofs.YthbnbocpddddmaaGreat
