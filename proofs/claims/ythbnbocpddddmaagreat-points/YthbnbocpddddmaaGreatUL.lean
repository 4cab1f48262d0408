import Derived.Test.YthbnbocpddddmaaGreatUF
namespace Go.Proofs.YthbnbocpddddmaaGreat
open Go.RowKit

set_option maxRecDepth 100000 in
set_option maxHeartbeats 16000000 in
theorem step_witA (w : World) (B S : Nat) (lab : Nat → Nat) (V : Nat → Value) (ms : List MR) (cs : List CR) (bd : Int) (h : Sh w B S lab V ms cs bd) (i jj : Nat) (r q : MR) (hr : ms[i]? = some r) (hq : ms[jj]? = some q) (_hcs : cs.length ≤ 10000000000000) (hbd : bd ≤ 7000000000000000000) (hte : r.t = q.t) (hN : ms.length < 8)
    (mp ot en n a b : Int) (s t : ByteArray) (x y z : Nat) :
    Calls Tryz.prog 111 #[.pointer (some ⟨S, 0, none⟩), opV 16 mp ot en n a b s t x y z, .int .i64 i, .int .i64 jj] w (Res w B S lab cs.length r bd fun _ => True) := by
  obtain ⟨i0, hi0, hz0, hz1, hz2⟩ := info_parts info_pMap
  obtain ⟨i1, hi1, hy0, hy1, hy2⟩ := info_parts info_pRMap
  obtain ⟨i2, hi2, hx0, hx1, hx2⟩ := info_parts info_intN
  have A0 : Fr (fun _ => False) w (w.alloc (opBlk 16 mp ot en n a b s t x y z)) := Fr.alloc (Fr.refl _ _) _
  have hb := h.old A0
  have hob := blk_new w (opBlk 16 mp ot en n a b s t x y z)
  obtain ⟨g1, g2, g3, g4, g5, g6, g7⟩ := hb.m i r hr
  obtain ⟨k1, k2, k3, k4, k5, k6, k7⟩ := hb.m jj q hq
  obtain ⟨q0, cap0, q1, cap1, R⟩ := hb.rd hr
  obtain ⟨q0', cap0', q1', cap1', R'⟩ := hb.rd hq
  have hap : q0 = q0' ∧ cap0 = cap0' := by
    have := R.s0.symm.trans R'.s0
    simpa using this
  obtain ⟨rfl, rfl⟩ := hap
  have hap : q1 = q1' ∧ cap1 = cap1' := by
    have := R.s1.symm.trans R'.s1
    simpa using this
  obtain ⟨rfl, rfl⟩ := hap
  have tO : ∀ y, r.oP y ∨ q.oP y → y ≠ w.heap.size := fun y e e' => by
    obtain ⟨e1, _⟩ := h.m i r hr
    obtain ⟨e2, _⟩ := h.m jj q hq
    subst e'
    rcases e with e | e
    · have := e1.lt _ e; omega
    · have := e2.lt _ e; omega
  have hi := (List.getElem?_eq_some_iff.1 hr).1
  have hj := (List.getElem?_eq_some_iff.1 hq).1
  have h8 := h.n8
  have hil : (i : Int) < (ms.length : Int) := by omega
  have hjl : (jj : Int) < (ms.length : Int) := by omega
  have tl : ∀ y, lab y ≤ 2 → ¬ (y = r.pm ∨ y = q.pm) := fun y hy e => by
    have l1 := (g3 r.pm g1.self).1
    have l2 := (k3 q.pm k1.self).1
    rcases e with e | e <;> subst e <;> omega
  generalize hwb : w.alloc (opBlk 16 mp ot en n a b s t x y z) = wb at *
  have HWB : Hid (w.alloc (opBlk 16 mp ot en n a b s t x y z) = wb) := hwb
  have D1 : Fr (fun _ => False) wb wb.drew := Fr.drew (Fr.refl _ _)
  have hpr : (∀ x, r.oP x → ¬ q.oP x) ∨ (r.pm = q.pm ∧ r.g = q.g ∧ r.c = q.c ∧ r.oP = q.oP ∧ r.xs = q.xs) := by
    by_cases c : i = jj
    · subst c
      rw [hr] at hq
      cases hq
      exact Or.inr ⟨rfl, rfl, rfl, rfl, rfl⟩
    · exact Or.inl fun x e e' => by have := (g3 x e).1; have := (k3 x e').1; omega
  have hput := without_one r.g q.g r.pm q.pm r.t r.c q.c r.oP q.oP r.xs q.xs wb.drew (Pr.old ⟨g1, hte ▸ k1, hpr⟩ D1) g5 k5 g6 (by omega) k6 (by omega)
  have R0 := R.s0
  have R1 := R.c0
  have R2' := R'.c0
  have RR0 := R.s1
  have RR1 := R.c1
  have RR2 := R'.c1
  have zS := R.zS
  have z0 := R.z0
  have z1 := R.z1
  have o0 : wb.cell? ⟨w.heap.size, 0, none⟩ = some (.int .i64 16) := cell_of hob 0
  have hBb := hb.hB
  have nS : ¬ (S = r.pm ∨ S = q.pm) := fun e => by
    rcases e with e | e
    · exact R.nS (Or.inl (by rw [e]; exact g1.self))
    · exact R'.nS (Or.inl (by rw [e]; exact k1.self))
  have nq0 : ¬ (q0 = r.pm ∨ q0 = q.pm) := fun e => by
    rcases e with e | e
    · exact R.n0 (Or.inl (by rw [e]; exact g1.self))
    · exact R'.n0 (Or.inl (by rw [e]; exact k1.self))
  have nq1 : ¬ (q1 = r.pm ∨ q1 = q.pm) := fun e => by
    rcases e with e | e
    · exact R.n1 (Or.inl (by rw [e]; exact g1.self))
    · exact R'.n1 (Or.inl (by rw [e]; exact k1.self))
  have dPR : ∀ y, r.oR y ∨ q.oR y → ¬ (y = r.pm ∨ y = q.pm) := fun y e e' => by
    have l1 := (g3 r.pm g1.self).1
    have l2 := (k3 q.pm k1.self).1
    have l3 : lab y = 11 + 2 * i ∨ lab y = 11 + 2 * jj := by
      rcases e with e | e
      · exact Or.inl (g4 y e).1
      · exact Or.inr (k4 y e).1
    rcases e' with e' | e' <;> rw [e'] at l3 <;> omega
  have hsy := k1.srt
  have HH : Hid (Sh wb B S lab V ms cs bd ∧ ms[i]? = some r ∧ Fr (fun _ => False) w wb ∧ 0 ≤ bd ∧ ms[jj]? = some q) := ⟨hb, hr, A0, by omega, hq⟩
  clear h hb hr hq hwb g1 g3 g4 g6 g7 k1 k3 k4 k6 k7 R R' tl tO hob hpr
  go_enter Tryz.func111, Tryz.ntmps111
  go_wp2_with fail
  rw [HWB.out]
  go_region_held3 (fun w' => w'.cell? ⟨S, 0, none⟩ = some (.slice (some ⟨q0, 0, none⟩) ms.length cap0) ∧ w'.cell? ⟨q0, i, none⟩ = some (.pointer (some ⟨r.pm, 0, none⟩)) ∧ w'.cell? ⟨q0, jj, none⟩ = some (.pointer (some ⟨q.pm, 0, none⟩)))
    (first | exact ⟨R0, R1, R2'⟩ | exact ⟨s0, c0, c1⟩)
    ((go_at_call 143; refine hput.mono ?_; rintro e w3 ⟨n1, rfl, m3, o1, L3, s1, b3, P3, f3⟩; have F3 : Fr (fun x => x = r.pm ∨ x = q.pm) wb w3 := Fr.trans (S' := fun x => x = r.pm ∨ x = q.pm) (D1.mono fun _ _ e => e.elim) f3 fun _ _ e => e; have s0 := (F3.cell (b := S) 0 zS (nS)).trans R0; have s1' := (F3.cell (b := S) 1 zS (nS)).trans RR0; have c2 := (F3.cell (b := q1) i z1 (nq1)).trans RR1; have c3 := (F3.cell (b := q1) jj z1 (nq1)).trans RR2; have c0 := (F3.cell (b := q0) i z0 (nq0)).trans R1; have c1 := (F3.cell (b := q0) jj z0 (nq0)).trans R2'))
  have RM1 := g2.fr F3 (fun y e => dPR y (Or.inl e))
  have RM2 := k2.fr F3 (fun y e => dPR y (Or.inr e))
  have D3 : Fr (fun _ => False) w3 w3.drew := Fr.drew (Fr.refl _ _)
  have hrp := fun w' (f : Fr (fun _ => False) w3 w') => rboth_any B r.rb q.rb r.t q.t r.oR q.oR r.xs q.xs false w' (RM1.fr f fun _ _ e => e) (RM2.fr f fun _ _ e => e) hsy g5 k5 (Nat.le_trans hBb (Nat.le_trans F3.size f.size))
  have z3 := F3.size
  have HC2 : Hid (∀ w', Fr (fun _ => False) w3 w' → w'.cell? ⟨S, 1, none⟩ = some (.slice (some ⟨q1, 0, none⟩) ms.length cap1) ∧ w'.cell? ⟨q1, i, none⟩ = some (.pointer (some ⟨r.rb, 0, none⟩)) ∧ w'.cell? ⟨q1, jj, none⟩ = some (.pointer (some ⟨q.rb, 0, none⟩))) := fun w' f =>
    ⟨(f.cell (b := S) 1 (by omega) fun e => e).trans s1', (f.cell (b := q1) i (by omega) fun e => e).trans c2, (f.cell (b := q1) jj (by omega) fun e => e).trans c3⟩
  have hrp' : ∀ w', Fr (fun _ => False) w3 w' → Calls Tryz.prog 134 #[.pointer (some ⟨r.rb, 0, none⟩), .pointer (some ⟨q.rb, 0, none⟩), .bool false] w' fun e w4 => ∃ mb : Nat, e = .returned (.tuple #[.pointer (some ⟨mb, 0, none⟩), .bool true]) ∧ ∃ om : Nat → Prop, RefM w4 B mb r.t om (lboth q.xs false r.xs) ∧ (∀ x, om x → w'.heap.size ≤ x) ∧ Fr (fun _ => False) w' w4 := fun w' f => (hrp w' f).mono fun e w4 hh => by
    rcases hh with ⟨h1, _⟩ | ⟨_, h2⟩
    · exact absurd hte h1
    · exact h2
  have hlx : (lboth q.xs false r.xs).length ≤ 400 := Nat.le_trans (lboth_le _ _ _) g5
  have HM : Hid (MapG r.g w3 n1 r.t 0 o1 (lboth q.xs false r.xs) ∧ (∀ x, o1 x → wb.heap.size ≤ x) ∧ m3 ≤ 10000 ∧ Pr w3 r.g q.g r.pm q.pm r.t (r.c + m3) (q.c + m3) r.oP q.oP r.xs q.xs ∧ Fr (fun x => x = r.pm ∨ x = q.pm) wb w3) := ⟨L3, s1, by omega, P3, F3⟩
  generalize lboth q.xs false r.xs = xL at *
  clear hrp hput R0 R1 R2' RR0 RR1 RR2 o0 RM1 RM2 g2 k2 L3 s1 b3 P3 f3 F3 dPR nS nq0 nq1
  go_wp2_with fail
  go_region_held3 (fun w' => Fr (fun _ => False) w3 w' ∧ w'.cell? ⟨S, 1, none⟩ = some (.slice (some ⟨q1, 0, none⟩) ms.length cap1) ∧ w'.cell? ⟨q1, i, none⟩ = some (.pointer (some ⟨r.rb, 0, none⟩)) ∧ w'.cell? ⟨q1, jj, none⟩ = some (.pointer (some ⟨q.rb, 0, none⟩)))
    (first | with_reducible exact ⟨D3, HC2.out _ D3⟩ | with_reducible exact ⟨K4, HC2.out _ K4⟩)
    ((go_at_call 134; (with_reducible refine (hrp' _ D3).mono ?_); rintro e w4 ⟨lb, rfl, ol, RL, t1, f4⟩; have K4 : Fr (fun _ => False) w3 w4 := D3.trans f4 fun _ _ e => e))
  obtain ⟨k1, k2, k3, k0, k9⟩ := HH.out
  obtain ⟨L3, s1, b3, P3, F3⟩ := HM.out
  obtain ⟨mt, hlen, h5, T0, Mr, hP, FF, hl⟩ := made_lab k1 k2 k9 F3 K4 P3.1 (by have := P3.2.1; rw [hte] at this; exact this) b3 b3 o1 (fun _ => False) ol (fun _ => False) (10 + 2 * ms.length) 0
  have OkL : MOk w4 B (labN wb.heap.size lab o1 (fun _ => False) ol (fun _ => False) (10 + 2 * ms.length) 0) (bd + 5000000) (ms.length) ⟨n1, lb, r.g, r.t, 0, o1, ol, xL⟩ := made_1 L3 K4 s1 F3.size RL t1 hBb (fun x e => e.elim) hlx (by omega)
  generalize labN wb.heap.size lab o1 (fun _ => False) ol (fun _ => False) (10 + 2 * ms.length) 0 = lab4 at *
  have HOK : Hid (MapG r.g w4 r.pm r.t (r.c + (m3 : Nat)) r.oP r.xs ∧ m3 ≤ 10000 ∧ (∀ x, r.oP x → 7 ≤ lab4 x) ∧ Fr (fun x => B ≤ x ∧ lab x ≠ 7) w w4 ∧ (∀ x, x < w.heap.size → lab4 x = lab x) ∧ MOk w4 B lab4 (bd + 5000000) (ms.length) ⟨n1, lb, r.g, r.t, 0, o1, ol, xL⟩) :=
    ⟨Mr, b3, hP, (k3.mono fun _ _ e => e.elim).trans FF fun _ _ e => e, fun x hx => hl x (Nat.lt_of_lt_of_le hx k3.size), OkL⟩
  obtain ⟨EE, hEE⟩ : ∃ EE, EE = engI r.g := ⟨_, rfl⟩
  rw [← hEE] at h5
  have HEE : Hid (EE = engI r.g) := hEE
  clear k1 k2 k3 k9 L3 s1 b3 P3 F3 Mr hP FF hl OkL RL t1 f4 K4 hrp' HC2 D1 D3 A0 HH HM HWB hEE
  have HN : Hid (mt.length = ms.length) := hlen
  have hjm : (jj : Int) < (mt.length : Int) := by omega
  have hln : (mt.length : Int) < 8 := by omega
  have hilm : (i : Int) < (mt.length : Int) := by omega
  clear hlen
  obtain ⟨p0, c0, p1, c1, a2, c2, a3, c3, a4, c4, p5, c5, T⟩ := T0.shape (i := i) (by omega)
  have nn0 : (rows mt cs 0).length = mt.length := List.length_map ..
  have nn1 : (rows mt cs 1).length = mt.length := List.length_map ..
  have nn5 : (rows mt cs 5).length = mt.length := List.length_map ..
  have u0s : w4.cell? ⟨S, 0, none⟩ = some (.slice (some ⟨p0, 0, none⟩) mt.length c0) := T.cell 0
  clear T0
  have X1 := (Fr.alloc (Fr.refl _ _) _ : Fr (fun _ => False) w4 (w4.alloc (.cells #[.pointer (some ⟨n1, 0, none⟩)] 50)))
  have T1 := T.old X1
  have E1 := T1.own0 nn0
  have H1 : Hid (∀ j v, [Value.pointer (some ⟨n1, 0, none⟩)][j]? = some v → (w4.alloc (.cells #[.pointer (some ⟨n1, 0, none⟩)] 50)).cell? ((⟨w4.heap.size, 0, none⟩ : Addr).add j) = some v) := one_new w4 (.pointer (some ⟨n1, 0, none⟩)) 50
  have O1 : Hid (∀ u ∈ [Value.pointer (some ⟨n1, 0, none⟩)], u.oneCell' = true) := fun u hu => by simp at hu; subst hu; rfl
  have B1 := T1.hB
  have u0 : w4.cell? ⟨S, 0, none⟩ = some (.slice (some ⟨p0, 0, none⟩) mt.length c0) := T.cell 0
  go_wp2_with
    (at_builtin; refine wpList_append_fresh rfl _ _ 87 rfl B 50 i0 (.pointer none) 1 8 Tryz.underlying87 hi0 hz0 hz1 hz2 rfl (by decide) _ _ _ rfl E1 ⟨w4.heap.size, 0, none⟩ 1 1 [.pointer (some ⟨n1, 0, none⟩)] rfl rfl H1.out O1.out (by unfold maxLen; omega) (by omega) B1 ?_)
  intro aa ca wa owna growa fresha
  obtain ⟨T2, ka0, ka1⟩ := T1.grow0 nn0 (.slice aa (mt.length + 1) ca) (.pointer (some ⟨n1, 0, none⟩)) owna growa (by intro x hx; have := fresha x hx; simpa using this)
  clear X1 T1 E1 H1 O1 B1 owna growa fresha u0 T
  have z2 : (wa.setCell ⟨S, 0, none⟩ (.slice aa (mt.length + 1) ca)).heap.size = wa.heap.size := by simp
  have X2 := (Fr.alloc (Fr.refl _ _) _ : Fr (fun _ => False) (wa.setCell ⟨S, 0, none⟩ (.slice aa (mt.length + 1) ca)) ((wa.setCell ⟨S, 0, none⟩ (.slice aa (mt.length + 1) ca)).alloc (.cells #[.pointer (some ⟨lb, 0, none⟩)] 153)))
  have T3 := T2.old X2
  have E3 := T3.own1 nn1
  have H3 : Hid (∀ j v, [Value.pointer (some ⟨lb, 0, none⟩)][j]? = some v → ((wa.setCell ⟨S, 0, none⟩ (.slice aa (mt.length + 1) ca)).alloc (.cells #[.pointer (some ⟨lb, 0, none⟩)] 153)).cell? ((⟨wa.heap.size, 0, none⟩ : Addr).add j) = some v) := fun j v hj => by
    have := one_new (wa.setCell ⟨S, 0, none⟩ (.slice aa (mt.length + 1) ca)) (.pointer (some ⟨lb, 0, none⟩)) 153 j v hj
    rw [z2] at this
    exact this
  have O3 : Hid (∀ u ∈ [Value.pointer (some ⟨lb, 0, none⟩)], u.oneCell' = true) := fun u hu => by simp at hu; subst hu; rfl
  have B3 := T3.hB
  have u1 : (wa.setCell ⟨S, 0, none⟩ (.slice aa (mt.length + 1) ca)).cell? ⟨S, 1, none⟩ = some (.slice (some ⟨p1, 0, none⟩) mt.length c1) := T2.cell 1
  go_wp2_with
    (at_builtin; refine wpList_append_fresh rfl _ _ 74 rfl B 153 i1 (.pointer none) 1 8 Tryz.underlying74 hi1 hy0 hy1 hy2 rfl (by decide) _ _ _ rfl E3 ⟨wa.heap.size, 0, none⟩ 1 1 [.pointer (some ⟨lb, 0, none⟩)] rfl rfl H3.out O3.out (by unfold maxLen; omega) (by omega) B3 ?_)
  intro ab cb wq ownb growb freshb
  obtain ⟨T4, kb0, kb1⟩ := T3.grow1 nn1 (.slice ab (mt.length + 1) cb) (.pointer (some ⟨lb, 0, none⟩)) ownb growb (by intro x hx; have := freshb x hx; simpa using this)
  clear X2 T2 T3 E3 H3 O3 B3 ownb growb freshb u1
  go_wp2_with fail
  clear ka0 ka1 kb0 kb1 z2
  generalize wq.setCell ⟨S, 1, none⟩ (.slice ab (mt.length + 1) cb) = wc at *
  have X5 := (Fr.alloc (Fr.refl _ _) _ : Fr (fun _ => False) wc (wc.alloc (.cells #[.int .i64 EE] 3)))
  have Y5 := (Fr.drew X5 : Fr (fun _ => False) wc (wc.alloc (.cells #[.int .i64 EE] 3)).drew)
  have T5 := T4.old X5
  have T6 := T4.old Y5
  have E6 := T6.own5 nn5
  have H6 : Hid (∀ j v, [Value.int .i64 EE][j]? = some v → (wc.alloc (.cells #[.int .i64 EE] 3)).drew.cell? ((⟨wc.heap.size, 0, none⟩ : Addr).add j) = some v) := one_new wc (.int .i64 EE) 3
  have O6 : Hid (∀ u ∈ [Value.int .i64 EE], u.oneCell' = true) := fun u hu => by simp at hu; subst hu; rfl
  have B6 := T6.hB
  have u5 : wc.cell? ⟨S, 5, none⟩ = some (.slice (some ⟨p5, 0, none⟩) mt.length c5) := T4.cell 5
  have v5 : (wc.alloc (.cells #[.int .i64 EE] 3)).cell? ⟨S, 5, none⟩ = some (.slice (some ⟨p5, 0, none⟩) mt.length c5) := T5.cell 5
  have e5 := (T4.get5 h5).1
  have f5 := (T5.get5 h5).1
  go_region_law (refine step_append_fresh rfl (.tmp 222) (.tmp 230) 77 rfl B 3 i2 (.int .i64 0) 1 8 Tryz.underlying77 hi2 hx0 hx1 hx2 rfl (by decide) (.slice (some ⟨p5, 0, none⟩) mt.length c5) (mt.length) _ (by simp [Act.eval]) E6 ⟨wc.heap.size, 0, none⟩ 1 1 [.int .i64 EE] (by simp [Act.eval]) rfl H6.out O6.out (by unfold maxLen; omega) (by omega) B6 ?_; intro ac cc wd ownc growc freshc; obtain ⟨T7, kc0, kc1⟩ := T6.grow5 nn5 (.slice ac (mt.length + 1) cc) (.int .i64 EE) ownc growc freshc)
  all_goals
    clear X5 Y5 T4 T5 T6 E6 H6 O6 B6 u5 v5 e5 f5 ownc growc freshc kc0 kc1 nn0 nn1 nn5
    generalize wd.setCell ⟨S, 5, none⟩ (.slice ac (mt.length + 1) cc) = wg at *
    have TP := Tl.pushed (r := ⟨n1, lb, r.g, r.t, 0, o1, ol, xL⟩) (by have := HEE.out; subst this; exact T7) (by omega) (by rw [HN.out]; exact HOK.out.2.2.2.2.2)
    go_wp2_with fail
    go_ret
    have := HOK.out
    exact Tl.res TP (by omega) this.1 this.2.1 this.2.2.1 this.2.2.2.1 this.2.2.2.2.1

end Go.Proofs.YthbnbocpddddmaaGreat
