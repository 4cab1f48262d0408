import Derived.Test.YthbnbocpddddmaaGreatUF
namespace Go.Proofs.YthbnbocpddddmaaGreat
open Go.RowKit

set_option maxRecDepth 100000 in
set_option maxHeartbeats 16000000 in
theorem step_splitA (w : World) (B S : Nat) (lab : Nat → Nat) (V : Nat → Value) (ms : List MR) (cs : List CR) (bd : Int) (h : Sh w B S lab V ms cs bd) (i jj : Nat) (r q : MR) (hr : ms[i]? = some r) (hq : ms[jj]? = some q) (_hcs : cs.length ≤ 10000000000000) (hbd : bd ≤ 7000000000000000000) (hN : ms.length < 7)
    (mp ot en n a b : Int) (s t : ByteArray) (x y z : Nat) (hX0 : x < 18446744073709551616) (hY0 : y < 18446744073709551616) :
    Calls Tryz.prog 111 #[.pointer (some ⟨S, 0, none⟩), opV 14 mp ot en n a b s t x y z, .int .i64 i, .int .i64 jj] w (Res w B S lab cs.length r bd fun _ => True) := by
  obtain ⟨i0, hi0, hz0, hz1, hz2⟩ := info_parts info_pMap
  obtain ⟨i1, hi1, hy0, hy1, hy2⟩ := info_parts info_pRMap
  obtain ⟨i2, hi2, hx0, hx1, hx2⟩ := info_parts info_intN
  have A0 : Fr (fun _ => False) w (w.alloc (opBlk 14 mp ot en n a b s t x y z)) := Fr.alloc (Fr.refl _ _) _
  have hb := h.old A0
  have hob := blk_new w (opBlk 14 mp ot en n a b s t x y z)
  obtain ⟨g1, g2, g3, g4, g5, g6, g7⟩ := hb.m i r hr
  obtain ⟨k1, k2, k3, k4, k5, k6, k7⟩ := hb.m jj q hq
  obtain ⟨q0, cap0, q1, cap1, R⟩ := hb.rd hr
  obtain ⟨q0', cap0', q1', cap1', R'⟩ := hb.rd hq
  have hap : q0 = q0' ∧ cap0 = cap0' := by
    have := R.s0.symm.trans R'.s0
    simpa using this
  obtain ⟨rfl, rfl⟩ := hap
  have hap : q1 = q1' ∧ cap1 = cap1' := by
    have := R.s1.symm.trans R'.s1
    simpa using this
  obtain ⟨rfl, rfl⟩ := hap
  have tO : ∀ y, r.oP y ∨ q.oP y → y ≠ w.heap.size := fun y e e' => by
    obtain ⟨e1, _⟩ := h.m i r hr
    obtain ⟨e2, _⟩ := h.m jj q hq
    subst e'
    rcases e with e | e
    · have := e1.lt _ e; omega
    · have := e2.lt _ e; omega
  have hi := (List.getElem?_eq_some_iff.1 hr).1
  have hj := (List.getElem?_eq_some_iff.1 hq).1
  have h8 := h.n8
  have hil : (i : Int) < (ms.length : Int) := by omega
  have hjl : (jj : Int) < (ms.length : Int) := by omega
  have tl : ∀ y, lab y ≤ 2 → ¬ (y = r.pm ∨ y = q.pm) := fun y hy e => by
    have l1 := (g3 r.pm g1.self).1
    have l2 := (k3 q.pm k1.self).1
    rcases e with e | e <;> subst e <;> omega
  generalize hwb : w.alloc (opBlk 14 mp ot en n a b s t x y z) = wb at *
  have HWB : Hid (w.alloc (opBlk 14 mp ot en n a b s t x y z) = wb) := hwb
  have D1 : Fr (fun _ => False) wb wb.drew := Fr.drew (Fr.refl _ _)
  have hput := split_anyG r.g r.pm r.t r.c r.oP r.xs (cod x y) wb.drew (g1.fr D1 fun _ _ e => e) g6 (by omega) g5
  rw [kv_cod hX0 hY0] at hput
  have R0 := R.s0
  have R1 := R.c0
  have o5 : wb.cell? ⟨w.heap.size, 9, none⟩ = some (.float .f64 x) := cell_of hob 9
  have o6 : wb.cell? ⟨w.heap.size, 10, none⟩ = some (.float .f64 y) := cell_of hob 10
  have o0 : wb.cell? ⟨w.heap.size, 0, none⟩ = some (.int .i64 14) := cell_of hob 0
  have hself := g1.self
  have hBb := hb.hB
  have dPR : ∀ y, r.oR y → ¬ y = r.pm := fun y e e' => by have l1 := (g3 r.pm hself).1; have l2 := (g4 y e).1; rw [e'] at l2; omega
  have HH : Hid (Sh wb B S lab V ms cs bd ∧ ms[i]? = some r ∧ Fr (fun _ => False) w wb ∧ 0 ≤ bd) := ⟨hb, hr, A0, by omega⟩
  clear h hb hr hq hwb g3 g4 g6 g7 k1 k2 k3 k4 k5 k6 k7 R' tl
  go_enter Tryz.func111, Tryz.ntmps111
  go_wp2_with fail
  rw [HWB.out]
  go_region_held3 (fun w' => w'.cell? ⟨S, 0, none⟩ = some (.slice (some ⟨q0, 0, none⟩) ms.length cap0) ∧ w'.cell? ⟨q0, i, none⟩ = some (.pointer (some ⟨r.pm, 0, none⟩)) ∧ w'.cell? ⟨w.heap.size, 9, none⟩ = some (.float .f64 x) ∧ w'.cell? ⟨w.heap.size, 10, none⟩ = some (.float .f64 y))
    (first | exact ⟨R0, R1, o5, o6⟩ | exact ⟨R2.s0, R2.c0, cell_of ob2 9, cell_of ob2 10⟩)
    ((go_at_call 141; refine hput.mono ?_; rintro e w3 ⟨n1, n2, rfl, m3, o1, o2, M3, b3, L3, H3, s1, s2, d12, f3⟩; have F3 : Fr (fun x => x = r.pm) wb w3 := Fr.trans (S' := fun x => x = r.pm) (D1.mono fun _ _ e => e.elim) f3 fun _ _ e => e; have R2 := R.fr F3 fun _ e => Or.inl (by rw [e]; exact hself); have ob2 := F3.kept hob fun e => tO r.pm (Or.inl hself) e.symm))
  have RM := g2.fr F3 dPR
  have D3 : Fr (fun _ => False) w3 w3.drew := Fr.drew (Fr.refl _ _)
  have hrp := fun w' (f : Fr (fun _ => False) w3 w') => rsplit_any B r.rb r.t r.oR r.xs (cod x y) w' (RM.fr f fun _ _ e => e) g5 (Nat.le_trans hBb (Nat.le_trans F3.size f.size))
  rw [rkey_cod hX0 hY0] at hrp
  have HC2 : Hid (∀ w', Fr (fun _ => False) w3 w' → w'.cell? ⟨S, 1, none⟩ = some (.slice (some ⟨q1, 0, none⟩) ms.length cap1) ∧ w'.cell? ⟨q1, i, none⟩ = some (.pointer (some ⟨r.rb, 0, none⟩)) ∧ w'.cell? ⟨w.heap.size, 9, none⟩ = some (.float .f64 x) ∧ w'.cell? ⟨w.heap.size, 10, none⟩ = some (.float .f64 y)) := fun w' f => by
    have R3 := R2.fr f fun _ e => e.elim
    have ob3 := f.kept ob2 fun e => e
    exact ⟨R3.s1, R3.c1, cell_of ob3 9, cell_of ob3 10⟩
  have hlx : (r.xs.take (lrank r.t (cod x y) r.xs)).length ≤ 400 := by rw [List.length_take]; omega
  have hly : (r.xs.drop (lrank r.t (cod x y) r.xs)).length ≤ 400 := by rw [List.length_drop]; omega
  have HM : Hid (MapG r.g w3 r.pm r.t (r.c + (m3 : Nat)) r.oP r.xs ∧ m3 ≤ 10000 ∧ MapG r.g w3 n1 r.t 0 o1 (r.xs.take (lrank r.t (cod x y) r.xs)) ∧ MapG r.g w3 n2 r.t 0 o2 (r.xs.drop (lrank r.t (cod x y) r.xs)) ∧ (∀ x, o1 x → wb.heap.size ≤ x) ∧ (∀ x, o2 x → wb.heap.size ≤ x) ∧ (∀ x, o1 x → ¬ o2 x) ∧ Fr (fun x => x = r.pm) wb w3) := ⟨M3, b3, L3, H3, s1, s2, d12, F3⟩
  generalize r.xs.take (lrank r.t (cod x y) r.xs) = xL at *
  generalize r.xs.drop (lrank r.t (cod x y) r.xs) = xH at *
  clear hput R0 R1 o5 o6 o0 g1 g2 RM R R2 hob ob2 M3 b3 L3 H3 s1 s2 d12 f3 F3 tO dPR
  go_wp2_with fail
  go_region_held3 (fun w' => Fr (fun _ => False) w3 w' ∧ w'.cell? ⟨S, 1, none⟩ = some (.slice (some ⟨q1, 0, none⟩) ms.length cap1) ∧ w'.cell? ⟨q1, i, none⟩ = some (.pointer (some ⟨r.rb, 0, none⟩)) ∧ w'.cell? ⟨w.heap.size, 9, none⟩ = some (.float .f64 x) ∧ w'.cell? ⟨w.heap.size, 10, none⟩ = some (.float .f64 y))
    (first | with_reducible exact ⟨D3, HC2.out _ D3⟩ | with_reducible exact ⟨K4, HC2.out _ K4⟩)
    ((go_at_call 132; (with_reducible refine (hrp _ D3).mono ?_); rintro e w4 ⟨lb, hb, rfl, ol, oh, RL, RH, t1, t2, e12, f4⟩; have K4 : Fr (fun _ => False) w3 w4 := D3.trans f4 fun _ _ e => e))
  obtain ⟨k1, k2, k3, k0⟩ := HH.out
  obtain ⟨M3, b3, L3, H3, s1, s2, d12, F3⟩ := HM.out
  obtain ⟨mt, hlen, h5, T0, Mr, hP, FF, hl⟩ := made_lab k1 k2 k2 (F3.mono fun _ _ e => Or.inl e) K4 M3 M3 b3 b3 o1 o2 ol oh (10 + 2 * (ms.length + 1)) (10 + 2 * ms.length)
  have OkL : MOk w4 B (labN wb.heap.size lab o1 o2 ol oh (10 + 2 * (ms.length + 1)) (10 + 2 * ms.length)) (bd + 5000000) ((ms.length + 1)) ⟨n1, lb, r.g, r.t, 0, o1, ol, xL⟩ := made_1 L3 K4 s1 F3.size RL t1 hBb (fun x e => H3.lt x e) hlx (by omega)
  have OkH : MOk w4 B (labN wb.heap.size lab o1 o2 ol oh (10 + 2 * (ms.length + 1)) (10 + 2 * ms.length)) (bd + 5000000) (ms.length) ⟨n2, hb, r.g, r.t, 0, o2, oh, xH⟩ := made_2 H3 K4 s2 F3.size RH t2 hBb (fun x e => L3.lt x e) d12 e12 hly (by omega)
  generalize labN wb.heap.size lab o1 o2 ol oh (10 + 2 * (ms.length + 1)) (10 + 2 * ms.length) = lab4 at *
  have HOK : Hid (MapG r.g w4 r.pm r.t (r.c + (m3 : Nat)) r.oP r.xs ∧ m3 ≤ 10000 ∧ (∀ x, r.oP x → 7 ≤ lab4 x) ∧ Fr (fun x => B ≤ x ∧ lab x ≠ 7) w w4 ∧ (∀ x, x < w.heap.size → lab4 x = lab x) ∧ MOk w4 B lab4 (bd + 5000000) ((ms.length + 1)) ⟨n1, lb, r.g, r.t, 0, o1, ol, xL⟩ ∧ MOk w4 B lab4 (bd + 5000000) (ms.length) ⟨n2, hb, r.g, r.t, 0, o2, oh, xH⟩) :=
    ⟨Mr, b3, hP, (k3.mono fun _ _ e => e.elim).trans FF fun _ _ e => e, fun x hx => hl x (Nat.lt_of_lt_of_le hx k3.size), OkL, OkH⟩
  obtain ⟨EE, hEE⟩ : ∃ EE, EE = engI r.g := ⟨_, rfl⟩
  rw [← hEE] at h5
  have HEE : Hid (EE = engI r.g) := hEE
  clear k1 k2 k3 M3 b3 L3 H3 s1 s2 d12 F3 Mr hP FF hl OkL OkH RL RH t1 t2 e12 f4 K4 hrp HC2 D1 D3 A0 HH HM HWB hEE
  have HN : Hid (mt.length = ms.length) := hlen
  have hjm : (jj : Int) < (mt.length : Int) := by omega
  have hln : (mt.length : Int) < 8 := by omega
  have hilm : (i : Int) < (mt.length : Int) := by omega
  clear hlen
  obtain ⟨p0, c0, p1, c1, a2, c2, a3, c3, a4, c4, p5, c5, T⟩ := T0.shape (i := i) (by omega)
  have nn0 : (rows mt cs 0).length = mt.length := List.length_map ..
  have nn1 : (rows mt cs 1).length = mt.length := List.length_map ..
  have nn5 : (rows mt cs 5).length = mt.length := List.length_map ..
  have u0s : w4.cell? ⟨S, 0, none⟩ = some (.slice (some ⟨p0, 0, none⟩) mt.length c0) := T.cell 0
  clear T0
  have X1 := (Fr.alloc (Fr.refl _ _) _ : Fr (fun _ => False) w4 (w4.alloc (.cells #[.pointer (some ⟨n2, 0, none⟩)] 50)))
  have T1 := T.old X1
  have E1 := T1.own0 nn0
  have H1 : Hid (∀ j v, [Value.pointer (some ⟨n2, 0, none⟩)][j]? = some v → (w4.alloc (.cells #[.pointer (some ⟨n2, 0, none⟩)] 50)).cell? ((⟨w4.heap.size, 0, none⟩ : Addr).add j) = some v) := one_new w4 (.pointer (some ⟨n2, 0, none⟩)) 50
  have O1 : Hid (∀ u ∈ [Value.pointer (some ⟨n2, 0, none⟩)], u.oneCell' = true) := fun u hu => by simp at hu; subst hu; rfl
  have B1 := T1.hB
  have u0 : w4.cell? ⟨S, 0, none⟩ = some (.slice (some ⟨p0, 0, none⟩) mt.length c0) := T.cell 0
  go_wp2_with
    (at_builtin; refine wpList_append_fresh rfl _ _ 87 rfl B 50 i0 (.pointer none) 1 8 Tryz.underlying87 hi0 hz0 hz1 hz2 rfl (by decide) _ _ _ rfl E1 ⟨w4.heap.size, 0, none⟩ 1 1 [.pointer (some ⟨n2, 0, none⟩)] rfl rfl H1.out O1.out (by unfold maxLen; omega) (by omega) B1 ?_)
  intro aa ca wa owna growa fresha
  obtain ⟨T2, ka0, ka1⟩ := T1.grow0 nn0 (.slice aa (mt.length + 1) ca) (.pointer (some ⟨n2, 0, none⟩)) owna growa (by intro x hx; have := fresha x hx; simpa using this)
  clear X1 T1 E1 H1 O1 B1 owna growa fresha u0 T
  have z2 : (wa.setCell ⟨S, 0, none⟩ (.slice aa (mt.length + 1) ca)).heap.size = wa.heap.size := by simp
  have X2 := (Fr.alloc (Fr.refl _ _) _ : Fr (fun _ => False) (wa.setCell ⟨S, 0, none⟩ (.slice aa (mt.length + 1) ca)) ((wa.setCell ⟨S, 0, none⟩ (.slice aa (mt.length + 1) ca)).alloc (.cells #[.pointer (some ⟨hb, 0, none⟩)] 153)))
  have T3 := T2.old X2
  have E3 := T3.own1 nn1
  have H3 : Hid (∀ j v, [Value.pointer (some ⟨hb, 0, none⟩)][j]? = some v → ((wa.setCell ⟨S, 0, none⟩ (.slice aa (mt.length + 1) ca)).alloc (.cells #[.pointer (some ⟨hb, 0, none⟩)] 153)).cell? ((⟨wa.heap.size, 0, none⟩ : Addr).add j) = some v) := fun j v hj => by
    have := one_new (wa.setCell ⟨S, 0, none⟩ (.slice aa (mt.length + 1) ca)) (.pointer (some ⟨hb, 0, none⟩)) 153 j v hj
    rw [z2] at this
    exact this
  have O3 : Hid (∀ u ∈ [Value.pointer (some ⟨hb, 0, none⟩)], u.oneCell' = true) := fun u hu => by simp at hu; subst hu; rfl
  have B3 := T3.hB
  have u1 : (wa.setCell ⟨S, 0, none⟩ (.slice aa (mt.length + 1) ca)).cell? ⟨S, 1, none⟩ = some (.slice (some ⟨p1, 0, none⟩) mt.length c1) := T2.cell 1
  go_wp2_with
    (at_builtin; refine wpList_append_fresh rfl _ _ 74 rfl B 153 i1 (.pointer none) 1 8 Tryz.underlying74 hi1 hy0 hy1 hy2 rfl (by decide) _ _ _ rfl E3 ⟨wa.heap.size, 0, none⟩ 1 1 [.pointer (some ⟨hb, 0, none⟩)] rfl rfl H3.out O3.out (by unfold maxLen; omega) (by omega) B3 ?_)
  intro ab cb wq ownb growb freshb
  obtain ⟨T4, kb0, kb1⟩ := T3.grow1 nn1 (.slice ab (mt.length + 1) cb) (.pointer (some ⟨hb, 0, none⟩)) ownb growb (by intro x hx; have := freshb x hx; simpa using this)
  clear X2 T2 T3 E3 H3 O3 B3 ownb growb freshb u1
  go_wp2_with fail
  clear ka0 ka1 kb0 kb1 z2
  generalize wq.setCell ⟨S, 1, none⟩ (.slice ab (mt.length + 1) cb) = wc at *
  have X5 := (Fr.alloc (Fr.refl _ _) _ : Fr (fun _ => False) wc (wc.alloc (.cells #[.int .i64 EE] 3)))
  have Y5 := (Fr.drew X5 : Fr (fun _ => False) wc (wc.alloc (.cells #[.int .i64 EE] 3)).drew)
  have T5 := T4.old X5
  have T6 := T4.old Y5
  have E6 := T6.own5 nn5
  have H6 : Hid (∀ j v, [Value.int .i64 EE][j]? = some v → (wc.alloc (.cells #[.int .i64 EE] 3)).drew.cell? ((⟨wc.heap.size, 0, none⟩ : Addr).add j) = some v) := one_new wc (.int .i64 EE) 3
  have O6 : Hid (∀ u ∈ [Value.int .i64 EE], u.oneCell' = true) := fun u hu => by simp at hu; subst hu; rfl
  have B6 := T6.hB
  have u5 : wc.cell? ⟨S, 5, none⟩ = some (.slice (some ⟨p5, 0, none⟩) mt.length c5) := T4.cell 5
  have v5 : (wc.alloc (.cells #[.int .i64 EE] 3)).cell? ⟨S, 5, none⟩ = some (.slice (some ⟨p5, 0, none⟩) mt.length c5) := T5.cell 5
  have e5 := (T4.get5 h5).1
  have f5 := (T5.get5 h5).1
  go_region_law (refine step_append_fresh rfl (.tmp 91) (.tmp 99) 77 rfl B 3 i2 (.int .i64 0) 1 8 Tryz.underlying77 hi2 hx0 hx1 hx2 rfl (by decide) (.slice (some ⟨p5, 0, none⟩) mt.length c5) (mt.length) _ (by simp [Act.eval]) E6 ⟨wc.heap.size, 0, none⟩ 1 1 [.int .i64 EE] (by simp [Act.eval]) rfl H6.out O6.out (by unfold maxLen; omega) (by omega) B6 ?_; intro ac cc wd ownc growc freshc; obtain ⟨T7, kc0, kc1⟩ := T6.grow5 nn5 (.slice ac (mt.length + 1) cc) (.int .i64 EE) ownc growc freshc)
  all_goals
    clear X5 Y5 T4 T5 T6 E6 H6 O6 B6 u5 v5 e5 f5 ownc growc freshc kc0 kc1 nn0 nn1 nn5
    generalize wd.setCell ⟨S, 5, none⟩ (.slice ac (mt.length + 1) cc) = wg at *
    have TP := Tl.pushed (r := (⟨n2, hb, r.g, r.t, 0, o2, oh, xH⟩ : MR)) (by have := HEE.out; subst this; exact T7) (by omega) (by rw [HN.out]; exact HOK.out.2.2.2.2.2.2)
    have h5k : (rows (mt ++ [(⟨n2, hb, r.g, r.t, 0, o2, oh, xH⟩ : MR)]) cs 5)[i]? = some (.int .i64 EE) := by
      rw [rows_push _ _ _ 5 (by omega)]
      show (rows mt cs 5 ++ _)[i]? = _
      rw [List.getElem?_append_left (List.getElem?_eq_some_iff.1 h5).1]
      exact h5
    have hmk : (mt ++ [(⟨n2, hb, r.g, r.t, 0, o2, oh, xH⟩ : MR)]).length = ms.length + 1 := by have := HN.out; simp [this]
    generalize mt ++ [(⟨n2, hb, r.g, r.t, 0, o2, oh, xH⟩ : MR)] = mk at *
    have HK : Hid (mk.length = ms.length + 1) := hmk
    have hjk : (jj : Int) < (mk.length : Int) := by omega
    have hlk : (mk.length : Int) < 8 := by omega
    have hilk : (i : Int) < (mk.length : Int) := by omega
    clear hln hilm h5 hmk hjm
    obtain ⟨p0k, c0k, p1k, c1k, a2k, c2k, a3k, c3k, a4k, c4k, p5k, c5k, Tk⟩ := TP.shape (i := i) (by omega)
    have nn0k : (rows mk cs 0).length = mk.length := List.length_map ..
    have nn1k : (rows mk cs 1).length = mk.length := List.length_map ..
    have nn5k : (rows mk cs 5).length = mk.length := List.length_map ..
    have u0s : wg.cell? ⟨S, 0, none⟩ = some (.slice (some ⟨p0k, 0, none⟩) mk.length c0k) := Tk.cell 0
    clear TP
    have X1k := (Fr.alloc (Fr.refl _ _) _ : Fr (fun _ => False) wg (wg.alloc (.cells #[.pointer (some ⟨n1, 0, none⟩)] 50)))
    have T1k := Tk.old X1k
    have E1k := T1k.own0 nn0k
    have H1k : Hid (∀ j v, [Value.pointer (some ⟨n1, 0, none⟩)][j]? = some v → (wg.alloc (.cells #[.pointer (some ⟨n1, 0, none⟩)] 50)).cell? ((⟨wg.heap.size, 0, none⟩ : Addr).add j) = some v) := one_new wg (.pointer (some ⟨n1, 0, none⟩)) 50
    have O1k : Hid (∀ u ∈ [Value.pointer (some ⟨n1, 0, none⟩)], u.oneCell' = true) := fun u hu => by simp at hu; subst hu; rfl
    have B1k := T1k.hB
    have u0k : wg.cell? ⟨S, 0, none⟩ = some (.slice (some ⟨p0k, 0, none⟩) mk.length c0k) := Tk.cell 0
    go_wp2_with
      (at_builtin; refine wpList_append_fresh rfl _ _ 87 rfl B 50 i0 (.pointer none) 1 8 Tryz.underlying87 hi0 hz0 hz1 hz2 rfl (by decide) _ _ _ rfl E1k ⟨wg.heap.size, 0, none⟩ 1 1 [.pointer (some ⟨n1, 0, none⟩)] rfl rfl H1k.out O1k.out (by unfold maxLen; omega) (by omega) B1k ?_)
    intro aak cak wak owna growa fresha
    obtain ⟨T2k, ka0k, ka1k⟩ := T1k.grow0 nn0k (.slice aak (mk.length + 1) cak) (.pointer (some ⟨n1, 0, none⟩)) owna growa (by intro x hx; have := fresha x hx; simpa using this)
    clear X1k T1k E1k H1k O1k B1k owna growa fresha u0k Tk
    have z2k : (wak.setCell ⟨S, 0, none⟩ (.slice aak (mk.length + 1) cak)).heap.size = wak.heap.size := by simp
    have X2k := (Fr.alloc (Fr.refl _ _) _ : Fr (fun _ => False) (wak.setCell ⟨S, 0, none⟩ (.slice aak (mk.length + 1) cak)) ((wak.setCell ⟨S, 0, none⟩ (.slice aak (mk.length + 1) cak)).alloc (.cells #[.pointer (some ⟨lb, 0, none⟩)] 153)))
    have T3k := T2k.old X2k
    have E3k := T3k.own1 nn1k
    have H3k : Hid (∀ j v, [Value.pointer (some ⟨lb, 0, none⟩)][j]? = some v → ((wak.setCell ⟨S, 0, none⟩ (.slice aak (mk.length + 1) cak)).alloc (.cells #[.pointer (some ⟨lb, 0, none⟩)] 153)).cell? ((⟨wak.heap.size, 0, none⟩ : Addr).add j) = some v) := fun j v hj => by
      have := one_new (wak.setCell ⟨S, 0, none⟩ (.slice aak (mk.length + 1) cak)) (.pointer (some ⟨lb, 0, none⟩)) 153 j v hj
      rw [z2k] at this
      exact this
    have O3k : Hid (∀ u ∈ [Value.pointer (some ⟨lb, 0, none⟩)], u.oneCell' = true) := fun u hu => by simp at hu; subst hu; rfl
    have B3k := T3k.hB
    have u1k : (wak.setCell ⟨S, 0, none⟩ (.slice aak (mk.length + 1) cak)).cell? ⟨S, 1, none⟩ = some (.slice (some ⟨p1k, 0, none⟩) mk.length c1k) := T2k.cell 1
    go_wp2_with
      (at_builtin; refine wpList_append_fresh rfl _ _ 74 rfl B 153 i1 (.pointer none) 1 8 Tryz.underlying74 hi1 hy0 hy1 hy2 rfl (by decide) _ _ _ rfl E3k ⟨wak.heap.size, 0, none⟩ 1 1 [.pointer (some ⟨lb, 0, none⟩)] rfl rfl H3k.out O3k.out (by unfold maxLen; omega) (by omega) B3k ?_)
    intro abk cbk wqk ownb growb freshb
    obtain ⟨T4k, kb0k, kb1k⟩ := T3k.grow1 nn1k (.slice abk (mk.length + 1) cbk) (.pointer (some ⟨lb, 0, none⟩)) ownb growb (by intro x hx; have := freshb x hx; simpa using this)
    clear X2k T2k T3k E3k H3k O3k B3k ownb growb freshb u1k
    go_wp2_with fail
    clear ka0k ka1k kb0k kb1k z2k
    generalize wqk.setCell ⟨S, 1, none⟩ (.slice abk (mk.length + 1) cbk) = wck at *
    have X5k := (Fr.alloc (Fr.refl _ _) _ : Fr (fun _ => False) wck (wck.alloc (.cells #[.int .i64 EE] 3)))
    have Y5k := (Fr.drew X5k : Fr (fun _ => False) wck (wck.alloc (.cells #[.int .i64 EE] 3)).drew)
    have T5k := T4k.old X5k
    have T6k := T4k.old Y5k
    have E6k := T6k.own5 nn5k
    have H6k : Hid (∀ j v, [Value.int .i64 EE][j]? = some v → (wck.alloc (.cells #[.int .i64 EE] 3)).drew.cell? ((⟨wck.heap.size, 0, none⟩ : Addr).add j) = some v) := one_new wck (.int .i64 EE) 3
    have O6k : Hid (∀ u ∈ [Value.int .i64 EE], u.oneCell' = true) := fun u hu => by simp at hu; subst hu; rfl
    have B6k := T6k.hB
    have u5k : wck.cell? ⟨S, 5, none⟩ = some (.slice (some ⟨p5k, 0, none⟩) mk.length c5k) := T4k.cell 5
    have v5k : (wck.alloc (.cells #[.int .i64 EE] 3)).cell? ⟨S, 5, none⟩ = some (.slice (some ⟨p5k, 0, none⟩) mk.length c5k) := T5k.cell 5
    have e5k := (T4k.get5 h5k).1
    have f5k := (T5k.get5 h5k).1
    go_region_law (refine step_append_fresh rfl (.tmp 222) (.tmp 230) 77 rfl B 3 i2 (.int .i64 0) 1 8 Tryz.underlying77 hi2 hx0 hx1 hx2 rfl (by decide) (.slice (some ⟨p5k, 0, none⟩) mk.length c5k) (mk.length) _ (by simp [Act.eval]) E6k ⟨wck.heap.size, 0, none⟩ 1 1 [.int .i64 EE] (by simp [Act.eval]) rfl H6k.out O6k.out (by unfold maxLen; omega) (by omega) B6k ?_; intro ack cck wdk ownc growc freshc; obtain ⟨T7k, kc0, kc1⟩ := T6k.grow5 nn5k (.slice ack (mk.length + 1) cck) (.int .i64 EE) ownc growc freshc)
    all_goals
      clear X5k Y5k T4k T5k T6k E6k H6k O6k B6k u5k v5k e5k f5k ownc growc freshc kc0 kc1 nn0k nn1k nn5k
      generalize wdk.setCell ⟨S, 5, none⟩ (.slice ack (mk.length + 1) cck) = wgk at *
      have TPk := Tl.pushed (r := ⟨n1, lb, r.g, r.t, 0, o1, ol, xL⟩) (by have := HEE.out; subst this; exact T7k) (by omega) (by rw [HK.out]; exact HOK.out.2.2.2.2.2.1)
      go_wp2_with fail
      go_ret
      have := HOK.out
      exact Tl.res TPk (by omega) this.1 this.2.1 this.2.2.1 this.2.2.2.1 this.2.2.2.2.1

end Go.Proofs.YthbnbocpddddmaaGreat
