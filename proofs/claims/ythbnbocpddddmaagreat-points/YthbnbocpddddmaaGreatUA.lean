import Derived.Test.YthbnbocpddddmaaGreatQX
import Derived.Test.YthbnbocpddddmaaGreatQY
import Derived.Test.YthbnbocpddddmaaGreatQZ
namespace Go.Proofs.YthbnbocpddddmaaGreat
open Go.RowKit

theorem cursor_anyG (m : Nat) (w : World) :
    Calls Tryz.prog 137 #[.pointer (some ⟨m, 0, none⟩)] w fun e w' => ∃ cb : Nat, e = .returned (.pointer (some ⟨cb, 0, none⟩)) ∧ w'.heap[cb]? = some (curBlk m 0 0) ∧ w.heap.size ≤ cb ∧ Fr (fun _ => False) w w' := cursor_anyT m w

theorem Sg.pushC {w : World} {B S : Nat} {lab : Nat → Nat} {V : Nat → Value} {L : Nat → List Value} {ms : List MR} {cs : List CR} {bd : Int} (h : Sg w B S lab V L ms cs bd) (q : CR) (hq : COk w B lab ms cs.length q) (hL : ∀ j, j < 6 → rows ms (cs ++ [q]) j = L j) : Sh w B S lab V ms (cs ++ [q]) bd := by
  refine ⟨h.x.congrL hL, h.m, fun n q' hn => ?_, h.hB, h.n8⟩
  rcases Nat.lt_or_ge n cs.length with hi | hi
  · rw [List.getElem?_append_left hi] at hn
    exact h.c n q' hn
  · rw [List.getElem?_append_right hi] at hn
    have hi0 : n = cs.length := by
      have := (List.getElem?_eq_some_iff.1 hn).1
      simp at this
      omega
    subst hi0
    simp at hn
    subst hn
    exact hq

set_option maxRecDepth 100000 in
set_option maxHeartbeats 8000000 in
theorem step_cursor (w : World) (B S : Nat) (lab : Nat → Nat) (V : Nat → Value) (ms : List MR) (cs : List CR) (bd : Int) (h : Sh w B S lab V ms cs bd) (i : Nat) (r : MR) (hr : ms[i]? = some r) (hcs : cs.length ≤ 10000000000000)
    (mp ot en n a b : Int) (s t : ByteArray) (x y z : Nat) :
    Calls Tryz.prog 110 #[.pointer (some ⟨S, 0, none⟩), opV 10 mp ot en n a b s t x y z, .int .i64 i] w (Res w B S lab cs.length r bd fun _ => True) := by
  obtain ⟨i0, hi0, hz0, hz1, hz2⟩ := info_parts info_pCursor
  obtain ⟨i1, hi1, hy0, hy1, hy2⟩ := info_parts info_pRCursor
  obtain ⟨i2, hi2, hx0, hx1, hx2⟩ := info_parts info_intN
  have A0 : Fr (fun _ => False) w (w.alloc (opBlk 10 mp ot en n a b s t x y z)) := Fr.alloc (Fr.refl _ _) _
  have hb := h.old A0
  obtain ⟨q0, cap0, q1, cap1, R⟩ := hb.rd hr
  have R0 := R.s0
  have R1 := R.c0
  have hil : (i : Int) < (ms.length : Int) := by have := (List.getElem?_eq_some_iff.1 hr).1; omega
  have hcu := cursor_anyG r.pm (w.alloc (opBlk 10 mp ot en n a b s t x y z))
  have HR : Hid (ms[i]? = some r ∧ Sh w B S lab V ms cs bd) := ⟨hr, h⟩
  clear h hr R
  go_enter Tryz.func110, Tryz.ntmps110
  go_wp2_with fail
  refine hcu.mono ?_
  rintro e w2 ⟨cb, rfl, hcb, hcs2, f2⟩
  have F2 : Fr (fun _ => False) w w2 := A0.trans f2 fun _ _ e => e
  have hwc : w.heap.size ≤ cb := Nat.le_trans A0.size hcs2
  have G2 := HR.out.2.label F2 (fun x => if x < w.heap.size then lab x else 1000 + 2 * cs.length) fun x hx => by simp only [if_pos hx]
  have L2 : (fun x => if x < w.heap.size then lab x else 1000 + 2 * cs.length) cb = 1000 + 2 * cs.length := by simp only [if_neg (show ¬ cb < w.heap.size by omega)]
  have Y2 : ∀ x, x < w.heap.size → (fun x => if x < w.heap.size then lab x else 1000 + 2 * cs.length) x = lab x := fun x hx => by simp only [if_pos hx]
  generalize (fun x => if x < w.heap.size then lab x else 1000 + 2 * cs.length) = lab2 at *
  have hBc : B ≤ cb := Nat.le_trans HR.out.2.hB hwc
  obtain ⟨aP, cP, vP⟩ := own_shape (G2.x.own 2 (by omega))
  have nP : (rows ms cs 2).length = cs.length := List.length_map ..
  rw [nP] at vP
  have u0 : w2.cell? ⟨S, 2, none⟩ = some (.slice aP cs.length cP) := (cell_of G2.x.blk 2).trans (by rw [← vP]; rfl)
  have A3 : Fr (fun _ => False) w2 (w2.alloc (.cells #[.pointer (some ⟨cb, 0, none⟩)] 260)) := Fr.alloc (Fr.refl _ _) _
  have G3 := G2.old A3
  have c3 := A3.kept hcb fun e => e
  have E0 := G3.x.own 2 (by omega)
  rw [nP] at E0
  rw [vP] at E0
  have HN0 : Hid (∀ j v, [Value.pointer (some ⟨cb, 0, none⟩)][j]? = some v → (w2.alloc (.cells #[.pointer (some ⟨cb, 0, none⟩)] 260)).cell? ((⟨w2.heap.size, 0, none⟩ : Addr).add j) = some v) := one_new w2 (.pointer (some ⟨cb, 0, none⟩)) 260
  have HO0 : Hid (∀ u ∈ [Value.pointer (some ⟨cb, 0, none⟩)], u.oneCell' = true) := fun u hu => by simp at hu; subst hu; rfl
  have hB3 := G3.hB
  go_wp2_with
    (at_builtin; refine wpList_append_fresh rfl _ _ 88 rfl B 260 i0 (.pointer none) 1 8 Tryz.underlying88 hi0 hz0 hz1 hz2 rfl (by decide) _ _ _ rfl E0 ⟨w2.heap.size, 0, none⟩ 1 1 [.pointer (some ⟨cb, 0, none⟩)] rfl rfl HN0.out HO0.out (by unfold maxLen; omega) (by omega) hB3 ?_)
  intro a4 c4 w4 own4 grow4 fresh4
  obtain ⟨G5, f5, fB5⟩ := G3.grow 2 (by omega) (.slice a4 (cs.length + 1) c4) (.pointer (some ⟨cb, 0, none⟩)) (by rw [nP]; exact own4) (by rw [vP]; exact grow4) (by rw [vP]; intro x hx; have := fresh4 x hx; simpa using this)
  have hb4 := (grow4.block S (lt_of_blk G3.x.blk) fun e => (by have h1 := G3.x.labs 2 (by omega) S (by rw [vP]; exact e.symm); rw [G3.x.lab0] at h1; omega)).trans G3.x.blk
  have k0 := cell_of hb4 2
  have k1 := frozen_of hb4 2
  have c5 := f5.kept c3 fun e => by omega
  have F23 := F2.trans A3 fun _ _ e => e
  have F5 := (F23.mono (S' := fun x => B ≤ x ∧ lab x ≠ 7) fun _ _ e => e.elim).trans (fB5.and f5) fun x hx e => ⟨e.1, by have := Y2 x hx; omega⟩
  have Y5 : ∀ x, x < w.heap.size → (fun x => if x < (w2.alloc (.cells #[.pointer (some ⟨cb, 0, none⟩)] 260)).heap.size then lab2 x else 2 + 1) x = lab x := fun x hx => by have := F23.size; simp only [if_pos (show x < (w2.alloc (.cells #[.pointer (some ⟨cb, 0, none⟩)] 260)).heap.size by omega)]; exact Y2 x hx
  have L5 : (fun x => if x < (w2.alloc (.cells #[.pointer (some ⟨cb, 0, none⟩)] 260)).heap.size then lab2 x else 2 + 1) cb = 1000 + 2 * cs.length := by simp only [if_pos (lt_of_blk c3)]; exact L2
  generalize hl5 : (fun x => if x < (w2.alloc (.cells #[.pointer (some ⟨cb, 0, none⟩)] 260)).heap.size then lab2 x else 2 + 1) = lab5 at *
  obtain ⟨aW, cW, vW⟩ := own_shape (G5.x.own 3 (by omega))
  have nW : ((fun k => if k = 2 then rows ms cs 2 ++ [.pointer (some ⟨cb, 0, none⟩)] else rows ms cs k) 3).length = cs.length := List.length_map ..
  rw [nW] at vW
  clear E0 HN0 HO0 own4 grow4 fresh4 G3 c3 hb4 u0 f5 fB5 A3 R0 R1
  have zS5 := lt_of_blk G5.x.blk
  have u1 : (w4.setCell ⟨S, 2, none⟩ (.slice a4 (cs.length + 1) c4)).cell? ⟨S, 3, none⟩ = some (.slice aW cs.length cW) := (cell_of G5.x.blk 3).trans (by rw [← vW]; rfl)
  have hs5 : (w4.setCell ⟨S, 2, none⟩ (.slice a4 (cs.length + 1) c4)).heap.size = w4.heap.size := by simp
  have A6 : Fr (fun _ => False) (w4.setCell ⟨S, 2, none⟩ (.slice a4 (cs.length + 1) c4)) (((w4.setCell ⟨S, 2, none⟩ (.slice a4 (cs.length + 1) c4)).alloc (.cells #[.int .i64 0, .int .i64 0, .string ⟨#[]⟩, .float .f64 0, .float .f64 0] 249)).alloc (.cells #[.pointer (some ⟨w4.heap.size, 0, none⟩)] 247)) := Fr.alloc (Fr.alloc (Fr.refl _ _) _) _
  have G6 := G5.label A6 (fun x => if x < (w4.setCell ⟨S, 2, none⟩ (.slice a4 (cs.length + 1) c4)).heap.size then lab5 x else 1001 + 2 * cs.length) fun x hx => by simp only [if_pos hx]
  have c6 := A6.kept c5 fun e => e
  have d6 : (((w4.setCell ⟨S, 2, none⟩ (.slice a4 (cs.length + 1) c4)).alloc (.cells #[.int .i64 0, .int .i64 0, .string ⟨#[]⟩, .float .f64 0, .float .f64 0] 249)).alloc (.cells #[.pointer (some ⟨w4.heap.size, 0, none⟩)] 247)).heap[w4.heap.size]? = some (rcurBlk 0 0) := by
    rw [Below.heap_alloc _ _ _ (by simp), ← hs5]; exact blk_new _ _
  have L6 : (fun x => if x < (w4.setCell ⟨S, 2, none⟩ (.slice a4 (cs.length + 1) c4)).heap.size then lab5 x else 1001 + 2 * cs.length) cb = 1000 + 2 * cs.length := by simp only [if_pos (lt_of_blk c5)]; exact L5
  have l6 : (fun x => if x < (w4.setCell ⟨S, 2, none⟩ (.slice a4 (cs.length + 1) c4)).heap.size then lab5 x else 1001 + 2 * cs.length) w4.heap.size = 1001 + 2 * cs.length := by simp only [hs5, if_neg (Nat.lt_irrefl _)]
  have Y6 : ∀ x, x < w.heap.size → (fun x => if x < (w4.setCell ⟨S, 2, none⟩ (.slice a4 (cs.length + 1) c4)).heap.size then lab5 x else 1001 + 2 * cs.length) x = lab x := fun x hx => by have := F5.size; simp only [if_pos (show x < (w4.setCell ⟨S, 2, none⟩ (.slice a4 (cs.length + 1) c4)).heap.size by omega)]; exact Y5 x hx
  generalize hl6 : (fun x => if x < (w4.setCell ⟨S, 2, none⟩ (.slice a4 (cs.length + 1) c4)).heap.size then lab5 x else 1001 + 2 * cs.length) = lab6 at *
  have E1 := G6.x.own 3 (by omega)
  rw [nW] at E1
  rw [vW] at E1
  have HN1 : Hid (∀ j v, [Value.pointer (some ⟨w4.heap.size, 0, none⟩)][j]? = some v → (((w4.setCell ⟨S, 2, none⟩ (.slice a4 (cs.length + 1) c4)).alloc (.cells #[.int .i64 0, .int .i64 0, .string ⟨#[]⟩, .float .f64 0, .float .f64 0] 249)).alloc (.cells #[.pointer (some ⟨w4.heap.size, 0, none⟩)] 247)).cell? ((⟨w4.heap.size + 1, 0, none⟩ : Addr).add j) = some v) := fun j v hj => by
    have := one_new ((w4.setCell ⟨S, 2, none⟩ (.slice a4 (cs.length + 1) c4)).alloc (.cells #[.int .i64 0, .int .i64 0, .string ⟨#[]⟩, .float .f64 0, .float .f64 0] 249)) (.pointer (some ⟨w4.heap.size, 0, none⟩)) 247 j v hj
    rw [World.size_alloc, hs5] at this
    exact this
  have HO1 : Hid (∀ u ∈ [Value.pointer (some ⟨w4.heap.size, 0, none⟩)], u.oneCell' = true) := fun u hu => by simp at hu; subst hu; rfl
  have hB6 := G6.hB
  have hBd : B ≤ w4.heap.size := by have := G5.hB; omega
  go_wp2_with
    (at_builtin; refine wpList_append_fresh rfl _ _ 76 rfl B 247 i1 (.pointer none) 1 8 Tryz.underlying76 hi1 hy0 hy1 hy2 rfl (by decide) _ _ _ rfl E1 ⟨w4.heap.size + 1, 0, none⟩ 1 1 [.pointer (some ⟨w4.heap.size, 0, none⟩)] rfl rfl HN1.out HO1.out (by unfold maxLen; omega) (by omega) hB6 ?_)
  intro a7 c7 w7 own7 grow7 fresh7
  obtain ⟨G8, f8, fB8⟩ := G6.grow 3 (by omega) (.slice a7 (cs.length + 1) c7) (.pointer (some ⟨w4.heap.size, 0, none⟩)) (by rw [nW]; exact own7) (by rw [vW]; exact grow7) (by rw [vW]; intro x hx; have := fresh7 x hx; simpa using this)
  have hb7 := (grow7.block S (lt_of_blk G6.x.blk) fun e => (by have h1 := G6.x.labs 3 (by omega) S (by rw [vW]; exact e.symm); rw [G6.x.lab0] at h1; omega)).trans G6.x.blk
  have k2 := cell_of hb7 3
  have k3 := frozen_of hb7 3
  have c8 := f8.kept c6 fun e => by omega
  have d8 := f8.kept d6 fun e => by omega
  have F56 := F5.trans A6 fun _ _ e => e.elim
  have F8 := F56.trans (fB8.and f8) fun x hx e => ⟨e.1, by have := Y6 x hx; omega⟩
  have Y8 : ∀ x, x < w.heap.size → (fun x => if x < (((w4.setCell ⟨S, 2, none⟩ (.slice a4 (cs.length + 1) c4)).alloc (.cells #[.int .i64 0, .int .i64 0, .string ⟨#[]⟩, .float .f64 0, .float .f64 0] 249)).alloc (.cells #[.pointer (some ⟨w4.heap.size, 0, none⟩)] 247)).heap.size then lab6 x else 3 + 1) x = lab x := fun x hx => by have := F56.size; simp only [if_pos (show x < (((w4.setCell ⟨S, 2, none⟩ (.slice a4 (cs.length + 1) c4)).alloc (.cells #[.int .i64 0, .int .i64 0, .string ⟨#[]⟩, .float .f64 0, .float .f64 0] 249)).alloc (.cells #[.pointer (some ⟨w4.heap.size, 0, none⟩)] 247)).heap.size by omega)]; exact Y6 x hx
  have L8 : (fun x => if x < (((w4.setCell ⟨S, 2, none⟩ (.slice a4 (cs.length + 1) c4)).alloc (.cells #[.int .i64 0, .int .i64 0, .string ⟨#[]⟩, .float .f64 0, .float .f64 0] 249)).alloc (.cells #[.pointer (some ⟨w4.heap.size, 0, none⟩)] 247)).heap.size then lab6 x else 3 + 1) cb = 1000 + 2 * cs.length := by simp only [if_pos (lt_of_blk c6)]; exact L6
  have l8 : (fun x => if x < (((w4.setCell ⟨S, 2, none⟩ (.slice a4 (cs.length + 1) c4)).alloc (.cells #[.int .i64 0, .int .i64 0, .string ⟨#[]⟩, .float .f64 0, .float .f64 0] 249)).alloc (.cells #[.pointer (some ⟨w4.heap.size, 0, none⟩)] 247)).heap.size then lab6 x else 3 + 1) w4.heap.size = 1001 + 2 * cs.length := by simp only [if_pos (lt_of_blk d6)]; exact l6
  generalize hl8 : (fun x => if x < (((w4.setCell ⟨S, 2, none⟩ (.slice a4 (cs.length + 1) c4)).alloc (.cells #[.int .i64 0, .int .i64 0, .string ⟨#[]⟩, .float .f64 0, .float .f64 0] 249)).alloc (.cells #[.pointer (some ⟨w4.heap.size, 0, none⟩)] 247)).heap.size then lab6 x else 3 + 1) = lab8 at *
  obtain ⟨aE, cE, vE⟩ := own_shape (G8.x.own 4 (by omega))
  have nE : ((fun k => if k = 3 then (fun k => if k = 2 then rows ms cs 2 ++ [.pointer (some ⟨cb, 0, none⟩)] else rows ms cs k) 3 ++ [.pointer (some ⟨w4.heap.size, 0, none⟩)] else (fun k => if k = 2 then rows ms cs 2 ++ [.pointer (some ⟨cb, 0, none⟩)] else rows ms cs k) k) 4).length = cs.length := List.length_map ..
  rw [nE] at vE
  have u5 : (w7.setCell ⟨S, 3, none⟩ (.slice a7 (cs.length + 1) c7)).cell? ⟨S, 4, none⟩ = some (.slice aE cs.length cE) := (cell_of G8.x.blk 4).trans (by rw [← vE]; rfl)
  have A9 : Fr (fun _ => False) (w7.setCell ⟨S, 3, none⟩ (.slice a7 (cs.length + 1) c7)) ((w7.setCell ⟨S, 3, none⟩ (.slice a7 (cs.length + 1) c7)).alloc (.cells #[.int .i64 i] 3)) := Fr.alloc (Fr.refl _ _) _
  have G9 := G8.old A9
  have E5 := G9.x.own 4 (by omega)
  rw [nE] at E5
  rw [vE] at E5
  have hs8 : (w7.setCell ⟨S, 3, none⟩ (.slice a7 (cs.length + 1) c7)).heap.size = w7.heap.size := by simp
  have HN5 : Hid (∀ j v, [Value.int .i64 i][j]? = some v → ((w7.setCell ⟨S, 3, none⟩ (.slice a7 (cs.length + 1) c7)).alloc (.cells #[.int .i64 i] 3)).cell? ((⟨w7.heap.size, 0, none⟩ : Addr).add j) = some v) := fun j v hj => by
    have := one_new (w7.setCell ⟨S, 3, none⟩ (.slice a7 (cs.length + 1) c7)) (.int .i64 i) 3 j v hj
    rw [hs8] at this
    exact this
  have HO5 : Hid (∀ u ∈ [Value.int .i64 i], u.oneCell' = true) := fun u hu => by simp at hu; subst hu; rfl
  have hB9 := G9.hB
  have c9 := A9.kept c8 fun e => e
  have d9 := A9.kept d8 fun e => e
  clear own7 grow7 fresh7 hb7 f8 fB8 G6 G5 E1 HN1 HO1 u1 c5 c6 d6 A6 hl5 hl6
  go_wp2_with
    (at_builtin; refine wpList_append_fresh rfl _ _ 77 rfl B 3 i2 (.int .i64 0) 1 8 Tryz.underlying77 hi2 hx0 hx1 hx2 rfl (by decide) _ _ _ rfl E5 ⟨w7.heap.size, 0, none⟩ 1 1 [.int .i64 i] rfl rfl HN5.out HO5.out (by unfold maxLen; omega) (by omega) hB9 ?_)
  intro a10 c10 w10 own10 grow10 fresh10
  obtain ⟨G11, f11, fB11⟩ := G9.grow 4 (by omega) (.slice a10 (cs.length + 1) c10) (.int .i64 i) (by rw [nE]; exact own10) (by rw [vE]; exact grow10) (by rw [vE]; intro x hx; have := fresh10 x hx; simpa using this)
  have hb10 := (grow10.block S (lt_of_blk G9.x.blk) fun e => (by have h1 := G9.x.labs 4 (by omega) S (by rw [vE]; exact e.symm); rw [G9.x.lab0] at h1; omega)).trans G9.x.blk
  have k4 := cell_of hb10 4
  have k5 := frozen_of hb10 4
  have c11 := f11.kept c9 fun e => by omega
  have d11 := f11.kept d9 fun e => by omega
  have F89 := F8.trans A9 fun _ _ e => e.elim
  have FZ := F89.trans (fB11.and f11) fun x hx e => ⟨e.1, by have := Y8 x hx; omega⟩
  have HZ : Hid (∃ lab V cs', Sh (w10.setCell ⟨S, 4, none⟩ (.slice a10 (cs.length + 1) c10)) B S lab V ms cs' bd ∧ cs'.length ≤ cs.length + 1) := by
    refine ⟨_, _, cs ++ [⟨cb, w4.heap.size, r.pm, 0, 0, i⟩], G11.pushC _ (Or.inr ⟨i, r, rfl, HR.out.1, rfl, c11, d11, ⟨?_, hBc⟩, ⟨?_, hBd⟩, Or.inl rfl⟩) fun j hj => ?_, by simp⟩
    · simp only [if_pos (lt_of_blk c9)]; exact L8
    · simp only [if_pos (lt_of_blk d9)]; exact l8
    · match j, hj with
      | 0, _ => simp [rows]
      | 1, _ => simp [rows]
      | 2, _ => simp [rows, ptr]
      | 3, _ => simp [rows, ptr]
      | 4, _ => simp [rows]
      | 5, _ => simp [rows]
  clear own10 grow10 fresh10 hb10 G8 G9 G11 E5 HN5 HO5 f11 fB11 L8 l8 Y2 Y5 Y6 Y8 F23 F56 F89 c8 c9 c11 d8 d9 d11
  go_wp2_with fail
  go_ret
  obtain ⟨lz, vz, cz, z1, z2⟩ := HZ.out
  exact ⟨rfl, ⟨lz, vz, ms, cz, z1.keep (Fr.refl (fun _ => False) _) (fun _ _ => rfl) (fun _ e => e.elim) (by omega), z2⟩, ⟨0, r.oP, r.xs, by simpa using (z1.m i r HR.out.1).1, Nat.zero_le _, trivial⟩, FZ⟩

end Go.Proofs.YthbnbocpddddmaaGreat

namespace Go.Proofs.YthbnbocpddddmaaGreat
open Go.RowKit

theorem cnext_anyG (g : Bool) (m cb : Nat) (t : Bool) (c : Int) (own : Nat → Prop) (xs : Row) (s k : Int) (w : World) (h : MapG g w m t c own xs) (hc : w.heap[cb]? = some (curBlk m s k)) (hn : ¬ own cb) (b0 : 0 ≤ c) (b1 : c ≤ 8000000000000000000) (hs : xs.length ≤ 400) (h3 : s = 0 ∨ s = 1 ∨ s = 2) :
    Calls Tryz.prog 138 #[.pointer (some ⟨cb, 0, none⟩)] w fun e w' => ∃ n : Nat, e = .returned (.tuple #[kv (latK xs (pas t s k xs)), kv (latV xs (pas t s k xs)), .bool (latB xs (pas t s k xs))]) ∧
      MapG g w' m t (c + n) own xs ∧ w'.heap[cb]? = some (curBlk m (if latB xs (pas t s k xs) = true then 2 else s) (if latB xs (pas t s k xs) = true then latK xs (pas t s k xs) else k)) ∧ n ≤ 10000 ∧ Fr (fun x => x = m ∨ x = cb) w w' := by
  cases g
  · exact (cnextG_anyT m cb t c own xs s k w h hc hn b0 b1 (by omega) h3).mono fun _ _ ⟨n, q1, q2, q3, q4, q5⟩ => ⟨n, q1, q2, q3, Nat.le_trans q4 (few_le hs), q5⟩
  · exact cnextG_anyK m cb t c own xs s k w h hc hn b0 b1 (by omega) h3

theorem cprev_anyG (g : Bool) (m cb : Nat) (t : Bool) (c : Int) (own : Nat → Prop) (xs : Row) (s k : Int) (w : World) (h : MapG g w m t c own xs) (hc : w.heap[cb]? = some (curBlk m s k)) (hn : ¬ own cb) (b0 : 0 ≤ c) (b1 : c ≤ 8000000000000000000) (hs : xs.length ≤ 400) (h3 : s = 0 ∨ s = 1 ∨ s = 2) :
    Calls Tryz.prog 139 #[.pointer (some ⟨cb, 0, none⟩)] w fun e w' => ∃ n : Nat, e = .returned (.tuple #[kv (latK xs (pas t s k xs - 1)), kv (latV xs (pas t s k xs - 1)), .bool (latB xs (pas t s k xs - 1))]) ∧
      MapG g w' m t (c + n) own xs ∧ w'.heap[cb]? = some (curBlk m (if latB xs (pas t s k xs - 1) = true then 1 else s) (if latB xs (pas t s k xs - 1) = true then latK xs (pas t s k xs - 1) else k)) ∧ n ≤ 10000 ∧ Fr (fun x => x = m ∨ x = cb) w w' := by
  cases g
  · exact (cprevG_anyT m cb t c own xs s k w h hc hn b0 b1 (by omega) h3).mono fun _ _ ⟨n, q1, q2, q3, q4, q5⟩ => ⟨n, q1, q2, q3, Nat.le_trans q4 (few_le hs), q5⟩
  · exact cprevG_anyK m cb t c own xs s k w h hc hn b0 b1 (by omega) h3

set_option maxRecDepth 100000 in
set_option maxHeartbeats 8000000 in
theorem step_next (w : World) (B S : Nat) (lab : Nat → Nat) (V : Nat → Value) (ms : List MR) (cs : List CR) (bd : Int) (h : Sh w B S lab V ms cs bd) (i : Nat) (r : MR) (hr : ms[i]? = some r) (hcs : cs.length ≤ 10000000000000) (hbd : bd ≤ 7000000000000000000)
    (mp ot en n a b : Int) (s t : ByteArray) (x y z : Nat) (n0 : -9223372036854775808 ≤ n) (n1 : n < 9223372036854775808) :
    Calls Tryz.prog 110 #[.pointer (some ⟨S, 0, none⟩), opV 11 mp ot en n a b s t x y z, .int .i64 i] w (Res w B S lab cs.length r bd fun _ => True) := by
  have A0 : Fr (fun _ => False) w (w.alloc (opBlk 11 mp ot en n a b s t x y z)) := Fr.alloc (Fr.refl _ _) _
  have hb := h.old A0
  have hob := blk_new w (opBlk 11 mp ot en n a b s t x y z)
  have HSame : Hid (∀ w', Fr (fun _ => False) w w' → Res w B S lab cs.length r bd (fun _ => True) (.returned (.bool true)) w') := fun w' f => by
    have h' := h.old f
    exact ⟨rfl, ⟨lab, V, ms, cs, h'.keep (Fr.refl (fun _ => False) _) (fun _ _ => rfl) (fun _ e => e.elim) (by omega), Nat.le_succ _⟩, ⟨0, r.oP, r.xs, by simpa using (h'.m i r hr).1, Nat.zero_le _, trivial⟩, f.mono fun _ _ e => e.elim⟩
  obtain ⟨aC, cC, vC⟩ := own_shape (hb.x.own 2 (by omega))
  have nC : (rows ms cs 2).length = cs.length := List.length_map ..
  rw [nC] at vC
  have u2 : (w.alloc (opBlk 11 mp ot en n a b s t x y z)).cell? ⟨S, 2, none⟩ = some (.slice aC cs.length cC) := (cell_of hb.x.blk 2).trans (by rw [← vC]; rfl)
  by_cases hz : cs.length = 0
  · rw [hz] at u2
    clear h hb hr hob vC nC
    go_enter Tryz.func110, Tryz.ntmps110
    go_wp2_with fail
    go_ret
    exact HSame.out _ A0
  · have o4 : (w.alloc (opBlk 11 mp ot en n a b s t x y z)).cell? ⟨w.heap.size, 4, none⟩ = some (.int .i64 n) := cell_of hob 4
    have o0 : (w.alloc (opBlk 11 mp ot en n a b s t x y z)).cell? ⟨w.heap.size, 0, none⟩ = some (.int .i64 11) := cell_of hob 0
    have hp := fun w' => lpick_any n cs.length w' n0 n1 (by omega) (by omega)
    obtain ⟨p0, p1⟩ := pkn_b n cs.length (by omega)
    obtain ⟨j, hj⟩ := Int.eq_ofNat_of_zero_le p0
    rw [hj] at hp p1
    have hjl : j < cs.length := by omega
    obtain ⟨q, hq⟩ : ∃ q, cs[j]? = some q := ⟨_, List.getElem?_eq_getElem hjl⟩
    have hr4 : (rows ms cs 4)[j]? = some (.int .i64 q.o) := by show (cs.map _)[j]? = _; rw [List.getElem?_map, hq]; rfl
    obtain ⟨qo, co, vO, e4, _, l4, z4⟩ := hb.x.here 4 (by omega) hr4
    have nO : (rows ms cs 4).length = cs.length := List.length_map ..
    rw [nO] at vO
    have u4 : (w.alloc (opBlk 11 mp ot en n a b s t x y z)).cell? ⟨S, 4, none⟩ = some (.slice (some ⟨qo, 0, none⟩) cs.length co) := (cell_of hb.x.blk 4).trans (by rw [← vO]; rfl)
    have hzi : ¬ (cs.length : Int) = 0 := by omega
    have zS := lt_of_blk hb.x.blk
    rcases h.c j q hq with ho | ⟨i', r', ho, hr', hm', b1', b2', lc, ld, h3⟩
    · rw [ho] at e4
      clear h hb hr hob vC nC vO nO hq hr4 n0 n1
      go_enter Tryz.func110, Tryz.ntmps110
      go_wp2_with fail
      go_region_held3 (fun w' => w'.cell? ⟨w.heap.size, 4, none⟩ = some (.int .i64 n) ∧ w'.cell? ⟨S, 2, none⟩ = some (.slice aC cs.length cC))
        (first | exact ⟨o4, u2⟩)
        ((go_at_call 48; refine (hp _).mono ?_; rintro e w2 ⟨rfl, rfl⟩))
      go_wp2_with fail
      go_ret
      exact HSame.out _ (Fr.drew A0)
    · obtain ⟨g1, g2, g3, g4, g5, g6, g7⟩ := hb.m i' r' hr'
      obtain ⟨q0, cap0, q1, cap1, R⟩ := hb.rd hr'
      have hr2 : (rows ms cs 2)[j]? = some (ptr q.cb) := by show (cs.map _)[j]? = _; rw [List.getElem?_map, hq]; rfl
      have hr3 : (rows ms cs 3)[j]? = some (ptr q.db) := by show (cs.map _)[j]? = _; rw [List.getElem?_map, hq]; rfl
      obtain ⟨qc, cc, vC2, e2, _, l2, z2⟩ := hb.x.here 2 (by omega) hr2
      obtain ⟨qd, cd, vD, e3, _, l3, z3⟩ := hb.x.here 3 (by omega) hr3
      have nD : (rows ms cs 3).length = cs.length := List.length_map ..
      rw [nD] at vD
      rw [nC] at vC2
      have hac : aC = some ⟨qc, 0, none⟩ := (by simpa using (vC.symm.trans vC2) : aC = some ⟨qc, 0, none⟩ ∧ cC = cc).1
      subst hac
      have u3 : (w.alloc (opBlk 11 mp ot en n a b s t x y z)).cell? ⟨S, 3, none⟩ = some (.slice (some ⟨qd, 0, none⟩) cs.length cd) := (cell_of hb.x.blk 3).trans (by rw [← vD]; rfl)
      have R2 := R.s1
      have R3 := R.c1
      have hi' := (List.getElem?_eq_some_iff.1 hr').1
      have hil : (i' : Int) < (ms.length : Int) := by omega
      have hi0 : ¬ (i' : Int) < 0 := by omega
      rw [ho] at e4
      have hjl' : (j : Int) < (cs.length : Int) := by omega
      have c1' := A0.kept b1' fun e => e
      have c2' := A0.kept b2' fun e => e
      have hself := (g3 r'.pm g1.self).1
      have nS : ∀ y, lab y ≤ 6 → ¬ (y = r'.pm ∨ y = q.cb) := fun y hy e => by
        rcases e with e | e
        · rw [e] at hy; omega
        · rw [e] at hy; omega
      have h8 := h.n8
      have lc1 := lc.1
      have ld1 := ld.1
      have ncb : ¬ r'.oP q.cb := fun e => by have := (g3 _ e).1; omega
      have ndb : ¬ (q.db = r'.pm ∨ q.db = q.cb) := fun e => by
        have h1 := ld.1
        rcases e with e | e
        · rw [e, hself] at h1; have := h.n8; omega
        · rw [e, lc.1] at h1; omega
      have noR : ∀ y, r'.oR y → ¬ (y = r'.pm ∨ y = q.cb) := fun y hy e => by
        have h1 := (g4 y hy).1
        rcases e with e | e
        · rw [e, hself] at h1; omega
        · rw [e, lc.1] at h1; have := h.n8; omega
      rw [hm'] at c1'
      have hnx := fun w' (f : Fr (fun _ => False) (w.alloc (opBlk 11 mp ot en n a b s t x y z)) w') => cnext_anyG r'.g r'.pm q.cb r'.t r'.c r'.oP r'.xs q.s q.k w' (g1.fr f fun _ _ e => e) (f.kept c1' fun e => e) ncb g6 (by omega) g5 h3
      have hsr := g1.srt
      have HH : Hid (Sh w B S lab V ms cs bd ∧ ms[i']? = some r' ∧ cs[j]? = some q ∧ q.o = ((i' : Nat) : Int) ∧ ms[i]? = some r ∧ q.m = r'.pm ∧ (B ≤ r'.pm ∧ lab r'.pm ≠ 7) ∧ (B ≤ q.cb ∧ lab q.cb ≠ 7) ∧ (B ≤ q.db ∧ lab q.db ≠ 7) ∧ 0 ≤ r'.c ∧ r'.c ≤ bd) := ⟨h, hr', hq, ho, hr, hm', ⟨(g3 _ g1.self).2, by omega⟩, ⟨lc.2, by omega⟩, ⟨ld.2, by omega⟩, g6, g7⟩
      have lS := h.x.lab0
      unfold ptr at e2 e3
      clear h hb hr hob vC nC vO nO hq hr4 n0 n1 vC2 vD nD hr2 hr3 hr' g1 g3 g4 R
      go_enter Tryz.func110, Tryz.ntmps110
      go_wp2_with fail
      go_region_held3 (fun w' => w'.cell? ⟨w.heap.size, 4, none⟩ = some (.int .i64 n) ∧ w'.cell? ⟨S, 2, none⟩ = some (.slice (some ⟨qc, 0, none⟩) cs.length cC))
        (first | exact ⟨o4, u2⟩)
        ((go_at_call 48; refine (hp _).mono ?_; rintro e w2 ⟨rfl, rfl⟩))
      go_wp2_with fail
      go_region
      go_wp2_with fail
      refine (hnx _ (Fr.drew (Fr.drew (Fr.refl _ _)))).mono ?_
      rintro e w3 ⟨m3, rfl, M3, C3, b3, f3⟩
      have A3 : Fr (fun x => x = r'.pm ∨ x = q.cb) (w.alloc (opBlk 11 mp ot en n a b s t x y z)) w3 := Fr.trans (S' := fun x => x = r'.pm ∨ x = q.cb) (Fr.drew (Fr.drew (Fr.refl _ _))) f3 fun _ _ e => e
      have v3 := (A3.cell (b := S) 3 zS (nS S (by omega))).trans u3
      have v4 := (A3.cell (b := qd) j z3 (nS qd (by omega))).trans e3
      have D3 := A3.kept c2' ndb
      have RM := g2.fr A3 noR
      have hrn := rcnext_any B q.db r'.rb r'.t r'.oR r'.xs q.s q.k w3 RM hsr g5 D3 h3
      generalize latK r'.xs (pas r'.t q.s q.k r'.xs) = gk at *
      generalize latV r'.xs (pas r'.t q.s q.k r'.xs) = gv at *
      generalize latB r'.xs (pas r'.t q.s q.k r'.xs) = gb at *
      have hs' : (if gb = true then 2 else q.s) = 0 ∨ (if gb = true then 2 else q.s) = 1 ∨ (if gb = true then 2 else q.s) = 2 := by
        cases gb
        · simpa using h3
        · simp
      have HFin : Hid (∀ w6, Fr (fun x => x = q.db) w3 w6 → w6.heap[q.db]? = some (rcurBlk (if gb = true then 2 else q.s) (if gb = true then gk else q.k)) → Res w B S lab cs.length r bd (fun _ => True) (.returned (.bool true)) w6) := by
        intro w6 f6 D6
        obtain ⟨k1, k2, k3, k4, k5, k6, k7, k8, k9, k10, k11⟩ := HH.out
        have F1 := (A0.mono (S' := fun x => x = r'.pm ∨ x = q.cb) fun _ _ e => e.elim).trans A3 fun _ _ e => e
        obtain ⟨z1, z2⟩ := Sh.cur k1 k2 k3 k4 F1 f6 M3 (by rw [k6]; exact C3) D6 hs' (by omega) (by omega : r'.c + (m3 : Int) ≤ bd + 5000000) (by omega)
        refine ⟨rfl, ⟨lab, V, _, _, z1, by simp⟩, ?_, (F1.mono fun x _ e => by rcases e with e | e <;> rw [e] <;> assumption).trans f6 fun x _ e => by rw [e]; exact k9⟩
        by_cases hii : i' = i
        · subst hii
          rw [k2] at k5
          cases k5
          exact ⟨m3, _, _, z2, Nat.le_trans b3 (by omega), trivial⟩
        · exact ⟨0, _, _, by simpa using (z1.m i r (by rw [List.getElem?_set, if_neg hii]; exact k5)).1, Nat.zero_le _, trivial⟩
      have hsf := store_f0
      clear HSame hnx M3 C3 f3 RM D3 hs' c1' c2' ndb ncb noR hself b1' b2' ho hm' g2 A3 u2 u3 u4 e2 e3 e4 o4 o0 R2 R3
      go_wp2_with fail
      refine hrn.mono ?_
      rintro e w4 ⟨rfl, D4, f4⟩
      go_wp2_with fail
      refine (item_same _ _ _ _).mono ?_
      rintro e w6 ⟨rfl, f6⟩
      have J5 : Fr (fun x => x = q.db) w3 w6 := by with_reducible exact Fr.trans (S' := fun _ => False) (Fr.alloc f4 _) f6 fun _ _ e => e.elim
      have D6 : w6.heap[q.db]? = some (rcurBlk (if gb = true then 2 else q.s) (if gb = true then gk else q.k)) := f6.kept ((Fr.alloc (Fr.refl (fun _ => False) _) _).kept D4 fun e => e) fun e => e
      go_wp2_with fail
      go_ret
      exact HFin.out w6 J5 D6

set_option maxRecDepth 100000 in
set_option maxHeartbeats 8000000 in
theorem step_prev (w : World) (B S : Nat) (lab : Nat → Nat) (V : Nat → Value) (ms : List MR) (cs : List CR) (bd : Int) (h : Sh w B S lab V ms cs bd) (i : Nat) (r : MR) (hr : ms[i]? = some r) (hcs : cs.length ≤ 10000000000000) (hbd : bd ≤ 7000000000000000000)
    (mp ot en n a b : Int) (s t : ByteArray) (x y z : Nat) (n0 : -9223372036854775808 ≤ n) (n1 : n < 9223372036854775808) :
    Calls Tryz.prog 110 #[.pointer (some ⟨S, 0, none⟩), opV 12 mp ot en n a b s t x y z, .int .i64 i] w (Res w B S lab cs.length r bd fun _ => True) := by
  have A0 : Fr (fun _ => False) w (w.alloc (opBlk 12 mp ot en n a b s t x y z)) := Fr.alloc (Fr.refl _ _) _
  have hb := h.old A0
  have hob := blk_new w (opBlk 12 mp ot en n a b s t x y z)
  have HSame : Hid (∀ w', Fr (fun _ => False) w w' → Res w B S lab cs.length r bd (fun _ => True) (.returned (.bool true)) w') := fun w' f => by
    have h' := h.old f
    exact ⟨rfl, ⟨lab, V, ms, cs, h'.keep (Fr.refl (fun _ => False) _) (fun _ _ => rfl) (fun _ e => e.elim) (by omega), Nat.le_succ _⟩, ⟨0, r.oP, r.xs, by simpa using (h'.m i r hr).1, Nat.zero_le _, trivial⟩, f.mono fun _ _ e => e.elim⟩
  obtain ⟨aC, cC, vC⟩ := own_shape (hb.x.own 2 (by omega))
  have nC : (rows ms cs 2).length = cs.length := List.length_map ..
  rw [nC] at vC
  have u2 : (w.alloc (opBlk 12 mp ot en n a b s t x y z)).cell? ⟨S, 2, none⟩ = some (.slice aC cs.length cC) := (cell_of hb.x.blk 2).trans (by rw [← vC]; rfl)
  by_cases hz : cs.length = 0
  · rw [hz] at u2
    clear h hb hr hob vC nC
    go_enter Tryz.func110, Tryz.ntmps110
    go_wp2_with fail
    go_ret
    exact HSame.out _ A0
  · have o4 : (w.alloc (opBlk 12 mp ot en n a b s t x y z)).cell? ⟨w.heap.size, 4, none⟩ = some (.int .i64 n) := cell_of hob 4
    have o0 : (w.alloc (opBlk 12 mp ot en n a b s t x y z)).cell? ⟨w.heap.size, 0, none⟩ = some (.int .i64 12) := cell_of hob 0
    have hp := fun w' => lpick_any n cs.length w' n0 n1 (by omega) (by omega)
    obtain ⟨p0, p1⟩ := pkn_b n cs.length (by omega)
    obtain ⟨j, hj⟩ := Int.eq_ofNat_of_zero_le p0
    rw [hj] at hp p1
    have hjl : j < cs.length := by omega
    obtain ⟨q, hq⟩ : ∃ q, cs[j]? = some q := ⟨_, List.getElem?_eq_getElem hjl⟩
    have hr4 : (rows ms cs 4)[j]? = some (.int .i64 q.o) := by show (cs.map _)[j]? = _; rw [List.getElem?_map, hq]; rfl
    obtain ⟨qo, co, vO, e4, _, l4, z4⟩ := hb.x.here 4 (by omega) hr4
    have nO : (rows ms cs 4).length = cs.length := List.length_map ..
    rw [nO] at vO
    have u4 : (w.alloc (opBlk 12 mp ot en n a b s t x y z)).cell? ⟨S, 4, none⟩ = some (.slice (some ⟨qo, 0, none⟩) cs.length co) := (cell_of hb.x.blk 4).trans (by rw [← vO]; rfl)
    have hzi : ¬ (cs.length : Int) = 0 := by omega
    have zS := lt_of_blk hb.x.blk
    rcases h.c j q hq with ho | ⟨i', r', ho, hr', hm', b1', b2', lc, ld, h3⟩
    · rw [ho] at e4
      clear h hb hr hob vC nC vO nO hq hr4 n0 n1
      go_enter Tryz.func110, Tryz.ntmps110
      go_wp2_with fail
      go_region_held3 (fun w' => w'.cell? ⟨w.heap.size, 4, none⟩ = some (.int .i64 n) ∧ w'.cell? ⟨S, 2, none⟩ = some (.slice aC cs.length cC))
        (first | exact ⟨o4, u2⟩)
        ((go_at_call 48; refine (hp _).mono ?_; rintro e w2 ⟨rfl, rfl⟩))
      go_wp2_with fail
      go_ret
      exact HSame.out _ (Fr.drew A0)
    · obtain ⟨g1, g2, g3, g4, g5, g6, g7⟩ := hb.m i' r' hr'
      obtain ⟨q0, cap0, q1, cap1, R⟩ := hb.rd hr'
      have hr2 : (rows ms cs 2)[j]? = some (ptr q.cb) := by show (cs.map _)[j]? = _; rw [List.getElem?_map, hq]; rfl
      have hr3 : (rows ms cs 3)[j]? = some (ptr q.db) := by show (cs.map _)[j]? = _; rw [List.getElem?_map, hq]; rfl
      obtain ⟨qc, cc, vC2, e2, _, l2, z2⟩ := hb.x.here 2 (by omega) hr2
      obtain ⟨qd, cd, vD, e3, _, l3, z3⟩ := hb.x.here 3 (by omega) hr3
      have nD : (rows ms cs 3).length = cs.length := List.length_map ..
      rw [nD] at vD
      rw [nC] at vC2
      have hac : aC = some ⟨qc, 0, none⟩ := (by simpa using (vC.symm.trans vC2) : aC = some ⟨qc, 0, none⟩ ∧ cC = cc).1
      subst hac
      have u3 : (w.alloc (opBlk 12 mp ot en n a b s t x y z)).cell? ⟨S, 3, none⟩ = some (.slice (some ⟨qd, 0, none⟩) cs.length cd) := (cell_of hb.x.blk 3).trans (by rw [← vD]; rfl)
      have R2 := R.s1
      have R3 := R.c1
      have hi' := (List.getElem?_eq_some_iff.1 hr').1
      have hil : (i' : Int) < (ms.length : Int) := by omega
      have hi0 : ¬ (i' : Int) < 0 := by omega
      rw [ho] at e4
      have hjl' : (j : Int) < (cs.length : Int) := by omega
      have c1' := A0.kept b1' fun e => e
      have c2' := A0.kept b2' fun e => e
      have hself := (g3 r'.pm g1.self).1
      have nS : ∀ y, lab y ≤ 6 → ¬ (y = r'.pm ∨ y = q.cb) := fun y hy e => by
        rcases e with e | e
        · rw [e] at hy; omega
        · rw [e] at hy; omega
      have h8 := h.n8
      have lc1 := lc.1
      have ld1 := ld.1
      have ncb : ¬ r'.oP q.cb := fun e => by have := (g3 _ e).1; omega
      have ndb : ¬ (q.db = r'.pm ∨ q.db = q.cb) := fun e => by
        have h1 := ld.1
        rcases e with e | e
        · rw [e, hself] at h1; have := h.n8; omega
        · rw [e, lc.1] at h1; omega
      have noR : ∀ y, r'.oR y → ¬ (y = r'.pm ∨ y = q.cb) := fun y hy e => by
        have h1 := (g4 y hy).1
        rcases e with e | e
        · rw [e, hself] at h1; omega
        · rw [e, lc.1] at h1; have := h.n8; omega
      rw [hm'] at c1'
      have hnx := fun w' (f : Fr (fun _ => False) (w.alloc (opBlk 12 mp ot en n a b s t x y z)) w') => cprev_anyG r'.g r'.pm q.cb r'.t r'.c r'.oP r'.xs q.s q.k w' (g1.fr f fun _ _ e => e) (f.kept c1' fun e => e) ncb g6 (by omega) g5 h3
      have hsr := g1.srt
      have HH : Hid (Sh w B S lab V ms cs bd ∧ ms[i']? = some r' ∧ cs[j]? = some q ∧ q.o = ((i' : Nat) : Int) ∧ ms[i]? = some r ∧ q.m = r'.pm ∧ (B ≤ r'.pm ∧ lab r'.pm ≠ 7) ∧ (B ≤ q.cb ∧ lab q.cb ≠ 7) ∧ (B ≤ q.db ∧ lab q.db ≠ 7) ∧ 0 ≤ r'.c ∧ r'.c ≤ bd) := ⟨h, hr', hq, ho, hr, hm', ⟨(g3 _ g1.self).2, by omega⟩, ⟨lc.2, by omega⟩, ⟨ld.2, by omega⟩, g6, g7⟩
      have lS := h.x.lab0
      unfold ptr at e2 e3
      clear h hb hr hob vC nC vO nO hq hr4 n0 n1 vC2 vD nD hr2 hr3 hr' g1 g3 g4 R
      go_enter Tryz.func110, Tryz.ntmps110
      go_wp2_with fail
      go_region_held3 (fun w' => w'.cell? ⟨w.heap.size, 4, none⟩ = some (.int .i64 n) ∧ w'.cell? ⟨S, 2, none⟩ = some (.slice (some ⟨qc, 0, none⟩) cs.length cC))
        (first | exact ⟨o4, u2⟩)
        ((go_at_call 48; refine (hp _).mono ?_; rintro e w2 ⟨rfl, rfl⟩))
      go_wp2_with fail
      go_region
      go_wp2_with fail
      refine (hnx _ (Fr.drew (Fr.drew (Fr.refl _ _)))).mono ?_
      rintro e w3 ⟨m3, rfl, M3, C3, b3, f3⟩
      have A3 : Fr (fun x => x = r'.pm ∨ x = q.cb) (w.alloc (opBlk 12 mp ot en n a b s t x y z)) w3 := Fr.trans (S' := fun x => x = r'.pm ∨ x = q.cb) (Fr.drew (Fr.drew (Fr.refl _ _))) f3 fun _ _ e => e
      have v3 := (A3.cell (b := S) 3 zS (nS S (by omega))).trans u3
      have v4 := (A3.cell (b := qd) j z3 (nS qd (by omega))).trans e3
      have D3 := A3.kept c2' ndb
      have RM := g2.fr A3 noR
      have hrn := rcprev_any B q.db r'.rb r'.t r'.oR r'.xs q.s q.k w3 RM hsr g5 D3 h3
      generalize latK r'.xs (pas r'.t q.s q.k r'.xs - 1) = gk at *
      generalize latV r'.xs (pas r'.t q.s q.k r'.xs - 1) = gv at *
      generalize latB r'.xs (pas r'.t q.s q.k r'.xs - 1) = gb at *
      have hs' : (if gb = true then 1 else q.s) = 0 ∨ (if gb = true then 1 else q.s) = 1 ∨ (if gb = true then 1 else q.s) = 2 := by
        cases gb
        · simpa using h3
        · simp
      have HFin : Hid (∀ w6, Fr (fun x => x = q.db) w3 w6 → w6.heap[q.db]? = some (rcurBlk (if gb = true then 1 else q.s) (if gb = true then gk else q.k)) → Res w B S lab cs.length r bd (fun _ => True) (.returned (.bool true)) w6) := by
        intro w6 f6 D6
        obtain ⟨k1, k2, k3, k4, k5, k6, k7, k8, k9, k10, k11⟩ := HH.out
        have F1 := (A0.mono (S' := fun x => x = r'.pm ∨ x = q.cb) fun _ _ e => e.elim).trans A3 fun _ _ e => e
        obtain ⟨z1, z2⟩ := Sh.cur k1 k2 k3 k4 F1 f6 M3 (by rw [k6]; exact C3) D6 hs' (by omega) (by omega : r'.c + (m3 : Int) ≤ bd + 5000000) (by omega)
        refine ⟨rfl, ⟨lab, V, _, _, z1, by simp⟩, ?_, (F1.mono fun x _ e => by rcases e with e | e <;> rw [e] <;> assumption).trans f6 fun x _ e => by rw [e]; exact k9⟩
        by_cases hii : i' = i
        · subst hii
          rw [k2] at k5
          cases k5
          exact ⟨m3, _, _, z2, Nat.le_trans b3 (by omega), trivial⟩
        · exact ⟨0, _, _, by simpa using (z1.m i r (by rw [List.getElem?_set, if_neg hii]; exact k5)).1, Nat.zero_le _, trivial⟩
      have hsf := store_f0
      clear HSame hnx M3 C3 f3 RM D3 hs' c1' c2' ndb ncb noR hself b1' b2' ho hm' g2 A3 u2 u3 u4 e2 e3 e4 o4 o0 R2 R3
      go_wp2_with fail
      refine hrn.mono ?_
      rintro e w4 ⟨rfl, D4, f4⟩
      go_wp2_with fail
      refine (item_same _ _ _ _).mono ?_
      rintro e w6 ⟨rfl, f6⟩
      have J5 : Fr (fun x => x = q.db) w3 w6 := by with_reducible exact Fr.trans (S' := fun _ => False) (Fr.alloc f4 _) f6 fun _ _ e => e.elim
      have D6 : w6.heap[q.db]? = some (rcurBlk (if gb = true then 1 else q.s) (if gb = true then gk else q.k)) := f6.kept ((Fr.alloc (Fr.refl (fun _ => False) _) _).kept D4 fun e => e) fun e => e
      go_wp2_with fail
      go_ret
      exact HFin.out w6 J5 D6

end Go.Proofs.YthbnbocpddddmaaGreat
