import Derived.Test.YthbnbocpddddmaaGreatQU
import Derived.OwnWalk
namespace Go.Proofs.YthbnbocpddddmaaGreat
open Go.RowKit

theorem info_pMap : (Tryz.prog.info? 50).map (fun i => (i.zero, i.size, i.bytes)) = some (some (.pointer none), 1, 8) := by kernel_rfl
theorem info_pRMap : (Tryz.prog.info? 153).map (fun i => (i.zero, i.size, i.bytes)) = some (some (.pointer none), 1, 8) := by kernel_rfl
theorem info_pCursor : (Tryz.prog.info? 260).map (fun i => (i.zero, i.size, i.bytes)) = some (some (.pointer none), 1, 8) := by kernel_rfl
theorem info_pRCursor : (Tryz.prog.info? 247).map (fun i => (i.zero, i.size, i.bytes)) = some (some (.pointer none), 1, 8) := by kernel_rfl
theorem info_intN : (Tryz.prog.info? 3).map (fun i => (i.zero, i.size, i.bytes)) = some (some (.int .i64 0), 1, 8) := by kernel_rfl

set_option maxRecDepth 100000 in
set_option maxHeartbeats 1000000 in
theorem new_bad (t : Bool) (en : Int) (w : World) (h0 : en ≠ 0) (h1 : en ≠ 1) : Calls Tryz.prog 15 #[.agg #[.iface 213 (.agg #[]), .bool t], .int .i64 en] w fun e w' => e = .returned (.tuple #[.pointer none, .int .i64 1]) ∧ Fr (fun _ => False) w w' := by
  go_enter Tryz.func15, Tryz.ntmps15
  go_wp2_with fail
  go_ret2
  exact ⟨rfl, Fr.alloc (Fr.refl _ _) _⟩

set_option maxRecDepth 100000 in
set_option maxHeartbeats 4000000 in
theorem snew_bad (w : World) (S : Nat) (od en : Int) (c0 : -9223372036854775808 ≤ od) (c1 : od < 9223372036854775808) (h0 : en ≠ 0) (h1 : en ≠ 1) :
    Calls Tryz.prog 29 #[.pointer (some ⟨S, 0, none⟩), .int .i64 od, .int .i64 en] w fun e w' => e = .returned (.bool true) ∧ Fr (fun _ => False) w w' := by
  have ho := lorder_any od w c0 c1
  generalize (pkn od 2 == 1) = tt at *
  have hnb := fun w => new_bad tt en w h0 h1
  have b0 : (en != 0) = true := by simpa using h0
  have b1 : (en != 1) = true := by simpa using h1
  clear c0 c1 h0 h1
  go_enter Tryz.func29, Tryz.ntmps29
  go_wp2_with fail
  refine ho.mono ?_
  rintro e w1 ⟨rfl, f1⟩
  go_wp2_with fail
  refine (hnb _).mono ?_
  rintro e w2 ⟨rfl, f2⟩
  go_wp2_with fail
  go_ret
  exact ⟨rfl, (Fr.alloc (Fr.alloc f1 _) _).trans f2 fun _ _ e => e⟩

/-- A map more, whose rows stand already. -/
theorem Sg.push {w : World} {B S : Nat} {lab : Nat → Nat} {V : Nat → Value} {L : Nat → List Value} {ms : List MR} {cs : List CR} {bd : Int} (h : Sg w B S lab V L ms cs bd) (h8 : ms.length < 8) (r : MR) (hr : MOk w B lab bd ms.length r) (hL : ∀ j, j < 6 → rows (ms ++ [r]) cs j = L j) : Sh w B S lab V (ms ++ [r]) cs bd := by
  refine ⟨h.x.congrL hL, fun i q hq => ?_, fun n q hq => ?_, h.hB, by simp; omega⟩
  · rcases Nat.lt_or_ge i ms.length with hi | hi
    · rw [List.getElem?_append_left hi] at hq
      exact h.m i q hq
    · rw [List.getElem?_append_right hi] at hq
      have hi0 : i = ms.length := by
        have := (List.getElem?_eq_some_iff.1 hq).1
        simp at this
        omega
      subst hi0
      simp at hq
      subst hq
      exact hr
  · exact (h.c n q hq).keep (T := fun _ => False) (Fr.refl _ _) (fun _ _ => rfl) (fun _ e => e.elim) fun i r' _ hi => ⟨r', by rw [List.getElem?_append_left (List.getElem?_eq_some_iff.1 hi).1]; exact hi, rfl⟩

theorem one_new (w : World) (u : Value) (t : TypeId) : ∀ j v, [u][j]? = some v → (w.alloc (.cells #[u] t)).cell? ((⟨w.heap.size, 0, none⟩ : Addr).add j) = some v := fun j v hj => by
  match j, hj with
  | 0, hj => simp at hj; subst hj; simp [Addr.add]

set_option maxRecDepth 100000 in
set_option maxHeartbeats 8000000 in
theorem snew_good (w : World) (B S : Nat) (lab : Nat → Nat) (V : Nat → Value) (ms : List MR) (cs : List CR) (bd : Int) (h : Sh w B S lab V ms cs bd) (h8 : ms.length < 8) (hbd : 0 ≤ bd) (od : Int) (g : Bool) (c0 : -9223372036854775808 ≤ od) (c1 : od < 9223372036854775808) :
    Calls Tryz.prog 29 #[.pointer (some ⟨S, 0, none⟩), .int .i64 od, .int .i64 (engI g)] w fun e w' => e = .returned (.bool true) ∧ (∃ lab V r, Sh w' B S lab V (ms ++ [r]) cs bd) ∧ Fr (fun x => B ≤ x) w w' := by
  obtain ⟨i0, hi0, hz0, hz1, hz2⟩ := info_parts info_pMap
  obtain ⟨i1, hi1, hy0, hy1, hy2⟩ := info_parts info_pRMap
  obtain ⟨i2, hi2, hx0, hx1, hx2⟩ := info_parts info_intN
  have ho := lorder_any od w c0 c1
  generalize (pkn od 2 == 1) = tt at *
  have hnew := fun w => newG_any g tt w
  have hg : engI g = 0 ∨ engI g = 1 := by cases g <;> simp [engI]
  have b0 : ((engI g != 0) && (engI g != 1)) = false := by cases g <;> rfl
  generalize hE : engI g = E at *
  have HE : Hid (engI g = E) := hE
  clear c0 c1 hE
  go_enter Tryz.func29, Tryz.ntmps29
  go_wp2_with fail
  refine ho.mono ?_
  rintro e w1 ⟨rfl, f1⟩
  go_wp2_with fail
  refine (hnew _).mono ?_
  rintro e w2 ⟨m, rfl, own, M2, s2, f2⟩
  have F2 : Fr (fun _ => False) w w2 := (Fr.alloc (Fr.alloc f1 _) _).trans f2 fun _ _ e => e
  have q2 : w2.heap[w1.heap.size + 1]? = some (.cells #[.int .i64 3, .bool tt] 28 (0, 0)) := by
    have := blk_new (w1.alloc (.cells #[.iface 213 (.agg #[]), .bool tt] 47)) (.cells #[.int .i64 3, .bool tt] 28)
    rw [World.size_alloc] at this
    exact (f2.block _ (by simp) (fun e => e)).trans this
  have hs2 : ∀ x, own x → w.heap.size ≤ x := fun x hx => by have := s2 x hx; have := f1.size; simp at *; omega
  have G2 := h.label F2 (fun x => if x < w.heap.size then lab x else 10 + 2 * ms.length) fun x hx => by simp only [if_pos hx]
  have L2 : ∀ x, own x → (fun x => if x < w.heap.size then lab x else 10 + 2 * ms.length) x = 10 + 2 * ms.length ∧ B ≤ x := fun x hx => ⟨by have := hs2 x hx; simp only [if_neg (show ¬ x < w.heap.size by omega)], Nat.le_trans h.hB (hs2 x hx)⟩
  have lq2 : (fun x => if x < w.heap.size then lab x else 10 + 2 * ms.length) (w1.heap.size + 1) = 10 + 2 * ms.length := by have := f1.size; simp only [if_neg (show ¬ w1.heap.size + 1 < w.heap.size by omega)]
  generalize (fun x => if x < w.heap.size then lab x else 10 + 2 * ms.length) = lab2 at *
  obtain ⟨aP, cP, vP⟩ := own_shape (G2.x.own 0 (by omega))
  have nP : (rows ms cs 0).length = ms.length := List.length_map ..
  rw [nP] at vP
  have u0 : w2.cell? ⟨S, 0, none⟩ = some (.slice aP ms.length cP) := (cell_of G2.x.blk 0).trans (by rw [← vP]; rfl)
  have E0 : (w2.alloc (.cells #[.pointer (some ⟨m, 0, none⟩)] 50)).ownsRow B 50 1 (.slice aP ms.length cP) ms.length (rows ms cs 0) := by
    have := (G2.x.own 0 (by omega)).alloc (.cells #[.pointer (some ⟨m, 0, none⟩)] 50)
    rw [nP, vP] at this
    exact this
  have hBw := G2.hB
  have G2' := G2.old (w' := w2.alloc (.cells #[.pointer (some ⟨m, 0, none⟩)] 50)) (Fr.alloc (Fr.refl _ _) _)
  have M2' := M2.fr (w' := w2.alloc (.cells #[.pointer (some ⟨m, 0, none⟩)] 50)) (Fr.alloc (Fr.refl (fun _ => False) _) _) fun _ _ e => e
  have q2' := (Fr.alloc (Fr.refl (fun _ => False) w2) (.cells #[.pointer (some ⟨m, 0, none⟩)] 50)).kept q2 fun e => e
  have HNew : Hid (∀ j u, [Value.pointer (some ⟨m, 0, none⟩)][j]? = some u → (w2.alloc (.cells #[.pointer (some ⟨m, 0, none⟩)] 50)).cell? ((⟨w2.heap.size, 0, none⟩ : Addr).add j) = some u) := fun j u hj => by
    match j, hj with
    | 0, hj => simp at hj; subst hj; simp [Addr.add]
  have hcase : ((E != 0) = false) ∨ ((E != 0) = true ∧ (E != 1) = false) := by rcases hg with rfl | rfl <;> simp
  clear hg b0
  rcases hcase with b1 | ⟨b1, b2⟩
  all_goals
    go_wp2_with
      (at_builtin; refine wpList_append_fresh rfl _ _ 87 rfl B 50 i0 (.pointer none) 1 8 Tryz.underlying87 hi0 hz0 hz1 hz2 rfl (by decide) _ _ _ rfl E0 ⟨w2.heap.size, 0, none⟩ 1 1 [.pointer (some ⟨m, 0, none⟩)] rfl rfl HNew.out ?c2 ?c3 ?c4 ?c5 ?_)
    case c2 => intro u hu; simp at hu; subst hu; rfl
    case c3 => unfold maxLen; omega
    case c4 => omega
    case c5 => simp; omega
    intro a4 c4 w4 own4 grow4 fresh4
    obtain ⟨G5, f5, fB5⟩ := G2'.grow 0 (by omega) (.slice a4 (ms.length + 1) c4) (.pointer (some ⟨m, 0, none⟩)) (by rw [nP]; exact own4) (by rw [vP]; exact grow4) (by rw [vP]; intro x hx; have := fresh4 x hx; simpa using this)
    have hb4 : w4.heap[S]? = some (shBlk V) := (grow4.block S (lt_of_blk G2'.x.blk) fun e => by have h1 := G2'.x.labs 0 (by omega) S (by rw [vP]; exact e.symm); rw [G2'.x.lab0] at h1; omega).trans G2'.x.blk
    have k0 : w4.cell? ⟨S, 0, none⟩ = some (V 0) := cell_of hb4 0
    have k1 : w4.frozen? ⟨S, 0, none⟩ = false := frozen_of hb4 0
    have M5 := M2'.fr f5 fun x hx e => by have := (L2 x hx).1; omega
    have q5 := f5.kept q2' fun e => by omega
    have L5 : ∀ x, own x → (fun x => if x < (w2.alloc (.cells #[.pointer (some ⟨m, 0, none⟩)] 50)).heap.size then lab2 x else 0 + 1) x = 10 + 2 * ms.length ∧ B ≤ x := fun x hx => ⟨by simp only [if_pos (M2'.lt x hx)]; exact (L2 x hx).1, (L2 x hx).2⟩
    have F5 : Fr (fun x => B ≤ x) w (w4.setCell ⟨S, 0, none⟩ (.slice a4 (ms.length + 1) c4)) := ((Fr.alloc F2 _).mono fun _ _ e => e.elim).trans fB5 fun _ _ e => e
    obtain ⟨aW, cW, vW⟩ := own_shape (G5.x.own 1 (by omega))
    have nW : ((fun k => if k = 0 then rows ms cs 0 ++ [.pointer (some ⟨m, 0, none⟩)] else rows ms cs k) 1).length = ms.length := List.length_map ..
    rw [nW] at vW
    have HA : Hid (Sg w2 B S lab2 V (rows ms cs) ms cs bd ∧ 0 ≤ bd ∧ ms.length < 8) := ⟨G2, hbd, h8⟩
    clear E0 HNew own4 grow4 fresh4 G2 G2' M2 M2' q2 q2' L2 f5 fB5 F2 h u0 hb4 vP nP lq2 hs2 s2 ho hnew
    go_wp2_with fail
    generalize hl5 : (fun x => if x < (w2.alloc (.cells #[.pointer (some ⟨m, 0, none⟩)] 50)).heap.size then lab2 x else 0 + 1) = lab5 at *
    generalize hw5 : w4.setCell ⟨S, 0, none⟩ (.slice a4 (ms.length + 1) c4) = w5 at *
    have L5 : ∀ x, own x → lab5 x = 10 + 2 * ms.length ∧ B ≤ x := fun x hx => by rw [← hl5]; exact L5 x hx
    have u1 : w5.cell? ⟨S, 1, none⟩ = some (.slice aW ms.length cW) := (cell_of G5.x.blk 1).trans (by rw [← vW]; rfl)
    have r0 : w5.cell? ⟨w1.heap.size + 1, 0, none⟩ = some (.int .i64 3) := cell_of q5 0
    have r1 : w5.cell? ⟨w1.heap.size + 1, 1, none⟩ = some (.bool tt) := cell_of q5 1
    have A6 : Fr (fun _ => False) w5 ((w5.alloc (.cells #[.int .i64 3, .bool tt, .slice none 0 0] 156)).alloc (.cells #[.pointer (some ⟨w5.heap.size, 0, none⟩)] 153)).drew := Fr.drew (Fr.alloc (Fr.alloc (Fr.refl _ _) _) _)
    have zS5 := lt_of_blk G5.x.blk
    have u1a : (w5.alloc (.cells #[.int .i64 3, .bool tt, .slice none 0 0] 156)).cell? ⟨S, 1, none⟩ = some (.slice aW ms.length cW) := (cell_alloc_old _ zS5).trans u1
    have u1b : ((w5.alloc (.cells #[.int .i64 3, .bool tt, .slice none 0 0] 156)).alloc (.cells #[.pointer (some ⟨w5.heap.size, 0, none⟩)] 153)).cell? ⟨S, 1, none⟩ = some (.slice aW ms.length cW) := (cell_alloc_old _ (by simp; omega)).trans u1a
    have HN1 : Hid (∀ j v, [Value.pointer (some ⟨w5.heap.size, 0, none⟩)][j]? = some v → ((w5.alloc (.cells #[.int .i64 3, .bool tt, .slice none 0 0] 156)).alloc (.cells #[.pointer (some ⟨w5.heap.size, 0, none⟩)] 153)).drew.cell? ((⟨w5.heap.size + 1, 0, none⟩ : Addr).add j) = some v) := fun j v hj => by
      have := one_new (w5.alloc (.cells #[.int .i64 3, .bool tt, .slice none 0 0] 156)) (.pointer (some ⟨w5.heap.size, 0, none⟩)) 153 j v hj
      rw [World.size_alloc] at this
      exact this
    have HN2 : Hid (∀ u ∈ [Value.pointer (some ⟨w5.heap.size, 0, none⟩)], u.oneCell' = true) := fun u hu => by simp at hu; subst hu; rfl
    have G6 := G5.label A6 (fun x => if x < w5.heap.size then lab5 x else 11 + 2 * ms.length) fun x hx => by simp only [if_pos hx]
    have M6 := M5.fr A6 fun _ _ e => e
    have hbr : ((w5.alloc (.cells #[.int .i64 3, .bool tt, .slice none 0 0] 156)).alloc (.cells #[.pointer (some ⟨w5.heap.size, 0, none⟩)] 153)).drew.heap[w5.heap.size]? = some (.cells #[.int .i64 3, .bool tt, .slice none 0 0] 156 (0, 0)) := by
      show ((w5.alloc _).alloc _).heap[w5.heap.size]? = _
      rw [Below.heap_alloc _ _ _ (by simp)]; exact blk_new _ _
    have R6 : RefM ((w5.alloc (.cells #[.int .i64 3, .bool tt, .slice none 0 0] 156)).alloc (.cells #[.pointer (some ⟨w5.heap.size, 0, none⟩)] 153)).drew B w5.heap.size tt (fun x => x = w5.heap.size) [] :=
      ⟨.slice none 0 0, hbr, World.ownsRow_nil _ _ _ _, by simp [Value.ownBlock], fun x => by simp [Value.ownBlock]⟩
    have L6 : ∀ x, own x → (fun x => if x < w5.heap.size then lab5 x else 11 + 2 * ms.length) x = 10 + 2 * ms.length ∧ B ≤ x := fun x hx => ⟨by simp only [if_pos (M5.lt x hx)]; exact (L5 x hx).1, (L5 x hx).2⟩
    have l6r : (fun x => if x < w5.heap.size then lab5 x else 11 + 2 * ms.length) w5.heap.size = 11 + 2 * ms.length := by simp only [if_neg (Nat.lt_irrefl _)]
    generalize hl6 : (fun x => if x < w5.heap.size then lab5 x else 11 + 2 * ms.length) = lab6 at *
    have E1 := G6.x.own 1 (by omega)
    rw [nW] at E1
    rw [vW] at E1
    have hB5 := G5.hB
    go_region_law (refine step_append_fresh rfl (.tmp 54) (.tmp 58) 74 rfl B 153 i1 (.pointer none) 1 8 Tryz.underlying74 hi1 hy0 hy1 hy2 rfl (by decide) (.slice aW ms.length cW) ms.length _ (by simp [Act.eval]) E1 ⟨w5.heap.size + 1, 0, none⟩ 1 1 [.pointer (some ⟨w5.heap.size, 0, none⟩)] (by simp [Act.eval]) rfl HN1.out HN2.out (by unfold maxLen; omega) (by omega) (by simp; omega) ?_; intro a7 c7 w7 own7 grow7 fresh7; have hb7 := (grow7.block S (lt_of_blk G6.x.blk) fun e => (by have h1 := G6.x.labs 1 (by omega) S (by rw [vW]; exact e.symm); rw [G6.x.lab0] at h1; omega)).trans G6.x.blk; have k0 := cell_of hb7 1; have k1 := frozen_of hb7 1)
    all_goals
      obtain ⟨G8, f8, fB8⟩ := G6.grow 1 (by omega) (.slice a7 (ms.length + 1) c7) (.pointer (some ⟨w5.heap.size, 0, none⟩)) (by rw [nW]; exact own7) (by rw [vW]; exact grow7) (by rw [vW]; intro x hx; have := fresh7 x hx; simpa using this)
      have M8 := M6.fr f8 fun x hx e => by have := (L6 x hx).1; omega
      have R8 := R6.fr f8 fun x hx e => by rw [hx] at e; omega
      have L8 : ∀ x, own x → (fun x => if x < ((w5.alloc (.cells #[.int .i64 3, .bool tt, .slice none 0 0] 156)).alloc (.cells #[.pointer (some ⟨w5.heap.size, 0, none⟩)] 153)).drew.heap.size then lab6 x else 1 + 1) x = 10 + 2 * ms.length := fun x hx => by simp only [if_pos (M6.lt x hx)]; exact (L6 x hx).1
      have l8r : (fun x => if x < ((w5.alloc (.cells #[.int .i64 3, .bool tt, .slice none 0 0] 156)).alloc (.cells #[.pointer (some ⟨w5.heap.size, 0, none⟩)] 153)).drew.heap.size then lab6 x else 1 + 1) w5.heap.size = 11 + 2 * ms.length := by simp only [if_pos (lt_of_blk hbr)]; exact l6r
      have F8 : Fr (fun x => B ≤ x) w (w7.setCell ⟨S, 1, none⟩ (.slice a7 (ms.length + 1) c7)) := (F5.trans A6 fun _ _ e => e.elim).trans fB8 fun _ _ e => e
      obtain ⟨aE, cE, vE⟩ := own_shape (G8.x.own 5 (by omega))
      have nE : ((fun k => if k = 1 then (fun k => if k = 0 then rows ms cs 0 ++ [.pointer (some ⟨m, 0, none⟩)] else rows ms cs k) 1 ++ [.pointer (some ⟨w5.heap.size, 0, none⟩)] else (fun k => if k = 0 then rows ms cs 0 ++ [.pointer (some ⟨m, 0, none⟩)] else rows ms cs k) k) 5).length = ms.length := List.length_map ..
      rw [nE] at vE
      have LB : ∀ x, own x → B ≤ x := fun x hx => (L6 x hx).2
      have lB : B ≤ w5.heap.size := hB5
      clear own7 grow7 fresh7 hb7 f8 fB8 M6 R6 L6 l6r hbr E1 HN1 HN2 A6 u1a u1b u1 r0 r1 G5 G6 M5 q5 L5 F5 k0 k1 hl6 hl5
      generalize w7.setCell ⟨S, 1, none⟩ (.slice a7 (ms.length + 1) c7) = w8 at *
      have u5 : w8.cell? ⟨S, 5, none⟩ = some (.slice aE ms.length cE) := (cell_of G8.x.blk 5).trans (by rw [← vE]; rfl)
      have A9 : Fr (fun _ => False) w8 (w8.alloc (.cells #[.int .i64 E] 3)) := Fr.alloc (Fr.refl _ _) _
      have G9 := G8.old A9
      have E5 := G9.x.own 5 (by omega)
      rw [nE] at E5
      rw [vE] at E5
      have HN5 : Hid (∀ j v, [Value.int .i64 E][j]? = some v → (w8.alloc (.cells #[.int .i64 E] 3)).cell? ((⟨w8.heap.size, 0, none⟩ : Addr).add j) = some v) := one_new w8 (.int .i64 E) 3
      have hB8 := G8.hB
      have hBA : B ≤ (w8.alloc (.cells #[.int .i64 E] 3)).heap.size := Nat.le_trans hB8 A9.size
      have HO5 : Hid (∀ u ∈ [Value.int .i64 E], u.oneCell' = true) := fun u hu => by simp at hu; subst hu; rfl
      go_wp2_with
        (at_builtin; refine wpList_append_fresh rfl _ _ 77 rfl B 3 i2 (.int .i64 0) 1 8 Tryz.underlying77 hi2 hx0 hx1 hx2 rfl (by decide) _ _ _ rfl E5 ⟨w8.heap.size, 0, none⟩ 1 1 [.int .i64 E] rfl rfl HN5.out HO5.out (by unfold maxLen; omega) (by omega) hBA ?_)
      intro a10 c10 w10 own10 grow10 fresh10
      obtain ⟨G11, f11, fB11⟩ := G9.grow 5 (by omega) (.slice a10 (ms.length + 1) c10) (.int .i64 E) (by rw [nE]; exact own10) (by rw [vE]; exact grow10) (by rw [vE]; intro x hx; have := fresh10 x hx; simpa using this)
      have hb10 := (grow10.block S (lt_of_blk G9.x.blk) fun e => (by have h1 := G9.x.labs 5 (by omega) S (by rw [vE]; exact e.symm); rw [G9.x.lab0] at h1; omega)).trans G9.x.blk
      have k0 := cell_of hb10 5
      have k1 := frozen_of hb10 5
      have M9 := M8.fr A9 fun _ _ e => e
      have R9 := R8.fr A9 fun _ _ e => e
      have M11 := M9.fr f11 fun x hx e => by have := L8 x hx; omega
      have R11 := R9.fr f11 fun x hx e => by rw [hx] at e; omega
      have HZ : Hid (∃ lab V r, Sh (w10.setCell ⟨S, 5, none⟩ (.slice a10 (ms.length + 1) c10)) B S lab V (ms ++ [r]) cs bd) := by
        refine ⟨_, _, ⟨m, w5.heap.size, g, tt, 0, own, fun x => x = w5.heap.size, []⟩, G11.push HA.out.2.2 _ ⟨M11, R11, fun x hx => ⟨?_, LB x hx⟩, fun x hx => ⟨?_, by rw [hx]; exact lB⟩, by simp, Int.le_refl _, HA.out.2.1⟩ fun j hj => ?_⟩
        · simp only [if_pos (M9.lt x hx)]; exact L8 x hx
        · rw [hx]; simp only [if_pos (R9.lt _ rfl)]; exact l8r
        · have := HE.out
          match j, hj with
          | 0, _ => simp [rows, ptr]
          | 1, _ => simp [rows, ptr]
          | 2, _ => simp [rows]
          | 3, _ => simp [rows]
          | 4, _ => simp [rows]
          | 5, _ => simp [rows, this]
      have FZ := (F8.trans A9 fun _ _ e => e.elim).trans fB11 fun _ _ e => e
      clear own10 grow10 fresh10 hb10 G8 G9 G11 M8 M9 M11 R8 R9 R11 E5 HN5 f11 fB11 L8 l8r LB lB
      go_wp2_with fail
      go_ret
      exact ⟨rfl, HZ.out, FZ⟩

end Go.Proofs.YthbnbocpddddmaaGreat
