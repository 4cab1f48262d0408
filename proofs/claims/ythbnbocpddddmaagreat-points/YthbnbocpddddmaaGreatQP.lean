import Derived.Test.YthbnbocpddddmaaGreatQO
namespace Go.Proofs.YthbnbocpddddmaaGreat
open Go.RowKit

set_option maxRecDepth 100000 in
set_option maxHeartbeats 6400000 in
theorem rcnext1 (cb b : Nat) (t : Bool) (a : Option Addr) (cap : Nat) (xs : Row) (k : Int) (w : World) (hb : w.heap[b]? = some (refBlk t a xs.length cap)) (hr : RowAt w a xs) (hsr : Srt t xs) (hl : xs.length ≤ 4000) (hc : w.heap[cb]? = some (rcurBlk 1 k)) :
    Calls Tryz.prog 127 #[.pointer (some ⟨cb, 0, none⟩), .pointer (some ⟨b, 0, none⟩)] w fun e w' => e = .returned (.tuple #[itm (latK xs (labv t k true xs)) (latV xs (labv t k true xs)), .bool (latB xs (labv t k true xs))]) ∧
      w'.heap[cb]? = some (rcurBlk (if latB xs (labv t k true xs) = true then 2 else 1) (if latB xs (labv t k true xs) = true then latK xs (labv t k true xs) else k)) ∧ Fr (fun x => x = cb) w w' := by
  have hF : Fr (fun _ => False) w (w.alloc (.cells #[.int .i64 0, s0, f0, f0, .int .i64 0, f0, f0] 163)) := Fr.alloc (Fr.refl _ _) _
  have hb1 := (hF.block b (lt_of_blk hb) (fun e => e)).trans hb
  have hr1 := hr.fr hF fun _ _ _ e => e
  have hat := rat_any b t a cap xs 0 _ hb1 hr1
  have hab := fun w2 h1 h2 => rabove_any b t a cap xs k true w2 h1 h2 hsr hl
  have hc1 := (hF.block cb (lt_of_blk hc) (fun e => e)).trans hc
  have hz1 := blk_new w (.cells #[.int .i64 0, s0, f0, f0, .int .i64 0, f0, f0] 163)
  have hsf := store_f0
  have hcl := lt_of_blk hc
  have hbl := lt_of_blk hb
  generalize latK xs (labv t k true xs) = K at *
  generalize latV xs (labv t k true xs) = V at *
  generalize latB xs (labv t k true xs) = Bq at *
  generalize latK xs 0 = K0 at *
  generalize latV xs 0 = V0 at *
  generalize latB xs 0 = B0 at *
  have HF : Hid (Fr (fun _ => False) w (w.alloc (.cells #[.int .i64 0, s0, f0, f0, .int .i64 0, f0, f0] 163))) := hF
  clear hb hr hc hF hsr hl
  cases Bq
  · simp only [Bool.false_eq_true, if_false]
    go_enter Tryz.func127, Tryz.ntmps127
    go_wp2_with fail
    refine hat.mono ?_
    rintro e wr ⟨rfl, F⟩
    have hc2 := (F.block cb (lt_of_blk hc1) (fun e => e)).trans hc1
    have hz2 := (F.block _ (lt_of_blk hz1) (fun e => e)).trans hz1
    have FA : Fr (fun _ => False) wr (wr.alloc (.cells #[.int .i64 0, s0, fx K0, fy K0, .int .i64 0, fx V0, fy V0] 163)) := Fr.alloc (Fr.refl _ _) _
    have hb2 := (FA.block b (Nat.lt_of_lt_of_le (lt_of_blk hb1) F.size) (fun e => e)).trans ((F.block b (lt_of_blk hb1) (fun e => e)).trans hb1)
    have hr2 := (hr1.fr F fun _ _ _ e => e).fr FA fun _ _ _ e => e
    have hab2 := hab (wr.alloc (.cells #[.int .i64 0, s0, fx K0, fy K0, .int .i64 0, fx V0, fy V0] 163)).drew hb2 hr2
    have hzl := lt_of_blk hz2
    have hne1 : w.heap.size ≠ wr.heap.size := by omega
    have hne2 : cb ≠ wr.heap.size := by omega
    have hne3 : cb ≠ w.heap.size := by omega
    have hcn := (FA.block _ (lt_of_blk hc2) (fun e => e)).trans hc2
    have hxn := blk_new wr (.cells #[.int .i64 0, s0, fx K0, fy K0, .int .i64 0, fx V0, fy V0] 163)
    have c0 : (wr.alloc (.cells #[.int .i64 0, s0, fx K0, fy K0, .int .i64 0, fx V0, fy V0] 163)).cell? ⟨cb, 0, none⟩ = some (.int .i64 1) := cell_of hcn 0
    have c1 : (wr.alloc (.cells #[.int .i64 0, s0, fx K0, fy K0, .int .i64 0, fx V0, fy V0] 163)).cell? ⟨cb, 1, none⟩ = some (.int .i64 0) := cell_of hcn 1
    have c2 : (wr.alloc (.cells #[.int .i64 0, s0, fx K0, fy K0, .int .i64 0, fx V0, fy V0] 163)).cell? ⟨cb, 2, none⟩ = some (s0) := cell_of hcn 2
    have c3 : (wr.alloc (.cells #[.int .i64 0, s0, fx K0, fy K0, .int .i64 0, fx V0, fy V0] 163)).cell? ⟨cb, 3, none⟩ = some (fx k) := cell_of hcn 3
    have c4 : (wr.alloc (.cells #[.int .i64 0, s0, fx K0, fy K0, .int .i64 0, fx V0, fy V0] 163)).cell? ⟨cb, 4, none⟩ = some (fy k) := cell_of hcn 4
    have y0 : (wr.alloc (.cells #[.int .i64 0, s0, fx K0, fy K0, .int .i64 0, fx V0, fy V0] 163)).cell? ⟨wr.heap.size, 0, none⟩ = some (.int .i64 0) := cell_of hxn 0
    have y1 : (wr.alloc (.cells #[.int .i64 0, s0, fx K0, fy K0, .int .i64 0, fx V0, fy V0] 163)).cell? ⟨wr.heap.size, 1, none⟩ = some (s0) := cell_of hxn 1
    have y2 : (wr.alloc (.cells #[.int .i64 0, s0, fx K0, fy K0, .int .i64 0, fx V0, fy V0] 163)).cell? ⟨wr.heap.size, 2, none⟩ = some (fx K0) := cell_of hxn 2
    have y3 : (wr.alloc (.cells #[.int .i64 0, s0, fx K0, fy K0, .int .i64 0, fx V0, fy V0] 163)).cell? ⟨wr.heap.size, 3, none⟩ = some (fy K0) := cell_of hxn 3
    have y4 : (wr.alloc (.cells #[.int .i64 0, s0, fx K0, fy K0, .int .i64 0, fx V0, fy V0] 163)).cell? ⟨wr.heap.size, 4, none⟩ = some (.int .i64 0) := cell_of hxn 4
    have y5 : (wr.alloc (.cells #[.int .i64 0, s0, fx K0, fy K0, .int .i64 0, fx V0, fy V0] 163)).cell? ⟨wr.heap.size, 5, none⟩ = some (fx V0) := cell_of hxn 5
    have y6 : (wr.alloc (.cells #[.int .i64 0, s0, fx K0, fy K0, .int .i64 0, fx V0, fy V0] 163)).cell? ⟨wr.heap.size, 6, none⟩ = some (fy V0) := cell_of hxn 6
    have z0 : (wr.alloc (.cells #[.int .i64 0, s0, fx K0, fy K0, .int .i64 0, fx V0, fy V0] 163)).frozen? ⟨wr.heap.size, 0, none⟩ = false := frozen_of hxn 0
    have z1 : (wr.alloc (.cells #[.int .i64 0, s0, fx K0, fy K0, .int .i64 0, fx V0, fy V0] 163)).frozen? ⟨wr.heap.size, 1, none⟩ = false := frozen_of hxn 1
    have z2 : (wr.alloc (.cells #[.int .i64 0, s0, fx K0, fy K0, .int .i64 0, fx V0, fy V0] 163)).frozen? ⟨wr.heap.size, 2, none⟩ = false := frozen_of hxn 2
    have z3 : (wr.alloc (.cells #[.int .i64 0, s0, fx K0, fy K0, .int .i64 0, fx V0, fy V0] 163)).frozen? ⟨wr.heap.size, 3, none⟩ = false := frozen_of hxn 3
    have z4 : (wr.alloc (.cells #[.int .i64 0, s0, fx K0, fy K0, .int .i64 0, fx V0, fy V0] 163)).frozen? ⟨wr.heap.size, 4, none⟩ = false := frozen_of hxn 4
    have z5 : (wr.alloc (.cells #[.int .i64 0, s0, fx K0, fy K0, .int .i64 0, fx V0, fy V0] 163)).frozen? ⟨wr.heap.size, 5, none⟩ = false := frozen_of hxn 5
    have z6 : (wr.alloc (.cells #[.int .i64 0, s0, fx K0, fy K0, .int .i64 0, fx V0, fy V0] 163)).frozen? ⟨wr.heap.size, 6, none⟩ = false := frozen_of hxn 6
    have HX : Hid (∀ w3, Fr (fun _ => False) (wr.alloc (.cells #[.int .i64 0, s0, fx K0, fy K0, .int .i64 0, fx V0, fy V0] 163)).drew w3 → w3.heap[cb]? = some (rcurBlk 1 k) ∧ w3.heap[w.heap.size]? = some (iblk 0 0) ∧ w3.heap[wr.heap.size]? = some (iblk K0 V0) ∧ Fr (fun _ => False) w w3 ∧ wr.heap.size < w3.heap.size) := fun w3 fr =>
      ⟨(fr.block cb (lt_of_blk hcn) (fun e => e)).trans hcn, (fr.block _ (Nat.lt_of_lt_of_le hzl FA.size) (fun e => e)).trans ((FA.block _ hzl (fun e => e)).trans hz2), (fr.block _ (lt_of_blk hxn) (fun e => e)).trans hxn, ((HF.out.trans F fun _ _ e => e).trans FA fun _ _ e => e).trans (Fr.trans (Fr.drew (Fr.refl _ _)) fr fun _ _ e => e) fun _ _ e => e, Nat.lt_of_lt_of_le (lt_of_blk hxn) fr.size⟩
    have HZ : Hid (∀ w3, Fr (fun _ => False) (wr.alloc (.cells #[.int .i64 0, s0, fx K0, fy K0, .int .i64 0, fx V0, fy V0] 163)).drew w3 → ∀ o, w3.frozen? ⟨wr.heap.size, o, none⟩ = false) := fun w3 fr o => frozen_of ((fr.block _ (lt_of_blk hxn) (fun e => e)).trans hxn) o
    clear hat hab hc1 hz1 hc2 hz2 hcn hxn F FA hb1 hb2 hr1 hr2
    go_wp2_with fail
    go_region_with ((go_at_call 104; refine hab2.mono ?_; rintro e w3 ⟨rfl, fr⟩; have hzz := HZ.out _ fr; have y0 := fr.get y0; have y1 := fr.get y1; have y2 := fr.get y2; have y3 := fr.get y3; have y4 := fr.get y4; have y5 := fr.get y5; have y6 := fr.get y6))
    all_goals
      obtain ⟨X1, X2, X3, X4, X5⟩ := HX.out _ fr
      obtain ⟨w5, hw5⟩ : ∃ w5, w5 = (((((((w3.setCell ⟨wr.heap.size, 0, none⟩ (.int .i64 0)).setCell ⟨wr.heap.size, 1, none⟩ (.string ⟨#[]⟩)).setCell ⟨wr.heap.size, 2, none⟩ (fx K)).setCell ⟨wr.heap.size, 3, none⟩ (fy K)).setCell ⟨wr.heap.size, 4, none⟩ (.int .i64 0)).setCell ⟨wr.heap.size, 5, none⟩ (fx V)).setCell ⟨wr.heap.size, 6, none⟩ (fy V)) := ⟨_, rfl⟩
      rw [← hw5]
      have hne4 : w.heap.size ≠ wr.heap.size := hne1
      have Y3 : w5.heap[wr.heap.size]? = some (iblk K V) := by rw [hw5]; exact (blk_set (blk_set (blk_set (blk_set (blk_set (blk_set (blk_set X3 0 _) 1 _) 2 _) 3 _) 4 _) 5 _) 6 _).trans rfl
      have Y1 : w5.heap[cb]? = some (rcurBlk 1 k) := by rw [hw5, blk_set_ne _ _ hne2, blk_set_ne _ _ hne2, blk_set_ne _ _ hne2, blk_set_ne _ _ hne2, blk_set_ne _ _ hne2, blk_set_ne _ _ hne2, blk_set_ne _ _ hne2]; exact X1
      have Y2 : w5.heap[w.heap.size]? = some (iblk 0 0) := by rw [hw5, blk_set_ne _ _ hne1, blk_set_ne _ _ hne1, blk_set_ne _ _ hne1, blk_set_ne _ _ hne1, blk_set_ne _ _ hne1, blk_set_ne _ _ hne1, blk_set_ne _ _ hne1]; exact X2
      have na : wr.heap.size < w.heap.size → False := by omega
      have Y4 : Fr (fun _ => False) w w5 := by rw [hw5]; exact Fr.setCell (Fr.setCell (Fr.setCell (Fr.setCell (Fr.setCell (Fr.setCell (Fr.setCell (X4) (by exact na) _) (by exact na) _) (by exact na) _) (by exact na) _) (by exact na) _) (by exact na) _) (by exact na) _
      clear hw5 X1 X2 X3 X4 X5 fr hzz na
      have n0 : w5.cell? ⟨w.heap.size, 0, none⟩ = some (.int .i64 0) := cell_of Y2 0
      have n1 : w5.cell? ⟨w.heap.size, 1, none⟩ = some (s0) := cell_of Y2 1
      have n2 : w5.cell? ⟨w.heap.size, 2, none⟩ = some (f0) := cell_of Y2 2
      have n3 : w5.cell? ⟨w.heap.size, 3, none⟩ = some (f0) := cell_of Y2 3
      have n4 : w5.cell? ⟨w.heap.size, 4, none⟩ = some (.int .i64 0) := cell_of Y2 4
      have n5 : w5.cell? ⟨w.heap.size, 5, none⟩ = some (f0) := cell_of Y2 5
      have n6 : w5.cell? ⟨w.heap.size, 6, none⟩ = some (f0) := cell_of Y2 6
      have nz : ∀ o, w5.frozen? ⟨w.heap.size, o, none⟩ = false := fun o => frozen_of Y2 o
      have q0 : w5.cell? ⟨wr.heap.size, 0, none⟩ = some (.int .i64 0) := cell_of Y3 0
      have q1 : w5.cell? ⟨wr.heap.size, 1, none⟩ = some (s0) := cell_of Y3 1
      have q2 : w5.cell? ⟨wr.heap.size, 2, none⟩ = some (fx K) := cell_of Y3 2
      have q3 : w5.cell? ⟨wr.heap.size, 3, none⟩ = some (fy K) := cell_of Y3 3
      have q4 : w5.cell? ⟨wr.heap.size, 4, none⟩ = some (.int .i64 0) := cell_of Y3 4
      have q5 : w5.cell? ⟨wr.heap.size, 5, none⟩ = some (fx V) := cell_of Y3 5
      have q6 : w5.cell? ⟨wr.heap.size, 6, none⟩ = some (fy V) := cell_of Y3 6
      have qz : ∀ o, w5.frozen? ⟨wr.heap.size, o, none⟩ = false := fun o => frozen_of Y3 o
      have e0 : w5.cell? ⟨cb, 0, none⟩ = some (.int .i64 1) := cell_of Y1 0
      have e1 : w5.cell? ⟨cb, 1, none⟩ = some (.int .i64 0) := cell_of Y1 1
      have e2 : w5.cell? ⟨cb, 2, none⟩ = some (s0) := cell_of Y1 2
      have e3 : w5.cell? ⟨cb, 3, none⟩ = some (fx k) := cell_of Y1 3
      have e4 : w5.cell? ⟨cb, 4, none⟩ = some (fy k) := cell_of Y1 4
      have ez : ∀ o, w5.frozen? ⟨cb, o, none⟩ = false := fun o => frozen_of Y1 o
      have HY : Hid (w5.heap[cb]? = some (rcurBlk 1 k) ∧ Fr (fun _ => False) w w5) := ⟨Y1, Y4⟩
      clear Y1 Y2 Y3 Y4 HX HZ hab2 c0 c1 c2 c3 c4 y0 y1 y2 y3 y4 y5 y6 z0 z1 z2 z3 z4 z5 z6
      go_wp2_with fail
      refine bodyPost_ret (v := .tuple #[itm K V, .bool false]) (by simp [results, Tryz.results127, go_sem, *]) rfl ⟨rfl, ?_, ?_⟩
      all_goals
        obtain ⟨Y1, Y4⟩ := HY.out
      · rw [blk_set_ne _ _ hne3, blk_set_ne _ _ hne3, blk_set_ne _ _ hne3, blk_set_ne _ _ hne3, blk_set_ne _ _ hne3, blk_set_ne _ _ hne3, blk_set_ne _ _ hne3]; exact Y1
      · have nb : w.heap.size < w.heap.size → w.heap.size = cb := by omega
        exact Fr.setCell (Fr.setCell (Fr.setCell (Fr.setCell (Fr.setCell (Fr.setCell (Fr.setCell (Y4.mono fun _ _ e => e.elim) (by exact nb) _) (by exact nb) _) (by exact nb) _) (by exact nb) _) (by exact nb) _) (by exact nb) _) (by exact nb) _
  · simp only [if_true]
    go_enter Tryz.func127, Tryz.ntmps127
    go_wp2_with fail
    refine hat.mono ?_
    rintro e wr ⟨rfl, F⟩
    have hc2 := (F.block cb (lt_of_blk hc1) (fun e => e)).trans hc1
    have hz2 := (F.block _ (lt_of_blk hz1) (fun e => e)).trans hz1
    have FA : Fr (fun _ => False) wr (wr.alloc (.cells #[.int .i64 0, s0, fx K0, fy K0, .int .i64 0, fx V0, fy V0] 163)) := Fr.alloc (Fr.refl _ _) _
    have hb2 := (FA.block b (Nat.lt_of_lt_of_le (lt_of_blk hb1) F.size) (fun e => e)).trans ((F.block b (lt_of_blk hb1) (fun e => e)).trans hb1)
    have hr2 := (hr1.fr F fun _ _ _ e => e).fr FA fun _ _ _ e => e
    have hab2 := hab (wr.alloc (.cells #[.int .i64 0, s0, fx K0, fy K0, .int .i64 0, fx V0, fy V0] 163)).drew hb2 hr2
    have hzl := lt_of_blk hz2
    have hne1 : w.heap.size ≠ wr.heap.size := by omega
    have hne2 : cb ≠ wr.heap.size := by omega
    have hne3 : cb ≠ w.heap.size := by omega
    have hcn := (FA.block _ (lt_of_blk hc2) (fun e => e)).trans hc2
    have hxn := blk_new wr (.cells #[.int .i64 0, s0, fx K0, fy K0, .int .i64 0, fx V0, fy V0] 163)
    have c0 : (wr.alloc (.cells #[.int .i64 0, s0, fx K0, fy K0, .int .i64 0, fx V0, fy V0] 163)).cell? ⟨cb, 0, none⟩ = some (.int .i64 1) := cell_of hcn 0
    have c1 : (wr.alloc (.cells #[.int .i64 0, s0, fx K0, fy K0, .int .i64 0, fx V0, fy V0] 163)).cell? ⟨cb, 1, none⟩ = some (.int .i64 0) := cell_of hcn 1
    have c2 : (wr.alloc (.cells #[.int .i64 0, s0, fx K0, fy K0, .int .i64 0, fx V0, fy V0] 163)).cell? ⟨cb, 2, none⟩ = some (s0) := cell_of hcn 2
    have c3 : (wr.alloc (.cells #[.int .i64 0, s0, fx K0, fy K0, .int .i64 0, fx V0, fy V0] 163)).cell? ⟨cb, 3, none⟩ = some (fx k) := cell_of hcn 3
    have c4 : (wr.alloc (.cells #[.int .i64 0, s0, fx K0, fy K0, .int .i64 0, fx V0, fy V0] 163)).cell? ⟨cb, 4, none⟩ = some (fy k) := cell_of hcn 4
    have y0 : (wr.alloc (.cells #[.int .i64 0, s0, fx K0, fy K0, .int .i64 0, fx V0, fy V0] 163)).cell? ⟨wr.heap.size, 0, none⟩ = some (.int .i64 0) := cell_of hxn 0
    have y1 : (wr.alloc (.cells #[.int .i64 0, s0, fx K0, fy K0, .int .i64 0, fx V0, fy V0] 163)).cell? ⟨wr.heap.size, 1, none⟩ = some (s0) := cell_of hxn 1
    have y2 : (wr.alloc (.cells #[.int .i64 0, s0, fx K0, fy K0, .int .i64 0, fx V0, fy V0] 163)).cell? ⟨wr.heap.size, 2, none⟩ = some (fx K0) := cell_of hxn 2
    have y3 : (wr.alloc (.cells #[.int .i64 0, s0, fx K0, fy K0, .int .i64 0, fx V0, fy V0] 163)).cell? ⟨wr.heap.size, 3, none⟩ = some (fy K0) := cell_of hxn 3
    have y4 : (wr.alloc (.cells #[.int .i64 0, s0, fx K0, fy K0, .int .i64 0, fx V0, fy V0] 163)).cell? ⟨wr.heap.size, 4, none⟩ = some (.int .i64 0) := cell_of hxn 4
    have y5 : (wr.alloc (.cells #[.int .i64 0, s0, fx K0, fy K0, .int .i64 0, fx V0, fy V0] 163)).cell? ⟨wr.heap.size, 5, none⟩ = some (fx V0) := cell_of hxn 5
    have y6 : (wr.alloc (.cells #[.int .i64 0, s0, fx K0, fy K0, .int .i64 0, fx V0, fy V0] 163)).cell? ⟨wr.heap.size, 6, none⟩ = some (fy V0) := cell_of hxn 6
    have z0 : (wr.alloc (.cells #[.int .i64 0, s0, fx K0, fy K0, .int .i64 0, fx V0, fy V0] 163)).frozen? ⟨wr.heap.size, 0, none⟩ = false := frozen_of hxn 0
    have z1 : (wr.alloc (.cells #[.int .i64 0, s0, fx K0, fy K0, .int .i64 0, fx V0, fy V0] 163)).frozen? ⟨wr.heap.size, 1, none⟩ = false := frozen_of hxn 1
    have z2 : (wr.alloc (.cells #[.int .i64 0, s0, fx K0, fy K0, .int .i64 0, fx V0, fy V0] 163)).frozen? ⟨wr.heap.size, 2, none⟩ = false := frozen_of hxn 2
    have z3 : (wr.alloc (.cells #[.int .i64 0, s0, fx K0, fy K0, .int .i64 0, fx V0, fy V0] 163)).frozen? ⟨wr.heap.size, 3, none⟩ = false := frozen_of hxn 3
    have z4 : (wr.alloc (.cells #[.int .i64 0, s0, fx K0, fy K0, .int .i64 0, fx V0, fy V0] 163)).frozen? ⟨wr.heap.size, 4, none⟩ = false := frozen_of hxn 4
    have z5 : (wr.alloc (.cells #[.int .i64 0, s0, fx K0, fy K0, .int .i64 0, fx V0, fy V0] 163)).frozen? ⟨wr.heap.size, 5, none⟩ = false := frozen_of hxn 5
    have z6 : (wr.alloc (.cells #[.int .i64 0, s0, fx K0, fy K0, .int .i64 0, fx V0, fy V0] 163)).frozen? ⟨wr.heap.size, 6, none⟩ = false := frozen_of hxn 6
    have HX : Hid (∀ w3, Fr (fun _ => False) (wr.alloc (.cells #[.int .i64 0, s0, fx K0, fy K0, .int .i64 0, fx V0, fy V0] 163)).drew w3 → w3.heap[cb]? = some (rcurBlk 1 k) ∧ w3.heap[w.heap.size]? = some (iblk 0 0) ∧ w3.heap[wr.heap.size]? = some (iblk K0 V0) ∧ Fr (fun _ => False) w w3 ∧ wr.heap.size < w3.heap.size) := fun w3 fr =>
      ⟨(fr.block cb (lt_of_blk hcn) (fun e => e)).trans hcn, (fr.block _ (Nat.lt_of_lt_of_le hzl FA.size) (fun e => e)).trans ((FA.block _ hzl (fun e => e)).trans hz2), (fr.block _ (lt_of_blk hxn) (fun e => e)).trans hxn, ((HF.out.trans F fun _ _ e => e).trans FA fun _ _ e => e).trans (Fr.trans (Fr.drew (Fr.refl _ _)) fr fun _ _ e => e) fun _ _ e => e, Nat.lt_of_lt_of_le (lt_of_blk hxn) fr.size⟩
    have HZ : Hid (∀ w3, Fr (fun _ => False) (wr.alloc (.cells #[.int .i64 0, s0, fx K0, fy K0, .int .i64 0, fx V0, fy V0] 163)).drew w3 → ∀ o, w3.frozen? ⟨wr.heap.size, o, none⟩ = false) := fun w3 fr o => frozen_of ((fr.block _ (lt_of_blk hxn) (fun e => e)).trans hxn) o
    clear hat hab hc1 hz1 hc2 hz2 hcn hxn F FA hb1 hb2 hr1 hr2
    go_wp2_with fail
    go_region_with ((go_at_call 104; refine hab2.mono ?_; rintro e w3 ⟨rfl, fr⟩; have hzz := HZ.out _ fr; have y0 := fr.get y0; have y1 := fr.get y1; have y2 := fr.get y2; have y3 := fr.get y3; have y4 := fr.get y4; have y5 := fr.get y5; have y6 := fr.get y6))
    all_goals
      obtain ⟨X1, X2, X3, X4, X5⟩ := HX.out _ fr
      obtain ⟨w5, hw5⟩ : ∃ w5, w5 = (((((((w3.setCell ⟨wr.heap.size, 0, none⟩ (.int .i64 0)).setCell ⟨wr.heap.size, 1, none⟩ (.string ⟨#[]⟩)).setCell ⟨wr.heap.size, 2, none⟩ (fx K)).setCell ⟨wr.heap.size, 3, none⟩ (fy K)).setCell ⟨wr.heap.size, 4, none⟩ (.int .i64 0)).setCell ⟨wr.heap.size, 5, none⟩ (fx V)).setCell ⟨wr.heap.size, 6, none⟩ (fy V)) := ⟨_, rfl⟩
      rw [← hw5]
      have hne4 : w.heap.size ≠ wr.heap.size := hne1
      have Y3 : w5.heap[wr.heap.size]? = some (iblk K V) := by rw [hw5]; exact (blk_set (blk_set (blk_set (blk_set (blk_set (blk_set (blk_set X3 0 _) 1 _) 2 _) 3 _) 4 _) 5 _) 6 _).trans rfl
      have Y1 : w5.heap[cb]? = some (rcurBlk 1 k) := by rw [hw5, blk_set_ne _ _ hne2, blk_set_ne _ _ hne2, blk_set_ne _ _ hne2, blk_set_ne _ _ hne2, blk_set_ne _ _ hne2, blk_set_ne _ _ hne2, blk_set_ne _ _ hne2]; exact X1
      have Y2 : w5.heap[w.heap.size]? = some (iblk 0 0) := by rw [hw5, blk_set_ne _ _ hne1, blk_set_ne _ _ hne1, blk_set_ne _ _ hne1, blk_set_ne _ _ hne1, blk_set_ne _ _ hne1, blk_set_ne _ _ hne1, blk_set_ne _ _ hne1]; exact X2
      have na : wr.heap.size < w.heap.size → False := by omega
      have Y4 : Fr (fun _ => False) w w5 := by rw [hw5]; exact Fr.setCell (Fr.setCell (Fr.setCell (Fr.setCell (Fr.setCell (Fr.setCell (Fr.setCell (X4) (by exact na) _) (by exact na) _) (by exact na) _) (by exact na) _) (by exact na) _) (by exact na) _) (by exact na) _
      clear hw5 X1 X2 X3 X4 X5 fr hzz na
      have n0 : w5.cell? ⟨w.heap.size, 0, none⟩ = some (.int .i64 0) := cell_of Y2 0
      have n1 : w5.cell? ⟨w.heap.size, 1, none⟩ = some (s0) := cell_of Y2 1
      have n2 : w5.cell? ⟨w.heap.size, 2, none⟩ = some (f0) := cell_of Y2 2
      have n3 : w5.cell? ⟨w.heap.size, 3, none⟩ = some (f0) := cell_of Y2 3
      have n4 : w5.cell? ⟨w.heap.size, 4, none⟩ = some (.int .i64 0) := cell_of Y2 4
      have n5 : w5.cell? ⟨w.heap.size, 5, none⟩ = some (f0) := cell_of Y2 5
      have n6 : w5.cell? ⟨w.heap.size, 6, none⟩ = some (f0) := cell_of Y2 6
      have nz : ∀ o, w5.frozen? ⟨w.heap.size, o, none⟩ = false := fun o => frozen_of Y2 o
      have q0 : w5.cell? ⟨wr.heap.size, 0, none⟩ = some (.int .i64 0) := cell_of Y3 0
      have q1 : w5.cell? ⟨wr.heap.size, 1, none⟩ = some (s0) := cell_of Y3 1
      have q2 : w5.cell? ⟨wr.heap.size, 2, none⟩ = some (fx K) := cell_of Y3 2
      have q3 : w5.cell? ⟨wr.heap.size, 3, none⟩ = some (fy K) := cell_of Y3 3
      have q4 : w5.cell? ⟨wr.heap.size, 4, none⟩ = some (.int .i64 0) := cell_of Y3 4
      have q5 : w5.cell? ⟨wr.heap.size, 5, none⟩ = some (fx V) := cell_of Y3 5
      have q6 : w5.cell? ⟨wr.heap.size, 6, none⟩ = some (fy V) := cell_of Y3 6
      have qz : ∀ o, w5.frozen? ⟨wr.heap.size, o, none⟩ = false := fun o => frozen_of Y3 o
      have e0 : w5.cell? ⟨cb, 0, none⟩ = some (.int .i64 1) := cell_of Y1 0
      have e1 : w5.cell? ⟨cb, 1, none⟩ = some (.int .i64 0) := cell_of Y1 1
      have e2 : w5.cell? ⟨cb, 2, none⟩ = some (s0) := cell_of Y1 2
      have e3 : w5.cell? ⟨cb, 3, none⟩ = some (fx k) := cell_of Y1 3
      have e4 : w5.cell? ⟨cb, 4, none⟩ = some (fy k) := cell_of Y1 4
      have ez : ∀ o, w5.frozen? ⟨cb, o, none⟩ = false := fun o => frozen_of Y1 o
      have HY : Hid (w5.heap[cb]? = some (rcurBlk 1 k) ∧ Fr (fun _ => False) w w5) := ⟨Y1, Y4⟩
      clear Y1 Y2 Y3 Y4 HX HZ hab2 c0 c1 c2 c3 c4 y0 y1 y2 y3 y4 y5 y6 z0 z1 z2 z3 z4 z5 z6
      go_wp2_with fail
      refine bodyPost_ret (v := .tuple #[itm K V, .bool true]) (by simp [results, Tryz.results127, go_sem, *]) rfl ⟨rfl, ?_, ?_⟩
      all_goals
        obtain ⟨Y1, Y4⟩ := HY.out
      · rw [blk_set_ne _ _ hne3, blk_set_ne _ _ hne3, blk_set_ne _ _ hne3, blk_set_ne _ _ hne3, blk_set_ne _ _ hne3, blk_set_ne _ _ hne3, blk_set_ne _ _ hne3]
        exact (blk_set (blk_set (blk_set (blk_set (blk_set Y1 0 _) 1 _) 2 _) 3 _) 4 _).trans rfl
      · have nb : w.heap.size < w.heap.size → w.heap.size = cb := by omega
        have nc : cb < w.heap.size → cb = cb := fun _ => rfl
        exact Fr.setCell (Fr.setCell (Fr.setCell (Fr.setCell (Fr.setCell (Fr.setCell (Fr.setCell (Fr.setCell (Fr.setCell (Fr.setCell (Fr.setCell (Fr.setCell (Y4.mono fun _ _ e => e.elim) (by exact nc) _) (by exact nc) _) (by exact nc) _) (by exact nc) _) (by exact nc) _) (by exact nb) _) (by exact nb) _) (by exact nb) _) (by exact nb) _) (by exact nb) _) (by exact nb) _) (by exact nb) _

set_option maxRecDepth 100000 in
set_option maxHeartbeats 6400000 in
theorem rcnext2 (cb b : Nat) (t : Bool) (a : Option Addr) (cap : Nat) (xs : Row) (k : Int) (w : World) (hb : w.heap[b]? = some (refBlk t a xs.length cap)) (hr : RowAt w a xs) (hsr : Srt t xs) (hl : xs.length ≤ 4000) (hc : w.heap[cb]? = some (rcurBlk 2 k)) :
    Calls Tryz.prog 127 #[.pointer (some ⟨cb, 0, none⟩), .pointer (some ⟨b, 0, none⟩)] w fun e w' => e = .returned (.tuple #[itm (latK xs (labv t k false xs)) (latV xs (labv t k false xs)), .bool (latB xs (labv t k false xs))]) ∧
      w'.heap[cb]? = some (rcurBlk (if latB xs (labv t k false xs) = true then 2 else 2) (if latB xs (labv t k false xs) = true then latK xs (labv t k false xs) else k)) ∧ Fr (fun x => x = cb) w w' := by
  have hF : Fr (fun _ => False) w (w.alloc (.cells #[.int .i64 0, s0, f0, f0, .int .i64 0, f0, f0] 163)) := Fr.alloc (Fr.refl _ _) _
  have hb1 := (hF.block b (lt_of_blk hb) (fun e => e)).trans hb
  have hr1 := hr.fr hF fun _ _ _ e => e
  have hat := rat_any b t a cap xs 0 _ hb1 hr1
  have hab := fun w2 h1 h2 => rabove_any b t a cap xs k false w2 h1 h2 hsr hl
  have hc1 := (hF.block cb (lt_of_blk hc) (fun e => e)).trans hc
  have hz1 := blk_new w (.cells #[.int .i64 0, s0, f0, f0, .int .i64 0, f0, f0] 163)
  have hsf := store_f0
  have hcl := lt_of_blk hc
  have hbl := lt_of_blk hb
  generalize latK xs (labv t k false xs) = K at *
  generalize latV xs (labv t k false xs) = V at *
  generalize latB xs (labv t k false xs) = Bq at *
  generalize latK xs 0 = K0 at *
  generalize latV xs 0 = V0 at *
  generalize latB xs 0 = B0 at *
  have HF : Hid (Fr (fun _ => False) w (w.alloc (.cells #[.int .i64 0, s0, f0, f0, .int .i64 0, f0, f0] 163))) := hF
  clear hb hr hc hF hsr hl
  cases Bq
  · simp only [Bool.false_eq_true, if_false]
    go_enter Tryz.func127, Tryz.ntmps127
    go_wp2_with fail
    refine hat.mono ?_
    rintro e wr ⟨rfl, F⟩
    have hc2 := (F.block cb (lt_of_blk hc1) (fun e => e)).trans hc1
    have hz2 := (F.block _ (lt_of_blk hz1) (fun e => e)).trans hz1
    have FA : Fr (fun _ => False) wr (wr.alloc (.cells #[.int .i64 0, s0, fx K0, fy K0, .int .i64 0, fx V0, fy V0] 163)) := Fr.alloc (Fr.refl _ _) _
    have hb2 := (FA.block b (Nat.lt_of_lt_of_le (lt_of_blk hb1) F.size) (fun e => e)).trans ((F.block b (lt_of_blk hb1) (fun e => e)).trans hb1)
    have hr2 := (hr1.fr F fun _ _ _ e => e).fr FA fun _ _ _ e => e
    have hab2 := hab (wr.alloc (.cells #[.int .i64 0, s0, fx K0, fy K0, .int .i64 0, fx V0, fy V0] 163)).drew hb2 hr2
    have hzl := lt_of_blk hz2
    have hne1 : w.heap.size ≠ wr.heap.size := by omega
    have hne2 : cb ≠ wr.heap.size := by omega
    have hne3 : cb ≠ w.heap.size := by omega
    have hcn := (FA.block _ (lt_of_blk hc2) (fun e => e)).trans hc2
    have hxn := blk_new wr (.cells #[.int .i64 0, s0, fx K0, fy K0, .int .i64 0, fx V0, fy V0] 163)
    have c0 : (wr.alloc (.cells #[.int .i64 0, s0, fx K0, fy K0, .int .i64 0, fx V0, fy V0] 163)).cell? ⟨cb, 0, none⟩ = some (.int .i64 2) := cell_of hcn 0
    have c1 : (wr.alloc (.cells #[.int .i64 0, s0, fx K0, fy K0, .int .i64 0, fx V0, fy V0] 163)).cell? ⟨cb, 1, none⟩ = some (.int .i64 0) := cell_of hcn 1
    have c2 : (wr.alloc (.cells #[.int .i64 0, s0, fx K0, fy K0, .int .i64 0, fx V0, fy V0] 163)).cell? ⟨cb, 2, none⟩ = some (s0) := cell_of hcn 2
    have c3 : (wr.alloc (.cells #[.int .i64 0, s0, fx K0, fy K0, .int .i64 0, fx V0, fy V0] 163)).cell? ⟨cb, 3, none⟩ = some (fx k) := cell_of hcn 3
    have c4 : (wr.alloc (.cells #[.int .i64 0, s0, fx K0, fy K0, .int .i64 0, fx V0, fy V0] 163)).cell? ⟨cb, 4, none⟩ = some (fy k) := cell_of hcn 4
    have y0 : (wr.alloc (.cells #[.int .i64 0, s0, fx K0, fy K0, .int .i64 0, fx V0, fy V0] 163)).cell? ⟨wr.heap.size, 0, none⟩ = some (.int .i64 0) := cell_of hxn 0
    have y1 : (wr.alloc (.cells #[.int .i64 0, s0, fx K0, fy K0, .int .i64 0, fx V0, fy V0] 163)).cell? ⟨wr.heap.size, 1, none⟩ = some (s0) := cell_of hxn 1
    have y2 : (wr.alloc (.cells #[.int .i64 0, s0, fx K0, fy K0, .int .i64 0, fx V0, fy V0] 163)).cell? ⟨wr.heap.size, 2, none⟩ = some (fx K0) := cell_of hxn 2
    have y3 : (wr.alloc (.cells #[.int .i64 0, s0, fx K0, fy K0, .int .i64 0, fx V0, fy V0] 163)).cell? ⟨wr.heap.size, 3, none⟩ = some (fy K0) := cell_of hxn 3
    have y4 : (wr.alloc (.cells #[.int .i64 0, s0, fx K0, fy K0, .int .i64 0, fx V0, fy V0] 163)).cell? ⟨wr.heap.size, 4, none⟩ = some (.int .i64 0) := cell_of hxn 4
    have y5 : (wr.alloc (.cells #[.int .i64 0, s0, fx K0, fy K0, .int .i64 0, fx V0, fy V0] 163)).cell? ⟨wr.heap.size, 5, none⟩ = some (fx V0) := cell_of hxn 5
    have y6 : (wr.alloc (.cells #[.int .i64 0, s0, fx K0, fy K0, .int .i64 0, fx V0, fy V0] 163)).cell? ⟨wr.heap.size, 6, none⟩ = some (fy V0) := cell_of hxn 6
    have z0 : (wr.alloc (.cells #[.int .i64 0, s0, fx K0, fy K0, .int .i64 0, fx V0, fy V0] 163)).frozen? ⟨wr.heap.size, 0, none⟩ = false := frozen_of hxn 0
    have z1 : (wr.alloc (.cells #[.int .i64 0, s0, fx K0, fy K0, .int .i64 0, fx V0, fy V0] 163)).frozen? ⟨wr.heap.size, 1, none⟩ = false := frozen_of hxn 1
    have z2 : (wr.alloc (.cells #[.int .i64 0, s0, fx K0, fy K0, .int .i64 0, fx V0, fy V0] 163)).frozen? ⟨wr.heap.size, 2, none⟩ = false := frozen_of hxn 2
    have z3 : (wr.alloc (.cells #[.int .i64 0, s0, fx K0, fy K0, .int .i64 0, fx V0, fy V0] 163)).frozen? ⟨wr.heap.size, 3, none⟩ = false := frozen_of hxn 3
    have z4 : (wr.alloc (.cells #[.int .i64 0, s0, fx K0, fy K0, .int .i64 0, fx V0, fy V0] 163)).frozen? ⟨wr.heap.size, 4, none⟩ = false := frozen_of hxn 4
    have z5 : (wr.alloc (.cells #[.int .i64 0, s0, fx K0, fy K0, .int .i64 0, fx V0, fy V0] 163)).frozen? ⟨wr.heap.size, 5, none⟩ = false := frozen_of hxn 5
    have z6 : (wr.alloc (.cells #[.int .i64 0, s0, fx K0, fy K0, .int .i64 0, fx V0, fy V0] 163)).frozen? ⟨wr.heap.size, 6, none⟩ = false := frozen_of hxn 6
    have HX : Hid (∀ w3, Fr (fun _ => False) (wr.alloc (.cells #[.int .i64 0, s0, fx K0, fy K0, .int .i64 0, fx V0, fy V0] 163)).drew w3 → w3.heap[cb]? = some (rcurBlk 2 k) ∧ w3.heap[w.heap.size]? = some (iblk 0 0) ∧ w3.heap[wr.heap.size]? = some (iblk K0 V0) ∧ Fr (fun _ => False) w w3 ∧ wr.heap.size < w3.heap.size) := fun w3 fr =>
      ⟨(fr.block cb (lt_of_blk hcn) (fun e => e)).trans hcn, (fr.block _ (Nat.lt_of_lt_of_le hzl FA.size) (fun e => e)).trans ((FA.block _ hzl (fun e => e)).trans hz2), (fr.block _ (lt_of_blk hxn) (fun e => e)).trans hxn, ((HF.out.trans F fun _ _ e => e).trans FA fun _ _ e => e).trans (Fr.trans (Fr.drew (Fr.refl _ _)) fr fun _ _ e => e) fun _ _ e => e, Nat.lt_of_lt_of_le (lt_of_blk hxn) fr.size⟩
    have HZ : Hid (∀ w3, Fr (fun _ => False) (wr.alloc (.cells #[.int .i64 0, s0, fx K0, fy K0, .int .i64 0, fx V0, fy V0] 163)).drew w3 → ∀ o, w3.frozen? ⟨wr.heap.size, o, none⟩ = false) := fun w3 fr o => frozen_of ((fr.block _ (lt_of_blk hxn) (fun e => e)).trans hxn) o
    clear hat hab hc1 hz1 hc2 hz2 hcn hxn F FA hb1 hb2 hr1 hr2
    go_wp2_with fail
    go_region_with ((go_at_call 104; refine hab2.mono ?_; rintro e w3 ⟨rfl, fr⟩; have hzz := HZ.out _ fr; have y0 := fr.get y0; have y1 := fr.get y1; have y2 := fr.get y2; have y3 := fr.get y3; have y4 := fr.get y4; have y5 := fr.get y5; have y6 := fr.get y6))
    all_goals
      obtain ⟨X1, X2, X3, X4, X5⟩ := HX.out _ fr
      obtain ⟨w5, hw5⟩ : ∃ w5, w5 = (((((((w3.setCell ⟨wr.heap.size, 0, none⟩ (.int .i64 0)).setCell ⟨wr.heap.size, 1, none⟩ (.string ⟨#[]⟩)).setCell ⟨wr.heap.size, 2, none⟩ (fx K)).setCell ⟨wr.heap.size, 3, none⟩ (fy K)).setCell ⟨wr.heap.size, 4, none⟩ (.int .i64 0)).setCell ⟨wr.heap.size, 5, none⟩ (fx V)).setCell ⟨wr.heap.size, 6, none⟩ (fy V)) := ⟨_, rfl⟩
      rw [← hw5]
      have hne4 : w.heap.size ≠ wr.heap.size := hne1
      have Y3 : w5.heap[wr.heap.size]? = some (iblk K V) := by rw [hw5]; exact (blk_set (blk_set (blk_set (blk_set (blk_set (blk_set (blk_set X3 0 _) 1 _) 2 _) 3 _) 4 _) 5 _) 6 _).trans rfl
      have Y1 : w5.heap[cb]? = some (rcurBlk 2 k) := by rw [hw5, blk_set_ne _ _ hne2, blk_set_ne _ _ hne2, blk_set_ne _ _ hne2, blk_set_ne _ _ hne2, blk_set_ne _ _ hne2, blk_set_ne _ _ hne2, blk_set_ne _ _ hne2]; exact X1
      have Y2 : w5.heap[w.heap.size]? = some (iblk 0 0) := by rw [hw5, blk_set_ne _ _ hne1, blk_set_ne _ _ hne1, blk_set_ne _ _ hne1, blk_set_ne _ _ hne1, blk_set_ne _ _ hne1, blk_set_ne _ _ hne1, blk_set_ne _ _ hne1]; exact X2
      have na : wr.heap.size < w.heap.size → False := by omega
      have Y4 : Fr (fun _ => False) w w5 := by rw [hw5]; exact Fr.setCell (Fr.setCell (Fr.setCell (Fr.setCell (Fr.setCell (Fr.setCell (Fr.setCell (X4) (by exact na) _) (by exact na) _) (by exact na) _) (by exact na) _) (by exact na) _) (by exact na) _) (by exact na) _
      clear hw5 X1 X2 X3 X4 X5 fr hzz na
      have n0 : w5.cell? ⟨w.heap.size, 0, none⟩ = some (.int .i64 0) := cell_of Y2 0
      have n1 : w5.cell? ⟨w.heap.size, 1, none⟩ = some (s0) := cell_of Y2 1
      have n2 : w5.cell? ⟨w.heap.size, 2, none⟩ = some (f0) := cell_of Y2 2
      have n3 : w5.cell? ⟨w.heap.size, 3, none⟩ = some (f0) := cell_of Y2 3
      have n4 : w5.cell? ⟨w.heap.size, 4, none⟩ = some (.int .i64 0) := cell_of Y2 4
      have n5 : w5.cell? ⟨w.heap.size, 5, none⟩ = some (f0) := cell_of Y2 5
      have n6 : w5.cell? ⟨w.heap.size, 6, none⟩ = some (f0) := cell_of Y2 6
      have nz : ∀ o, w5.frozen? ⟨w.heap.size, o, none⟩ = false := fun o => frozen_of Y2 o
      have q0 : w5.cell? ⟨wr.heap.size, 0, none⟩ = some (.int .i64 0) := cell_of Y3 0
      have q1 : w5.cell? ⟨wr.heap.size, 1, none⟩ = some (s0) := cell_of Y3 1
      have q2 : w5.cell? ⟨wr.heap.size, 2, none⟩ = some (fx K) := cell_of Y3 2
      have q3 : w5.cell? ⟨wr.heap.size, 3, none⟩ = some (fy K) := cell_of Y3 3
      have q4 : w5.cell? ⟨wr.heap.size, 4, none⟩ = some (.int .i64 0) := cell_of Y3 4
      have q5 : w5.cell? ⟨wr.heap.size, 5, none⟩ = some (fx V) := cell_of Y3 5
      have q6 : w5.cell? ⟨wr.heap.size, 6, none⟩ = some (fy V) := cell_of Y3 6
      have qz : ∀ o, w5.frozen? ⟨wr.heap.size, o, none⟩ = false := fun o => frozen_of Y3 o
      have e0 : w5.cell? ⟨cb, 0, none⟩ = some (.int .i64 2) := cell_of Y1 0
      have e1 : w5.cell? ⟨cb, 1, none⟩ = some (.int .i64 0) := cell_of Y1 1
      have e2 : w5.cell? ⟨cb, 2, none⟩ = some (s0) := cell_of Y1 2
      have e3 : w5.cell? ⟨cb, 3, none⟩ = some (fx k) := cell_of Y1 3
      have e4 : w5.cell? ⟨cb, 4, none⟩ = some (fy k) := cell_of Y1 4
      have ez : ∀ o, w5.frozen? ⟨cb, o, none⟩ = false := fun o => frozen_of Y1 o
      have HY : Hid (w5.heap[cb]? = some (rcurBlk 2 k) ∧ Fr (fun _ => False) w w5) := ⟨Y1, Y4⟩
      clear Y1 Y2 Y3 Y4 HX HZ hab2 c0 c1 c2 c3 c4 y0 y1 y2 y3 y4 y5 y6 z0 z1 z2 z3 z4 z5 z6
      go_wp2_with fail
      refine bodyPost_ret (v := .tuple #[itm K V, .bool false]) (by simp [results, Tryz.results127, go_sem, *]) rfl ⟨rfl, ?_, ?_⟩
      all_goals
        obtain ⟨Y1, Y4⟩ := HY.out
      · rw [blk_set_ne _ _ hne3, blk_set_ne _ _ hne3, blk_set_ne _ _ hne3, blk_set_ne _ _ hne3, blk_set_ne _ _ hne3, blk_set_ne _ _ hne3, blk_set_ne _ _ hne3]; exact Y1
      · have nb : w.heap.size < w.heap.size → w.heap.size = cb := by omega
        exact Fr.setCell (Fr.setCell (Fr.setCell (Fr.setCell (Fr.setCell (Fr.setCell (Fr.setCell (Y4.mono fun _ _ e => e.elim) (by exact nb) _) (by exact nb) _) (by exact nb) _) (by exact nb) _) (by exact nb) _) (by exact nb) _) (by exact nb) _
  · simp only [if_true]
    go_enter Tryz.func127, Tryz.ntmps127
    go_wp2_with fail
    refine hat.mono ?_
    rintro e wr ⟨rfl, F⟩
    have hc2 := (F.block cb (lt_of_blk hc1) (fun e => e)).trans hc1
    have hz2 := (F.block _ (lt_of_blk hz1) (fun e => e)).trans hz1
    have FA : Fr (fun _ => False) wr (wr.alloc (.cells #[.int .i64 0, s0, fx K0, fy K0, .int .i64 0, fx V0, fy V0] 163)) := Fr.alloc (Fr.refl _ _) _
    have hb2 := (FA.block b (Nat.lt_of_lt_of_le (lt_of_blk hb1) F.size) (fun e => e)).trans ((F.block b (lt_of_blk hb1) (fun e => e)).trans hb1)
    have hr2 := (hr1.fr F fun _ _ _ e => e).fr FA fun _ _ _ e => e
    have hab2 := hab (wr.alloc (.cells #[.int .i64 0, s0, fx K0, fy K0, .int .i64 0, fx V0, fy V0] 163)).drew hb2 hr2
    have hzl := lt_of_blk hz2
    have hne1 : w.heap.size ≠ wr.heap.size := by omega
    have hne2 : cb ≠ wr.heap.size := by omega
    have hne3 : cb ≠ w.heap.size := by omega
    have hcn := (FA.block _ (lt_of_blk hc2) (fun e => e)).trans hc2
    have hxn := blk_new wr (.cells #[.int .i64 0, s0, fx K0, fy K0, .int .i64 0, fx V0, fy V0] 163)
    have c0 : (wr.alloc (.cells #[.int .i64 0, s0, fx K0, fy K0, .int .i64 0, fx V0, fy V0] 163)).cell? ⟨cb, 0, none⟩ = some (.int .i64 2) := cell_of hcn 0
    have c1 : (wr.alloc (.cells #[.int .i64 0, s0, fx K0, fy K0, .int .i64 0, fx V0, fy V0] 163)).cell? ⟨cb, 1, none⟩ = some (.int .i64 0) := cell_of hcn 1
    have c2 : (wr.alloc (.cells #[.int .i64 0, s0, fx K0, fy K0, .int .i64 0, fx V0, fy V0] 163)).cell? ⟨cb, 2, none⟩ = some (s0) := cell_of hcn 2
    have c3 : (wr.alloc (.cells #[.int .i64 0, s0, fx K0, fy K0, .int .i64 0, fx V0, fy V0] 163)).cell? ⟨cb, 3, none⟩ = some (fx k) := cell_of hcn 3
    have c4 : (wr.alloc (.cells #[.int .i64 0, s0, fx K0, fy K0, .int .i64 0, fx V0, fy V0] 163)).cell? ⟨cb, 4, none⟩ = some (fy k) := cell_of hcn 4
    have y0 : (wr.alloc (.cells #[.int .i64 0, s0, fx K0, fy K0, .int .i64 0, fx V0, fy V0] 163)).cell? ⟨wr.heap.size, 0, none⟩ = some (.int .i64 0) := cell_of hxn 0
    have y1 : (wr.alloc (.cells #[.int .i64 0, s0, fx K0, fy K0, .int .i64 0, fx V0, fy V0] 163)).cell? ⟨wr.heap.size, 1, none⟩ = some (s0) := cell_of hxn 1
    have y2 : (wr.alloc (.cells #[.int .i64 0, s0, fx K0, fy K0, .int .i64 0, fx V0, fy V0] 163)).cell? ⟨wr.heap.size, 2, none⟩ = some (fx K0) := cell_of hxn 2
    have y3 : (wr.alloc (.cells #[.int .i64 0, s0, fx K0, fy K0, .int .i64 0, fx V0, fy V0] 163)).cell? ⟨wr.heap.size, 3, none⟩ = some (fy K0) := cell_of hxn 3
    have y4 : (wr.alloc (.cells #[.int .i64 0, s0, fx K0, fy K0, .int .i64 0, fx V0, fy V0] 163)).cell? ⟨wr.heap.size, 4, none⟩ = some (.int .i64 0) := cell_of hxn 4
    have y5 : (wr.alloc (.cells #[.int .i64 0, s0, fx K0, fy K0, .int .i64 0, fx V0, fy V0] 163)).cell? ⟨wr.heap.size, 5, none⟩ = some (fx V0) := cell_of hxn 5
    have y6 : (wr.alloc (.cells #[.int .i64 0, s0, fx K0, fy K0, .int .i64 0, fx V0, fy V0] 163)).cell? ⟨wr.heap.size, 6, none⟩ = some (fy V0) := cell_of hxn 6
    have z0 : (wr.alloc (.cells #[.int .i64 0, s0, fx K0, fy K0, .int .i64 0, fx V0, fy V0] 163)).frozen? ⟨wr.heap.size, 0, none⟩ = false := frozen_of hxn 0
    have z1 : (wr.alloc (.cells #[.int .i64 0, s0, fx K0, fy K0, .int .i64 0, fx V0, fy V0] 163)).frozen? ⟨wr.heap.size, 1, none⟩ = false := frozen_of hxn 1
    have z2 : (wr.alloc (.cells #[.int .i64 0, s0, fx K0, fy K0, .int .i64 0, fx V0, fy V0] 163)).frozen? ⟨wr.heap.size, 2, none⟩ = false := frozen_of hxn 2
    have z3 : (wr.alloc (.cells #[.int .i64 0, s0, fx K0, fy K0, .int .i64 0, fx V0, fy V0] 163)).frozen? ⟨wr.heap.size, 3, none⟩ = false := frozen_of hxn 3
    have z4 : (wr.alloc (.cells #[.int .i64 0, s0, fx K0, fy K0, .int .i64 0, fx V0, fy V0] 163)).frozen? ⟨wr.heap.size, 4, none⟩ = false := frozen_of hxn 4
    have z5 : (wr.alloc (.cells #[.int .i64 0, s0, fx K0, fy K0, .int .i64 0, fx V0, fy V0] 163)).frozen? ⟨wr.heap.size, 5, none⟩ = false := frozen_of hxn 5
    have z6 : (wr.alloc (.cells #[.int .i64 0, s0, fx K0, fy K0, .int .i64 0, fx V0, fy V0] 163)).frozen? ⟨wr.heap.size, 6, none⟩ = false := frozen_of hxn 6
    have HX : Hid (∀ w3, Fr (fun _ => False) (wr.alloc (.cells #[.int .i64 0, s0, fx K0, fy K0, .int .i64 0, fx V0, fy V0] 163)).drew w3 → w3.heap[cb]? = some (rcurBlk 2 k) ∧ w3.heap[w.heap.size]? = some (iblk 0 0) ∧ w3.heap[wr.heap.size]? = some (iblk K0 V0) ∧ Fr (fun _ => False) w w3 ∧ wr.heap.size < w3.heap.size) := fun w3 fr =>
      ⟨(fr.block cb (lt_of_blk hcn) (fun e => e)).trans hcn, (fr.block _ (Nat.lt_of_lt_of_le hzl FA.size) (fun e => e)).trans ((FA.block _ hzl (fun e => e)).trans hz2), (fr.block _ (lt_of_blk hxn) (fun e => e)).trans hxn, ((HF.out.trans F fun _ _ e => e).trans FA fun _ _ e => e).trans (Fr.trans (Fr.drew (Fr.refl _ _)) fr fun _ _ e => e) fun _ _ e => e, Nat.lt_of_lt_of_le (lt_of_blk hxn) fr.size⟩
    have HZ : Hid (∀ w3, Fr (fun _ => False) (wr.alloc (.cells #[.int .i64 0, s0, fx K0, fy K0, .int .i64 0, fx V0, fy V0] 163)).drew w3 → ∀ o, w3.frozen? ⟨wr.heap.size, o, none⟩ = false) := fun w3 fr o => frozen_of ((fr.block _ (lt_of_blk hxn) (fun e => e)).trans hxn) o
    clear hat hab hc1 hz1 hc2 hz2 hcn hxn F FA hb1 hb2 hr1 hr2
    go_wp2_with fail
    go_region_with ((go_at_call 104; refine hab2.mono ?_; rintro e w3 ⟨rfl, fr⟩; have hzz := HZ.out _ fr; have y0 := fr.get y0; have y1 := fr.get y1; have y2 := fr.get y2; have y3 := fr.get y3; have y4 := fr.get y4; have y5 := fr.get y5; have y6 := fr.get y6))
    all_goals
      obtain ⟨X1, X2, X3, X4, X5⟩ := HX.out _ fr
      obtain ⟨w5, hw5⟩ : ∃ w5, w5 = (((((((w3.setCell ⟨wr.heap.size, 0, none⟩ (.int .i64 0)).setCell ⟨wr.heap.size, 1, none⟩ (.string ⟨#[]⟩)).setCell ⟨wr.heap.size, 2, none⟩ (fx K)).setCell ⟨wr.heap.size, 3, none⟩ (fy K)).setCell ⟨wr.heap.size, 4, none⟩ (.int .i64 0)).setCell ⟨wr.heap.size, 5, none⟩ (fx V)).setCell ⟨wr.heap.size, 6, none⟩ (fy V)) := ⟨_, rfl⟩
      rw [← hw5]
      have hne4 : w.heap.size ≠ wr.heap.size := hne1
      have Y3 : w5.heap[wr.heap.size]? = some (iblk K V) := by rw [hw5]; exact (blk_set (blk_set (blk_set (blk_set (blk_set (blk_set (blk_set X3 0 _) 1 _) 2 _) 3 _) 4 _) 5 _) 6 _).trans rfl
      have Y1 : w5.heap[cb]? = some (rcurBlk 2 k) := by rw [hw5, blk_set_ne _ _ hne2, blk_set_ne _ _ hne2, blk_set_ne _ _ hne2, blk_set_ne _ _ hne2, blk_set_ne _ _ hne2, blk_set_ne _ _ hne2, blk_set_ne _ _ hne2]; exact X1
      have Y2 : w5.heap[w.heap.size]? = some (iblk 0 0) := by rw [hw5, blk_set_ne _ _ hne1, blk_set_ne _ _ hne1, blk_set_ne _ _ hne1, blk_set_ne _ _ hne1, blk_set_ne _ _ hne1, blk_set_ne _ _ hne1, blk_set_ne _ _ hne1]; exact X2
      have na : wr.heap.size < w.heap.size → False := by omega
      have Y4 : Fr (fun _ => False) w w5 := by rw [hw5]; exact Fr.setCell (Fr.setCell (Fr.setCell (Fr.setCell (Fr.setCell (Fr.setCell (Fr.setCell (X4) (by exact na) _) (by exact na) _) (by exact na) _) (by exact na) _) (by exact na) _) (by exact na) _) (by exact na) _
      clear hw5 X1 X2 X3 X4 X5 fr hzz na
      have n0 : w5.cell? ⟨w.heap.size, 0, none⟩ = some (.int .i64 0) := cell_of Y2 0
      have n1 : w5.cell? ⟨w.heap.size, 1, none⟩ = some (s0) := cell_of Y2 1
      have n2 : w5.cell? ⟨w.heap.size, 2, none⟩ = some (f0) := cell_of Y2 2
      have n3 : w5.cell? ⟨w.heap.size, 3, none⟩ = some (f0) := cell_of Y2 3
      have n4 : w5.cell? ⟨w.heap.size, 4, none⟩ = some (.int .i64 0) := cell_of Y2 4
      have n5 : w5.cell? ⟨w.heap.size, 5, none⟩ = some (f0) := cell_of Y2 5
      have n6 : w5.cell? ⟨w.heap.size, 6, none⟩ = some (f0) := cell_of Y2 6
      have nz : ∀ o, w5.frozen? ⟨w.heap.size, o, none⟩ = false := fun o => frozen_of Y2 o
      have q0 : w5.cell? ⟨wr.heap.size, 0, none⟩ = some (.int .i64 0) := cell_of Y3 0
      have q1 : w5.cell? ⟨wr.heap.size, 1, none⟩ = some (s0) := cell_of Y3 1
      have q2 : w5.cell? ⟨wr.heap.size, 2, none⟩ = some (fx K) := cell_of Y3 2
      have q3 : w5.cell? ⟨wr.heap.size, 3, none⟩ = some (fy K) := cell_of Y3 3
      have q4 : w5.cell? ⟨wr.heap.size, 4, none⟩ = some (.int .i64 0) := cell_of Y3 4
      have q5 : w5.cell? ⟨wr.heap.size, 5, none⟩ = some (fx V) := cell_of Y3 5
      have q6 : w5.cell? ⟨wr.heap.size, 6, none⟩ = some (fy V) := cell_of Y3 6
      have qz : ∀ o, w5.frozen? ⟨wr.heap.size, o, none⟩ = false := fun o => frozen_of Y3 o
      have e0 : w5.cell? ⟨cb, 0, none⟩ = some (.int .i64 2) := cell_of Y1 0
      have e1 : w5.cell? ⟨cb, 1, none⟩ = some (.int .i64 0) := cell_of Y1 1
      have e2 : w5.cell? ⟨cb, 2, none⟩ = some (s0) := cell_of Y1 2
      have e3 : w5.cell? ⟨cb, 3, none⟩ = some (fx k) := cell_of Y1 3
      have e4 : w5.cell? ⟨cb, 4, none⟩ = some (fy k) := cell_of Y1 4
      have ez : ∀ o, w5.frozen? ⟨cb, o, none⟩ = false := fun o => frozen_of Y1 o
      have HY : Hid (w5.heap[cb]? = some (rcurBlk 2 k) ∧ Fr (fun _ => False) w w5) := ⟨Y1, Y4⟩
      clear Y1 Y2 Y3 Y4 HX HZ hab2 c0 c1 c2 c3 c4 y0 y1 y2 y3 y4 y5 y6 z0 z1 z2 z3 z4 z5 z6
      go_wp2_with fail
      refine bodyPost_ret (v := .tuple #[itm K V, .bool true]) (by simp [results, Tryz.results127, go_sem, *]) rfl ⟨rfl, ?_, ?_⟩
      all_goals
        obtain ⟨Y1, Y4⟩ := HY.out
      · rw [blk_set_ne _ _ hne3, blk_set_ne _ _ hne3, blk_set_ne _ _ hne3, blk_set_ne _ _ hne3, blk_set_ne _ _ hne3, blk_set_ne _ _ hne3, blk_set_ne _ _ hne3]
        exact (blk_set (blk_set (blk_set (blk_set (blk_set Y1 0 _) 1 _) 2 _) 3 _) 4 _).trans rfl
      · have nb : w.heap.size < w.heap.size → w.heap.size = cb := by omega
        have nc : cb < w.heap.size → cb = cb := fun _ => rfl
        exact Fr.setCell (Fr.setCell (Fr.setCell (Fr.setCell (Fr.setCell (Fr.setCell (Fr.setCell (Fr.setCell (Fr.setCell (Fr.setCell (Fr.setCell (Fr.setCell (Y4.mono fun _ _ e => e.elim) (by exact nc) _) (by exact nc) _) (by exact nc) _) (by exact nc) _) (by exact nc) _) (by exact nb) _) (by exact nb) _) (by exact nb) _) (by exact nb) _) (by exact nb) _) (by exact nb) _) (by exact nb) _

end Go.Proofs.YthbnbocpddddmaaGreat
