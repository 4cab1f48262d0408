import Derived.Test.YthbnbocpddddmaaGreatQO
namespace Go.Proofs.YthbnbocpddddmaaGreat
open Go.RowKit

set_option maxRecDepth 100000 in
set_option maxHeartbeats 1600000 in
theorem rcprev0 (cb b : Nat) (k : Int) (w : World) (hc : w.heap[cb]? = some (rcurBlk 0 k)) :
    Calls Tryz.prog 129 #[.pointer (some ⟨cb, 0, none⟩), .pointer (some ⟨b, 0, none⟩)] w fun e w' => e = .returned (.tuple #[itm 0 0, .bool false]) ∧ Fr (fun _ => False) w w' := by
  have hF : Fr (fun _ => False) w (w.alloc (.cells #[.int .i64 0, s0, f0, f0, .int .i64 0, f0, f0] 163)) := Fr.alloc (Fr.refl _ _) _
  have hc1 := (hF.block cb (lt_of_blk hc) (fun e => e)).trans hc
  have c0 : (w.alloc (.cells #[.int .i64 0, s0, f0, f0, .int .i64 0, f0, f0] 163)).cell? ⟨cb, 0, none⟩ = some (.int .i64 0) := cell_of hc1 0
  have hsf := store_f0
  clear hc hc1 hF
  go_enter Tryz.func129, Tryz.ntmps129
  go_wp2_with fail
  exact bodyPost_ret (v := .tuple #[.agg #[.int .i64 0, s0, f0, f0, .int .i64 0, f0, f0], .bool false]) (by simp [results, Tryz.results129, go_sem]) rfl ⟨rfl, Fr.alloc (Fr.refl _ _) _⟩

set_option maxRecDepth 100000 in
set_option maxHeartbeats 6400000 in
theorem rcprev1 (cb b : Nat) (t : Bool) (a : Option Addr) (cap : Nat) (xs : Row) (k : Int) (w : World) (hb : w.heap[b]? = some (refBlk t a xs.length cap)) (hr : RowAt w a xs) (hsr : Srt t xs) (hl : xs.length ≤ 4000) (hc : w.heap[cb]? = some (rcurBlk 1 k)) :
    Calls Tryz.prog 129 #[.pointer (some ⟨cb, 0, none⟩), .pointer (some ⟨b, 0, none⟩)] w fun e w' => e = .returned (.tuple #[itm (latK xs ((labv t k true xs : Int) - 1)) (latV xs ((labv t k true xs : Int) - 1)), .bool (latB xs ((labv t k true xs : Int) - 1))]) ∧
      w'.heap[cb]? = some (rcurBlk (if latB xs ((labv t k true xs : Int) - 1) = true then 1 else 1) (if latB xs ((labv t k true xs : Int) - 1) = true then latK xs ((labv t k true xs : Int) - 1) else k)) ∧ Fr (fun x => x = cb) w w' := by
  have hF : Fr (fun _ => False) w (w.alloc (.cells #[.int .i64 0, s0, f0, f0, .int .i64 0, f0, f0] 163)) := Fr.alloc (Fr.refl _ _) _
  have hb1 := (hF.block b (lt_of_blk hb) (fun e => e)).trans hb
  have hr1 := hr.fr hF fun _ _ _ e => e
  have hab0 := fun w2 h1 h2 => rbelow_any b t a cap xs k false w2 h1 h2 hsr hl
  simp only [Bool.not_false] at hab0
  have hab := hab0 (w.alloc (.cells #[.int .i64 0, s0, f0, f0, .int .i64 0, f0, f0] 163)).drew hb1 hr1
  have FZ : Fr (fun _ => False) (w.alloc (.cells #[.int .i64 0, s0, f0, f0, .int .i64 0, f0, f0] 163)) ((w.alloc (.cells #[.int .i64 0, s0, f0, f0, .int .i64 0, f0, f0] 163)).alloc (.cells #[.int .i64 0, s0, f0, f0, .int .i64 0, f0, f0] 163)).drew := Fr.drew (Fr.alloc (Fr.refl _ _) _)
  have habA := hab0 ((w.alloc (.cells #[.int .i64 0, s0, f0, f0, .int .i64 0, f0, f0] 163)).alloc (.cells #[.int .i64 0, s0, f0, f0, .int .i64 0, f0, f0] 163)).drew ((FZ.block b (lt_of_blk hb1) (fun e => e)).trans hb1) (hr1.fr FZ fun _ _ _ e => e)
  clear hab0
  have hc1 := (hF.block cb (lt_of_blk hc) (fun e => e)).trans hc
  have hz1 := blk_new w (.cells #[.int .i64 0, s0, f0, f0, .int .i64 0, f0, f0] 163)
  have hsf := store_f0
  have hcl := lt_of_blk hc
  generalize latK xs ((labv t k true xs : Int) - 1) = K at *
  generalize latV xs ((labv t k true xs : Int) - 1) = V at *
  generalize latB xs ((labv t k true xs : Int) - 1) = Bq at *
  have HF : Hid (Fr (fun _ => False) w (w.alloc (.cells #[.int .i64 0, s0, f0, f0, .int .i64 0, f0, f0] 163))) := hF
  have hne3 : cb ≠ w.heap.size := by omega
  have c0 : (w.alloc (.cells #[.int .i64 0, s0, f0, f0, .int .i64 0, f0, f0] 163)).cell? ⟨cb, 0, none⟩ = some (.int .i64 1) := cell_of hc1 0
  have c1 : (w.alloc (.cells #[.int .i64 0, s0, f0, f0, .int .i64 0, f0, f0] 163)).cell? ⟨cb, 1, none⟩ = some (.int .i64 0) := cell_of hc1 1
  have c2 : (w.alloc (.cells #[.int .i64 0, s0, f0, f0, .int .i64 0, f0, f0] 163)).cell? ⟨cb, 2, none⟩ = some (s0) := cell_of hc1 2
  have c3 : (w.alloc (.cells #[.int .i64 0, s0, f0, f0, .int .i64 0, f0, f0] 163)).cell? ⟨cb, 3, none⟩ = some (fx k) := cell_of hc1 3
  have c4 : (w.alloc (.cells #[.int .i64 0, s0, f0, f0, .int .i64 0, f0, f0] 163)).cell? ⟨cb, 4, none⟩ = some (fy k) := cell_of hc1 4
  have czz : ∀ o, (w.alloc (.cells #[.int .i64 0, s0, f0, f0, .int .i64 0, f0, f0] 163)).frozen? ⟨cb, o, none⟩ = false := fun o => frozen_of hc1 o
  have HX : Hid (∀ w3, Fr (fun _ => False) (w.alloc (.cells #[.int .i64 0, s0, f0, f0, .int .i64 0, f0, f0] 163)).drew w3 → w3.heap[cb]? = some (rcurBlk 1 k) ∧ w3.heap[w.heap.size]? = some (iblk 0 0) ∧ Fr (fun _ => False) w w3) := fun w3 fr =>
    ⟨(fr.block cb (lt_of_blk hc1) (fun e => e)).trans hc1, (fr.block _ (lt_of_blk hz1) (fun e => e)).trans hz1, HF.out.trans (Fr.trans (Fr.drew (Fr.refl _ _)) fr fun _ _ e => e) fun _ _ e => e⟩
  have HXA : Hid (∀ w3, Fr (fun _ => False) ((w.alloc (.cells #[.int .i64 0, s0, f0, f0, .int .i64 0, f0, f0] 163)).alloc (.cells #[.int .i64 0, s0, f0, f0, .int .i64 0, f0, f0] 163)).drew w3 → w3.heap[cb]? = some (rcurBlk 1 k) ∧ w3.heap[w.heap.size]? = some (iblk 0 0) ∧ Fr (fun _ => False) w w3 ∧ w3.heap[w.heap.size + 1]? = some (iblk 0 0)) := fun w3 fr => by
    have f2 : Fr (fun _ => False) (w.alloc (.cells #[.int .i64 0, s0, f0, f0, .int .i64 0, f0, f0] 163)) w3 := Fr.trans FZ (Fr.trans (Fr.refl _ _) fr fun _ _ e => e) fun _ _ e => e
    refine ⟨(f2.block cb (lt_of_blk hc1) (fun e => e)).trans hc1, (f2.block _ (lt_of_blk hz1) (fun e => e)).trans hz1, HF.out.trans f2 fun _ _ e => e, ?_⟩
    have := blk_new (w.alloc (.cells #[.int .i64 0, s0, f0, f0, .int .i64 0, f0, f0] 163)) (.cells #[.int .i64 0, s0, f0, f0, .int .i64 0, f0, f0] 163)
    rw [World.size_alloc] at this
    exact (fr.block (w.heap.size + 1) (by show _ < (World.alloc _ _).heap.size; simp) (fun e => e)).trans this
  have cA0 := FZ.get c0
  have cA1 := FZ.get c1
  have cA2 := FZ.get c2
  have cA3 := FZ.get c3
  have cA4 := FZ.get c4
  clear hb hr hc hF hsr hl hb1 hr1 hc1 hz1 FZ
  cases Bq
  · simp only [Bool.false_eq_true, if_false]
    go_enter Tryz.func129, Tryz.ntmps129
    go_wp2_with fail
    go_region_with (first
      | (go_at_call 102; refine hab.mono ?_; rintro e w3 ⟨rfl, fr⟩)
      | (go_at_call 102; refine habA.mono ?_; rintro e w3 ⟨rfl, fr⟩; obtain ⟨XA1, XA2, XA3, XA4⟩ := HXA.out _ fr; have u0 := cell_of XA4 0; have u1 := cell_of XA4 1; have u2 := cell_of XA4 2; have u3 := cell_of XA4 3; have u4 := cell_of XA4 4; have u5 := cell_of XA4 5; have u6 := cell_of XA4 6; have uz : ∀ o, w3.frozen? ⟨w.heap.size + 1, o, none⟩ = false := fun o => frozen_of XA4 o))
    all_goals
      first
        | (obtain ⟨w5, hw5⟩ : ∃ w5, w5 = (w3.alloc (.cells #[.int .i64 0, .string ⟨#[]⟩, fx K, fy K, .int .i64 0, fx V, fy V] 163)) := ⟨_, rfl⟩
           rw [← hw5]
           obtain ⟨xb, hxb⟩ : ∃ xb, xb = w3.heap.size := ⟨_, rfl⟩
           obtain ⟨X1, X2, X3⟩ := HX.out _ fr
           have FA : Fr (fun _ => False) w3 w5 := by rw [hw5]; exact Fr.alloc (Fr.refl _ _) _
           have l1 := lt_of_blk X1
           have l2 := lt_of_blk X2
           have Y3 : w5.heap[xb]? = some (iblk K V) := by rw [hw5, hxb]; exact blk_new _ _
           have Y1 := (FA.block _ l1 (fun e => e)).trans X1
           have Y2 := (FA.block _ l2 (fun e => e)).trans X2
           have Y4 := X3.trans FA fun _ _ e => e
           have hne1 : w.heap.size ≠ xb := by omega
           have hne2 : cb ≠ xb := by omega
           rw [← hxb]
           clear X1 X2 X3 FA l1 l2 hw5 hxb fr)
        | (obtain ⟨w5, hw5⟩ : ∃ w5, w5 = (((((((w3.setCell ⟨w.heap.size + 1, 0, none⟩ (.int .i64 0)).setCell ⟨w.heap.size + 1, 1, none⟩ (.string ⟨#[]⟩)).setCell ⟨w.heap.size + 1, 2, none⟩ (fx K)).setCell ⟨w.heap.size + 1, 3, none⟩ (fy K)).setCell ⟨w.heap.size + 1, 4, none⟩ (.int .i64 0)).setCell ⟨w.heap.size + 1, 5, none⟩ (fx V)).setCell ⟨w.heap.size + 1, 6, none⟩ (fy V)) := ⟨_, rfl⟩
           rw [← hw5]
           obtain ⟨xb, hxb⟩ : ∃ xb, xb = w.heap.size + 1 := ⟨_, rfl⟩
           have na : w.heap.size + 1 < w.heap.size → False := by omega
           have nx : w.heap.size ≠ w.heap.size + 1 := by omega
           have ny : cb ≠ w.heap.size + 1 := by omega
           have Y3 : w5.heap[xb]? = some (iblk K V) := by rw [hw5, hxb]; exact (blk_set (blk_set (blk_set (blk_set (blk_set (blk_set (blk_set XA4 0 _) 1 _) 2 _) 3 _) 4 _) 5 _) 6 _).trans rfl
           have Y1 : w5.heap[cb]? = some (rcurBlk 1 k) := by rw [hw5, blk_set_ne _ _ ny, blk_set_ne _ _ ny, blk_set_ne _ _ ny, blk_set_ne _ _ ny, blk_set_ne _ _ ny, blk_set_ne _ _ ny, blk_set_ne _ _ ny]; exact XA1
           have Y2 : w5.heap[w.heap.size]? = some (iblk 0 0) := by rw [hw5, blk_set_ne _ _ nx, blk_set_ne _ _ nx, blk_set_ne _ _ nx, blk_set_ne _ _ nx, blk_set_ne _ _ nx, blk_set_ne _ _ nx, blk_set_ne _ _ nx]; exact XA2
           have Y4 : Fr (fun _ => False) w w5 := by rw [hw5]; exact Fr.setCell (Fr.setCell (Fr.setCell (Fr.setCell (Fr.setCell (Fr.setCell (Fr.setCell (XA3) (by exact na) _) (by exact na) _) (by exact na) _) (by exact na) _) (by exact na) _) (by exact na) _) (by exact na) _
           have hne1 : w.heap.size ≠ xb := by omega
           have hne2 : cb ≠ xb := by omega
           rw [← hxb]
           clear XA1 XA2 XA3 XA4 u0 u1 u2 u3 u4 u5 u6 uz na nx ny hw5 hxb fr)
      have n0 : w5.cell? ⟨w.heap.size, 0, none⟩ = some (.int .i64 0) := cell_of Y2 0
      have n1 : w5.cell? ⟨w.heap.size, 1, none⟩ = some (s0) := cell_of Y2 1
      have n2 : w5.cell? ⟨w.heap.size, 2, none⟩ = some (f0) := cell_of Y2 2
      have n3 : w5.cell? ⟨w.heap.size, 3, none⟩ = some (f0) := cell_of Y2 3
      have n4 : w5.cell? ⟨w.heap.size, 4, none⟩ = some (.int .i64 0) := cell_of Y2 4
      have n5 : w5.cell? ⟨w.heap.size, 5, none⟩ = some (f0) := cell_of Y2 5
      have n6 : w5.cell? ⟨w.heap.size, 6, none⟩ = some (f0) := cell_of Y2 6
      have nz : ∀ o, w5.frozen? ⟨w.heap.size, o, none⟩ = false := fun o => frozen_of Y2 o
      have q0 : w5.cell? ⟨xb, 0, none⟩ = some (.int .i64 0) := cell_of Y3 0
      have q1 : w5.cell? ⟨xb, 1, none⟩ = some (s0) := cell_of Y3 1
      have q2 : w5.cell? ⟨xb, 2, none⟩ = some (fx K) := cell_of Y3 2
      have q3 : w5.cell? ⟨xb, 3, none⟩ = some (fy K) := cell_of Y3 3
      have q4 : w5.cell? ⟨xb, 4, none⟩ = some (.int .i64 0) := cell_of Y3 4
      have q5 : w5.cell? ⟨xb, 5, none⟩ = some (fx V) := cell_of Y3 5
      have q6 : w5.cell? ⟨xb, 6, none⟩ = some (fy V) := cell_of Y3 6
      have qz : ∀ o, w5.frozen? ⟨xb, o, none⟩ = false := fun o => frozen_of Y3 o
      have e0 : w5.cell? ⟨cb, 0, none⟩ = some (.int .i64 1) := cell_of Y1 0
      have e1 : w5.cell? ⟨cb, 1, none⟩ = some (.int .i64 0) := cell_of Y1 1
      have e2 : w5.cell? ⟨cb, 2, none⟩ = some (s0) := cell_of Y1 2
      have e3 : w5.cell? ⟨cb, 3, none⟩ = some (fx k) := cell_of Y1 3
      have e4 : w5.cell? ⟨cb, 4, none⟩ = some (fy k) := cell_of Y1 4
      have ez : ∀ o, w5.frozen? ⟨cb, o, none⟩ = false := fun o => frozen_of Y1 o
      have HY : Hid (w5.heap[cb]? = some (rcurBlk 1 k) ∧ Fr (fun _ => False) w w5) := ⟨Y1, Y4⟩
      clear Y1 Y2 Y3 Y4 HX HXA hab habA c0 c1 c2 c3 c4 czz cA0 cA1 cA2 cA3 cA4
      go_wp2_with fail
      refine bodyPost_ret (v := .tuple #[itm K V, .bool false]) (by simp [results, Tryz.results129, go_sem, *]) rfl ⟨rfl, ?_, ?_⟩
      all_goals
        obtain ⟨Y1, Y4⟩ := HY.out
      · rw [blk_set_ne _ _ hne3, blk_set_ne _ _ hne3, blk_set_ne _ _ hne3, blk_set_ne _ _ hne3, blk_set_ne _ _ hne3, blk_set_ne _ _ hne3, blk_set_ne _ _ hne3]; exact Y1
      · have nb : w.heap.size < w.heap.size → w.heap.size = cb := by omega
        exact Fr.setCell (Fr.setCell (Fr.setCell (Fr.setCell (Fr.setCell (Fr.setCell (Fr.setCell (Y4.mono fun _ _ e => e.elim) (by exact nb) _) (by exact nb) _) (by exact nb) _) (by exact nb) _) (by exact nb) _) (by exact nb) _) (by exact nb) _
  · simp only [if_true]
    go_enter Tryz.func129, Tryz.ntmps129
    go_wp2_with fail
    go_region_with (first
      | (go_at_call 102; refine hab.mono ?_; rintro e w3 ⟨rfl, fr⟩)
      | (go_at_call 102; refine habA.mono ?_; rintro e w3 ⟨rfl, fr⟩; obtain ⟨XA1, XA2, XA3, XA4⟩ := HXA.out _ fr; have u0 := cell_of XA4 0; have u1 := cell_of XA4 1; have u2 := cell_of XA4 2; have u3 := cell_of XA4 3; have u4 := cell_of XA4 4; have u5 := cell_of XA4 5; have u6 := cell_of XA4 6; have uz : ∀ o, w3.frozen? ⟨w.heap.size + 1, o, none⟩ = false := fun o => frozen_of XA4 o))
    all_goals
      first
        | (obtain ⟨w5, hw5⟩ : ∃ w5, w5 = (w3.alloc (.cells #[.int .i64 0, .string ⟨#[]⟩, fx K, fy K, .int .i64 0, fx V, fy V] 163)) := ⟨_, rfl⟩
           rw [← hw5]
           obtain ⟨xb, hxb⟩ : ∃ xb, xb = w3.heap.size := ⟨_, rfl⟩
           obtain ⟨X1, X2, X3⟩ := HX.out _ fr
           have FA : Fr (fun _ => False) w3 w5 := by rw [hw5]; exact Fr.alloc (Fr.refl _ _) _
           have l1 := lt_of_blk X1
           have l2 := lt_of_blk X2
           have Y3 : w5.heap[xb]? = some (iblk K V) := by rw [hw5, hxb]; exact blk_new _ _
           have Y1 := (FA.block _ l1 (fun e => e)).trans X1
           have Y2 := (FA.block _ l2 (fun e => e)).trans X2
           have Y4 := X3.trans FA fun _ _ e => e
           have hne1 : w.heap.size ≠ xb := by omega
           have hne2 : cb ≠ xb := by omega
           rw [← hxb]
           clear X1 X2 X3 FA l1 l2 hw5 hxb fr)
        | (obtain ⟨w5, hw5⟩ : ∃ w5, w5 = (((((((w3.setCell ⟨w.heap.size + 1, 0, none⟩ (.int .i64 0)).setCell ⟨w.heap.size + 1, 1, none⟩ (.string ⟨#[]⟩)).setCell ⟨w.heap.size + 1, 2, none⟩ (fx K)).setCell ⟨w.heap.size + 1, 3, none⟩ (fy K)).setCell ⟨w.heap.size + 1, 4, none⟩ (.int .i64 0)).setCell ⟨w.heap.size + 1, 5, none⟩ (fx V)).setCell ⟨w.heap.size + 1, 6, none⟩ (fy V)) := ⟨_, rfl⟩
           rw [← hw5]
           obtain ⟨xb, hxb⟩ : ∃ xb, xb = w.heap.size + 1 := ⟨_, rfl⟩
           have na : w.heap.size + 1 < w.heap.size → False := by omega
           have nx : w.heap.size ≠ w.heap.size + 1 := by omega
           have ny : cb ≠ w.heap.size + 1 := by omega
           have Y3 : w5.heap[xb]? = some (iblk K V) := by rw [hw5, hxb]; exact (blk_set (blk_set (blk_set (blk_set (blk_set (blk_set (blk_set XA4 0 _) 1 _) 2 _) 3 _) 4 _) 5 _) 6 _).trans rfl
           have Y1 : w5.heap[cb]? = some (rcurBlk 1 k) := by rw [hw5, blk_set_ne _ _ ny, blk_set_ne _ _ ny, blk_set_ne _ _ ny, blk_set_ne _ _ ny, blk_set_ne _ _ ny, blk_set_ne _ _ ny, blk_set_ne _ _ ny]; exact XA1
           have Y2 : w5.heap[w.heap.size]? = some (iblk 0 0) := by rw [hw5, blk_set_ne _ _ nx, blk_set_ne _ _ nx, blk_set_ne _ _ nx, blk_set_ne _ _ nx, blk_set_ne _ _ nx, blk_set_ne _ _ nx, blk_set_ne _ _ nx]; exact XA2
           have Y4 : Fr (fun _ => False) w w5 := by rw [hw5]; exact Fr.setCell (Fr.setCell (Fr.setCell (Fr.setCell (Fr.setCell (Fr.setCell (Fr.setCell (XA3) (by exact na) _) (by exact na) _) (by exact na) _) (by exact na) _) (by exact na) _) (by exact na) _) (by exact na) _
           have hne1 : w.heap.size ≠ xb := by omega
           have hne2 : cb ≠ xb := by omega
           rw [← hxb]
           clear XA1 XA2 XA3 XA4 u0 u1 u2 u3 u4 u5 u6 uz na nx ny hw5 hxb fr)
      have n0 : w5.cell? ⟨w.heap.size, 0, none⟩ = some (.int .i64 0) := cell_of Y2 0
      have n1 : w5.cell? ⟨w.heap.size, 1, none⟩ = some (s0) := cell_of Y2 1
      have n2 : w5.cell? ⟨w.heap.size, 2, none⟩ = some (f0) := cell_of Y2 2
      have n3 : w5.cell? ⟨w.heap.size, 3, none⟩ = some (f0) := cell_of Y2 3
      have n4 : w5.cell? ⟨w.heap.size, 4, none⟩ = some (.int .i64 0) := cell_of Y2 4
      have n5 : w5.cell? ⟨w.heap.size, 5, none⟩ = some (f0) := cell_of Y2 5
      have n6 : w5.cell? ⟨w.heap.size, 6, none⟩ = some (f0) := cell_of Y2 6
      have nz : ∀ o, w5.frozen? ⟨w.heap.size, o, none⟩ = false := fun o => frozen_of Y2 o
      have q0 : w5.cell? ⟨xb, 0, none⟩ = some (.int .i64 0) := cell_of Y3 0
      have q1 : w5.cell? ⟨xb, 1, none⟩ = some (s0) := cell_of Y3 1
      have q2 : w5.cell? ⟨xb, 2, none⟩ = some (fx K) := cell_of Y3 2
      have q3 : w5.cell? ⟨xb, 3, none⟩ = some (fy K) := cell_of Y3 3
      have q4 : w5.cell? ⟨xb, 4, none⟩ = some (.int .i64 0) := cell_of Y3 4
      have q5 : w5.cell? ⟨xb, 5, none⟩ = some (fx V) := cell_of Y3 5
      have q6 : w5.cell? ⟨xb, 6, none⟩ = some (fy V) := cell_of Y3 6
      have qz : ∀ o, w5.frozen? ⟨xb, o, none⟩ = false := fun o => frozen_of Y3 o
      have e0 : w5.cell? ⟨cb, 0, none⟩ = some (.int .i64 1) := cell_of Y1 0
      have e1 : w5.cell? ⟨cb, 1, none⟩ = some (.int .i64 0) := cell_of Y1 1
      have e2 : w5.cell? ⟨cb, 2, none⟩ = some (s0) := cell_of Y1 2
      have e3 : w5.cell? ⟨cb, 3, none⟩ = some (fx k) := cell_of Y1 3
      have e4 : w5.cell? ⟨cb, 4, none⟩ = some (fy k) := cell_of Y1 4
      have ez : ∀ o, w5.frozen? ⟨cb, o, none⟩ = false := fun o => frozen_of Y1 o
      have HY : Hid (w5.heap[cb]? = some (rcurBlk 1 k) ∧ Fr (fun _ => False) w w5) := ⟨Y1, Y4⟩
      clear Y1 Y2 Y3 Y4 HX HXA hab habA c0 c1 c2 c3 c4 czz cA0 cA1 cA2 cA3 cA4
      go_wp2_with fail
      refine bodyPost_ret (v := .tuple #[itm K V, .bool true]) (by simp [results, Tryz.results129, go_sem, *]) rfl ⟨rfl, ?_, ?_⟩
      all_goals
        obtain ⟨Y1, Y4⟩ := HY.out
      · rw [blk_set_ne _ _ hne3, blk_set_ne _ _ hne3, blk_set_ne _ _ hne3, blk_set_ne _ _ hne3, blk_set_ne _ _ hne3, blk_set_ne _ _ hne3, blk_set_ne _ _ hne3]
        exact (blk_set (blk_set (blk_set (blk_set (blk_set Y1 0 _) 1 _) 2 _) 3 _) 4 _).trans rfl
      · have nb : w.heap.size < w.heap.size → w.heap.size = cb := by omega
        have nc : cb < w.heap.size → cb = cb := fun _ => rfl
        exact Fr.setCell (Fr.setCell (Fr.setCell (Fr.setCell (Fr.setCell (Fr.setCell (Fr.setCell (Fr.setCell (Fr.setCell (Fr.setCell (Fr.setCell (Fr.setCell (Y4.mono fun _ _ e => e.elim) (by exact nc) _) (by exact nc) _) (by exact nc) _) (by exact nc) _) (by exact nc) _) (by exact nb) _) (by exact nb) _) (by exact nb) _) (by exact nb) _) (by exact nb) _) (by exact nb) _) (by exact nb) _

end Go.Proofs.YthbnbocpddddmaaGreat
