import Derived.Test.YthbnbocpddddmaaGreatQL
namespace Go.Proofs.YthbnbocpddddmaaGreat
open Go.RowKit

set_option maxRecDepth 100000 in
set_option maxHeartbeats 3200000 in
theorem rput_same (B b : Nat) (t : Bool) (own : Nat → Prop) (xs : Row) (k v : Int) (w : World) (h : RefM w B b t own xs) (hsr : Srt t xs) (hl : xs.length ≤ 400) (hsm : lsame k xs = true) :
    Calls Tryz.prog 121 #[.pointer (some ⟨b, 0, none⟩), rkey k, rval v] w fun e w' => e = .returned (.tuple #[rval (lget t k xs), .bool true, .bool true]) ∧ RefM w' B b t own (xs.set (lrank t k xs) (((xs[lrank t k xs]?).getD (0, 0)).1, v)) ∧ Fr own w w' := by
  have hom : own b := by obtain ⟨v, h1, h2, h3, h4⟩ := h; exact (h4 b).2 (Or.inl rfl)
  obtain ⟨a, cap, hb, hr, hcase⟩ := h.reads
  obtain ⟨⟨kq, u⟩, hu, _⟩ := at_rank hsr hsm
  have hlt := (List.getElem?_eq_some_iff.1 hu).1
  have hget : lget t k xs = u := by unfold lget; rw [if_pos hsm, hu]; rfl
  rw [hget, hu]
  simp only [Option.getD_some]
  clear hget
  rcases hcase with ⟨_, _, rfl⟩ | ⟨g, rfl, hog, hgb, hcap, hcells⟩
  · simp at hlt
  obtain ⟨cur, hg, hgs, hgt, hBg, hcm, hown⟩ : ∃ cur, w.heap[g]? = some (.cells cur 163 (0, 0)) ∧ cur.size = cap * 7 ∧ cur.toList.take (xs.length * 7) = rcells xs ∧ B ≤ g ∧ cap ≤ maxLen ∧ (∀ x, own x ↔ x = b ∨ x = g) := by
    obtain ⟨v0, h1, ⟨e1, e2⟩, h3, h4⟩ := h
    rw [h1] at hb
    simp only [refBlk, Option.some.injEq, Obj.cells.injEq, Array.mk.injEq, List.cons.injEq, and_true, true_and] at hb
    subst hb
    rcases e2 with ⟨e2, _⟩ | ⟨g', cap', cur, e2, q1, q2, q3, q4, q5, q6⟩
    · cases e2
    · cases e2
      exact ⟨cur, q2, q5, q6, q1, q4, fun x => (h4 x).trans ⟨fun e => e.imp id (fun e => (Option.some.inj e).symm), fun e => e.imp id (fun e => congrArg some e.symm)⟩⟩
  have hF : Fr (fun _ => False) w (((w.alloc (.cells #[.int .i64 0, s0, fx k, fy k] 66)).alloc (.cells #[.int .i64 0, fx v, fy v] 161)).alloc (.cells #[.int .i64 0, f0, f0] 161)) := Fr.alloc (Fr.alloc (Fr.alloc (Fr.refl _ _) _) _) _
  have hhas := rhas_any b t _ cap xs k _ ((hF.block b (lt_of_blk hb) (fun e => e)).trans hb) (hr.fr hF fun _ _ _ e => e) hsr (by omega)
  unfold lhas at hhas
  rw [hsm] at hhas
  simp only [if_true] at hhas
  have hbox : (((w.alloc (.cells #[.int .i64 0, s0, fx k, fy k] 66)).alloc (.cells #[.int .i64 0, fx v, fy v] 161)).alloc (.cells #[.int .i64 0, f0, f0] 161)).heap[w.heap.size + 1]? = some (.cells #[.int .i64 0, fx v, fy v] 161 (0, 0)) := by
    rw [Below.heap_alloc _ _ _ (by simp)]
    have := blk_new (w.alloc (.cells #[.int .i64 0, s0, fx k, fy k] 66)) (.cells #[.int .i64 0, fx v, fy v] 161)
    rw [World.size_alloc] at this; exact this
  have hres : (((w.alloc (.cells #[.int .i64 0, s0, fx k, fy k] 66)).alloc (.cells #[.int .i64 0, fx v, fy v] 161)).alloc (.cells #[.int .i64 0, f0, f0] 161)).heap[w.heap.size + 2]? = some (.cells #[.int .i64 0, f0, f0] 161 (0, 0)) := by
    have := blk_new ((w.alloc (.cells #[.int .i64 0, s0, fx k, fy k] 66)).alloc (.cells #[.int .i64 0, fx v, fy v] 161)) (.cells #[.int .i64 0, f0, f0] 161)
    rw [World.size_alloc, World.size_alloc] at this; exact this
  have hsf := store_f0
  have hi0 : ¬ ((lrank t k xs : Int) < 0) := by omega
  have hi1 : (lrank t k xs : Int) < (xs.length : Int) := by omega
  have kk4 := hcells _ _ (rcells_get hu 4 _ rfl)
  have kk5 := hcells _ _ (rcells_get hu 5 _ rfl)
  have kk6 := hcells _ _ (rcells_get hu 6 _ rfl)
  have H0 : Hid (RefM w B b t own xs) := h
  generalize lrank t k xs = j at *
  clear h hcells hr
  go_enter Tryz.func121, Tryz.ntmps121
  go_wp2_with fail
  refine hhas.mono ?_
  rintro e wr ⟨rfl, F⟩
  have F' := hF.trans F fun _ _ e => e
  have k4 : wr.cell? ⟨g, j * 7 + 4, none⟩ = some (.int .i64 0) := F'.get kk4
  have k5 : wr.cell? ⟨g, j * 7 + 5, none⟩ = some (fx u) := F'.get kk5
  have k6 : wr.cell? ⟨g, j * 7 + 6, none⟩ = some (fy u) := F'.get kk6
  have hb' := (F'.block b (lt_of_blk hb) (fun e => e)).trans hb
  have c2 : wr.cell? ⟨b, 2, none⟩ = some (.slice (some ⟨g, 0, none⟩) xs.length cap) := cell_of hb' 2
  have hbox' := (F.block (w.heap.size + 1) (lt_of_blk hbox) (fun e => e)).trans hbox
  have v0 : wr.cell? ⟨w.heap.size + 1, 0, none⟩ = some (.int .i64 0) := cell_of hbox' 0
  have v1 : wr.cell? ⟨w.heap.size + 1, 1, none⟩ = some (fx v) := cell_of hbox' 1
  have v2 : wr.cell? ⟨w.heap.size + 1, 2, none⟩ = some (fy v) := cell_of hbox' 2
  have hg' := (F'.block g (lt_of_blk hg) (fun e => e)).trans hg
  have hzg : ∀ o, wr.frozen? ⟨g, o, none⟩ = false := fun o => frozen_of hg' o
  have hres' := (F.block (w.heap.size + 2) (lt_of_blk hres) (fun e => e)).trans hres
  have gl := lt_of_blk hg'
  have bl := lt_of_blk hb'
  have xl := lt_of_blk hbox'
  have rl := lt_of_blk hres'
  have g0 := lt_of_blk hg
  have b0 := lt_of_blk hb
  have hne1 : g ≠ wr.heap.size := by omega
  have hne2 : g ≠ w.heap.size + 2 := by omega
  have hne3 : g ≠ w.heap.size + 1 := by omega
  have FA : Fr (fun _ => False) wr (wr.alloc (.cells #[.int .i64 0, fx u, fy u] 161)) := Fr.alloc (Fr.refl _ _) _
  have hwas := blk_new wr (.cells #[.int .i64 0, fx u, fy u] 161)
  have HX : Hid ((wr.alloc (.cells #[.int .i64 0, fx u, fy u] 161)).heap[g]? = some (.cells cur 163 (0, 0)) ∧ (wr.alloc (.cells #[.int .i64 0, fx u, fy u] 161)).heap[w.heap.size + 2]? = some (.cells #[.int .i64 0, f0, f0] 161 (0, 0)) ∧
      (wr.alloc (.cells #[.int .i64 0, fx u, fy u] 161)).heap[b]? = some (refBlk t (some ⟨g, 0, none⟩) xs.length cap) ∧ Fr (fun _ => False) w (wr.alloc (.cells #[.int .i64 0, fx u, fy u] 161))) :=
    ⟨(FA.block g gl (fun e => e)).trans hg', (FA.block _ rl (fun e => e)).trans hres', (FA.block b bl (fun e => e)).trans hb', F'.trans FA fun _ _ e => e⟩
  have c2 := FA.get c2
  have v0 := FA.get v0
  have v1 := FA.get v1
  have v2 := FA.get v2
  have y4 := FA.get k4
  have y5 := FA.get k5
  have y6 := FA.get k6
  have p4 : (wr.alloc (.cells #[.int .i64 0, fx u, fy u] 161)).frozen? ⟨g, j * 7 + 4, none⟩ = false := frozen_of HX.out.1 _
  have p5 : (wr.alloc (.cells #[.int .i64 0, fx u, fy u] 161)).frozen? ⟨g, j * 7 + 5, none⟩ = false := frozen_of HX.out.1 _
  have p6 : (wr.alloc (.cells #[.int .i64 0, fx u, fy u] 161)).frozen? ⟨g, j * 7 + 6, none⟩ = false := frozen_of HX.out.1 _
  clear hhas kk4 kk5 kk6 hbox hb hb' hbox' hg hg' hres hres' hF F F' FA
  go_wp2_with fail
  go_region
  have W5 : ∃ w5, w5 = ((((wr.setCell ⟨g, j * 7 + 4, none⟩ (.int .i64 0)).setCell ⟨g, j * 7 + 4 + 1, none⟩ (fx v)).setCell ⟨g, j * 7 + 4 + 2, none⟩ (fy v)).alloc (.cells #[.int .i64 0, fx u, fy u] 161)).drew := ⟨_, rfl⟩
  obtain ⟨w5, hw5⟩ := W5
  rw [← hw5]
  obtain ⟨gx1, gx2, gx3, gx4⟩ := HX.out
  have gW : w5.heap[g]? = some (.cells (((cur.setIfInBounds (j * 7 + 4) (.int .i64 0)).setIfInBounds (j * 7 + 4 + 1) (fx v)).setIfInBounds (j * 7 + 4 + 2) (fy v)) 163 (0, 0)) := by
    rw [Below.heap_alloc _ _ _ gl] at gx1
    rw [hw5]
    show (World.alloc _ _).heap[g]? = _
    rw [Below.heap_alloc _ _ _ (by simpa using gl)]
    exact blk_set (blk_set (blk_set gx1 _ _) _ _) _ _
  have oW : ∀ x, x ≠ g → x < wr.heap.size → w5.heap[x]? = wr.heap[x]? := fun x hx hl => by
    rw [hw5]
    show (World.alloc _ _).heap[x]? = _
    rw [Below.heap_alloc _ _ _ (by simpa using hl), blk_set_ne _ _ hx, blk_set_ne _ _ hx, blk_set_ne _ _ hx]
  have sW : w5.heap.size = wr.heap.size + 1 := by rw [hw5]; show (World.alloc _ _).heap.size = _; simp
  have aW : w5.heap[wr.heap.size]? = some (.cells #[.int .i64 0, fx u, fy u] 161 (0, 0)) := by
    have := blk_new (((wr.setCell ⟨g, j * 7 + 4, none⟩ (.int .i64 0)).setCell ⟨g, j * 7 + 4 + 1, none⟩ (fx v)).setCell ⟨g, j * 7 + 4 + 2, none⟩ (fy v)) (.cells #[.int .i64 0, fx u, fy u] 161)
    simp only [World.size_setCell] at this
    rw [hw5]; exact this
  have rW : w5.heap[w.heap.size + 2]? = some (.cells #[.int .i64 0, f0, f0] 161 (0, 0)) := by
    rw [oW _ (by omega) rl]; rw [Below.heap_alloc _ _ _ rl] at gx2; exact gx2
  have bW : w5.heap[b]? = some (refBlk t (some ⟨g, 0, none⟩) xs.length cap) := by
    rw [oW b (Ne.symm hgb) bl]; rw [Below.heap_alloc _ _ _ bl] at gx3; exact gx3
  have FW : Fr (fun x => x = g) w w5 := by
    refine ⟨?_, ?_, ?_, ?_, fun x hx hn => ?_⟩
    · rw [hw5]; exact gx4.os
    · rw [hw5]; exact gx4.tape
    · rw [hw5]; exact gx4.output
    · rw [sW]; omega
    · have hxl : x < wr.heap.size := by omega
      rw [oW x hn hxl, ← gx4.block x hx (fun e => e), Below.heap_alloc _ _ _ hxl]
  have m0 : w5.cell? ⟨wr.heap.size, 0, none⟩ = some (.int .i64 0) := cell_of aW 0
  have m1 : w5.cell? ⟨wr.heap.size, 1, none⟩ = some (fx u) := cell_of aW 1
  have m2 : w5.cell? ⟨wr.heap.size, 2, none⟩ = some (fy u) := cell_of aW 2
  have n0 : w5.cell? ⟨w.heap.size + 2, 0, none⟩ = some (.int .i64 0) := cell_of rW 0
  have n1 : w5.cell? ⟨w.heap.size + 2, 1, none⟩ = some f0 := cell_of rW 1
  have n2 : w5.cell? ⟨w.heap.size + 2, 2, none⟩ = some f0 := cell_of rW 2
  have hzr : ∀ o, w5.frozen? ⟨w.heap.size + 2, o, none⟩ = false := fun o => frozen_of rW o
  have HW : Hid (w5.heap[g]? = some (.cells (((cur.setIfInBounds (j * 7 + 4) (.int .i64 0)).setIfInBounds (j * 7 + 4 + 1) (fx v)).setIfInBounds (j * 7 + 4 + 2) (fy v)) 163 (0, 0)) ∧ w5.heap[b]? = some (refBlk t (some ⟨g, 0, none⟩) xs.length cap) ∧ Fr (fun x => x = g) w w5 ∧ w5.heap.size = wr.heap.size + 1) := ⟨gW, bW, FW, sW⟩
  have HG : Hid (xs[j]? = some (kq, u) ∧ cur.size = cap * 7 ∧ cur.toList.take (xs.length * 7) = rcells xs ∧ B ≤ g ∧ cap ≤ maxLen ∧ (∀ x, own x ↔ x = b ∨ x = g) ∧ xs.length ≤ cap ∧ g ≠ b ∧ g < w.heap.size ∧ b < w.heap.size) := ⟨hu, hgs, hgt, hBg, hcm, hown, hcap, hgb, g0, b0⟩
  clear hw5 gx1 gx2 gx3 gx4 gW oW sW aW rW bW FW hu hgs hgt hBg hcm hown hcap k4 k5 k6 y4 y5 y6 p4 p5 p6 c2 v0 v1 v2 hzg
  go_wp2_with fail
  refine bodyPost_ret (v := .tuple #[rval u, .bool true, .bool true]) (by simp [results, Tryz.results121, go_sem, *]) rfl ⟨rfl, ?_, ?_⟩
  all_goals
    obtain ⟨gW, bW, FW, sW⟩ := HW.out
    obtain ⟨hu, hgs, hgt, hBg, hcm, hown, hcap, hgb, g0, b0⟩ := HG.out
  · have b1 : b ≠ w.heap.size + 2 := by omega
    refine ⟨.slice (some ⟨g, 0, none⟩) xs.length cap, ?_, ⟨by rw [rcells_len], Or.inr ⟨g, cap, _, by rw [List.length_set], hBg, ?_, by rw [List.length_set]; exact hcap, hcm, ?_, by rw [List.length_set]; exact set_cells hgt hu⟩⟩, fun e => hgb (Option.some.inj e), fun x => (hown x).trans ⟨fun e => e.imp id (fun e => congrArg some e.symm), fun e => e.imp id (fun e => (Option.some.inj e).symm)⟩⟩
    · rw [blk_set_ne _ _ b1, blk_set_ne _ _ b1, blk_set_ne _ _ b1]; exact bW
    · rw [blk_set_ne _ _ hne2, blk_set_ne _ _ hne2, blk_set_ne _ _ hne2]; exact gW
    · simpa using hgs
  · have nb : w.heap.size + 2 < w.heap.size → own (w.heap.size + 2) := by omega
    exact Fr.setCell (Fr.setCell (Fr.setCell (FW.mono fun x _ e => (hown x).2 (Or.inr e)) (by exact nb) _) (by exact nb) _) (by exact nb) _

end Go.Proofs.YthbnbocpddddmaaGreat

namespace Go.Proofs.YthbnbocpddddmaaGreat
open Go.RowKit

theorem RefM.slice {w : World} {B b : Nat} {t : Bool} {own : Nat → Prop} {xs : Row} (h : RefM w B b t own xs) :
    (w.heap[b]? = some (refBlk t none 0 0) ∧ xs = []) ∨ ∃ g cap, w.heap[b]? = some (refBlk t (some ⟨g, 0, none⟩) xs.length cap) ∧ g ≠ b ∧ xs.length ≤ cap ∧ g < w.heap.size ∧ (∀ j u, (rcells xs)[j]? = some u → w.cell? ⟨g, j, none⟩ = some u) := by
  obtain ⟨v, h1, ⟨e1, e2⟩, h3, h4⟩ := h
  rcases e2 with ⟨rfl, e⟩ | ⟨g, cap, cur, rfl, q1, q2, q3, q4, q5, q6⟩
  · exact Or.inl ⟨h1, List.eq_nil_of_length_eq_zero e⟩
  · refine Or.inr ⟨g, cap, h1, fun e => h3 (by rw [e]; rfl), q3, lt_of_blk q2, fun j u hu => ?_⟩
    rw [cell_of q2]
    rw [← q6, List.getElem?_take] at hu
    split at hu
    · simpa using hu
    · cases hu

theorem grown_fr {w wr w' : World} {row : Option Nat} (F : Fr (fun _ => False) w wr) (g : wr.grownBy w' row) (hr : ∀ k, row = some k → w.heap.size ≤ k) : Fr (fun _ => False) w w' :=
  ⟨g.os.trans F.os, g.tape.trans F.tape, g.output.trans F.output, Nat.le_trans F.size g.size, fun k hk _ => (g.block k (Nat.lt_of_lt_of_le hk F.size) (fun e => by have := hr k e.symm; omega)).trans (F.block k hk (fun e => e))⟩

theorem put_end {w wz : World} {B base b : Nat} {t : Bool} {own : Nat → Prop} {ys : Row} {a : Option Addr} {n cap : Nat} {vz : Value} (hom : own b) (F : Fr (fun _ => False) w wz) (hbw : b < w.heap.size)
    (hbz : wz.heap[b]? = some (refBlk t a n cap)) (hown : wz.ownsRow base 163 7 vz ys.length (rcells ys)) (h1 : w.heap.size + 2 < base) (h2 : B ≤ base) :
    RefM ((((wz.setCell ⟨b, 2, none⟩ vz).setCell ⟨w.heap.size + 2, 0, none⟩ (.int .i64 0)).setCell ⟨w.heap.size + 2, 1, none⟩ (.float .f64 0)).setCell ⟨w.heap.size + 2, 2, none⟩ (.float .f64 0)) B b t (fun x => x = b ∨ vz.ownBlock = some x) ys ∧
    (∀ x, (x = b ∨ vz.ownBlock = some x) → own x ∨ w.heap.size ≤ x) ∧
    Fr own w ((((wz.setCell ⟨b, 2, none⟩ vz).setCell ⟨w.heap.size + 2, 0, none⟩ (.int .i64 0)).setCell ⟨w.heap.size + 2, 1, none⟩ (.float .f64 0)).setCell ⟨w.heap.size + 2, 2, none⟩ (.float .f64 0)) := by
  have hlt := hown.lt
  have b1 : b ≠ w.heap.size + 2 := by omega
  refine ⟨⟨vz, ?_, ?_, fun e => by have := hlt b e; omega, fun x => Iff.rfl⟩, fun x hx => ?_, ?_⟩
  · rw [blk_set_ne _ _ b1, blk_set_ne _ _ b1, blk_set_ne _ _ b1]
    exact (blk_set hbz 2 vz).trans rfl
  · obtain ⟨e1, e2⟩ := hown
    refine ⟨e1, ?_⟩
    rcases e2 with e2 | ⟨g, cap', cur, rfl, q1, q2, q3⟩
    · exact Or.inl e2
    · have g1 : g ≠ w.heap.size + 2 := by omega
      have g2 : g ≠ b := by omega
      refine Or.inr ⟨g, cap', cur, rfl, Nat.le_trans h2 q1, ?_, q3⟩
      rw [blk_set_ne _ _ g1, blk_set_ne _ _ g1, blk_set_ne _ _ g1, blk_set_ne _ _ g2]; exact q2
  · rcases hx with rfl | e
    · exact Or.inl hom
    · right; have := (hlt x e).1; omega
  · have nb : w.heap.size + 2 < w.heap.size → own (w.heap.size + 2) := by omega
    exact Fr.setCell (Fr.setCell (Fr.setCell (Fr.setCell (F.mono fun _ _ e => e.elim) (by exact fun _ => hom) _) (by exact nb) _) (by exact nb) _) (by exact nb) _

set_option maxRecDepth 100000 in
set_option maxHeartbeats 3200000 in
theorem rput_new (B b : Nat) (t : Bool) (own : Nat → Prop) (xs : Row) (k v : Int) (w : World) (h : RefM w B b t own xs) (hsr : Srt t xs) (hl : xs.length < 400) (hsm : lsame k xs = false) (hB : B ≤ w.heap.size) :
    Calls Tryz.prog 121 #[.pointer (some ⟨b, 0, none⟩), rkey k, rval v] w fun e w' => e = .returned (.tuple #[rval 0, .bool false, .bool true]) ∧ ∃ own', RefM w' B b t own' (xs.take (lrank t k xs) ++ (k, v) :: xs.drop (lrank t k xs)) ∧ (∀ x, own' x → own x ∨ w.heap.size ≤ x) ∧ Fr own w w' := by
  have hom : own b := by obtain ⟨v, h1, h2, h3, h4⟩ := h; exact (h4 b).2 (Or.inl rfl)
  obtain ⟨a, cap, hb, hr, hcase⟩ := h.reads
  have hF : Fr (fun _ => False) w (((w.alloc (.cells #[.int .i64 0, s0, fx k, fy k] 66)).alloc (.cells #[.int .i64 0, fx v, fy v] 161)).alloc (.cells #[.int .i64 0, f0, f0] 161)) := Fr.alloc (Fr.alloc (Fr.alloc (Fr.refl _ _) _) _) _
  have hb1 := (hF.block b (lt_of_blk hb) (fun e => e)).trans hb
  have hr1 := hr.fr hF fun _ _ _ e => e
  have hhas := rhas_any b t _ cap xs k _ hb1 hr1 hsr (by omega)
  unfold lhas at hhas
  rw [hsm] at hhas
  simp only [Bool.false_eq_true, if_false] at hhas
  have hkey : (((w.alloc (.cells #[.int .i64 0, s0, fx k, fy k] 66)).alloc (.cells #[.int .i64 0, fx v, fy v] 161)).alloc (.cells #[.int .i64 0, f0, f0] 161)).heap[w.heap.size]? = some (.cells #[.int .i64 0, s0, fx k, fy k] 66 (0, 0)) := by
    rw [Below.heap_alloc _ _ _ (by simp; omega), Below.heap_alloc _ _ _ (by simp)]; exact blk_new _ _
  have hbox : (((w.alloc (.cells #[.int .i64 0, s0, fx k, fy k] 66)).alloc (.cells #[.int .i64 0, fx v, fy v] 161)).alloc (.cells #[.int .i64 0, f0, f0] 161)).heap[w.heap.size + 1]? = some (.cells #[.int .i64 0, fx v, fy v] 161 (0, 0)) := by
    rw [Below.heap_alloc _ _ _ (by simp)]
    have := blk_new (w.alloc (.cells #[.int .i64 0, s0, fx k, fy k] 66)) (.cells #[.int .i64 0, fx v, fy v] 161)
    rw [World.size_alloc] at this; exact this
  have hres : (((w.alloc (.cells #[.int .i64 0, s0, fx k, fy k] 66)).alloc (.cells #[.int .i64 0, fx v, fy v] 161)).alloc (.cells #[.int .i64 0, f0, f0] 161)).heap[w.heap.size + 2]? = some (.cells #[.int .i64 0, f0, f0] 161 (0, 0)) := by
    have := blk_new ((w.alloc (.cells #[.int .i64 0, s0, fx k, fy k] 66)).alloc (.cells #[.int .i64 0, fx v, fy v] 161)) (.cells #[.int .i64 0, f0, f0] 161)
    rw [World.size_alloc, World.size_alloc] at this; exact this
  have hsf := store_f0
  have hrl := lrank_le t k xs
  obtain ⟨i0, hi, hz0, hz1, hz2⟩ := info_parts info_item
  have hlen0 : decide (400 ≤ xs.length) = false := by simp; omega
  have hlen1 : decide ((400 : Int) ≤ (xs.length : Int)) = false := by simp; omega
  have H0 : Hid (RefM w B b t own xs) := h
  have hrk := fun wr hb hr => rrank_any b t a cap xs k wr hb hr (by omega)
  have HR0 : Hid (xs = [] → lrank t k xs = 0) := fun e => by rw [e]; rfl
  generalize lrank t k xs = r at *
  have HF : Hid (Fr (fun _ => False) w (((w.alloc (.cells #[.int .i64 0, s0, fx k, fy k] 66)).alloc (.cells #[.int .i64 0, fx v, fy v] 161)).alloc (.cells #[.int .i64 0, f0, f0] 161))) := hF
  generalize hw1 : ((w.alloc (.cells #[.int .i64 0, s0, fx k, fy k] 66)).alloc (.cells #[.int .i64 0, fx v, fy v] 161)).alloc (.cells #[.int .i64 0, f0, f0] 161) = w1 at *
  have y0 : w1.cell? ⟨w.heap.size, 0, none⟩ = some (.int .i64 0) := cell_of hkey 0
  have y1 : w1.cell? ⟨w.heap.size, 1, none⟩ = some s0 := cell_of hkey 1
  have y2 : w1.cell? ⟨w.heap.size, 2, none⟩ = some (fx k) := cell_of hkey 2
  have y3 : w1.cell? ⟨w.heap.size, 3, none⟩ = some (fy k) := cell_of hkey 3
  go_enter Tryz.func121, Tryz.ntmps121
  go_wp2_with fail
  refine hhas.mono ?_
  rintro e wr ⟨rfl, F⟩
  have hb2 := (F.block b (lt_of_blk hb1) (fun e => e)).trans hb1
  have hr2 := hr1.fr F fun _ _ _ e => e
  have c2 : wr.cell? ⟨b, 2, none⟩ = some (.slice a xs.length cap) := cell_of hb2 2
  have hk2 := (F.block _ (lt_of_blk hkey) (fun e => e)).trans hkey
  have q0 : wr.cell? ⟨w.heap.size, 0, none⟩ = some (.int .i64 0) := cell_of hk2 0
  have q1 : wr.cell? ⟨w.heap.size, 1, none⟩ = some s0 := cell_of hk2 1
  have q2 : wr.cell? ⟨w.heap.size, 2, none⟩ = some (fx k) := cell_of hk2 2
  have q3 : wr.cell? ⟨w.heap.size, 3, none⟩ = some (fy k) := cell_of hk2 3
  have hrk := hrk wr hb2 hr2
  clear hhas
  go_wp2_with fail
  refine hrk.mono ?_
  rintro e ws ⟨rfl, G⟩
  have FG := F.trans G fun _ _ e => e
  have FW := HF.out.trans FG fun _ _ e => e
  have hb3 := (FG.block b (lt_of_blk hb1) (fun e => e)).trans hb1
  have hk3 := (FG.block _ (lt_of_blk hkey) (fun e => e)).trans hkey
  have hx3 := (FG.block _ (lt_of_blk hbox) (fun e => e)).trans hbox
  have hs3 := (FG.block _ (lt_of_blk hres) (fun e => e)).trans hres
  have M3 := H0.out.fr FW fun _ _ e => e
  have sz := FW.size
  clear y0 y1 y2 y3 F G FG hb2 hr2 c2 hk2 q0 q1 q2 q3 hrk hkey hbox hres hb1 hr1 hw1 hF
  have c2 : ws.cell? ⟨b, 2, none⟩ = some (.slice a xs.length cap) := cell_of hb3 2
  have q0 : ws.cell? ⟨w.heap.size, 0, none⟩ = some (.int .i64 0) := cell_of hk3 0
  have q1 : ws.cell? ⟨w.heap.size, 1, none⟩ = some s0 := cell_of hk3 1
  have q2 : ws.cell? ⟨w.heap.size, 2, none⟩ = some (fx k) := cell_of hk3 2
  have q3 : ws.cell? ⟨w.heap.size, 3, none⟩ = some (fy k) := cell_of hk3 3
  have v0 : ws.cell? ⟨w.heap.size + 1, 0, none⟩ = some (.int .i64 0) := cell_of hx3 0
  have v1 : ws.cell? ⟨w.heap.size + 1, 1, none⟩ = some (fx v) := cell_of hx3 1
  have v2 : ws.cell? ⟨w.heap.size + 1, 2, none⟩ = some (fy v) := cell_of hx3 2
  rcases hcase with ⟨rfl, rfl, rfl⟩ | ⟨g, rfl, hog, hgb, hcap, hcells⟩
  · have hr0 := HR0.out rfl
    subst hr0
    have hrl3 := lt_of_blk hs3
    have hbl := lt_of_blk hb
    go_wp2_with (first
      | (at_builtin; refine wpList_append_own_none rfl (.tmp 45) (.tmp 51) 154 rfl ws.heap.size 163 i0 7 Tryz.underlying154 hi _ _ _ rfl (World.ownsRow_nil _ _ _ _) rfl ?_)
      | (at_builtin; refine wpList_append_own _ rfl (.tmp 53) (.tmp 57) 154 rfl ws.heap.size 163 i0 (.agg #[.int .i64 0, s0, f0, f0, .int .i64 0, f0, f0]) 7 64 Tryz.underlying154 hi hz0 hz1 hz2 rfl (by decide) _ _ _ rfl (World.ownsRow_nil _ _ _ _) ⟨ws.heap.size, 0, none⟩ 1 1 (ritem (k, v)) rfl rfl ?c1 ?c2 ?c3 ?c4 ?c5 ?_))
    case c1 => exact fun j u hu => new_item ws (k, v) j u hu
    case c2 => exact fun u hu => rcells_one_cell [(k, v)] u (by rw [rcells_one]; exact hu)
    case c3 => unfold maxLen; omega
    case c4 => omega
    case c5 => simp
    intro v6 w6 own6 grow6 _
    obtain ⟨a6, c6, rfl⟩ := own_shape own6
    have F6 : Fr (fun _ => False) ws w6 := grown_fr (Fr.alloc (Fr.refl _ _) _) grow6 (fun k e => by cases e)
    have hb6 := (F6.block b (lt_of_blk hb3) (fun e => e)).trans hb3
    have hs6 := (F6.block _ hrl3 (fun e => e)).trans hs3
    have c26 : w6.cell? ⟨b, 2, none⟩ = some (.slice none 0 0) := cell_of hb6 2
    have z26 : w6.frozen? ⟨b, 2, none⟩ = false := frozen_of hb6 2
    have n0 : w6.cell? ⟨w.heap.size + 2, 0, none⟩ = some (.int .i64 0) := cell_of hs6 0
    have n1 : w6.cell? ⟨w.heap.size + 2, 1, none⟩ = some f0 := cell_of hs6 1
    have n2 : w6.cell? ⟨w.heap.size + 2, 2, none⟩ = some f0 := cell_of hs6 2
    have hzr : ∀ o, w6.frozen? ⟨w.heap.size + 2, o, none⟩ = false := fun o => frozen_of hs6 o
    have hne1 : b ≠ w.heap.size + 2 := by omega
    have HE : Hid (own b ∧ Fr (fun _ => False) w w6 ∧ b < w.heap.size ∧ w6.heap[b]? = some (refBlk t none 0 0) ∧ w6.ownsRow ws.heap.size 163 7 (.slice a6 (0 + 1) c6) ([(k, v)] : Row).length (rcells [(k, v)]) ∧ w.heap.size + 2 < ws.heap.size ∧ B ≤ ws.heap.size) :=
      ⟨hom, FW.trans F6 fun _ _ e => e, hbl, hb6, by rw [rcells_one]; exact own6, by omega, by omega⟩
    clear F6 grow6 hb6 hs6 FW hk3 hx3 hs3 hb3 q0 q1 q2 q3 v0 v1 v2 c2 M3 hb hbl hrl3 sz
    go_wp2_with
      (at_builtin; refine wpList_append_own_none rfl (.tmp 60) (.tmp 66) 154 rfl ws.heap.size 163 i0 7 Tryz.underlying154 hi _ _ _ rfl own6 rfl ?_)
    refine bodyPost_ret (v := .tuple #[.agg #[.int .i64 0, f0, f0], .bool false, .bool true]) (by simp [results, Tryz.results121, go_sem, *]) rfl ⟨rfl, fun x => x = b ∨ (Value.slice a6 (0 + 1) c6).ownBlock = some x, ?_⟩
    obtain ⟨x1, x2, x3, x4, x5, x6, x7⟩ := HE.out
    exact put_end x1 x2 x3 x4 x5 x6 x7
  · have hrl3 := lt_of_blk hs3
    have hbl := lt_of_blk hb
    have hrn : (r : Int) ≤ (xs.length : Int) := by omega
    have hrc : (r : Int) ≤ (cap : Int) := by omega
    have hnc : (xs.length : Int) ≤ (cap : Int) := by omega
    have T1 : (rcells (xs.take r)).length = r * 7 := by rw [rcells_len, List.length_take, Nat.min_eq_left (by omega)]
    have HC : Hid (∀ j u, (rcells xs)[j]? = some u → ws.cell? ⟨g, j, none⟩ = some u) := fun j u hu => FW.get (hcells j u hu)
    have hg0 : g < w.heap.size := M3.lt g hog |> fun _ => (h.lt g hog)
    go_wp2_with
      (at_builtin; refine wpList_append_own _ rfl (.tmp 45) (.tmp 51) 154 rfl ws.heap.size 163 i0 (.agg #[.int .i64 0, s0, f0, f0, .int .i64 0, f0, f0]) 7 64 Tryz.underlying154 hi hz0 hz1 hz2 rfl (by decide) _ _ _ rfl (World.ownsRow_nil _ _ _ _) ⟨g, 0, none⟩ r cap (rcells (xs.take r)) rfl T1 ?d1 ?d2 ?d3 ?d4 ?d5 ?_)
    case d1 => exact src_take HC.out
    case d2 => exact rcells_one_cell _
    case d3 => unfold maxLen; omega
    case d4 => omega
    case d5 => exact Nat.le_refl _
    intro v5 w5 own5 grow5 _
    obtain ⟨a5, c5, rfl⟩ := own_shape own5
    have F5 : Fr (fun _ => False) ws w5 := grown_fr (Fr.refl _ _) grow5 (fun k e => by cases e)
    have L5 := own5.lt
    have q0 : w5.cell? ⟨w.heap.size, 0, none⟩ = some (.int .i64 0) := F5.get q0
    have q1 : w5.cell? ⟨w.heap.size, 1, none⟩ = some s0 := F5.get q1
    have q2 : w5.cell? ⟨w.heap.size, 2, none⟩ = some (fx k) := F5.get q2
    have q3 : w5.cell? ⟨w.heap.size, 3, none⟩ = some (fy k) := F5.get q3
    have v0 : w5.cell? ⟨w.heap.size + 1, 0, none⟩ = some (.int .i64 0) := F5.get v0
    have v1 : w5.cell? ⟨w.heap.size + 1, 1, none⟩ = some (fx v) := F5.get v1
    have v2 : w5.cell? ⟨w.heap.size + 1, 2, none⟩ = some (fy v) := F5.get v2
    go_wp2_with
      (at_builtin; refine wpList_append_own _ rfl (.tmp 53) (.tmp 57) 154 rfl ws.heap.size 163 i0 (.agg #[.int .i64 0, s0, f0, f0, .int .i64 0, f0, f0]) 7 64 Tryz.underlying154 hi hz0 hz1 hz2 rfl (by decide) _ _ _ rfl (own5.alloc _) ⟨w5.heap.size, 0, none⟩ 1 1 (ritem (k, v)) rfl rfl ?e1 ?e2 ?e3 ?e4 ?e5 ?_)
    case e1 => exact fun j u hu => new_item w5 (k, v) j u hu
    case e2 => exact fun u hu => rcells_one_cell [(k, v)] u (by rw [rcells_one]; exact hu)
    case e3 => unfold maxLen; omega
    case e4 => omega
    case e5 => have := F5.size; simp; omega
    intro v6 w6 own6 grow6 _
    obtain ⟨a6, c6, rfl⟩ := own_shape own6
    have F6 : Fr (fun _ => False) ws w6 := grown_fr (Fr.alloc F5 _) grow6 (fun k e => (L5 k e).1)
    have L6 := own6.lt
    have hb6 := (F6.block b (lt_of_blk hb3) (fun e => e)).trans hb3
    have c26 : w6.cell? ⟨b, 2, none⟩ = some (.slice (some ⟨g, 0, none⟩) xs.length cap) := cell_of hb6 2
    have T3 : (rcells (xs.drop r)).length = (xs.length - r) * 7 := by rw [rcells_len, List.length_drop]
    by_cases hrcap : r = cap
    · have hdr : xs.drop r = [] := List.drop_eq_nil_of_le (by omega)
      have HD : Hid (∀ j u, (rcells (xs.drop r))[j]? = some u → w6.cell? ((⟨g, 0, none⟩ : Addr).add j) = some u) := fun j u hu => by rw [hdr] at hu; simp [rcells] at hu
      have hrcap' : cap = r := hrcap.symm
      clear hdr hrcap
      go_wp2_with
        (at_builtin; refine wpList_append_own _ rfl (.tmp 60) (.tmp 66) 154 rfl ws.heap.size 163 i0 (.agg #[.int .i64 0, s0, f0, f0, .int .i64 0, f0, f0]) 7 64 Tryz.underlying154 hi hz0 hz1 hz2 rfl (by decide) _ _ _ rfl own6 ⟨g, 0, none⟩ _ _ (rcells (xs.drop r)) rfl T3 ?g1 ?g2 ?g3 ?g4 ?g5 ?_)
      case g1 => exact HD.out
      case g2 => exact rcells_one_cell _
      case g3 => unfold maxLen; omega
      case g4 => omega
      case g5 => exact F6.size
      intro v7 w7 own7 grow7 _
      have F7 : Fr (fun _ => False) ws w7 := grown_fr F6 grow7 (fun k e => (L6 k e).1)
      obtain ⟨a7, c7, rfl⟩ := own_shape own7
      have hb7 := (F7.block b (lt_of_blk hb3) (fun e => e)).trans hb3
      have hs7 := (F7.block _ hrl3 (fun e => e)).trans hs3
      have c27 : w7.cell? ⟨b, 2, none⟩ = some (.slice (some ⟨g, 0, none⟩) xs.length cap) := cell_of hb7 2
      have z27 : w7.frozen? ⟨b, 2, none⟩ = false := frozen_of hb7 2
      have n0 : w7.cell? ⟨w.heap.size + 2, 0, none⟩ = some (.int .i64 0) := cell_of hs7 0
      have n1 : w7.cell? ⟨w.heap.size + 2, 1, none⟩ = some f0 := cell_of hs7 1
      have n2 : w7.cell? ⟨w.heap.size + 2, 2, none⟩ = some f0 := cell_of hs7 2
      have hzr : ∀ o, w7.frozen? ⟨w.heap.size + 2, o, none⟩ = false := fun o => frozen_of hs7 o
      have hne1 : b ≠ w.heap.size + 2 := by omega
      have HE : Hid (own b ∧ Fr (fun _ => False) w w7 ∧ b < w.heap.size ∧ w7.heap[b]? = some (refBlk t (some ⟨g, 0, none⟩) xs.length cap) ∧ w7.ownsRow ws.heap.size 163 7 (.slice a7 (r + 1 + (xs.length - r)) c7) (xs.take r ++ (k, v) :: xs.drop r).length (rcells (xs.take r ++ (k, v) :: xs.drop r)) ∧ w.heap.size + 2 < ws.heap.size ∧ B ≤ ws.heap.size) := by
        refine ⟨hom, FW.trans F7 fun _ _ e => e, hbl, hb7, ?_, by omega, by omega⟩
        have e1 : (xs.take r ++ (k, v) :: xs.drop r).length = r + 1 + (xs.length - r) := by simp; omega
        have e2 : rcells (xs.take r ++ (k, v) :: xs.drop r) = rcells (xs.take r) ++ (ritem (k, v) ++ rcells (xs.drop r)) := by
          rw [rcells_append, show ((k, v) :: xs.drop r) = [(k, v)] ++ xs.drop r from rfl, rcells_append, rcells_one]
        rw [e1, e2]
        exact own7
      clear HD F6 F7 F5 grow5 grow6 grow7 own5 own6 own7 L5 L6 hb6 hb7 hs7 FW hk3 hx3 hs3 hb3 q0 q1 q2 q3 v0 v1 v2 c2 c26 M3 hb hbl hrl3 sz T1 T3 HC hcells h hrk hr
      go_wp2_with fail
      refine bodyPost_ret (v := .tuple #[.agg #[.int .i64 0, f0, f0], .bool false, .bool true]) (by simp [results, Tryz.results121, go_sem, *]) rfl ⟨rfl, fun x => x = b ∨ (Value.slice a7 (r + 1 + (xs.length - r)) c7).ownBlock = some x, ?_⟩
      obtain ⟨x1, x2, x3, x4, x5, x6, x7⟩ := HE.out
      exact put_end x1 x2 x3 x4 x5 x6 x7
    · have HD : Hid (∀ j u, (rcells (xs.drop r))[j]? = some u → w6.cell? ((⟨g, r * 7, none⟩ : Addr).add j) = some u) := src_drop hrl fun j u hu => F6.get (HC.out j u hu)
      have hrcap1 : r < cap := by omega
      have hrcap2 : (r : Int) < (cap : Int) := by omega
      have hrcap3 : ¬ cap = r := by omega
      go_wp2_with
        (at_builtin; refine wpList_append_own _ rfl (.tmp 60) (.tmp 66) 154 rfl ws.heap.size 163 i0 (.agg #[.int .i64 0, s0, f0, f0, .int .i64 0, f0, f0]) 7 64 Tryz.underlying154 hi hz0 hz1 hz2 rfl (by decide) _ _ _ rfl own6 ⟨g, r * 7, none⟩ _ _ (rcells (xs.drop r)) rfl T3 ?g1 ?g2 ?g3 ?g4 ?g5 ?_)
      case g1 => exact HD.out
      case g2 => exact rcells_one_cell _
      case g3 => unfold maxLen; omega
      case g4 => omega
      case g5 => exact F6.size
      intro v7 w7 own7 grow7 _
      have F7 : Fr (fun _ => False) ws w7 := grown_fr F6 grow7 (fun k e => (L6 k e).1)
      obtain ⟨a7, c7, rfl⟩ := own_shape own7
      have hb7 := (F7.block b (lt_of_blk hb3) (fun e => e)).trans hb3
      have hs7 := (F7.block _ hrl3 (fun e => e)).trans hs3
      have c27 : w7.cell? ⟨b, 2, none⟩ = some (.slice (some ⟨g, 0, none⟩) xs.length cap) := cell_of hb7 2
      have z27 : w7.frozen? ⟨b, 2, none⟩ = false := frozen_of hb7 2
      have n0 : w7.cell? ⟨w.heap.size + 2, 0, none⟩ = some (.int .i64 0) := cell_of hs7 0
      have n1 : w7.cell? ⟨w.heap.size + 2, 1, none⟩ = some f0 := cell_of hs7 1
      have n2 : w7.cell? ⟨w.heap.size + 2, 2, none⟩ = some f0 := cell_of hs7 2
      have hzr : ∀ o, w7.frozen? ⟨w.heap.size + 2, o, none⟩ = false := fun o => frozen_of hs7 o
      have hne1 : b ≠ w.heap.size + 2 := by omega
      have HE : Hid (own b ∧ Fr (fun _ => False) w w7 ∧ b < w.heap.size ∧ w7.heap[b]? = some (refBlk t (some ⟨g, 0, none⟩) xs.length cap) ∧ w7.ownsRow ws.heap.size 163 7 (.slice a7 (r + 1 + (xs.length - r)) c7) (xs.take r ++ (k, v) :: xs.drop r).length (rcells (xs.take r ++ (k, v) :: xs.drop r)) ∧ w.heap.size + 2 < ws.heap.size ∧ B ≤ ws.heap.size) := by
        refine ⟨hom, FW.trans F7 fun _ _ e => e, hbl, hb7, ?_, by omega, by omega⟩
        have e1 : (xs.take r ++ (k, v) :: xs.drop r).length = r + 1 + (xs.length - r) := by simp; omega
        have e2 : rcells (xs.take r ++ (k, v) :: xs.drop r) = rcells (xs.take r) ++ (ritem (k, v) ++ rcells (xs.drop r)) := by
          rw [rcells_append, show ((k, v) :: xs.drop r) = [(k, v)] ++ xs.drop r from rfl, rcells_append, rcells_one]
        rw [e1, e2]
        exact own7
      clear HD F6 F7 F5 grow5 grow6 grow7 own5 own6 own7 L5 L6 hb6 hb7 hs7 FW hk3 hx3 hs3 hb3 q0 q1 q2 q3 v0 v1 v2 c2 c26 M3 hb hbl hrl3 sz T1 T3 HC hcells h hrk hr
      go_wp2_with fail
      refine bodyPost_ret (v := .tuple #[.agg #[.int .i64 0, f0, f0], .bool false, .bool true]) (by simp [results, Tryz.results121, go_sem, *]) rfl ⟨rfl, fun x => x = b ∨ (Value.slice a7 (r + 1 + (xs.length - r)) c7).ownBlock = some x, ?_⟩
      obtain ⟨x1, x2, x3, x4, x5, x6, x7⟩ := HE.out
      exact put_end x1 x2 x3 x4 x5 x6 x7

end Go.Proofs.YthbnbocpddddmaaGreat

namespace Go.Proofs.YthbnbocpddddmaaGreat
open Go.RowKit

set_option maxRecDepth 100000 in
set_option maxHeartbeats 3200000 in
theorem rput_full (B b : Nat) (t : Bool) (own : Nat → Prop) (xs : Row) (k v : Int) (w : World) (h : RefM w B b t own xs) (hsr : Srt t xs) (hl : xs.length = 400) (hsm : lsame k xs = false) :
    Calls Tryz.prog 121 #[.pointer (some ⟨b, 0, none⟩), rkey k, rval v] w fun e w' => e = .returned (.tuple #[rval 0, .bool false, .bool false]) ∧ Fr (fun _ => False) w w' := by
  have hom : own b := by obtain ⟨v, h1, h2, h3, h4⟩ := h; exact (h4 b).2 (Or.inl rfl)
  obtain ⟨a, cap, hb, hr, hcase⟩ := h.reads
  have hF : Fr (fun _ => False) w (((w.alloc (.cells #[.int .i64 0, s0, fx k, fy k] 66)).alloc (.cells #[.int .i64 0, fx v, fy v] 161)).alloc (.cells #[.int .i64 0, f0, f0] 161)) := Fr.alloc (Fr.alloc (Fr.alloc (Fr.refl _ _) _) _) _
  have hb1 := (hF.block b (lt_of_blk hb) (fun e => e)).trans hb
  have hr1 := hr.fr hF fun _ _ _ e => e
  have hhas := rhas_any b t _ cap xs k _ hb1 hr1 hsr (by omega)
  unfold lhas at hhas
  rw [hsm] at hhas
  simp only [Bool.false_eq_true, if_false] at hhas
  have hkey : (((w.alloc (.cells #[.int .i64 0, s0, fx k, fy k] 66)).alloc (.cells #[.int .i64 0, fx v, fy v] 161)).alloc (.cells #[.int .i64 0, f0, f0] 161)).heap[w.heap.size]? = some (.cells #[.int .i64 0, s0, fx k, fy k] 66 (0, 0)) := by
    rw [Below.heap_alloc _ _ _ (by simp; omega), Below.heap_alloc _ _ _ (by simp)]; exact blk_new _ _
  have hbox : (((w.alloc (.cells #[.int .i64 0, s0, fx k, fy k] 66)).alloc (.cells #[.int .i64 0, fx v, fy v] 161)).alloc (.cells #[.int .i64 0, f0, f0] 161)).heap[w.heap.size + 1]? = some (.cells #[.int .i64 0, fx v, fy v] 161 (0, 0)) := by
    rw [Below.heap_alloc _ _ _ (by simp)]
    have := blk_new (w.alloc (.cells #[.int .i64 0, s0, fx k, fy k] 66)) (.cells #[.int .i64 0, fx v, fy v] 161)
    rw [World.size_alloc] at this; exact this
  have hres : (((w.alloc (.cells #[.int .i64 0, s0, fx k, fy k] 66)).alloc (.cells #[.int .i64 0, fx v, fy v] 161)).alloc (.cells #[.int .i64 0, f0, f0] 161)).heap[w.heap.size + 2]? = some (.cells #[.int .i64 0, f0, f0] 161 (0, 0)) := by
    have := blk_new ((w.alloc (.cells #[.int .i64 0, s0, fx k, fy k] 66)).alloc (.cells #[.int .i64 0, fx v, fy v] 161)) (.cells #[.int .i64 0, f0, f0] 161)
    rw [World.size_alloc, World.size_alloc] at this; exact this
  have hsf := store_f0
  have hlen1 : (400 : Int) ≤ (xs.length : Int) := by omega
  have H0 : Hid (RefM w B b t own xs) := h
  have HF : Hid (Fr (fun _ => False) w (((w.alloc (.cells #[.int .i64 0, s0, fx k, fy k] 66)).alloc (.cells #[.int .i64 0, fx v, fy v] 161)).alloc (.cells #[.int .i64 0, f0, f0] 161))) := hF
  generalize hw1 : ((w.alloc (.cells #[.int .i64 0, s0, fx k, fy k] 66)).alloc (.cells #[.int .i64 0, fx v, fy v] 161)).alloc (.cells #[.int .i64 0, f0, f0] 161) = w1 at *
  have y0 : w1.cell? ⟨w.heap.size, 0, none⟩ = some (.int .i64 0) := cell_of hkey 0
  have y1 : w1.cell? ⟨w.heap.size, 1, none⟩ = some s0 := cell_of hkey 1
  have y2 : w1.cell? ⟨w.heap.size, 2, none⟩ = some (fx k) := cell_of hkey 2
  have y3 : w1.cell? ⟨w.heap.size, 3, none⟩ = some (fy k) := cell_of hkey 3
  clear hcase hr hr1 hb hF hbox
  go_enter Tryz.func121, Tryz.ntmps121
  go_wp2_with fail
  refine hhas.mono ?_
  rintro e wr ⟨rfl, F⟩
  have hb2 := (F.block b (lt_of_blk hb1) (fun e => e)).trans hb1
  have hs2 := (F.block _ (lt_of_blk hres) (fun e => e)).trans hres
  have c2 : wr.cell? ⟨b, 2, none⟩ = some (.slice a xs.length cap) := cell_of hb2 2
  have n0 : wr.cell? ⟨w.heap.size + 2, 0, none⟩ = some (.int .i64 0) := cell_of hs2 0
  have n1 : wr.cell? ⟨w.heap.size + 2, 1, none⟩ = some f0 := cell_of hs2 1
  have n2 : wr.cell? ⟨w.heap.size + 2, 2, none⟩ = some f0 := cell_of hs2 2
  have hzr : ∀ o, wr.frozen? ⟨w.heap.size + 2, o, none⟩ = false := fun o => frozen_of hs2 o
  have HW : Hid (Fr (fun _ => False) w wr) := HF.out.trans F fun _ _ e => e
  clear hhas hb1 hb2 hs2 hkey hres y0 y1 y2 y3 hw1 F h hl
  go_wp2_with fail
  refine bodyPost_ret (v := .tuple #[.agg #[.int .i64 0, f0, f0], .bool false, .bool false]) (by simp [results, Tryz.results121, go_sem, *]) rfl ⟨rfl, ?_⟩
  have nb : w.heap.size + 2 < w.heap.size → False := by omega
  exact Fr.setCell (Fr.setCell (Fr.setCell HW.out (by exact nb) _) (by exact nb) _) (by exact nb) _

theorem rput_any (B b : Nat) (t : Bool) (own : Nat → Prop) (xs : Row) (k v : Int) (w : World) (h : RefM w B b t own xs) (hsr : Srt t xs) (hl : xs.length ≤ 400) (hB : B ≤ w.heap.size) :
    Calls Tryz.prog 121 #[.pointer (some ⟨b, 0, none⟩), rkey k, rval v] w fun e w' => e = .returned (.tuple #[rval (lget t k xs), .bool (lsame k xs), .bool (lerr k xs == 0)]) ∧ ∃ own', RefM w' B b t own' (lputF t k v xs) ∧ (∀ x, own' x → own x ∨ w.heap.size ≤ x) ∧ Fr own w w' := by
  cases hsm : lsame k xs with
  | true =>
    have e : lerr k xs = 0 := by unfold lerr; rw [if_pos hsm]
    refine (rput_same B b t own xs k v w h hsr hl hsm).mono ?_
    rintro e' w' ⟨rfl, m, f⟩
    refine ⟨by rw [e]; rfl, own, ?_, fun x hx => Or.inl hx, f⟩
    unfold lputF lput
    rw [if_pos e, if_pos hsm]; exact m
  | false =>
    have hg : lget t k xs = 0 := by unfold lget; rw [if_neg (by simp [hsm])]
    by_cases hlt : xs.length < 400
    · have e : lerr k xs = 0 := by unfold lerr; rw [if_neg (by simp [hsm]), if_neg (by omega)]
      refine (rput_new B b t own xs k v w h hsr hlt hsm hB).mono ?_
      rintro e' w' ⟨rfl, own', m, s, f⟩
      refine ⟨by rw [e, hg]; rfl, own', ?_, s, f⟩
      unfold lputF lput
      rw [if_pos e, if_neg (by simp [hsm])]; exact m
    · have e : lerr k xs = 3 := by unfold lerr; rw [if_neg (by simp [hsm]), if_pos (by omega)]
      refine (rput_full B b t own xs k v w h hsr (by omega) hsm).mono ?_
      rintro e' w' ⟨rfl, f⟩
      refine ⟨by rw [e, hg]; rfl, own, ?_, fun x hx => Or.inl hx, f.mono fun _ _ e => e.elim⟩
      unfold lputF
      rw [if_neg (by rw [e]; decide)]; exact h.fr f fun _ _ e => e

end Go.Proofs.YthbnbocpddddmaaGreat
