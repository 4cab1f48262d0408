import Derived.Test.YthbnbocpddddmaaGreatQM
import Derived.Test.YthbnbocpddddmaaGreatQA
namespace Go.Proofs.YthbnbocpddddmaaGreat
open Go.RowKit

theorem del_end {w wz : World} {B base b rb : Nat} {z : Int} {t : Bool} {own : Nat → Prop} {ys : Row} {a : Option Addr} {n cap : Nat} {vz : Value} (hom : own b) (F : Fr (fun _ => False) w wz) (hbw : b < w.heap.size)
    (hbz : wz.heap[b]? = some (refBlk t a n cap)) (hown : wz.ownsRow base 163 7 vz ys.length (rcells ys)) (h0 : w.heap.size ≤ rb) (h1 : rb < base) (h2 : B ≤ base) :
    RefM ((((wz.setCell ⟨b, 2, none⟩ vz).setCell ⟨rb, 0, none⟩ (.int .i64 0)).setCell ⟨rb, 1, none⟩ (fx z)).setCell ⟨rb, 2, none⟩ (fy z)) B b t (fun x => x = b ∨ vz.ownBlock = some x) ys ∧
    (∀ x, (x = b ∨ vz.ownBlock = some x) → own x ∨ w.heap.size ≤ x) ∧
    Fr own w ((((wz.setCell ⟨b, 2, none⟩ vz).setCell ⟨rb, 0, none⟩ (.int .i64 0)).setCell ⟨rb, 1, none⟩ (fx z)).setCell ⟨rb, 2, none⟩ (fy z)) := by
  have hlt := hown.lt
  have b1 : b ≠ rb := by omega
  refine ⟨⟨vz, ?_, ?_, fun e => by have := hlt b e; omega, fun x => Iff.rfl⟩, fun x hx => ?_, ?_⟩
  · rw [blk_set_ne _ _ b1, blk_set_ne _ _ b1, blk_set_ne _ _ b1]
    exact (blk_set hbz 2 vz).trans rfl
  · obtain ⟨e1, e2⟩ := hown
    refine ⟨e1, ?_⟩
    rcases e2 with e2 | ⟨g, cap', cur, rfl, q1, q2, q3⟩
    · exact Or.inl e2
    · have g1 : g ≠ rb := by omega
      have g2 : g ≠ b := by omega
      refine Or.inr ⟨g, cap', cur, rfl, Nat.le_trans h2 q1, ?_, q3⟩
      rw [blk_set_ne _ _ g1, blk_set_ne _ _ g1, blk_set_ne _ _ g1, blk_set_ne _ _ g2]; exact q2
  · rcases hx with rfl | e
    · exact Or.inl hom
    · right; have := (hlt x e).1; omega
  · have nb : rb < w.heap.size → own rb := by omega
    exact Fr.setCell (Fr.setCell (Fr.setCell (Fr.setCell (F.mono fun _ _ e => e.elim) (by exact fun _ => hom) _) (by exact nb) _) (by exact nb) _) (by exact nb) _

set_option maxRecDepth 100000 in
set_option maxHeartbeats 3200000 in
theorem rdel_same (B b : Nat) (t : Bool) (own : Nat → Prop) (xs : Row) (k : Int) (w : World) (h : RefM w B b t own xs) (hsr : Srt t xs) (hl : xs.length ≤ 400) (hsm : lsame k xs = true) (hB : B ≤ w.heap.size) :
    Calls Tryz.prog 124 #[.pointer (some ⟨b, 0, none⟩), rkey k] w fun e w' => e = .returned (.tuple #[rval (lget t k xs), .bool true]) ∧ ∃ own', RefM w' B b t own' (xs.eraseIdx (lrank t k xs)) ∧ (∀ x, own' x → own x ∨ w.heap.size ≤ x) ∧ Fr own w w' := by
  have hom : own b := by obtain ⟨v, h1, h2, h3, h4⟩ := h; exact (h4 b).2 (Or.inl rfl)
  obtain ⟨a, cap, hb, hr, hcase⟩ := h.reads
  obtain ⟨⟨kq, u⟩, hu, _⟩ := at_rank hsr hsm
  have hlt := (List.getElem?_eq_some_iff.1 hu).1
  have hget : lget t k xs = u := by unfold lget; rw [if_pos hsm, hu]; rfl
  rw [hget]
  clear hget
  rcases hcase with ⟨_, _, rfl⟩ | ⟨g, rfl, hog, hgb, hcap, hcells⟩
  · simp at hlt
  have hF : Fr (fun _ => False) w ((w.alloc (.cells #[.int .i64 0, s0, fx k, fy k] 66)).alloc (.cells #[.int .i64 0, f0, f0] 161)) := Fr.alloc (Fr.alloc (Fr.refl _ _) _) _
  have hb1 := (hF.block b (lt_of_blk hb) (fun e => e)).trans hb
  have hhas := rhas_any b t _ cap xs k _ hb1 (hr.fr hF fun _ _ _ e => e) hsr (by omega)
  unfold lhas at hhas
  rw [hsm] at hhas
  simp only [if_true] at hhas
  have hres : ((w.alloc (.cells #[.int .i64 0, s0, fx k, fy k] 66)).alloc (.cells #[.int .i64 0, f0, f0] 161)).heap[w.heap.size + 1]? = some (.cells #[.int .i64 0, f0, f0] 161 (0, 0)) := by
    have := blk_new (w.alloc (.cells #[.int .i64 0, s0, fx k, fy k] 66)) (.cells #[.int .i64 0, f0, f0] 161)
    rw [World.size_alloc] at this; exact this
  have hsf := store_f0
  obtain ⟨i0, hi, hz0, hz1, hz2⟩ := info_parts info_item
  have hi0 : decide ((lrank t k xs : Int) < 0) = false := by simp
  have hi1 : (lrank t k xs : Int) < (xs.length : Int) := by omega
  have kk4 := hcells _ _ (rcells_get hu 4 _ rfl)
  have kk5 := hcells _ _ (rcells_get hu 5 _ rfl)
  have kk6 := hcells _ _ (rcells_get hu 6 _ rfl)
  have hl4 : (xs.length : Int) ≤ 400 := by omega
  generalize lrank t k xs = j at *
  go_enter Tryz.func124, Tryz.ntmps124
  go_wp2_with fail
  refine hhas.mono ?_
  rintro e wr ⟨rfl, F⟩
  have F' := hF.trans F fun _ _ e => e
  have k4 : wr.cell? ⟨g, j * 7 + 4, none⟩ = some (.int .i64 0) := F'.get kk4
  have k5 : wr.cell? ⟨g, j * 7 + 5, none⟩ = some (fx u) := F'.get kk5
  have k6 : wr.cell? ⟨g, j * 7 + 6, none⟩ = some (fy u) := F'.get kk6
  have hb2 := (F.block b (lt_of_blk hb1) (fun e => e)).trans hb1
  have c2 : wr.cell? ⟨b, 2, none⟩ = some (.slice (some ⟨g, 0, none⟩) xs.length cap) := cell_of hb2 2
  have FA : Fr (fun _ => False) wr (wr.alloc (.cells #[.int .i64 0, fx u, fy u] 161)) := Fr.alloc (Fr.refl _ _) _
  have FW := F'.trans FA fun _ _ e => e
  have hb3 := (FA.block b (lt_of_blk hb2) (fun e => e)).trans hb2
  have hs3 := (FA.block _ (Nat.lt_of_lt_of_le (lt_of_blk hres) F.size) (fun e => e)).trans ((F.block _ (lt_of_blk hres) (fun e => e)).trans hres)
  have hw3 : (wr.alloc (.cells #[.int .i64 0, fx u, fy u] 161)).heap[wr.heap.size]? = some (.cells #[.int .i64 0, fx u, fy u] 161 (0, 0)) := blk_new _ _
  have c2w : (wr.alloc (.cells #[.int .i64 0, fx u, fy u] 161)).cell? ⟨b, 2, none⟩ = some (.slice (some ⟨g, 0, none⟩) xs.length cap) := cell_of hb3 2
  have T1 : (rcells (xs.take j)).length = j * 7 := by rw [rcells_len, List.length_take, Nat.min_eq_left (by omega)]
  have T3 : (rcells (xs.drop (j + 1))).length = (xs.length - (j + 1)) * 7 := by rw [rcells_len, List.length_drop]
  have HC : Hid (∀ i y, (rcells xs)[i]? = some y → (wr.alloc (.cells #[.int .i64 0, fx u, fy u] 161)).cell? ⟨g, i, none⟩ = some y) := fun i y hy => FW.get (hcells i y hy)
  have hbl := lt_of_blk hb
  have hwl : w.heap.size + 1 < wr.heap.size := Nat.lt_of_lt_of_le (lt_of_blk hres) F.size
  have hsl : (wr.alloc (.cells #[.int .i64 0, fx u, fy u] 161)).heap.size = wr.heap.size + 1 := by simp
  have hjn : (j : Int) ≤ (xs.length : Int) := by omega
  have hjc : (j : Int) ≤ (cap : Int) := by omega
  have hnc : (xs.length : Int) ≤ (cap : Int) := by omega
  have hjn1 : (j : Int) + 1 ≤ (xs.length : Int) := by omega
  have hjc1 : (j : Int) + 1 ≤ (cap : Int) := by omega
  clear F F' FA hb1 hb2 hF hhas kk4 kk5 kk6 hres hr hu hsm hsr hl hog
  go_wp2_with
    (at_builtin; refine wpList_append_own _ rfl (.tmp 23) (.tmp 29) 154 rfl (wr.heap.size + 1) 163 i0 (.agg #[.int .i64 0, s0, f0, f0, .int .i64 0, f0, f0]) 7 64 Tryz.underlying154 hi hz0 hz1 hz2 rfl (by decide) _ _ _ rfl (World.ownsRow_nil _ _ _ _) ⟨g, 0, none⟩ j cap (rcells (xs.take j)) rfl T1 ?d1 ?d2 ?d3 ?d4 ?d5 ?_)
  case d1 => exact src_take HC.out
  case d2 => exact rcells_one_cell _
  case d3 => unfold maxLen; omega
  case d4 => omega
  case d5 => simp
  intro v5 w5 own5 grow5 _
  obtain ⟨a5, c5, rfl⟩ := own_shape own5
  have F5 : Fr (fun _ => False) (wr.alloc (.cells #[.int .i64 0, fx u, fy u] 161)) w5 := grown_fr (Fr.refl _ _) grow5 (fun k e => by cases e)
  have L5 := own5.lt
  have hb5 := (F5.block b (lt_of_blk hb3) (fun e => e)).trans hb3
  have c25 : w5.cell? ⟨b, 2, none⟩ = some (.slice (some ⟨g, 0, none⟩) xs.length cap) := cell_of hb5 2
  by_cases hrcap : j + 1 = cap
  · have hdr : xs.drop (j + 1) = [] := List.drop_eq_nil_of_le (by omega)
    have HD : Hid (∀ i u, (rcells (xs.drop (j + 1)))[i]? = some u → w5.cell? ((⟨g, 0, none⟩ : Addr).add i) = some u) := fun i u hu => by rw [hdr] at hu; simp [rcells] at hu
    have hrcap' : cap = j + 1 := hrcap.symm
    clear hdr hrcap
    go_wp2_with
      (at_builtin; refine wpList_append_own _ rfl (.tmp 32) (.tmp 39) 154 rfl (wr.heap.size + 1) 163 i0 (.agg #[.int .i64 0, s0, f0, f0, .int .i64 0, f0, f0]) 7 64 Tryz.underlying154 hi hz0 hz1 hz2 rfl (by decide) _ _ _ rfl own5 ⟨g, 0, none⟩ _ _ (rcells (xs.drop (j + 1))) rfl T3 ?g1 ?g2 ?g3 ?g4 ?g5 ?_)
    case g1 => exact HD.out
    case g2 => exact rcells_one_cell _
    case g3 => unfold maxLen; omega
    case g4 => omega
    case g5 => have := F5.size; simp at this; omega
    intro v7 w7 own7 grow7 _
    have F7 : Fr (fun _ => False) (wr.alloc (.cells #[.int .i64 0, fx u, fy u] 161)) w7 := grown_fr F5 grow7 (fun k e => by have := (L5 k e).1; simp; omega)
    obtain ⟨a7, c7, rfl⟩ := own_shape own7
    have hb7 := (F7.block b (lt_of_blk hb3) (fun e => e)).trans hb3
    have hs7 := (F7.block _ (lt_of_blk hs3) (fun e => e)).trans hs3
    have hw7 := (F7.block _ (lt_of_blk hw3) (fun e => e)).trans hw3
    have c27 : w7.cell? ⟨b, 2, none⟩ = some (.slice (some ⟨g, 0, none⟩) xs.length cap) := cell_of hb7 2
    have z27 : w7.frozen? ⟨b, 2, none⟩ = false := frozen_of hb7 2
    have n0 : w7.cell? ⟨w.heap.size + 1, 0, none⟩ = some (.int .i64 0) := cell_of hs7 0
    have n1 : w7.cell? ⟨w.heap.size + 1, 1, none⟩ = some f0 := cell_of hs7 1
    have n2 : w7.cell? ⟨w.heap.size + 1, 2, none⟩ = some f0 := cell_of hs7 2
    have hzr : ∀ o, w7.frozen? ⟨w.heap.size + 1, o, none⟩ = false := fun o => frozen_of hs7 o
    have m0 : w7.cell? ⟨wr.heap.size, 0, none⟩ = some (.int .i64 0) := cell_of hw7 0
    have m1 : w7.cell? ⟨wr.heap.size, 1, none⟩ = some (fx u) := cell_of hw7 1
    have m2 : w7.cell? ⟨wr.heap.size, 2, none⟩ = some (fy u) := cell_of hw7 2
    have hne1 : b ≠ w.heap.size + 1 := by omega
    have hne2 : b ≠ wr.heap.size := by omega
    have hne3 : wr.heap.size ≠ w.heap.size + 1 := by omega
    have HE : Hid (own b ∧ Fr (fun _ => False) w w7 ∧ b < w.heap.size ∧ w7.heap[b]? = some (refBlk t (some ⟨g, 0, none⟩) xs.length cap) ∧ w7.ownsRow (wr.heap.size + 1) 163 7 (.slice a7 (j + (xs.length - (j + 1))) c7) (xs.eraseIdx j).length (rcells (xs.eraseIdx j)) ∧ w.heap.size ≤ w.heap.size + 1 ∧ w.heap.size + 1 < wr.heap.size + 1 ∧ B ≤ wr.heap.size + 1) := by
      refine ⟨hom, FW.trans F7 fun _ _ e => e, hbl, hb7, ?_, by omega, by omega, by omega⟩
      have e1 : (xs.eraseIdx j).length = j + (xs.length - (j + 1)) := by rw [List.length_eraseIdx, if_pos hlt]; omega
      have e2 : rcells (xs.eraseIdx j) = rcells (xs.take j) ++ rcells (xs.drop (j + 1)) := by rw [List.eraseIdx_eq_take_drop_succ, rcells_append]
      rw [e1, e2]
      exact own7
    clear HD F7 F5 grow5 grow7 own5 own7 L5 hb7 hs7 hw7 FW hs3 hb3 hw3 c2 hb hbl T1 T3 HC hcells h hb5 c25 c2w
    go_wp2_with fail
    refine bodyPost_ret (v := .tuple #[rval u, .bool true]) (by simp [results, Tryz.results124, go_sem, *]) rfl ⟨rfl, fun x => x = b ∨ (Value.slice a7 (j + (xs.length - (j + 1))) c7).ownBlock = some x, ?_⟩
    obtain ⟨x1, x2, x3, x4, x5, x6, x7, x8⟩ := HE.out
    exact del_end x1 x2 x3 x4 x5 x6 x7 x8
  · have HD : Hid (∀ i u, (rcells (xs.drop (j + 1)))[i]? = some u → w5.cell? ((⟨g, (j + 1) * 7, none⟩ : Addr).add i) = some u) := src_drop (by omega) fun i u hu => F5.get (HC.out i u hu)
    have hrcap1 : j + 1 < cap := by omega
    have hrcap2 : (j : Int) + 1 < (cap : Int) := by omega
    have hrcap3 : ¬ cap = j + 1 := by omega
    go_wp2_with
      (at_builtin; refine wpList_append_own _ rfl (.tmp 32) (.tmp 39) 154 rfl (wr.heap.size + 1) 163 i0 (.agg #[.int .i64 0, s0, f0, f0, .int .i64 0, f0, f0]) 7 64 Tryz.underlying154 hi hz0 hz1 hz2 rfl (by decide) _ _ _ rfl own5 ⟨g, (j + 1) * 7, none⟩ _ _ (rcells (xs.drop (j + 1))) rfl T3 ?g1 ?g2 ?g3 ?g4 ?g5 ?_)
    case g1 => exact HD.out
    case g2 => exact rcells_one_cell _
    case g3 => unfold maxLen; omega
    case g4 => omega
    case g5 => have := F5.size; simp at this; omega
    intro v7 w7 own7 grow7 _
    have F7 : Fr (fun _ => False) (wr.alloc (.cells #[.int .i64 0, fx u, fy u] 161)) w7 := grown_fr F5 grow7 (fun k e => by have := (L5 k e).1; simp; omega)
    obtain ⟨a7, c7, rfl⟩ := own_shape own7
    have hb7 := (F7.block b (lt_of_blk hb3) (fun e => e)).trans hb3
    have hs7 := (F7.block _ (lt_of_blk hs3) (fun e => e)).trans hs3
    have hw7 := (F7.block _ (lt_of_blk hw3) (fun e => e)).trans hw3
    have c27 : w7.cell? ⟨b, 2, none⟩ = some (.slice (some ⟨g, 0, none⟩) xs.length cap) := cell_of hb7 2
    have z27 : w7.frozen? ⟨b, 2, none⟩ = false := frozen_of hb7 2
    have n0 : w7.cell? ⟨w.heap.size + 1, 0, none⟩ = some (.int .i64 0) := cell_of hs7 0
    have n1 : w7.cell? ⟨w.heap.size + 1, 1, none⟩ = some f0 := cell_of hs7 1
    have n2 : w7.cell? ⟨w.heap.size + 1, 2, none⟩ = some f0 := cell_of hs7 2
    have hzr : ∀ o, w7.frozen? ⟨w.heap.size + 1, o, none⟩ = false := fun o => frozen_of hs7 o
    have m0 : w7.cell? ⟨wr.heap.size, 0, none⟩ = some (.int .i64 0) := cell_of hw7 0
    have m1 : w7.cell? ⟨wr.heap.size, 1, none⟩ = some (fx u) := cell_of hw7 1
    have m2 : w7.cell? ⟨wr.heap.size, 2, none⟩ = some (fy u) := cell_of hw7 2
    have hne1 : b ≠ w.heap.size + 1 := by omega
    have hne2 : b ≠ wr.heap.size := by omega
    have hne3 : wr.heap.size ≠ w.heap.size + 1 := by omega
    have HE : Hid (own b ∧ Fr (fun _ => False) w w7 ∧ b < w.heap.size ∧ w7.heap[b]? = some (refBlk t (some ⟨g, 0, none⟩) xs.length cap) ∧ w7.ownsRow (wr.heap.size + 1) 163 7 (.slice a7 (j + (xs.length - (j + 1))) c7) (xs.eraseIdx j).length (rcells (xs.eraseIdx j)) ∧ w.heap.size ≤ w.heap.size + 1 ∧ w.heap.size + 1 < wr.heap.size + 1 ∧ B ≤ wr.heap.size + 1) := by
      refine ⟨hom, FW.trans F7 fun _ _ e => e, hbl, hb7, ?_, by omega, by omega, by omega⟩
      have e1 : (xs.eraseIdx j).length = j + (xs.length - (j + 1)) := by rw [List.length_eraseIdx, if_pos hlt]; omega
      have e2 : rcells (xs.eraseIdx j) = rcells (xs.take j) ++ rcells (xs.drop (j + 1)) := by rw [List.eraseIdx_eq_take_drop_succ, rcells_append]
      rw [e1, e2]
      exact own7
    clear HD F7 F5 grow5 grow7 own5 own7 L5 hb7 hs7 hw7 FW hs3 hb3 hw3 c2 hb hbl T1 T3 HC hcells h hb5 c25 c2w
    go_wp2_with fail
    refine bodyPost_ret (v := .tuple #[rval u, .bool true]) (by simp [results, Tryz.results124, go_sem, *]) rfl ⟨rfl, fun x => x = b ∨ (Value.slice a7 (j + (xs.length - (j + 1))) c7).ownBlock = some x, ?_⟩
    obtain ⟨x1, x2, x3, x4, x5, x6, x7, x8⟩ := HE.out
    exact del_end x1 x2 x3 x4 x5 x6 x7 x8

end Go.Proofs.YthbnbocpddddmaaGreat

namespace Go.Proofs.YthbnbocpddddmaaGreat
open Go.RowKit

set_option maxRecDepth 100000 in
set_option maxHeartbeats 1600000 in
theorem rdel_none (B b : Nat) (t : Bool) (own : Nat → Prop) (xs : Row) (k : Int) (w : World) (h : RefM w B b t own xs) (hsr : Srt t xs) (hl : xs.length ≤ 400) (hsm : lsame k xs = false) :
    Calls Tryz.prog 124 #[.pointer (some ⟨b, 0, none⟩), rkey k] w fun e w' => e = .returned (.tuple #[rval 0, .bool false]) ∧ Fr (fun _ => False) w w' := by
  obtain ⟨a, cap, hb, hr, hcase⟩ := h.reads
  have hF : Fr (fun _ => False) w ((w.alloc (.cells #[.int .i64 0, s0, fx k, fy k] 66)).alloc (.cells #[.int .i64 0, f0, f0] 161)) := Fr.alloc (Fr.alloc (Fr.refl _ _) _) _
  have hhas := rhas_any b t a cap xs k _ ((hF.block b (lt_of_blk hb) (fun e => e)).trans hb) (hr.fr hF fun _ _ _ e => e) hsr (by omega)
  have hsf := store_f0
  have HF : Hid (Fr (fun _ => False) w ((w.alloc (.cells #[.int .i64 0, s0, fx k, fy k] 66)).alloc (.cells #[.int .i64 0, f0, f0] 161))) := hF
  unfold lhas at hhas
  rw [hsm] at hhas
  simp only [Bool.false_eq_true, if_false] at hhas
  have hz0 := blk_new (w.alloc (.cells #[.int .i64 0, s0, fx k, fy k] 66)) (.cells #[.int .i64 0, f0, f0] 161)
  rw [World.size_alloc] at hz0
  clear hF hsm hr hsr hl hb hcase h
  go_enter Tryz.func124, Tryz.ntmps124
  go_wp2_with fail
  refine hhas.mono ?_
  rintro e wr ⟨rfl, F⟩
  have hz := (F.block (w.heap.size + 1) (by simp) (fun e => e)).trans hz0
  have n0 : wr.cell? ⟨w.heap.size + 1, 0, none⟩ = some (.int .i64 0) := cell_of hz 0
  have n1 : wr.cell? ⟨w.heap.size + 1, 1, none⟩ = some f0 := cell_of hz 1
  have n2 : wr.cell? ⟨w.heap.size + 1, 2, none⟩ = some f0 := cell_of hz 2
  have hzr : ∀ o, wr.frozen? ⟨w.heap.size + 1, o, none⟩ = false := fun o => frozen_of hz o
  clear hz hz0 hhas
  go_wp2_with fail
  refine bodyPost_ret (v := .tuple #[.agg #[.int .i64 0, f0, f0], .bool false]) (by simp [results, Tryz.results124, go_sem, *]) rfl ⟨rfl, ?_⟩
  have nb : w.heap.size + 1 < w.heap.size → False := by omega
  exact Fr.setCell (Fr.setCell (Fr.setCell (HF.out.trans F fun _ _ e => e) (by exact nb) _) (by exact nb) _) (by exact nb) _

theorem rdelete_any (B b : Nat) (t : Bool) (own : Nat → Prop) (xs : Row) (k : Int) (w : World) (h : RefM w B b t own xs) (hsr : Srt t xs) (hl : xs.length ≤ 400) (hB : B ≤ w.heap.size) :
    Calls Tryz.prog 124 #[.pointer (some ⟨b, 0, none⟩), rkey k] w fun e w' => e = .returned (.tuple #[rval (lget t k xs), .bool (lsame k xs)]) ∧ ∃ own', RefM w' B b t own' (ldel t k xs) ∧ (∀ x, own' x → own x ∨ w.heap.size ≤ x) ∧ Fr own w w' := by
  cases hsm : lsame k xs with
  | true =>
    refine (rdel_same B b t own xs k w h hsr hl hsm hB).mono ?_
    rintro e' w' ⟨rfl, own', m, s, f⟩
    exact ⟨rfl, own', by unfold ldel; rw [if_pos hsm]; exact m, s, f⟩
  | false =>
    have hg : lget t k xs = 0 := by unfold lget; rw [if_neg (by simp [hsm])]
    refine (rdel_none B b t own xs k w h hsr hl hsm).mono ?_
    rintro e' w' ⟨rfl, f⟩
    exact ⟨by rw [hg], own, by unfold ldel; rw [if_neg (by simp [hsm])]; exact h.fr f fun _ _ e => e, fun x hx => Or.inl hx, f.mono fun _ _ e => e.elim⟩

/-- A cursor of the document's. -/
def rcurBlk (s k : Int) : Obj := .cells #[.int .i64 s, .int .i64 0, s0, fx k, fy k] 249 (0, 0)

end Go.Proofs.YthbnbocpddddmaaGreat

namespace Go.Proofs.YthbnbocpddddmaaGreat
open Go.RowKit

abbrev itm (K V : Int) : Value := .agg #[.int .i64 0, s0, fx K, fy K, .int .i64 0, fx V, fy V]
abbrev iblk (K V : Int) : Obj := .cells #[.int .i64 0, s0, fx K, fy K, .int .i64 0, fx V, fy V] 163 (0, 0)

theorem pas_labv1 (t : Bool) (k : Int) (xs : Row) : pas t 1 k xs = labv t k true xs := by unfold pas labv; simp
theorem pas_labv2 (t : Bool) (k : Int) (xs : Row) : pas t 2 k xs = labv t k false xs := by unfold pas labv; by_cases h : lsame k xs = true <;> simp [h]

set_option maxRecDepth 100000 in
set_option maxHeartbeats 3200000 in
theorem rcnext0 (cb b : Nat) (t : Bool) (a : Option Addr) (cap : Nat) (xs : Row) (k : Int) (w : World) (hb : w.heap[b]? = some (refBlk t a xs.length cap)) (hr : RowAt w a xs) (hc : w.heap[cb]? = some (rcurBlk 0 k)) :
    Calls Tryz.prog 127 #[.pointer (some ⟨cb, 0, none⟩), .pointer (some ⟨b, 0, none⟩)] w fun e w' => e = .returned (.tuple #[itm (latK xs 0) (latV xs 0), .bool (latB xs 0)]) ∧
      w'.heap[cb]? = some (rcurBlk (if latB xs 0 = true then 2 else 0) (if latB xs 0 = true then latK xs 0 else k)) ∧ Fr (fun x => x = cb) w w' := by
  have hF : Fr (fun _ => False) w (w.alloc (.cells #[.int .i64 0, s0, f0, f0, .int .i64 0, f0, f0] 163)) := Fr.alloc (Fr.refl _ _) _
  have hat := rat_any b t a cap xs 0 _ ((hF.block b (lt_of_blk hb) (fun e => e)).trans hb) (hr.fr hF fun _ _ _ e => e)
  have hc1 := (hF.block cb (lt_of_blk hc) (fun e => e)).trans hc
  have hz1 := blk_new w (.cells #[.int .i64 0, s0, f0, f0, .int .i64 0, f0, f0] 163)
  have hsf := store_f0
  have hcl := lt_of_blk hc
  generalize latK xs 0 = K at *
  generalize latV xs 0 = V at *
  generalize latB xs 0 = Bq at *
  have HF : Hid (Fr (fun _ => False) w (w.alloc (.cells #[.int .i64 0, s0, f0, f0, .int .i64 0, f0, f0] 163))) := hF
  clear hb hr hc hF
  cases Bq
  · simp only [Bool.false_eq_true, if_false]
    go_enter Tryz.func127, Tryz.ntmps127
    go_wp2_with fail
    refine hat.mono ?_
    rintro e wr ⟨rfl, F⟩
    have hc2 := (F.block cb (lt_of_blk hc1) (fun e => e)).trans hc1
    have hz2 := (F.block _ (lt_of_blk hz1) (fun e => e)).trans hz1
    have FA : Fr (fun _ => False) wr (wr.alloc (.cells #[.int .i64 0, s0, fx K, fy K, .int .i64 0, fx V, fy V] 163)) := Fr.alloc (Fr.refl _ _) _
    have hzl := lt_of_blk hz2
    have hne1 : w.heap.size ≠ wr.heap.size := by omega
    have hne2 : cb ≠ wr.heap.size := by omega
    have hne3 : cb ≠ w.heap.size := by omega
    have hzn := (FA.block _ hzl (fun e => e)).trans hz2
    have hcn := (FA.block _ (lt_of_blk hc2) (fun e => e)).trans hc2
    have n0 : (wr.alloc (.cells #[.int .i64 0, s0, fx K, fy K, .int .i64 0, fx V, fy V] 163)).cell? ⟨w.heap.size, 0, none⟩ = some (.int .i64 0) := cell_of hzn 0
    have n1 : (wr.alloc (.cells #[.int .i64 0, s0, fx K, fy K, .int .i64 0, fx V, fy V] 163)).cell? ⟨w.heap.size, 1, none⟩ = some (s0) := cell_of hzn 1
    have n2 : (wr.alloc (.cells #[.int .i64 0, s0, fx K, fy K, .int .i64 0, fx V, fy V] 163)).cell? ⟨w.heap.size, 2, none⟩ = some (f0) := cell_of hzn 2
    have n3 : (wr.alloc (.cells #[.int .i64 0, s0, fx K, fy K, .int .i64 0, fx V, fy V] 163)).cell? ⟨w.heap.size, 3, none⟩ = some (f0) := cell_of hzn 3
    have n4 : (wr.alloc (.cells #[.int .i64 0, s0, fx K, fy K, .int .i64 0, fx V, fy V] 163)).cell? ⟨w.heap.size, 4, none⟩ = some (.int .i64 0) := cell_of hzn 4
    have n5 : (wr.alloc (.cells #[.int .i64 0, s0, fx K, fy K, .int .i64 0, fx V, fy V] 163)).cell? ⟨w.heap.size, 5, none⟩ = some (f0) := cell_of hzn 5
    have n6 : (wr.alloc (.cells #[.int .i64 0, s0, fx K, fy K, .int .i64 0, fx V, fy V] 163)).cell? ⟨w.heap.size, 6, none⟩ = some (f0) := cell_of hzn 6
    have nz : ∀ o, (wr.alloc (.cells #[.int .i64 0, s0, fx K, fy K, .int .i64 0, fx V, fy V] 163)).frozen? ⟨w.heap.size, o, none⟩ = false := fun o => frozen_of hzn o
    have m0 : wr.cell? ⟨w.heap.size, 0, none⟩ = some (.int .i64 0) := cell_of hz2 0
    have m1 : wr.cell? ⟨w.heap.size, 1, none⟩ = some (s0) := cell_of hz2 1
    have m2 : wr.cell? ⟨w.heap.size, 2, none⟩ = some (f0) := cell_of hz2 2
    have m3 : wr.cell? ⟨w.heap.size, 3, none⟩ = some (f0) := cell_of hz2 3
    have m4 : wr.cell? ⟨w.heap.size, 4, none⟩ = some (.int .i64 0) := cell_of hz2 4
    have m5 : wr.cell? ⟨w.heap.size, 5, none⟩ = some (f0) := cell_of hz2 5
    have m6 : wr.cell? ⟨w.heap.size, 6, none⟩ = some (f0) := cell_of hz2 6
    have mz : ∀ o, wr.frozen? ⟨w.heap.size, o, none⟩ = false := fun o => frozen_of hz2 o
    have c0 : (wr.alloc (.cells #[.int .i64 0, s0, fx K, fy K, .int .i64 0, fx V, fy V] 163)).cell? ⟨cb, 0, none⟩ = some (.int .i64 0) := cell_of hcn 0
    have c1 : (wr.alloc (.cells #[.int .i64 0, s0, fx K, fy K, .int .i64 0, fx V, fy V] 163)).cell? ⟨cb, 1, none⟩ = some (.int .i64 0) := cell_of hcn 1
    have c2 : (wr.alloc (.cells #[.int .i64 0, s0, fx K, fy K, .int .i64 0, fx V, fy V] 163)).cell? ⟨cb, 2, none⟩ = some (s0) := cell_of hcn 2
    have c3 : (wr.alloc (.cells #[.int .i64 0, s0, fx K, fy K, .int .i64 0, fx V, fy V] 163)).cell? ⟨cb, 3, none⟩ = some (fx k) := cell_of hcn 3
    have c4 : (wr.alloc (.cells #[.int .i64 0, s0, fx K, fy K, .int .i64 0, fx V, fy V] 163)).cell? ⟨cb, 4, none⟩ = some (fy k) := cell_of hcn 4
    have cz : ∀ o, (wr.alloc (.cells #[.int .i64 0, s0, fx K, fy K, .int .i64 0, fx V, fy V] 163)).frozen? ⟨cb, o, none⟩ = false := fun o => frozen_of hcn o
    have d0 : wr.cell? ⟨cb, 0, none⟩ = some (.int .i64 0) := cell_of hc2 0
    have d1 : wr.cell? ⟨cb, 1, none⟩ = some (.int .i64 0) := cell_of hc2 1
    have d2 : wr.cell? ⟨cb, 2, none⟩ = some (s0) := cell_of hc2 2
    have d3 : wr.cell? ⟨cb, 3, none⟩ = some (fx k) := cell_of hc2 3
    have d4 : wr.cell? ⟨cb, 4, none⟩ = some (fy k) := cell_of hc2 4
    have dz : ∀ o, wr.frozen? ⟨cb, o, none⟩ = false := fun o => frozen_of hc2 o
    have HX : Hid (wr.heap[cb]? = some (rcurBlk 0 k) ∧ Fr (fun _ => False) w wr) := ⟨hc2, HF.out.trans F fun _ _ e => e⟩
    clear hat hc1 hz1 hc2 hz2 hzn hcn F FA
    go_wp2_with fail
    refine bodyPost_ret (v := .tuple #[itm K V, .bool false]) (by simp [results, Tryz.results127, go_sem, *]) rfl ⟨rfl, ?_, ?_⟩
    all_goals
      obtain ⟨x1, x2⟩ := HX.out
    · rw [Below.heap_alloc _ _ _ (by simpa using lt_of_blk x1), blk_set_ne _ _ hne3, blk_set_ne _ _ hne3, blk_set_ne _ _ hne3, blk_set_ne _ _ hne3, blk_set_ne _ _ hne3, blk_set_ne _ _ hne3, blk_set_ne _ _ hne3]; exact x1
    · have nb : w.heap.size < w.heap.size → w.heap.size = cb := by omega
      exact Fr.alloc (Fr.setCell (Fr.setCell (Fr.setCell (Fr.setCell (Fr.setCell (Fr.setCell (Fr.setCell (x2.mono fun _ _ e => e.elim) (by exact nb) _) (by exact nb) _) (by exact nb) _) (by exact nb) _) (by exact nb) _) (by exact nb) _) (by exact nb) _) _
  · simp only [if_true]
    go_enter Tryz.func127, Tryz.ntmps127
    go_wp2_with fail
    refine hat.mono ?_
    rintro e wr ⟨rfl, F⟩
    have hc2 := (F.block cb (lt_of_blk hc1) (fun e => e)).trans hc1
    have hz2 := (F.block _ (lt_of_blk hz1) (fun e => e)).trans hz1
    have FA : Fr (fun _ => False) wr (wr.alloc (.cells #[.int .i64 0, s0, fx K, fy K, .int .i64 0, fx V, fy V] 163)) := Fr.alloc (Fr.refl _ _) _
    have hzl := lt_of_blk hz2
    have hne1 : w.heap.size ≠ wr.heap.size := by omega
    have hne2 : cb ≠ wr.heap.size := by omega
    have hne3 : cb ≠ w.heap.size := by omega
    have hzn := (FA.block _ hzl (fun e => e)).trans hz2
    have hcn := (FA.block _ (lt_of_blk hc2) (fun e => e)).trans hc2
    have n0 : (wr.alloc (.cells #[.int .i64 0, s0, fx K, fy K, .int .i64 0, fx V, fy V] 163)).cell? ⟨w.heap.size, 0, none⟩ = some (.int .i64 0) := cell_of hzn 0
    have n1 : (wr.alloc (.cells #[.int .i64 0, s0, fx K, fy K, .int .i64 0, fx V, fy V] 163)).cell? ⟨w.heap.size, 1, none⟩ = some (s0) := cell_of hzn 1
    have n2 : (wr.alloc (.cells #[.int .i64 0, s0, fx K, fy K, .int .i64 0, fx V, fy V] 163)).cell? ⟨w.heap.size, 2, none⟩ = some (f0) := cell_of hzn 2
    have n3 : (wr.alloc (.cells #[.int .i64 0, s0, fx K, fy K, .int .i64 0, fx V, fy V] 163)).cell? ⟨w.heap.size, 3, none⟩ = some (f0) := cell_of hzn 3
    have n4 : (wr.alloc (.cells #[.int .i64 0, s0, fx K, fy K, .int .i64 0, fx V, fy V] 163)).cell? ⟨w.heap.size, 4, none⟩ = some (.int .i64 0) := cell_of hzn 4
    have n5 : (wr.alloc (.cells #[.int .i64 0, s0, fx K, fy K, .int .i64 0, fx V, fy V] 163)).cell? ⟨w.heap.size, 5, none⟩ = some (f0) := cell_of hzn 5
    have n6 : (wr.alloc (.cells #[.int .i64 0, s0, fx K, fy K, .int .i64 0, fx V, fy V] 163)).cell? ⟨w.heap.size, 6, none⟩ = some (f0) := cell_of hzn 6
    have nz : ∀ o, (wr.alloc (.cells #[.int .i64 0, s0, fx K, fy K, .int .i64 0, fx V, fy V] 163)).frozen? ⟨w.heap.size, o, none⟩ = false := fun o => frozen_of hzn o
    have m0 : wr.cell? ⟨w.heap.size, 0, none⟩ = some (.int .i64 0) := cell_of hz2 0
    have m1 : wr.cell? ⟨w.heap.size, 1, none⟩ = some (s0) := cell_of hz2 1
    have m2 : wr.cell? ⟨w.heap.size, 2, none⟩ = some (f0) := cell_of hz2 2
    have m3 : wr.cell? ⟨w.heap.size, 3, none⟩ = some (f0) := cell_of hz2 3
    have m4 : wr.cell? ⟨w.heap.size, 4, none⟩ = some (.int .i64 0) := cell_of hz2 4
    have m5 : wr.cell? ⟨w.heap.size, 5, none⟩ = some (f0) := cell_of hz2 5
    have m6 : wr.cell? ⟨w.heap.size, 6, none⟩ = some (f0) := cell_of hz2 6
    have mz : ∀ o, wr.frozen? ⟨w.heap.size, o, none⟩ = false := fun o => frozen_of hz2 o
    have c0 : (wr.alloc (.cells #[.int .i64 0, s0, fx K, fy K, .int .i64 0, fx V, fy V] 163)).cell? ⟨cb, 0, none⟩ = some (.int .i64 0) := cell_of hcn 0
    have c1 : (wr.alloc (.cells #[.int .i64 0, s0, fx K, fy K, .int .i64 0, fx V, fy V] 163)).cell? ⟨cb, 1, none⟩ = some (.int .i64 0) := cell_of hcn 1
    have c2 : (wr.alloc (.cells #[.int .i64 0, s0, fx K, fy K, .int .i64 0, fx V, fy V] 163)).cell? ⟨cb, 2, none⟩ = some (s0) := cell_of hcn 2
    have c3 : (wr.alloc (.cells #[.int .i64 0, s0, fx K, fy K, .int .i64 0, fx V, fy V] 163)).cell? ⟨cb, 3, none⟩ = some (fx k) := cell_of hcn 3
    have c4 : (wr.alloc (.cells #[.int .i64 0, s0, fx K, fy K, .int .i64 0, fx V, fy V] 163)).cell? ⟨cb, 4, none⟩ = some (fy k) := cell_of hcn 4
    have cz : ∀ o, (wr.alloc (.cells #[.int .i64 0, s0, fx K, fy K, .int .i64 0, fx V, fy V] 163)).frozen? ⟨cb, o, none⟩ = false := fun o => frozen_of hcn o
    have d0 : wr.cell? ⟨cb, 0, none⟩ = some (.int .i64 0) := cell_of hc2 0
    have d1 : wr.cell? ⟨cb, 1, none⟩ = some (.int .i64 0) := cell_of hc2 1
    have d2 : wr.cell? ⟨cb, 2, none⟩ = some (s0) := cell_of hc2 2
    have d3 : wr.cell? ⟨cb, 3, none⟩ = some (fx k) := cell_of hc2 3
    have d4 : wr.cell? ⟨cb, 4, none⟩ = some (fy k) := cell_of hc2 4
    have dz : ∀ o, wr.frozen? ⟨cb, o, none⟩ = false := fun o => frozen_of hc2 o
    have HX : Hid (wr.heap[cb]? = some (rcurBlk 0 k) ∧ Fr (fun _ => False) w wr) := ⟨hc2, HF.out.trans F fun _ _ e => e⟩
    clear hat hc1 hz1 hc2 hz2 hzn hcn F FA
    go_wp2_with fail
    refine bodyPost_ret (v := .tuple #[itm K V, .bool true]) (by simp [results, Tryz.results127, go_sem, *]) rfl ⟨rfl, ?_, ?_⟩
    all_goals
      obtain ⟨x1, x2⟩ := HX.out
    · rw [blk_set_ne _ _ hne3, blk_set_ne _ _ hne3, blk_set_ne _ _ hne3, blk_set_ne _ _ hne3, blk_set_ne _ _ hne3, blk_set_ne _ _ hne3, blk_set_ne _ _ hne3]
      have x3 : (wr.alloc (.cells #[.int .i64 0, s0, fx K, fy K, .int .i64 0, fx V, fy V] 163)).heap[cb]? = some (rcurBlk 0 k) := by rw [Below.heap_alloc _ _ _ (lt_of_blk x1)]; exact x1
      exact (blk_set (blk_set (blk_set (blk_set (blk_set x3 0 _) 1 _) 2 _) 3 _) 4 _).trans rfl
    · have nb : w.heap.size < w.heap.size → w.heap.size = cb := by omega
      have nc : cb < w.heap.size → cb = cb := fun _ => rfl
      exact Fr.setCell (Fr.setCell (Fr.setCell (Fr.setCell (Fr.setCell (Fr.setCell (Fr.setCell (Fr.setCell (Fr.setCell (Fr.setCell (Fr.setCell (Fr.setCell ((Fr.alloc (x2.mono fun _ _ e => e.elim) _)) (by exact nc) _) (by exact nc) _) (by exact nc) _) (by exact nc) _) (by exact nc) _) (by exact nb) _) (by exact nb) _) (by exact nb) _) (by exact nb) _) (by exact nb) _) (by exact nb) _) (by exact nb) _

end Go.Proofs.YthbnbocpddddmaaGreat
