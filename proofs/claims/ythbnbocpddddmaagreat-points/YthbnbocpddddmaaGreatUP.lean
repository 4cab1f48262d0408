import Derived.Test.YthbnbocpddddmaaGreatQU
import Derived.Test.YthbnbocpddddmaaGreatQO
import Derived.Test.YthbnbocpddddmaaGreatQR
namespace Go.Proofs.YthbnbocpddddmaaGreat
open Go.RowKit

set_option maxRecDepth 100000 in
set_option maxHeartbeats 8000000 in
theorem step_ceil (w : World) (B S : Nat) (lab : Nat → Nat) (V : Nat → Value) (ms : List MR) (cs : List CR) (bd : Int) (h : Sh w B S lab V ms cs bd) (i : Nat) (r : MR) (hr : ms[i]? = some r) (hbd : bd ≤ 7000000000000000000)
    (mp ot en n a b : Int) (s t : ByteArray) (x y z : Nat) (jj : Int) (hx0 : x < 18446744073709551616) (hy0 : y < 18446744073709551616) :
    Calls Tryz.prog 79 #[.pointer (some ⟨S, 0, none⟩), opV 7 mp ot en n a b s t x y z, .int .i64 i, .int .i64 jj] w (Res w B S lab cs.length r bd fun m => (0 < r.xs.length → 1 ≤ m) ∧ (r.g = false → m ≤ 3 * dg (r.xs.length + 1))) := by
  have A0 : Fr (fun _ => False) w (w.alloc (opBlk 7 mp ot en n a b s t x y z)) := Fr.alloc (Fr.refl _ _) _
  have hb := h.old A0
  have hob := blk_new w (opBlk 7 mp ot en n a b s t x y z)
  obtain ⟨g1, g2, g3, g4, g5, g6, g7⟩ := hb.m i r hr
  obtain ⟨q0, cap0, q1, cap1, R⟩ := hb.rd hr
  have tO : ¬ (r.oP w.heap.size ∨ r.oR w.heap.size) := fun e => by
    obtain ⟨e1, e2, _⟩ := h.m i r hr
    rcases e with e | e
    · have := e1.lt _ e; omega
    · have := e2.lt _ e; omega
  have hi := (List.getElem?_eq_some_iff.1 hr).1
  have hil : (i : Int) < (ms.length : Int) := by omega
  have dPR : ∀ y, r.oR y → ¬ r.oP y := fun y e e' => by have := (g3 y e').1; have := (g4 y e).1; omega
  generalize hwb : w.alloc (opBlk 7 mp ot en n a b s t x y z) = wb at *
  have HWB : Hid (w.alloc (opBlk 7 mp ot en n a b s t x y z) = wb) := hwb
  have D1 : Fr (fun _ => False) wb wb.drew := Fr.drew (Fr.refl _ _)
  have hput := ceiling_anyG r.g r.pm r.t r.c r.oP r.xs (cod x y) wb.drew (g1.fr D1 fun _ _ e => e) g6 (by omega) g5
  rw [kv_cod hx0 hy0] at hput
  have R0 := R.s0
  have R1 := R.c0
  have o9 : wb.cell? ⟨w.heap.size, 9, none⟩ = some (.float .f64 x) := cell_of hob 9
  have o10 : wb.cell? ⟨w.heap.size, 10, none⟩ = some (.float .f64 y) := cell_of hob 10
  have o0 : wb.cell? ⟨w.heap.size, 0, none⟩ = some (.int .i64 7) := cell_of hob 0
  have zO := lt_of_blk hob
  have hsr := g1.srt
  have hself := g1.self
  have hBb := hb.hB
  have hlp := g5
  have HH : Hid (Sh wb B S lab V ms cs bd ∧ ms[i]? = some r ∧ Fr (fun _ => False) w wb ∧ (∀ y, r.oP y → B ≤ y ∧ lab y ≠ 7) ∧ (∀ y, r.oR y → B ≤ y ∧ lab y ≠ 7) ∧ B ≤ w.heap.size) := ⟨hb, hr, A0, fun y e => ⟨(g3 y e).2, by have := (g3 y e).1; omega⟩, fun y e => ⟨(g4 y e).2, by have := (g4 y e).1; omega⟩, h.hB⟩
  have HC : Hid (0 ≤ r.c ∧ r.c ≤ bd) := ⟨g6, g7⟩
  clear h hb hr hwb g3 g4 g6 g7
  go_enter Tryz.func79, Tryz.ntmps79
  go_wp2_with fail
  rw [HWB.out]
  go_region_held3 (fun w' => w'.cell? ⟨S, 0, none⟩ = some (.slice (some ⟨q0, 0, none⟩) ms.length cap0) ∧ w'.cell? ⟨q0, i, none⟩ = some (.pointer (some ⟨r.pm, 0, none⟩)) ∧ w'.cell? ⟨w.heap.size, 9, none⟩ = some (.float .f64 x) ∧ w'.cell? ⟨w.heap.size, 10, none⟩ = some (.float .f64 y))
    (first | exact ⟨R0, R1, o9, o10⟩ | exact ⟨R2.s0, R2.c0, cell_of ob2 9, cell_of ob2 10⟩)
    ((go_at_call 109; refine hput.mono ?_; rintro e w3 ⟨m3, rfl, M3, b3, b4, b5, f3⟩; have F3 : Fr r.oP wb w3 := Fr.trans (S' := fun x => x = r.pm) (D1.mono fun _ _ e => e.elim) f3 (fun _ _ e => e) |>.mono fun x _ e => (by rw [e]; exact hself); have R2 := R.fr F3 fun _ e => Or.inl e; have ob2 := F3.kept hob fun e => tO (Or.inl e)))
  have RM := g2.fr F3 dPR
  have D3 : Fr (fun _ => False) w3 w3.drew := Fr.drew (Fr.refl _ _)
  have D3' : Fr r.oR w3 w3.drew := D3.mono fun _ _ e => e.elim
  obtain ⟨aR, capR, hbR, hrR, _⟩ := RM.reads
  have hrp := fun w' (f : Fr (fun _ => False) w3 w') => rabove_any r.rb r.t aR capR r.xs (cod x y) true w' (f.kept hbR fun e => e) (hrR.fr f fun _ _ _ e => e) hsr (by omega)
  rw [rkey_cod hx0 hy0] at hrp
  simp only [ceil_labv] at hrp
  have HC2 : Hid (∀ w', Fr r.oR w3 w' → w'.cell? ⟨S, 1, none⟩ = some (.slice (some ⟨q1, 0, none⟩) ms.length cap1) ∧ w'.cell? ⟨q1, i, none⟩ = some (.pointer (some ⟨r.rb, 0, none⟩)) ∧ w'.cell? ⟨w.heap.size, 9, none⟩ = some (.float .f64 x) ∧ w'.cell? ⟨w.heap.size, 10, none⟩ = some (.float .f64 y)) := fun w' f => by
    have R3 := R2.fr f fun _ e => Or.inr e
    have ob3 := f.kept ob2 fun e => tO (Or.inr e)
    exact ⟨R3.s1, R3.c1, cell_of ob3 9, cell_of ob3 10⟩
  have hn3 : ¬ r.oR w3.heap.size := fun e => by have := RM.lt _ e; omega
  have hY3 : w3.heap.size < w3.heap.size → False := fun e => absurd e (Nat.lt_irrefl _)
  have hZ3 : w3.heap.size < w3.heap.size → r.oR w3.heap.size := fun e => absurd e (Nat.lt_irrefl _)
  have HM : Hid (MapG r.g w3 r.pm r.t (r.c + (m3 : Nat)) r.oP (r.xs) ∧ m3 ≤ 10000 ∧ (fun m => (0 < r.xs.length → 1 ≤ m) ∧ (r.g = false → m ≤ 3 * dg (r.xs.length + 1))) m3 ∧ (∀ x, r.oP x → r.oP x ∨ wb.heap.size ≤ x) ∧ Fr r.oP wb w3 ∧ RefM w3 B r.rb r.t r.oR r.xs) := ⟨M3, b3, ⟨b5, b4⟩, fun x e => Or.inl e, F3, RM⟩
  have HFin : Hid (∀ w5, Fr (fun _ => False) w3 w5 → Res w B S lab cs.length r bd (fun m => (0 < r.xs.length → 1 ≤ m) ∧ (r.g = false → m ≤ 3 * dg (r.xs.length + 1))) (.returned (.bool true)) w5) := by
    intro w5 f5
    obtain ⟨k1, k2, k3, k4, k5, k6⟩ := HH.out
    obtain ⟨M3, b3, b5, s3, F3, RM⟩ := HM.out
    obtain ⟨c0, c1⟩ := HC.out
    have M5 := RM.fr f5 fun _ _ e => e
    obtain ⟨lab', e1, e2⟩ := Sh.op k1 k2 F3 (f5.mono fun _ _ e => e.elim) s3 (fun x e => Or.inl e) M3 M5 hlp (by omega) (by omega : r.c + ((m3 : Nat) : Int) ≤ bd + 5000000) (by omega)
    exact ⟨rfl, ⟨lab', V, _, cs, e1, Nat.le_succ _⟩, ⟨m3, _, _, e2, Nat.le_trans b3 (by omega), b5⟩, ((k3.mono fun _ _ e => e.elim).trans F3 fun x _ e => k4 x e).trans (f5.mono fun _ _ e => e.elim) fun x _ e => k5 x e⟩
  have hsf := store_f0
  have HZB : Hid (∀ w4, Fr (fun _ => False) (w3.alloc (.cells #[.int .i64 0, .string ⟨#[]⟩, .float .f64 0, .float .f64 0, .int .i64 0, .float .f64 0, .float .f64 0] 163)).drew w4 → w4.cell? ⟨w3.heap.size, 0, none⟩ = some (.int .i64 0) ∧ w4.cell? ⟨w3.heap.size, 1, none⟩ = some (.string ⟨#[]⟩) ∧ w4.cell? ⟨w3.heap.size, 2, none⟩ = some (.float .f64 0) ∧ w4.cell? ⟨w3.heap.size, 3, none⟩ = some (.float .f64 0) ∧ w4.cell? ⟨w3.heap.size, 4, none⟩ = some (.int .i64 0) ∧ w4.cell? ⟨w3.heap.size, 5, none⟩ = some (.float .f64 0) ∧ w4.cell? ⟨w3.heap.size, 6, none⟩ = some (.float .f64 0) ∧ w4.frozen? ⟨w3.heap.size, 0, none⟩ = false ∧ w4.frozen? ⟨w3.heap.size, 1, none⟩ = false ∧ w4.frozen? ⟨w3.heap.size, 2, none⟩ = false ∧ w4.frozen? ⟨w3.heap.size, 3, none⟩ = false ∧ w4.frozen? ⟨w3.heap.size, 4, none⟩ = false ∧ w4.frozen? ⟨w3.heap.size, 5, none⟩ = false ∧ w4.frozen? ⟨w3.heap.size, 6, none⟩ = false) := fun w4 f => by
    have Zb : w4.heap[w3.heap.size]? = some (.cells #[.int .i64 0, .string ⟨#[]⟩, .float .f64 0, .float .f64 0, .int .i64 0, .float .f64 0, .float .f64 0] 163 (0, 0)) := (f.block w3.heap.size (by show w3.heap.size < (w3.alloc _).heap.size; simp) (fun e => e)).trans (blk_new w3 (.cells #[.int .i64 0, .string ⟨#[]⟩, .float .f64 0, .float .f64 0, .int .i64 0, .float .f64 0, .float .f64 0] 163))
    exact ⟨cell_of Zb 0, cell_of Zb 1, cell_of Zb 2, cell_of Zb 3, cell_of Zb 4, cell_of Zb 5, cell_of Zb 6, frozen_of Zb 0, frozen_of Zb 1, frozen_of Zb 2, frozen_of Zb 3, frozen_of Zb 4, frozen_of Zb 5, frozen_of Zb 6⟩
  generalize latK r.xs (lrank r.t (cod x y) r.xs) = gk at *
  generalize latV r.xs (lrank r.t (cod x y) r.xs) = gv at *
  generalize latB r.xs (lrank r.t (cod x y) r.xs) = gs at *
  clear hput R0 R1 o9 o10 o0 g1 g2 RM R R2 hob ob2 M3 b3 b4 b5 f3 F3
  · skip
    go_wp2_with fail
    go_region_held3 (fun w' => Fr r.oR w3 w' ∧ w'.cell? ⟨S, 1, none⟩ = some (.slice (some ⟨q1, 0, none⟩) ms.length cap1) ∧ w'.cell? ⟨q1, i, none⟩ = some (.pointer (some ⟨r.rb, 0, none⟩)) ∧ w'.cell? ⟨w.heap.size, 9, none⟩ = some (.float .f64 x) ∧ w'.cell? ⟨w.heap.size, 10, none⟩ = some (.float .f64 y))
      (first | with_reducible exact ⟨Fr.set7 K4 hZ3 _ _ _ _ _ _ _, HC2.out _ (Fr.set7 K4 hZ3 _ _ _ _ _ _ _)⟩ | with_reducible exact ⟨D3', HC2.out _ D3'⟩ | with_reducible exact ⟨Fr.drew (Fr.alloc (Fr.refl _ _) _), HC2.out _ (Fr.drew (Fr.alloc (Fr.refl _ _) _))⟩ | with_reducible exact ⟨K4, HC2.out _ K4⟩ | with_reducible exact ⟨Fr.alloc K4 _, HC2.out _ (Fr.alloc K4 _)⟩)
      (first
        | (go_at_call 104; (with_reducible refine (hrp _ D3).mono ?_); rintro e w4 ⟨rfl, f4⟩; have K4 : Fr r.oR w3 w4 := Fr.trans (S' := fun _ => False) D3' f4 fun _ _ e => e.elim; have J4 : Fr (fun _ => False) w3 w4 := D3.trans f4 fun _ _ e => e)
        | (go_at_call 104; (with_reducible refine (hrp _ (Fr.drew (Fr.alloc (Fr.refl _ _) _))).mono ?_); rintro e w4 ⟨rfl, f4⟩; have K4 : Fr r.oR w3 w4 := Fr.trans (S' := fun _ => False) (Fr.drew (Fr.alloc (Fr.refl _ _) _)) f4 fun _ _ e => e.elim; have J4 : Fr (fun _ => False) w3 w4 := Fr.trans (S' := fun _ => False) (Fr.drew (Fr.alloc (Fr.refl _ _) _)) f4 fun _ _ e => e; obtain ⟨x0, x1, x2, x3, x4, x5, x6, y0, y1, y2, y3, y4, y5, y6⟩ := HZB.out _ f4))
    all_goals
      go_wp2_with fail
      refine (item_same _ _ _ _).mono ?_
      rintro e w6 ⟨rfl, f6⟩
      have J6 : Fr (fun _ => False) w3 w6 := by
        first
          | with_reducible exact Fr.trans (S' := fun _ => False) (Fr.alloc J4 _) f6 fun _ _ e => e
          | with_reducible exact Fr.trans (S' := fun _ => False) (Fr.set7 J4 hY3 _ _ _ _ _ _ _) f6 fun _ _ e => e
      go_wp2_with fail
      go_ret
      exact HFin.out w6 J6

end Go.Proofs.YthbnbocpddddmaaGreat
