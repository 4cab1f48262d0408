import Derived.Test.YthbnbocpddddmaaGreatUW
import Derived.Test.YthbnbocpddddmaaGreatUB
namespace Go.Proofs.YthbnbocpddddmaaGreat
open Go.RowKit

theorem not_below {t : Bool} {xs : Row} (h : Srt t xs) {j : Nat} {p : Int × Int} (hj : xs[j]? = some p) (k : Int) : (0 ≤ side t p.1 k ↔ lrank t k xs ≤ j) := by
  have := below_iff h hj k
  omega

set_option maxRecDepth 100000 in
set_option maxHeartbeats 4000000 in
theorem rsum_any (b : Nat) (t : Bool) (a : Option Addr) (cap : Nat) (xs : Row) (f tk : Int) (w : World) (hb : w.heap[b]? = some (refBlk t a xs.length cap)) (hr : RowAt w a xs) (hsr : Srt t xs) (hl : xs.length ≤ 4000) :
    Calls Tryz.prog 145 #[.pointer (some ⟨b, 0, none⟩), rkey f, rkey tk] w fun e w' => ∃ x y, e = .returned (.tuple #[.float .f64 x, .float .f64 y]) ∧ Chain ((seg xs (lrank t f xs) (max (lrank t f xs) (lrank t tk xs))).map reB) x ∧ Chain ((seg xs (lrank t f xs) (max (lrank t f xs) (lrank t tk xs))).map imB) y ∧ Fr (fun _ => False) w w' := by
  have hF : Fr (fun _ => False) w ((w.alloc (.cells #[.int .i64 0, s0, fx f, fy f] 66)).alloc (.cells #[.int .i64 0, s0, fx tk, fy tk] 66)) := Fr.alloc (Fr.alloc (Fr.refl _ _) _) _
  have hq : ((w.alloc (.cells #[.int .i64 0, s0, fx f, fy f] 66)).alloc (.cells #[.int .i64 0, s0, fx tk, fy tk] 66)).heap[w.heap.size]? = some (.cells #[.int .i64 0, s0, fx f, fy f] 66 (0, 0)) := by
    rw [Below.heap_alloc _ _ _ (by simp)]; exact blk_new _ _
  have hv : ((w.alloc (.cells #[.int .i64 0, s0, fx f, fy f] 66)).alloc (.cells #[.int .i64 0, s0, fx tk, fy tk] 66)).heap[w.heap.size + 1]? = some (.cells #[.int .i64 0, s0, fx tk, fy tk] 66 (0, 0)) := by
    have := blk_new (w.alloc (.cells #[.int .i64 0, s0, fx f, fy f] 66)) (.cells #[.int .i64 0, s0, fx tk, fy tk] 66)
    rwa [World.size_alloc] at this
  have hb := (hF.block b (lt_of_blk hb) (fun e => e)).trans hb
  have hr := hr.fr hF fun _ _ _ e => e
  have HF : Hid (Fr (fun _ => False) w ((w.alloc (.cells #[.int .i64 0, s0, fx f, fy f] 66)).alloc (.cells #[.int .i64 0, s0, fx tk, fy tk] 66))) := hF
  have hlf := lrank_le t f xs
  have hlt := lrank_le t tk xs
  clear hF
  generalize hw1 : (w.alloc (.cells #[.int .i64 0, s0, fx f, fy f] 66)).alloc (.cells #[.int .i64 0, s0, fx tk, fy tk] 66) = w1 at *
  go_enter Tryz.func145, Tryz.ntmps145
  go_wp2_with fail
  go_loopg [8, 9, 10] xs.length (fun gk s8 s9 s10 wr => ∃ (j x y : Nat), gk + j = xs.length ∧ s10 = .int .i64 j ∧ s8 = .float .f64 x ∧ s9 = .float .f64 y ∧ Chain ((seg xs (lrank t f xs) (max (lrank t f xs) (min j (lrank t tk xs)))).map reB) x ∧ Chain ((seg xs (lrank t f xs) (max (lrank t f xs) (min j (lrank t tk xs)))).map imB) y ∧ Fr (fun _ => False) w1 wr)
  case atStart =>
    refine ⟨0, 0, 0, by omega, rfl, rfl, rfl, ?_, ?_, by first | exact Fr.refl _ _ | (rw [← hw1]; exact Fr.refl _ _)⟩
    · rw [show max (lrank t f xs) (min 0 (lrank t tk xs)) = lrank t f xs by omega, seg_self]; exact Chain.nil
    · rw [show max (lrank t f xs) (min 0 (lrank t tk xs)) = lrank t f xs by omega, seg_self]; exact Chain.nil
  case round =>
    obtain ⟨j, x, y, y0, rfl, rfl, rfl, h1, h2, F⟩ := hrel
    have hb' := (F.block b (lt_of_blk hb) (fun e => e)).trans hb
    have c0 : wr.cell? ⟨b, 0, none⟩ = some (.int .i64 3) := cell_of hb' 0
    have c1 : wr.cell? ⟨b, 1, none⟩ = some (.bool t) := cell_of hb' 1
    have c2 : wr.cell? ⟨b, 2, none⟩ = some (.slice a xs.length cap) := cell_of hb' 2
    have hr' := hr.fr F fun _ _ _ e => e
    have hq' := (F.block w.heap.size (lt_of_blk hq) (fun e => e)).trans hq
    have hv' := (F.block (w.heap.size + 1) (lt_of_blk hv) (fun e => e)).trans hv
    have q0 : wr.cell? ⟨w.heap.size, 0, none⟩ = some (.int .i64 0) := cell_of hq' 0
    have q1 : wr.cell? ⟨w.heap.size, 1, none⟩ = some s0 := cell_of hq' 1
    have q2 : wr.cell? ⟨w.heap.size, 2, none⟩ = some (fx f) := cell_of hq' 2
    have q3 : wr.cell? ⟨w.heap.size, 3, none⟩ = some (fy f) := cell_of hq' 3
    have v0 : wr.cell? ⟨w.heap.size + 1, 0, none⟩ = some (.int .i64 0) := cell_of hv' 0
    have v1 : wr.cell? ⟨w.heap.size + 1, 1, none⟩ = some s0 := cell_of hv' 1
    have v2 : wr.cell? ⟨w.heap.size + 1, 2, none⟩ = some (fx tk) := cell_of hv' 2
    have v3 : wr.cell? ⟨w.heap.size + 1, 3, none⟩ = some (fy tk) := cell_of hv' 3
    by_cases hj : j < xs.length
    · obtain ⟨p, hp⟩ : ∃ p, xs[j]? = some p := ⟨_, List.getElem?_eq_getElem hj⟩
      have hj1 : (j : Int) < (xs.length : Int) := by omega
      rcases hr' with rfl | ⟨g, off, rfl, hg, hc⟩
      · simp at hj
      · have k0 : wr.cell? ⟨g, off + j * 7, none⟩ = some (.int .i64 0) := hc j p hp 0 _ rfl
        have k1 : wr.cell? ⟨g, off + j * 7 + 1, none⟩ = some s0 := hc j p hp 1 _ rfl
        have k2 : wr.cell? ⟨g, off + j * 7 + 2, none⟩ = some (fx p.1) := hc j p hp 2 _ rfl
        have k3 : wr.cell? ⟨g, off + j * 7 + 3, none⟩ = some (fy p.1) := hc j p hp 3 _ rfl
        have k5 : wr.cell? ⟨g, off + j * 7 + 5, none⟩ = some (fx p.2) := hc j p hp 5 _ rfl
        have k6 : wr.cell? ⟨g, off + j * 7 + 6, none⟩ = some (fy p.2) := hc j p hp 6 _ rfl
        have HY : Hid (gk + j = xs.length ∧ j < xs.length) := ⟨y0, hj⟩
        have HB : Hid ((0 ≤ side t p.1 f ↔ lrank t f xs ≤ j) ∧ (side t p.1 tk < 0 ↔ j < lrank t tk xs)) := ⟨not_below hsr hp f, below_iff hsr hp tk⟩
        have HC : Hid (Chain ((seg xs (lrank t f xs) (max (lrank t f xs) (min j (lrank t tk xs)))).map reB) x ∧ Chain ((seg xs (lrank t f xs) (max (lrank t f xs) (min j (lrank t tk xs)))).map imB) y ∧ xs[j]? = some p) := ⟨h1, h2, hp⟩
        clear hc hg hb hr hb' hq hq' hv hv' hw1 hp y0 hj h1 h2
        go_wp2_with fail
        go_region_held3 (fun w' => w'.cell? ⟨b, 0, none⟩ = some (.int .i64 3) ∧ w'.cell? ⟨b, 1, none⟩ = some (.bool t) ∧ w'.cell? ⟨b, 2, none⟩ = some (.slice (some ⟨g, off, none⟩) xs.length cap) ∧
            w'.cell? ⟨g, off + j * 7, none⟩ = some (.int .i64 0) ∧ w'.cell? ⟨g, off + j * 7 + 1, none⟩ = some s0 ∧ w'.cell? ⟨g, off + j * 7 + 2, none⟩ = some (fx p.1) ∧ w'.cell? ⟨g, off + j * 7 + 3, none⟩ = some (fy p.1) ∧
            w'.cell? ⟨w.heap.size, 0, none⟩ = some (.int .i64 0) ∧ w'.cell? ⟨w.heap.size, 1, none⟩ = some s0 ∧ w'.cell? ⟨w.heap.size, 2, none⟩ = some (fx f) ∧ w'.cell? ⟨w.heap.size, 3, none⟩ = some (fy f))
          (first | exact ⟨c0, c1, c2, k0, k1, k2, k3, q0, q1, q2, q3⟩ | exact ⟨fr.get c0, fr.get c1, fr.get c2, fr.get k0, fr.get k1, fr.get k2, fr.get k3, fr.get q0, fr.get q1, fr.get q2, fr.get q3⟩)
          ((go_at_call 22; refine (rcompare_any t p.1 f _).mono ?_; rintro e w2 ⟨rfl, fr⟩))
        have F2 := Fr.trans (S' := fun _ => False) (Fr.drew F) fr fun _ _ e => e
        have c0 : w2.cell? ⟨b, 0, none⟩ = some (.int .i64 3) := fr.get c0
        have c1 : w2.cell? ⟨b, 1, none⟩ = some (.bool t) := fr.get c1
        have c2 : w2.cell? ⟨b, 2, none⟩ = some (.slice (some ⟨g, off, none⟩) xs.length cap) := fr.get c2
        have k0 : w2.cell? ⟨g, off + j * 7, none⟩ = some (.int .i64 0) := fr.get k0
        have k1 : w2.cell? ⟨g, off + j * 7 + 1, none⟩ = some s0 := fr.get k1
        have k2 : w2.cell? ⟨g, off + j * 7 + 2, none⟩ = some (fx p.1) := fr.get k2
        have k3 : w2.cell? ⟨g, off + j * 7 + 3, none⟩ = some (fy p.1) := fr.get k3
        have k5 : w2.cell? ⟨g, off + j * 7 + 5, none⟩ = some (fx p.2) := fr.get k5
        have k6 : w2.cell? ⟨g, off + j * 7 + 6, none⟩ = some (fy p.2) := fr.get k6
        have v0 : w2.cell? ⟨w.heap.size + 1, 0, none⟩ = some (.int .i64 0) := fr.get v0
        have v1 : w2.cell? ⟨w.heap.size + 1, 1, none⟩ = some s0 := fr.get v1
        have v2 : w2.cell? ⟨w.heap.size + 1, 2, none⟩ = some (fx tk) := fr.get v2
        have v3 : w2.cell? ⟨w.heap.size + 1, 3, none⟩ = some (fy tk) := fr.get v3
        clear fr F q0 q1 q2 q3
        go_wp2_with fail
        go_region_held3 (fun w' => w'.cell? ⟨b, 0, none⟩ = some (.int .i64 3) ∧ w'.cell? ⟨b, 1, none⟩ = some (.bool t) ∧ w'.cell? ⟨b, 2, none⟩ = some (.slice (some ⟨g, off, none⟩) xs.length cap) ∧
            w'.cell? ⟨g, off + j * 7, none⟩ = some (.int .i64 0) ∧ w'.cell? ⟨g, off + j * 7 + 1, none⟩ = some s0 ∧ w'.cell? ⟨g, off + j * 7 + 2, none⟩ = some (fx p.1) ∧ w'.cell? ⟨g, off + j * 7 + 3, none⟩ = some (fy p.1) ∧
            w'.cell? ⟨w.heap.size + 1, 0, none⟩ = some (.int .i64 0) ∧ w'.cell? ⟨w.heap.size + 1, 1, none⟩ = some s0 ∧ w'.cell? ⟨w.heap.size + 1, 2, none⟩ = some (fx tk) ∧ w'.cell? ⟨w.heap.size + 1, 3, none⟩ = some (fy tk))
          (first | exact ⟨c0, c1, c2, k0, k1, k2, k3, v0, v1, v2, v3⟩ | exact ⟨fr.get c0, fr.get c1, fr.get c2, fr.get k0, fr.get k1, fr.get k2, fr.get k3, fr.get v0, fr.get v1, fr.get v2, fr.get v3⟩)
          ((go_at_call 22; refine (rcompare_any t p.1 tk _).mono ?_; rintro e w3 ⟨rfl, fr⟩))
        have F3 := Fr.trans (S' := fun _ => False) (Fr.drew F2) fr fun _ _ e => e
        have c2 : w3.cell? ⟨b, 2, none⟩ = some (.slice (some ⟨g, off, none⟩) xs.length cap) := fr.get c2
        have k5 : w3.cell? ⟨g, off + j * 7 + 5, none⟩ = some (fx p.2) := fr.get k5
        have k6 : w3.cell? ⟨g, off + j * 7 + 6, none⟩ = some (fy p.2) := fr.get k6
        clear fr F2 k0 k1 k2 k3 v0 v1 v2 v3 c0 c1
        generalize side t p.1 f = sa at *
        generalize side t p.1 tk = sb at *
        by_cases ha : 0 ≤ sa
        · by_cases hb2 : sb < 0
          · obtain ⟨r1, n1, o1, e1⟩ := run_fadd Tryz.prog 22 x (reB p.2) w3
            obtain ⟨r2, n2, o2, e2⟩ := run_fadd Tryz.prog 22 y (imB p.2) (w3.drewN n1)
            have c2' : (w3.drewN n1).cell? ⟨b, 2, none⟩ = some (.slice (some ⟨g, off, none⟩) xs.length cap) := c2
            have k6' : (w3.drewN n1).cell? ⟨g, off + j * 7 + 6, none⟩ = some (fy p.2) := k6
            have HS : Hid (Chain ((seg xs (lrank t f xs) (max (lrank t f xs) (min (j + 1) (lrank t tk xs)))).map reB) r1 ∧ Chain ((seg xs (lrank t f xs) (max (lrank t f xs) (min (j + 1) (lrank t tk xs)))).map imB) r2) := by
              obtain ⟨g1, g2⟩ := HB.out
              obtain ⟨m1, m2, hp⟩ := HC.out
              have e3 := g1.1 ha
              have e4 := g2.1 hb2
              rw [show max (lrank t f xs) (min j (lrank t tk xs)) = j by omega] at m1 m2
              rw [show max (lrank t f xs) (min (j + 1) (lrank t tk xs)) = j + 1 by omega, seg_snoc hp e3, List.map_append, List.map_append]
              exact ⟨Chain.snoc m1 o1, Chain.snoc m2 o2⟩
            have F4 := Fr.drewN F3 (n1 + n2)
            go_wp2_with fail
            go_roundg (gk - 1)
            case measure => have := HY.out; omega
            case rel => exact ⟨j + 1, r1, r2, by have := HY.out; omega, by go_num, rfl, rfl, HS.out.1, HS.out.2, F4⟩
          · have HS : Hid (max (lrank t f xs) (min (j + 1) (lrank t tk xs)) = max (lrank t f xs) (min j (lrank t tk xs))) := by
              have := HB.out.2
              show _ = _
              omega
            go_wp2_with fail
            go_roundg (gk - 1)
            case measure => have := HY.out; omega
            case rel => exact ⟨j + 1, x, y, by have := HY.out; omega, by go_num, rfl, rfl, by rw [HS.out]; exact HC.out.1, by rw [HS.out]; exact HC.out.2.1, F3⟩
        · have HS : Hid (max (lrank t f xs) (min (j + 1) (lrank t tk xs)) = max (lrank t f xs) (min j (lrank t tk xs))) := by
            have := HB.out.1
            show _ = _
            omega
          go_wp2_with fail
          go_roundg (gk - 1)
          case measure => have := HY.out; omega
          case rel => exact ⟨j + 1, x, y, by have := HY.out; omega, by go_num, rfl, rfl, by rw [HS.out]; exact HC.out.1, by rw [HS.out]; exact HC.out.2.1, F3⟩
    · have hj1 : ¬ (j : Int) < (xs.length : Int) := by omega
      have ej : j = xs.length := by omega
      subst ej
      have HS : Hid (max (lrank t f xs) (min xs.length (lrank t tk xs)) = max (lrank t f xs) (lrank t tk xs)) := by show _ = _; omega
      rw [HS.out] at h1 h2
      clear hr' hq' hb' hv'
      go_wp2_with fail
      go_ret2
      exact ⟨x, y, rfl, h1, h2, HF.out.trans F fun _ _ e => e⟩

end Go.Proofs.YthbnbocpddddmaaGreat

namespace Go.Proofs.YthbnbocpddddmaaGreat
open Go.RowKit

theorem Sum_any (g : Bool) (m : Nat) (t : Bool) (c : Int) (own : Nat → Prop) (xs : Row) (f tk : Int) (w : World) (h : MapG g w m t c own xs) (b0 : 0 ≤ c) (b1 : c ≤ 7500000000000000000) (hl : xs.length ≤ 400) :
    Calls Tryz.prog 144 #[.pointer (some ⟨m, 0, none⟩), kv f, kv tk] w fun e w' => ∃ (a b n : Nat), e = .returned (.complex .f64 a b) ∧ Chain ((seg xs (lrank t f xs) (max (lrank t f xs) (lrank t tk xs))).map reB) a ∧ Chain ((seg xs (lrank t f xs) (max (lrank t f xs) (lrank t tk xs))).map imB) b ∧
      MapG g w' m t (c + n) own xs ∧ n ≤ 4100000 ∧ Fr (fun x => x = m) w w' :=
  (callsIn_wide.1 (sum_in m g t own xs f tk c w hl b0 b1 h)).mono fun e w' ⟨a, b, q1, q2, q3, ⟨c', y1, y2, y3⟩, q5⟩ => ⟨a, b, (c' - c).toNat, q1, q2, q3, by
    have e : c + ((c' - c).toNat : Int) = c' := by omega
    rw [e]; exact y1, by omega, q5⟩

set_option maxRecDepth 100000 in
set_option maxHeartbeats 8000000 in
theorem step_sum (w : World) (B S : Nat) (lab : Nat → Nat) (V : Nat → Value) (ms : List MR) (cs : List CR) (bd : Int) (h : Sh w B S lab V ms cs bd) (i : Nat) (r : MR) (hr : ms[i]? = some r) (hbd : bd ≤ 7000000000000000000)
    (k mp ot en n a b : Int) (s t : ByteArray) (x y z : Nat) (hx0 : x < 18446744073709551616) (hy0 : y < 18446744073709551616) (hz0 : z < 18446744073709551616) :
    Calls Tryz.prog 112 #[.pointer (some ⟨S, 0, none⟩), opV k mp ot en n a b s t x y z, .int .i64 i] w (Res w B S lab cs.length r bd fun _ => True) := by
  have A0 : Fr (fun _ => False) w (w.alloc (opBlk k mp ot en n a b s t x y z)) := Fr.alloc (Fr.refl _ _) _
  have hb := h.old A0
  have hob := blk_new w (opBlk k mp ot en n a b s t x y z)
  obtain ⟨g1, g2, g3, g4, g5, g6, g7⟩ := hb.m i r hr
  obtain ⟨q0, cap0, q1, cap1, R⟩ := hb.rd hr
  have tO : ¬ (r.oP w.heap.size ∨ r.oR w.heap.size) := fun e => by
    obtain ⟨e1, e2, _⟩ := h.m i r hr
    rcases e with e | e
    · have := e1.lt _ e; omega
    · have := e2.lt _ e; omega
  have hi := (List.getElem?_eq_some_iff.1 hr).1
  have hil : (i : Int) < (ms.length : Int) := by omega
  have dPR : ∀ y, r.oR y → ¬ r.oP y := fun y e e' => by have := (g3 y e').1; have := (g4 y e).1; omega
  generalize hwb : w.alloc (opBlk k mp ot en n a b s t x y z) = wb at *
  have HWB : Hid (w.alloc (opBlk k mp ot en n a b s t x y z) = wb) := hwb
  have D1 : Fr (fun _ => False) wb wb.drew := Fr.drew (Fr.refl _ _)
  have hput := Sum_any r.g r.pm r.t r.c r.oP r.xs (cod x y) (cod y z) wb.drew (g1.fr D1 fun _ _ e => e) g6 (by omega) g5
  rw [kv_cod hx0 hy0, kv_cod hy0 hz0] at hput
  have R0 := R.s0
  have R1 := R.c0
  have o9 : wb.cell? ⟨w.heap.size, 9, none⟩ = some (.float .f64 x) := cell_of hob 9
  have o10 : wb.cell? ⟨w.heap.size, 10, none⟩ = some (.float .f64 y) := cell_of hob 10
  have o11 : wb.cell? ⟨w.heap.size, 11, none⟩ = some (.float .f64 z) := cell_of hob 11
  have hsr := g1.srt
  have hself := g1.self
  have HH : Hid (Sh wb B S lab V ms cs bd ∧ ms[i]? = some r ∧ Fr (fun _ => False) w wb ∧ (∀ y, r.oP y → B ≤ y ∧ lab y ≠ 7)) := ⟨hb, hr, A0, fun y e => ⟨(g3 y e).2, by have := (g3 y e).1; omega⟩⟩
  have HC : Hid (0 ≤ r.c ∧ r.c ≤ bd) := ⟨g6, g7⟩
  clear h hb hr hwb g3 g4 g6 g7
  go_enter Tryz.func112, Tryz.ntmps112
  go_wp2_with fail
  rw [HWB.out]
  go_region_held3 (fun w' => w'.cell? ⟨S, 0, none⟩ = some (.slice (some ⟨q0, 0, none⟩) ms.length cap0) ∧ w'.cell? ⟨q0, i, none⟩ = some (.pointer (some ⟨r.pm, 0, none⟩)) ∧ w'.cell? ⟨w.heap.size, 9, none⟩ = some (.float .f64 x) ∧ w'.cell? ⟨w.heap.size, 10, none⟩ = some (.float .f64 y) ∧ w'.cell? ⟨w.heap.size, 11, none⟩ = some (.float .f64 z))
    (first | exact ⟨R0, R1, o9, o10, o11⟩ | exact ⟨R2.s0, R2.c0, cell_of ob2 9, cell_of ob2 10, cell_of ob2 11⟩)
    ((go_at_call 144; refine hput.mono ?_; rintro e w3 ⟨sa, sb, m3, rfl, ch1, ch2, M3, b3, f3⟩; have F3 : Fr r.oP wb w3 := Fr.trans (S' := fun x => x = r.pm) (D1.mono fun _ _ e => e.elim) f3 (fun _ _ e => e) |>.mono fun x _ e => (by rw [e]; exact hself); have R2 := R.fr F3 fun _ e => Or.inl e; have ob2 := F3.kept hob fun e => tO (Or.inl e)))
  all_goals
    have RM := g2.fr F3 dPR
    have D3 : Fr (fun _ => False) w3 w3.drew := Fr.drew (Fr.refl _ _)
    obtain ⟨aR, capR, hbR, hrR, _⟩ := RM.reads
    have hrp := fun w' (f : Fr (fun _ => False) w3 w') => rsum_any r.rb r.t aR capR r.xs (cod x y) (cod y z) w' (f.kept hbR fun e => e) (hrR.fr f fun _ _ _ e => e) hsr (by omega)
    rw [rkey_cod hx0 hy0, rkey_cod hy0 hz0] at hrp
    have HC2 : Hid (∀ w', Fr (fun _ => False) w3 w' → w'.cell? ⟨S, 1, none⟩ = some (.slice (some ⟨q1, 0, none⟩) ms.length cap1) ∧ w'.cell? ⟨q1, i, none⟩ = some (.pointer (some ⟨r.rb, 0, none⟩)) ∧ w'.cell? ⟨w.heap.size, 9, none⟩ = some (.float .f64 x) ∧ w'.cell? ⟨w.heap.size, 10, none⟩ = some (.float .f64 y) ∧ w'.cell? ⟨w.heap.size, 11, none⟩ = some (.float .f64 z)) := fun w' f => by
      have R3 := R2.fr f fun _ e => e.elim
      have ob3 := f.kept ob2 fun e => e
      exact ⟨R3.s1, R3.c1, cell_of ob3 9, cell_of ob3 10, cell_of ob3 11⟩
    have HM : Hid (MapG r.g w3 r.pm r.t (r.c + (m3 : Nat)) r.oP r.xs ∧ m3 ≤ 4100000 ∧ Fr r.oP wb w3 ∧ RefM w3 B r.rb r.t r.oR r.xs ∧ r.xs.length ≤ 400) := ⟨M3, b3, F3, RM, g5⟩
    have HCh : Hid (Chain ((seg r.xs (lrank r.t (cod x y) r.xs) (max (lrank r.t (cod x y) r.xs) (lrank r.t (cod y z) r.xs))).map reB) sa ∧ Chain ((seg r.xs (lrank r.t (cod x y) r.xs) (max (lrank r.t (cod x y) r.xs) (lrank r.t (cod y z) r.xs))).map imB) sb) := ⟨ch1, ch2⟩
    have HFin : Hid (∀ w5, Fr (fun _ => False) w3 w5 → Res w B S lab cs.length r bd (fun _ => True) (.returned (.bool true)) w5) := by
      intro w5 f5
      obtain ⟨k1, k2, k3, k4⟩ := HH.out
      obtain ⟨M3, b3, F3, RM, hlp⟩ := HM.out
      obtain ⟨c0, c1⟩ := HC.out
      have M5 := RM.fr f5 fun _ _ e => e
      obtain ⟨lab', e1, e2⟩ := Sh.op k1 k2 F3 (f5.mono fun _ _ e => e.elim) (fun x e => Or.inl e) (fun x e => Or.inl e) M3 M5 hlp (by omega) (by omega : r.c + ((m3 : Nat) : Int) ≤ bd + 5000000) (by omega)
      exact ⟨rfl, ⟨lab', V, _, cs, e1, Nat.le_succ _⟩, ⟨m3, _, _, e2, by omega, trivial⟩, ((k3.mono fun _ _ e => e.elim).trans F3 fun x _ e => k4 x e).trans f5 fun _ _ e => e.elim⟩
    clear hput R0 R1 o9 o10 o11 g1 g2 RM R R2 hob ob2 M3 b3 f3 F3 ch1 ch2
    go_wp2_with fail
    go_region_held3 (fun w' => Fr (fun _ => False) w3 w' ∧ w'.cell? ⟨S, 1, none⟩ = some (.slice (some ⟨q1, 0, none⟩) ms.length cap1) ∧ w'.cell? ⟨q1, i, none⟩ = some (.pointer (some ⟨r.rb, 0, none⟩)) ∧ w'.cell? ⟨w.heap.size, 9, none⟩ = some (.float .f64 x) ∧ w'.cell? ⟨w.heap.size, 10, none⟩ = some (.float .f64 y) ∧ w'.cell? ⟨w.heap.size, 11, none⟩ = some (.float .f64 z))
      (first | with_reducible exact ⟨D3, HC2.out _ D3⟩ | with_reducible exact ⟨K4, HC2.out _ K4⟩)
      ((go_at_call 145; (with_reducible refine (hrp _ D3).mono ?_); rintro e w4 ⟨xa, xb, rfl, ch3, ch4, f4⟩; have K4 : Fr (fun _ => False) w3 w4 := D3.trans f4 fun _ _ e => e))
    all_goals
      have heq := fun w' => equal_any sa sb xa xb w' (chain_same HCh.out.1 ch3 rfl) (chain_same HCh.out.2 ch4 rfl)
      clear ch3 ch4 hrp HC2
      go_wp2_with fail
      refine (heq _).mono ?_
      rintro e w6 ⟨rfl, rfl⟩
      go_wp2_with fail
      go_ret
      exact HFin.out _ K4

set_option maxRecDepth 100000 in
set_option maxHeartbeats 4000000 in
theorem does_sum (w : World) (B S : Nat) (lab : Nat → Nat) (V : Nat → Value) (ms : List MR) (cs : List CR) (bd : Int) (h : Sh w B S lab V ms cs bd) (i : Nat) (r : MR) (hr : ms[i]? = some r) (hbd : bd ≤ 7000000000000000000)
    (k mp ot en n a b : Int) (s t : ByteArray) (x y z : Nat) (jj : Int) (hx0 : x < 18446744073709551616) (hy0 : y < 18446744073709551616) (hz0 : z < 18446744073709551616) (hk : k < 2 ∨ 16 < k) :
    Calls Tryz.prog 79 #[.pointer (some ⟨S, 0, none⟩), opV k mp ot en n a b s t x y z, .int .i64 i, .int .i64 jj] w (Res w B S lab cs.length r bd fun _ => True) := by
  have A0 : Fr (fun _ => False) w (w.alloc (opBlk k mp ot en n a b s t x y z)) := Fr.alloc (Fr.refl _ _) _
  have hc := step_sum (w.alloc (opBlk k mp ot en n a b s t x y z)) B S lab V ms cs bd (h.old A0) i r hr hbd k mp ot en n a b s t x y z hx0 hy0 hz0
  have e2 : (k == 2) = false := by rw [beq_eq_false_iff_ne]; omega
  have e3 : (k == 3) = false := by rw [beq_eq_false_iff_ne]; omega
  have e4 : (k == 4) = false := by rw [beq_eq_false_iff_ne]; omega
  have e5 : (k == 5) = false := by rw [beq_eq_false_iff_ne]; omega
  have e6 : (k == 6) = false := by rw [beq_eq_false_iff_ne]; omega
  have e7 : (k == 7) = false := by rw [beq_eq_false_iff_ne]; omega
  have e8 : (k == 8) = false := by rw [beq_eq_false_iff_ne]; omega
  have e9 : (k == 9) = false := by rw [beq_eq_false_iff_ne]; omega
  have e10 : (k == 10) = false := by rw [beq_eq_false_iff_ne]; omega
  have e11 : (k == 11) = false := by rw [beq_eq_false_iff_ne]; omega
  have e12 : (k == 12) = false := by rw [beq_eq_false_iff_ne]; omega
  have e13 : (k == 13) = false := by rw [beq_eq_false_iff_ne]; omega
  have e14 : (k == 14) = false := by rw [beq_eq_false_iff_ne]; omega
  have e15 : (k == 15) = false := by rw [beq_eq_false_iff_ne]; omega
  have e16 : (k == 16) = false := by rw [beq_eq_false_iff_ne]; omega
  clear h hr hk
  go_enter Tryz.func79, Tryz.ntmps79
  go_wp2_with fail
  refine hc.mono ?_
  rintro e w1 hR
  obtain ⟨rfl, h2, h3, h4⟩ := hR.from A0
  go_wp2_with fail
  go_ret
  exact ⟨rfl, h2, h3, h4⟩

end Go.Proofs.YthbnbocpddddmaaGreat
