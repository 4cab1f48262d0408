/- made. -/
import Derived.Test.YthbnbocpddddmaaGreatWKnown
import Derived.Test.YthbnbocpddddmaaGreatKeys
namespace Go.Proofs.YthbnbocpddddmaaGreat
open Go.RowKit

set_option maxRecDepth 100000 in
set_option maxHeartbeats 2000000 in
theorem made_anyK (eng : Int) (t : Bool) (a : Option Addr) (ks : List Int) (cap : Nat) (w : World) (e0 : -9223372036854775808 ≤ eng) (e1 : eng < 9223372036854775808) (hpk : pk eng = 1) (hks : KeysAt w a ks) (hkl : ks.length < 9223372036854775808) :
    Calls Tryz.prog 32 #[.int .i64 eng, .bool t, .slice a ks.length cap] w fun e w' => ∃ m : Nat, e = .returned (.pointer (some ⟨m, 0, none⟩)) ∧ ∃ (c : Int) (own : Nat → Prop), MapK w' m t c own (rowTo t ks (min ks.length 400)) ∧ 0 ≤ c ∧ c ≤ 4000000 ∧
      (∀ x, own x → w.heap.size ≤ x) ∧ Fr (fun _ => False) w w' := by
  have hpick := fun w => pick_any eng w e0 e1
  rw [hpk] at hpick
  clear hpk
  cases t
  · go_enter Tryz.func32, Tryz.ntmps32
    go_wp2_with fail
    refine (known_any _).mono ?_
    rintro e w1 ⟨rfl, f1⟩
    go_wp2_with fail
    refine (ints_any _).mono ?_
    rintro e w2 ⟨rfl, f2⟩
    have F4 : Fr (fun _ => False) w (w2.alloc (.cells #[.iface 187 (.agg #[]), .bool false] 26)) := Fr.alloc (f1.trans f2 fun _ _ e => e) _
    go_wp2_with fail
    have s0 : (w2.alloc (.cells #[.iface 187 (.agg #[]), .bool false] 26)).cell? ⟨w2.heap.size, 0, none⟩ = some (.iface 187 (.agg #[])) := cell_of (blk_new _ _) 0
    have s1 : (w2.alloc (.cells #[.iface 187 (.agg #[]), .bool false] 26)).cell? ⟨w2.heap.size, 1, none⟩ = some (.bool false) := cell_of (blk_new _ _) 1
    have hlt : w2.heap.size < (w2.alloc (.cells #[.iface 187 (.agg #[]), .bool false] 26)).heap.size := by simp
    go_region_held3 (fun w' => w'.cell? ⟨w2.heap.size, 0, none⟩ = some (.iface 187 (.agg #[])) ∧ w'.cell? ⟨w2.heap.size, 1, none⟩ = some (.bool false))
      (first | exact ⟨s0, s1⟩ | exact ⟨k0, k1⟩)
      (first
        | (go_at_call 44; refine (hpick _).mono ?_; rintro e w4 ⟨rfl, rfl⟩)
        | (go_at_call 11; refine (newK_any false _).mono ?_; rintro e w5 ⟨m, rfl, own, hM, hown, f5⟩; have k0 := (f5.cell (b := w2.heap.size) 0 hlt (fun e => e)).trans s0; have k1 := (f5.cell (b := w2.heap.size) 1 hlt (fun e => e)).trans s1))
    have F5 : Fr (fun _ => False) w w5 := Fr.trans (S' := fun _ => False) (Fr.drew F4) f5 fun _ _ e => e
    have hown' : ∀ x, own x → w.heap.size ≤ x := fun x e => by have := hown x e; have := F4.size; simp at *; omega
    clear f1 f2 f5 hown k0 k1 F4 s0 s1 hlt
    go_wp2_with fail
    go_loopg [11] (min ks.length 400) (fun gk s11 wr => ∃ (j : Nat) (c : Int) (own : Nat → Prop), gk + j = min ks.length 400 ∧ s11 = .int .i64 j ∧ MapK wr m false c own (rowTo false ks j) ∧ 0 ≤ c ∧ c ≤ j * 10000 ∧ (∀ x, own x → w.heap.size ≤ x) ∧ Fr (fun _ => False) w wr)
    case atStart => exact ⟨0, 0, own, by omega, rfl, hM.same rfl, by omega, by omega, hown', ⟨F5.os, F5.tape, F5.output, F5.size, F5.block⟩⟩
    case round =>
      clear hM hown' F5
      obtain ⟨j, c, own, y0, rfl, hM, c0, c1, hown, F⟩ := hrel
      have hlen := rowTo_len false ks j
      by_cases hj : j < min ks.length 400
      · have hj1 : (j : Int) < (ks.length : Int) := by omega
        have hj2 : (j : Int) < 400 := by omega
        obtain ⟨key, hkey⟩ : ∃ key, ks[j]? = some key := ⟨_, List.getElem?_eq_getElem (by omega)⟩
        rcases hks with rfl | ⟨b, off, rfl, hb, hcell⟩
        · simp at hj
        · have hc := (F.cell (b := b) (off + j) hb (fun e => e)).trans (hcell j key hkey)
          have hroom := lputF_room (t := false) (k := key) (v := j) (xs := rowTo false ks j) (by omega)
          have hput := put_anyK m false c own (rowTo false ks j) key j wr hM c0 (by omega) (by omega)
          rw [hroom.1, hroom.2] at hput
          have hrow : lput false key j (rowTo false ks j) = rowTo false ks (j + 1) := by
            simp only [rowTo, List.getD_eq_getElem?_getD, hkey, Option.getD_some]
          rw [hrow] at hput
          have HB : Hid (True) := trivial
          have HY : Hid (gk + j = min ks.length 400 ∧ j < min ks.length 400 ∧ 0 ≤ c ∧ c ≤ j * 10000) := ⟨y0, hj, c0, c1⟩
          clear hroom hrow hkey hM hcell y0 hj hlen c0 c1
          go_wp2_with fail
          refine hput.mono ?_
          rintro e w6 ⟨n, own', rfl, h6, b6, _, s6, f6⟩
          go_wp2_with fail
          go_roundg (gk - 1)
          case measure => have := HY.out; omega
          case rel =>
            obtain ⟨y0, hj, c0, c1⟩ := HY.out
            have b6' : n ≤ 10000 := b6
            refine ⟨j + 1, c + n, own', by omega, by go_num, h6, by omega, by omega, fun x e => ?_, F.trans f6 fun x hx e => by have := hown x e; omega⟩
            rcases s6 x e with e | e
            · exact hown x e
            · exact Nat.le_trans F.size e
      · have ej : j = min ks.length 400 := by omega
        have HF : Hid (MapK wr m false c own (rowTo false ks (min ks.length 400)) ∧ 0 ≤ c ∧ c ≤ 4000000) := ⟨ej ▸ hM, c0, by omega⟩
        by_cases hj1 : (j : Int) < (ks.length : Int)
        · have hj2 : ¬ (j : Int) < 400 := by omega
          clear hM c0 c1 y0 ej hj hlen
          go_wp2_with fail
          go_ret
          exact ⟨m, rfl, c, own, HF.out.1, HF.out.2.1, HF.out.2.2, hown, F⟩
        · clear hM c0 c1 y0 ej hj hlen
          go_wp2_with fail
          go_ret
          exact ⟨m, rfl, c, own, HF.out.1, HF.out.2.1, HF.out.2.2, hown, F⟩
  · go_enter Tryz.func32, Tryz.ntmps32
    go_wp2_with fail
    refine (known_any _).mono ?_
    rintro e w1 ⟨rfl, f1⟩
    go_wp2_with fail
    refine (ints_any _).mono ?_
    rintro e w2 ⟨rfl, f2⟩
    go_wp2_with fail
    refine (turned_any false _).mono ?_
    rintro e w3 ⟨rfl, f3⟩
    have hb3 : w3.heap[w2.heap.size]? = some (.cells #[.iface 187 (.agg #[]), .bool false] 26 (0, 0)) := (f3.block w2.heap.size (by simp) (fun e => e)).trans (blk_new _ _)
    have d0 : w3.cell? ⟨w2.heap.size, 0, none⟩ = some (.iface 187 (.agg #[])) := cell_of hb3 0
    have d1 : w3.cell? ⟨w2.heap.size, 1, none⟩ = some (.bool false) := cell_of hb3 1
    have g0 : w3.frozen? ⟨w2.heap.size, 0, none⟩ = false := frozen_of hb3 0
    have g1 : w3.frozen? ⟨w2.heap.size, 1, none⟩ = false := frozen_of hb3 1
    have hw2 : w.heap.size ≤ w2.heap.size := Nat.le_trans f1.size f2.size
    have F4 : Fr (fun _ => False) w ((w3.setCell ⟨w2.heap.size, 0, none⟩ (.iface 187 (.agg #[]))).setCell ⟨w2.heap.size, 1, none⟩ (.bool true)) :=
      Fr.setCell (Fr.setCell ((Fr.alloc (f1.trans f2 fun _ _ e => e) _).trans f3 fun _ _ e => e) (by exact fun e => absurd e (by show ¬ w2.heap.size < w.heap.size; omega)) _) (by exact fun e => absurd e (by show ¬ w2.heap.size < w.heap.size; omega)) _
    simp only [Bool.not_false]
    go_wp2_with fail
    have hb4 := blk_set (blk_set hb3 0 (.iface 187 (.agg #[]))) 1 (.bool true)
    have s0 : ((w3.setCell ⟨w2.heap.size, 0, none⟩ (.iface 187 (.agg #[]))).setCell ⟨w2.heap.size, 1, none⟩ (.bool true)).cell? ⟨w2.heap.size, 0, none⟩ = some (.iface 187 (.agg #[])) := cell_of hb4 0
    have s1 : ((w3.setCell ⟨w2.heap.size, 0, none⟩ (.iface 187 (.agg #[]))).setCell ⟨w2.heap.size, 1, none⟩ (.bool true)).cell? ⟨w2.heap.size, 1, none⟩ = some (.bool true) := cell_of hb4 1
    have hlt : w2.heap.size < ((w3.setCell ⟨w2.heap.size, 0, none⟩ (.iface 187 (.agg #[]))).setCell ⟨w2.heap.size, 1, none⟩ (.bool true)).heap.size := lt_of_blk hb4
    clear hb4
    go_region_held3 (fun w' => w'.cell? ⟨w2.heap.size, 0, none⟩ = some (.iface 187 (.agg #[])) ∧ w'.cell? ⟨w2.heap.size, 1, none⟩ = some (.bool true))
      (first | exact ⟨s0, s1⟩ | exact ⟨k0, k1⟩)
      (first
        | (go_at_call 44; refine (hpick _).mono ?_; rintro e w4 ⟨rfl, rfl⟩)
        | (go_at_call 11; refine (newK_any true _).mono ?_; rintro e w5 ⟨m, rfl, own, hM, hown, f5⟩; have k0 := (f5.cell (b := w2.heap.size) 0 hlt (fun e => e)).trans s0; have k1 := (f5.cell (b := w2.heap.size) 1 hlt (fun e => e)).trans s1))
    have F5 : Fr (fun _ => False) w w5 := Fr.trans (S' := fun _ => False) (Fr.drew F4) f5 fun _ _ e => e
    have hown' : ∀ x, own x → w.heap.size ≤ x := fun x e => by have := hown x e; have := F4.size; simp at *; omega
    clear f1 f2 f5 hown k0 k1 F4 s0 s1 hlt f3 hb3 d0 d1 g0 g1
    go_wp2_with fail
    go_loopg [11] (min ks.length 400) (fun gk s11 wr => ∃ (j : Nat) (c : Int) (own : Nat → Prop), gk + j = min ks.length 400 ∧ s11 = .int .i64 j ∧ MapK wr m true c own (rowTo true ks j) ∧ 0 ≤ c ∧ c ≤ j * 10000 ∧ (∀ x, own x → w.heap.size ≤ x) ∧ Fr (fun _ => False) w wr)
    case atStart => exact ⟨0, 0, own, by omega, rfl, hM.same rfl, by omega, by omega, hown', ⟨F5.os, F5.tape, F5.output, F5.size, F5.block⟩⟩
    case round =>
      clear hM hown' F5
      obtain ⟨j, c, own, y0, rfl, hM, c0, c1, hown, F⟩ := hrel
      have hlen := rowTo_len true ks j
      by_cases hj : j < min ks.length 400
      · have hj1 : (j : Int) < (ks.length : Int) := by omega
        have hj2 : (j : Int) < 400 := by omega
        obtain ⟨key, hkey⟩ : ∃ key, ks[j]? = some key := ⟨_, List.getElem?_eq_getElem (by omega)⟩
        rcases hks with rfl | ⟨b, off, rfl, hb, hcell⟩
        · simp at hj
        · have hc := (F.cell (b := b) (off + j) hb (fun e => e)).trans (hcell j key hkey)
          have hroom := lputF_room (t := true) (k := key) (v := j) (xs := rowTo true ks j) (by omega)
          have hput := put_anyK m true c own (rowTo true ks j) key j wr hM c0 (by omega) (by omega)
          rw [hroom.1, hroom.2] at hput
          have hrow : lput true key j (rowTo true ks j) = rowTo true ks (j + 1) := by
            simp only [rowTo, List.getD_eq_getElem?_getD, hkey, Option.getD_some]
          rw [hrow] at hput
          have HB : Hid (True) := trivial
          have HY : Hid (gk + j = min ks.length 400 ∧ j < min ks.length 400 ∧ 0 ≤ c ∧ c ≤ j * 10000) := ⟨y0, hj, c0, c1⟩
          clear hroom hrow hkey hM hcell y0 hj hlen c0 c1
          go_wp2_with fail
          refine hput.mono ?_
          rintro e w6 ⟨n, own', rfl, h6, b6, _, s6, f6⟩
          go_wp2_with fail
          go_roundg (gk - 1)
          case measure => have := HY.out; omega
          case rel =>
            obtain ⟨y0, hj, c0, c1⟩ := HY.out
            have b6' : n ≤ 10000 := b6
            refine ⟨j + 1, c + n, own', by omega, by go_num, h6, by omega, by omega, fun x e => ?_, F.trans f6 fun x hx e => by have := hown x e; omega⟩
            rcases s6 x e with e | e
            · exact hown x e
            · exact Nat.le_trans F.size e
      · have ej : j = min ks.length 400 := by omega
        have HF : Hid (MapK wr m true c own (rowTo true ks (min ks.length 400)) ∧ 0 ≤ c ∧ c ≤ 4000000) := ⟨ej ▸ hM, c0, by omega⟩
        by_cases hj1 : (j : Int) < (ks.length : Int)
        · have hj2 : ¬ (j : Int) < 400 := by omega
          clear hM c0 c1 y0 ej hj hlen
          go_wp2_with fail
          go_ret
          exact ⟨m, rfl, c, own, HF.out.1, HF.out.2.1, HF.out.2.2, hown, F⟩
        · clear hM c0 c1 y0 ej hj hlen
          go_wp2_with fail
          go_ret
          exact ⟨m, rfl, c, own, HF.out.1, HF.out.2.1, HF.out.2.2, hown, F⟩

end Go.Proofs.YthbnbocpddddmaaGreat
