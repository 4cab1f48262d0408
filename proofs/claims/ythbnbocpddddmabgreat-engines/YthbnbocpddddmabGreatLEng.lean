/- Engines: the walk. -/
import Derived.Test.YthbnbocpddddmabGreatWMadeT
import Derived.Test.YthbnbocpddddmabGreatWMadeK
import Derived.Test.YthbnbocpddddmabGreatLWhole
namespace Go.Proofs.YthbnbocpddddmabGreat
open Go.RowKit

theorem pk_one : pk 1 = 1 := by decide
theorem pk_zero : pk 0 = 0 := by decide

set_option maxRecDepth 100000 in
set_option maxHeartbeats 4000000 in
theorem engines_any (t : Bool) (a1 : Option Addr) (ks : List Int) (cap1 : Nat) (a2 : Option Addr) (qs : List Int) (cap2 : Nat) (w : World) (hks : KeysAt w a1 ks) (hkl : ks.length < 9223372036854775808) (has : KeysAt w a2 qs) (hal : qs.length ≤ 17592186044416) :
    Calls Tryz.prog 3 #[.bool t, .slice a1 ks.length cap1, .slice a2 qs.length cap2] w fun e w' => e = .returned (.bool true) ∧ Fr (fun _ => False) w w' := by
  have hL : (rowTo t ks (min ks.length 400)).length ≤ 400 := Nat.le_trans (rowTo_len _ _ _) (by omega)
  have hmA := made_anyT 0 t a1 ks cap1 w (by omega) (by omega) pk_zero hks hkl
  have hmB := fun w' (f : Fr (fun _ => False) w w') => made_anyK 1 t a1 ks cap1 w' (by omega) (by omega) pk_one (hks.fr f) hkl
  generalize rowTo t ks (min ks.length 400) = xs at *
  clear hks hkl
  go_enter Tryz.func3, Tryz.ntmps3
  go_wp2_with fail
  refine hmA.mono ?_
  rintro e w1 ⟨a, rfl, ca, oa, hA, ca0, ca1, hoa, F1⟩
  go_wp2_with fail
  refine (hmB _ F1).mono ?_
  rintro e w2 ⟨b, rfl, cb, ob, hB, cb0, cb1, hob, f2⟩
  have hT : Two w2 a b t ca cb oa ob xs xs := ⟨hA.fr f2 fun _ _ e => e, hB, fun x e e' => by have := hA.lt x e; have := hob x e'; omega⟩
  have F2 := F1.trans f2 fun _ _ e => e
  have hob' : ∀ x, ob x → w.heap.size ≤ x := fun x e => Nat.le_trans F1.size (hob x e)
  clear hA hB hob f2 F1 hmA hmB
  go_wp2_with fail
  go_loopg [9] qs.length (fun gk s9 wr => ∃ (j : Nat) (ca cb : Int) (oa ob : Nat → Prop), gk + j = qs.length ∧ s9 = .int .i64 j ∧ Two wr a b t ca cb oa ob (askTo t xs qs j) (askTo t xs qs j) ∧ 0 ≤ ca ∧ ca ≤ 4000000 + 40000 * j ∧ 0 ≤ cb ∧ cb ≤ 4000000 + 40000 * j ∧
    (∀ x, oa x → w.heap.size ≤ x) ∧ (∀ x, ob x → w.heap.size ≤ x) ∧ Fr (fun _ => False) w wr)
  case atStart => exact ⟨0, ca, cb, oa, ob, by omega, rfl, hT, ca0, by omega, cb0, by omega, hoa, hob', F2⟩
  case round =>
    clear hT ca0 ca1 cb0 cb1 hoa hob' F2
    obtain ⟨j, ca, cb, oa, ob, y0, rfl, hT, ca0, ca1, cb0, cb1, hoa, hob, F⟩ := hrel
    have hrow := askTo_len (t := t) qs hL j
    by_cases hj : j < qs.length
    · have hj1 : (j : Int) < (qs.length : Int) := by omega
      have hj2 : (qs.length : Int) ≤ 17592186044416 := by omega
      obtain ⟨k, hk⟩ : ∃ k, qs[j]? = some k := ⟨_, List.getElem?_eq_getElem hj⟩
      have hkd : qs.getD j 0 = k := by rw [List.getD_eq_getElem?_getD, hk]; rfl
      rcases has with rfl | ⟨sb, off, rfl, hsb, hcell⟩
      · simp at hj
      · have hc := (F.cell (b := sb) (off + j) hsb (fun e => e)).trans (hcell j k hk)
        have HY : Hid (gk + j = qs.length ∧ j < qs.length ∧ 0 ≤ ca ∧ ca ≤ 4000000 + 40000 * j ∧ 0 ≤ cb ∧ cb ≤ 4000000 + 40000 * j ∧ qs.length ≤ 17592186044416) := ⟨y0, hj, ca0, ca1, cb0, cb1, hal⟩
        by_cases h3 : j % 3 = 0
        · have h3' : ((j : Int) % 3 == 0) = true := by rw [beq_iff_eq]; omega
          have hrow' : askTo t xs qs (j + 1) = ldel t k (askTo t xs qs j) := by simp only [askTo]; rw [if_pos h3, hkd]
          have hO1 := delete_anyT a t ca oa (askTo t xs qs j) k wr hT.1 ca0 (by omega) hrow
          have hO2 := fun w' h' => delete_anyK b t cb ob (askTo t xs qs j) k w' h' cb0 (by omega) hrow
          have hrw1 := askTo_len (t := t) qs hL (j + 1)
          rw [← hrow'] at hO1 hO2
          have hdg := dg_le ((askTo t xs qs j).length + 1)
          have HB : Hid (3 * dg ((askTo t xs qs j).length + 1) ≤ 10000 ∧ 3 * dg ((askTo t xs qs (j + 1)).length + 1) ≤ 10000) := ⟨by omega, by have := dg_le ((askTo t xs qs (j + 1)).length + 1); omega⟩
          have hC1 := fun c (o : Nat → Prop) w' h' (c0 : 0 ≤ c) (c1 : c ≤ 8000000000000000000) => ceiling_anyT a t c o (askTo t xs qs (j + 1)) k w' h' c0 c1 (by omega)
          have hC2 := fun c (o : Nat → Prop) w' h' (c0 : 0 ≤ c) (c1 : c ≤ 8000000000000000000) => ceiling_anyK b t c o (askTo t xs qs (j + 1)) k w' h' c0 c1 (by omega)
          have hR1 := fun c (o : Nat → Prop) w' h' (c0 : 0 ≤ c) (c1 : c ≤ 8000000000000000000) => rank_anyT a t c o (askTo t xs qs (j + 1)) k w' h' c0 c1 (by omega)
          have hR2 := fun c (o : Nat → Prop) w' h' (c0 : 0 ≤ c) (c1 : c ≤ 8000000000000000000) => rank_anyK b t c o (askTo t xs qs (j + 1)) k w' h' c0 c1 (by omega)
          generalize hzs : askTo t xs qs (j + 1) = zs at *
          have HZ : Hid (askTo t xs qs (j + 1) = zs) := hzs
          clear hzs
          generalize askTo t xs qs j = ys at *
          generalize lget t k ys = gv at *
          generalize lsame k ys = gs at *
          generalize latK zs (lrank t k zs) = ck at *
          generalize latV zs (lrank t k zs) = cv at *
          generalize latB zs (lrank t k zs) = cbb at *
          generalize (lrank t k zs : Int) = rk at *
          clear hk hkd hcell hrow hrow' y0 hj h3 hdg hrw1 ca0 ca1 cb0 cb1
          go_wp2_with fail
          refine hO1.mono ?_
          rintro e w3 ⟨n3, o3, rfl, m3, c3, s3, f3⟩
          have T3 := hT.onA m3 s3 f3
          have F3 : Fr (fun _ => False) w w3 := F.trans f3 fun x h e => by have := hoa x e; omega
          have o3w : ∀ x, o3 x → w.heap.size ≤ x := fun x e => by
            rcases s3 x e with e | e
            · exact hoa x e
            · exact Nat.le_trans F.size e
          clear hT m3 s3 f3 hoa F hO1
          go_wp2_with fail
          refine (hO2 _ T3.2.1).mono ?_
          rintro e w4 ⟨n4, o4, rfl, m4, c4, s4, f4⟩
          have T4 := T3.onB m4 s4 f4
          have F4 : Fr (fun _ => False) w w4 := F3.trans f4 fun x h e => by have := hob x e; omega
          have o4w : ∀ x, o4 x → w.heap.size ≤ x := fun x e => by
            rcases s4 x e with e | e
            · exact hob x e
            · exact Nat.le_trans F3.size e
          have aw := o3w a T4.1.self
          have bw := o4w b T4.2.1.self
          clear T3 m4 s4 f4 hob F3 hO2
          go_wp2_with fail
          refine (hC1 _ _ _ T4.1 (by have := HY.out; omega) (by have := HY.out; have := HB.out; omega)).mono ?_
          rintro e w5 ⟨n5, rfl, m5, c5, _, f5⟩
          have T5 := T4.onA m5 (fun x e => Or.inl e) (f5.mono fun x _ e => by rw [e]; exact T4.1.self)
          have F5 : Fr (fun _ => False) w w5 := F4.trans f5 fun x h e => by omega
          clear T4 m5 f5 F4
          go_wp2_with fail
          refine (hC2 _ _ _ T5.2.1 (by have := HY.out; omega) (by have := HY.out; omega)).mono ?_
          rintro e w6 ⟨n6, rfl, m6, c6, _, f6⟩
          have T6 := T5.onB m6 (fun x e => Or.inl e) (f6.mono fun x _ e => by rw [e]; exact T5.2.1.self)
          have F6 : Fr (fun _ => False) w w6 := F5.trans f6 fun x h e => by omega
          clear T5 m6 f6 F5
          go_wp2_with fail
          refine (hR1 _ _ _ T6.1 (by have := HY.out; omega) (by have := HY.out; have := HB.out; omega)).mono ?_
          rintro e w7 ⟨n7, rfl, m7, c7, _, f7⟩
          have T7 := T6.onA m7 (fun x e => Or.inl e) (f7.mono fun x _ e => by rw [e]; exact T6.1.self)
          have F7 : Fr (fun _ => False) w w7 := F6.trans f7 fun x h e => by omega
          clear T6 m7 f7 F6
          go_wp2_with fail
          refine (hR2 _ _ _ T7.2.1 (by have := HY.out; omega) (by have := HY.out; omega)).mono ?_
          rintro e w8 ⟨n8, rfl, m8, c8, _, f8⟩
          have T8 := T7.onB m8 (fun x e => Or.inl e) (f8.mono fun x _ e => by rw [e]; exact T7.2.1.self)
          have F8 : Fr (fun _ => False) w w8 := F7.trans f8 fun x h e => by omega
          clear T7 m8 f8 F7
          go_wp2_with fail
          go_roundg (gk - 1)
          case measure => have := HY.out; omega
          case rel =>
            obtain ⟨y0, hj, ca0, ca1, cb0, cb1, hal⟩ := HY.out
            have hB := HB.out
            have hz := HZ.out
            subst hz
            exact ⟨j + 1, ca + n3 + n5 + n7, cb + n4 + n6 + n8, o3, o4, by omega, by go_num, T8, by omega, by omega, by omega, by omega, o3w, o4w, F8⟩
        · have h3' : ((j : Int) % 3 == 0) = false := by rw [beq_eq_false_iff_ne]; omega
          have hrow' : askTo t xs qs (j + 1) = lputF t k j (askTo t xs qs j) := by simp only [askTo]; rw [if_neg h3, hkd]
          have hO1 := put_anyT a t ca oa (askTo t xs qs j) k j wr hT.1 ca0 (by omega) hrow
          have hO2 := fun w' h' => put_anyK b t cb ob (askTo t xs qs j) k j w' h' cb0 (by omega) hrow
          have hrw1 := askTo_len (t := t) qs hL (j + 1)
          rw [← hrow'] at hO1 hO2
          have hdg := dg_le ((askTo t xs qs j).length + 1)
          have HB : Hid (3 * dg ((askTo t xs qs j).length + 1) ≤ 10000 ∧ 3 * dg ((askTo t xs qs (j + 1)).length + 1) ≤ 10000) := ⟨by omega, by have := dg_le ((askTo t xs qs (j + 1)).length + 1); omega⟩
          have hC1 := fun c (o : Nat → Prop) w' h' (c0 : 0 ≤ c) (c1 : c ≤ 8000000000000000000) => ceiling_anyT a t c o (askTo t xs qs (j + 1)) k w' h' c0 c1 (by omega)
          have hC2 := fun c (o : Nat → Prop) w' h' (c0 : 0 ≤ c) (c1 : c ≤ 8000000000000000000) => ceiling_anyK b t c o (askTo t xs qs (j + 1)) k w' h' c0 c1 (by omega)
          have hR1 := fun c (o : Nat → Prop) w' h' (c0 : 0 ≤ c) (c1 : c ≤ 8000000000000000000) => rank_anyT a t c o (askTo t xs qs (j + 1)) k w' h' c0 c1 (by omega)
          have hR2 := fun c (o : Nat → Prop) w' h' (c0 : 0 ≤ c) (c1 : c ≤ 8000000000000000000) => rank_anyK b t c o (askTo t xs qs (j + 1)) k w' h' c0 c1 (by omega)
          generalize hzs : askTo t xs qs (j + 1) = zs at *
          have HZ : Hid (askTo t xs qs (j + 1) = zs) := hzs
          clear hzs
          generalize askTo t xs qs j = ys at *
          generalize lget t k ys = gv at *
          generalize lsame k ys = gs at *
          generalize lerr k ys = ge at *
          generalize latK zs (lrank t k zs) = ck at *
          generalize latV zs (lrank t k zs) = cv at *
          generalize latB zs (lrank t k zs) = cbb at *
          generalize (lrank t k zs : Int) = rk at *
          clear hk hkd hcell hrow hrow' y0 hj h3 hdg hrw1 ca0 ca1 cb0 cb1
          go_wp2_with fail
          refine hO1.mono ?_
          rintro e w3 ⟨n3, o3, rfl, m3, c3, _, s3, f3⟩
          have T3 := hT.onA m3 s3 f3
          have F3 : Fr (fun _ => False) w w3 := F.trans f3 fun x h e => by have := hoa x e; omega
          have o3w : ∀ x, o3 x → w.heap.size ≤ x := fun x e => by
            rcases s3 x e with e | e
            · exact hoa x e
            · exact Nat.le_trans F.size e
          clear hT m3 s3 f3 hoa F hO1
          go_wp2_with fail
          refine (hO2 _ T3.2.1).mono ?_
          rintro e w4 ⟨n4, o4, rfl, m4, c4, _, s4, f4⟩
          have T4 := T3.onB m4 s4 f4
          have F4 : Fr (fun _ => False) w w4 := F3.trans f4 fun x h e => by have := hob x e; omega
          have o4w : ∀ x, o4 x → w.heap.size ≤ x := fun x e => by
            rcases s4 x e with e | e
            · exact hob x e
            · exact Nat.le_trans F3.size e
          have aw := o3w a T4.1.self
          have bw := o4w b T4.2.1.self
          clear T3 m4 s4 f4 hob F3 hO2
          go_wp2_with fail
          refine (hC1 _ _ _ T4.1 (by have := HY.out; omega) (by have := HY.out; have := HB.out; omega)).mono ?_
          rintro e w5 ⟨n5, rfl, m5, c5, _, f5⟩
          have T5 := T4.onA m5 (fun x e => Or.inl e) (f5.mono fun x _ e => by rw [e]; exact T4.1.self)
          have F5 : Fr (fun _ => False) w w5 := F4.trans f5 fun x h e => by omega
          clear T4 m5 f5 F4
          go_wp2_with fail
          refine (hC2 _ _ _ T5.2.1 (by have := HY.out; omega) (by have := HY.out; omega)).mono ?_
          rintro e w6 ⟨n6, rfl, m6, c6, _, f6⟩
          have T6 := T5.onB m6 (fun x e => Or.inl e) (f6.mono fun x _ e => by rw [e]; exact T5.2.1.self)
          have F6 : Fr (fun _ => False) w w6 := F5.trans f6 fun x h e => by omega
          clear T5 m6 f6 F5
          go_wp2_with fail
          refine (hR1 _ _ _ T6.1 (by have := HY.out; omega) (by have := HY.out; have := HB.out; omega)).mono ?_
          rintro e w7 ⟨n7, rfl, m7, c7, _, f7⟩
          have T7 := T6.onA m7 (fun x e => Or.inl e) (f7.mono fun x _ e => by rw [e]; exact T6.1.self)
          have F7 : Fr (fun _ => False) w w7 := F6.trans f7 fun x h e => by omega
          clear T6 m7 f7 F6
          go_wp2_with fail
          refine (hR2 _ _ _ T7.2.1 (by have := HY.out; omega) (by have := HY.out; omega)).mono ?_
          rintro e w8 ⟨n8, rfl, m8, c8, _, f8⟩
          have T8 := T7.onB m8 (fun x e => Or.inl e) (f8.mono fun x _ e => by rw [e]; exact T7.2.1.self)
          have F8 : Fr (fun _ => False) w w8 := F7.trans f8 fun x h e => by omega
          clear T7 m8 f8 F7
          go_wp2_with fail
          go_roundg (gk - 1)
          case measure => have := HY.out; omega
          case rel =>
            obtain ⟨y0, hj, ca0, ca1, cb0, cb1, hal⟩ := HY.out
            have hB := HB.out
            have hz := HZ.out
            subst hz
            exact ⟨j + 1, ca + n3 + n5 + n7, cb + n4 + n6 + n8, o3, o4, by omega, by go_num, T8, by omega, by omega, by omega, by omega, o3w, o4w, F8⟩
    · have hj1 : ¬ (j : Int) < (qs.length : Int) := by omega
      have hw := whole_any a b t ca cb oa ob _ wr hT hrow
      clear y0 hj ca0 ca1 cb0 cb1 hrow
      go_wp2_with fail
      refine hw.mono ?_
      rintro e w3 ⟨rfl, f3⟩
      go_wp2_with fail
      go_ret
      exact ⟨rfl, F.trans f3 fun _ _ e => e⟩

end Go.Proofs.YthbnbocpddddmabGreat
