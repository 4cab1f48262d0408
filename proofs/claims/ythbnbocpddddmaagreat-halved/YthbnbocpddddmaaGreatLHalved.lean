/- Halved: the walk. -/
import Derived.Test.YthbnbocpddddmaaGreatWMadeG
import Derived.Test.YthbnbocpddddmaaGreatWMerge
import Derived.Test.YthbnbocpddddmaaGreatWLess
namespace Go.Proofs.YthbnbocpddddmaaGreat
open Go.RowKit

theorem rowTo_val (t : Bool) (ks : List Int) (j : Nat) : ∀ p ∈ rowTo t ks j, 0 ≤ p.2 ∧ p.2 < j := by
  induction j with
  | zero => intro p hp; simp [rowTo] at hp
  | succ j ih =>
    intro p hp
    have : p = (ks.getD j 0, (j : Int)) ∨ p ∈ rowTo t ks j := by
      simp only [rowTo, lput] at hp
      split at hp
      · rcases List.mem_or_eq_of_mem_set hp with h | h
        · exact Or.inr h
        · exact Or.inl h
      · rcases List.mem_append.1 hp with h | h
        · exact Or.inr (List.mem_of_mem_take h)
        · rcases List.mem_cons.1 h with h | h
          · exact Or.inl h
          · exact Or.inr (List.mem_of_mem_drop h)
    rcases this with rfl | h
    · exact ⟨by simp, by simp; omega⟩
    · have := ih p h; omega

theorem take_drop_less {t : Bool} {xs : Row} (h : Srt t xs) (r : Nat) : ∀ p ∈ xs.take r, ∀ q ∈ xs.drop r, lessB t p.1 q.1 = true := by
  have h' : Srt t (xs.take r ++ xs.drop r) := by rw [List.take_append_drop]; exact h
  exact (List.pairwise_append.1 h').2.2

set_option maxHeartbeats 400000 in
theorem seven_any (a b : Int) (w : World) : Calls Tryz.prog 40 #[.int .i64 a, .int .i64 b] w fun e w' => e = .returned (.int .i64 (-7)) ∧ w' = w := by
  go_enter Tryz.func40, Tryz.ntmps40
  go_wp2_with fail
  go_ret
  exact ⟨rfl, rfl⟩

set_option maxHeartbeats 400000 in
theorem added_any (a b : Int) (w : World) (a0 : 0 ≤ a) (a1 : a < 400) (b0 : 0 ≤ b) (b1 : b < 400) : Calls Tryz.prog 41 #[.int .i64 a, .int .i64 b] w fun e w' => e = .returned (.int .i64 (a + b)) ∧ w' = w := by
  go_enter Tryz.func41, Tryz.ntmps41
  go_wp2_with fail
  go_ret
  exact ⟨rfl, rfl⟩

set_option maxRecDepth 100000 in
set_option maxHeartbeats 4000000 in
theorem halved_any (eng : Int) (t : Bool) (a1 : Option Addr) (ks : List Int) (cap1 : Nat) (k more : Int) (w : World) (e0 : -9223372036854775808 ≤ eng) (e1 : eng < 9223372036854775808) (hks : KeysAt w a1 ks) (hkl : ks.length < 9223372036854775808) :
    Calls Tryz.prog 7 #[.int .i64 eng, .bool t, .slice a1 ks.length cap1, .int .i64 k, .int .i64 more] w fun e w' => e = .returned (.bool true) ∧ Fr (fun _ => False) w w' := by
  obtain ⟨ga, hga⟩ := pk_eng eng
  obtain ⟨gt, hgt⟩ := pk_eng (wrap64 (eng + 1))
  have hLx : (rowTo t ks (min ks.length 400)).length ≤ 400 := Nat.le_trans (rowTo_len _ _ _) (by omega)
  have hsx := rowTo_srt t ks (min ks.length 400)
  have hvx : ∀ p ∈ rowTo t ks (min ks.length 400), 0 ≤ p.2 ∧ p.2 < 400 := fun p hp => by have := rowTo_val t ks _ p hp; omega
  have hw64 : -9223372036854775808 ≤ wrap64 (eng + 1) ∧ wrap64 (eng + 1) < 9223372036854775808 := by unfold wrap64; omega
  have hmA := made_anyG ga eng t a1 ks cap1 w e0 e1 hga hks hkl
  have hmT := fun w' (f : Fr (fun _ => False) w w') => made_anyG gt (wrap64 (eng + 1)) t a1 ks cap1 w' hw64.1 hw64.2 hgt (hks.fr f) hkl
  generalize rowTo t ks (min ks.length 400) = xs at *
  clear hks hga hgt hkl e0 e1 hw64
  have hrl := lrank_le t k xs
  have htb := (take_below (k := k) hsx).1
  have htd := take_drop_less hsx (lrank t k xs)
  have htl : (xs.take (lrank t k xs)).length = lrank t k xs := by rw [List.length_take]; omega
  have hdl : (xs.drop (lrank t k xs)).length = xs.length - lrank t k xs := List.length_drop
  have htv : ∀ p ∈ xs.take (lrank t k xs), 0 ≤ p.2 ∧ p.2 < 400 := fun p hp => hvx p (List.mem_of_mem_take hp)
  have htk := List.take_append_drop (lrank t k xs) xs
  have hget : ∀ i, i < lrank t k xs → (xs.take (lrank t k xs))[i]? = xs[i]? := fun i hi => List.getElem?_take_of_lt hi
  have hsl : Srt t (xs.take (lrank t k xs)) := List.Pairwise.sublist (List.take_sublist _ _) hsx
  have hRk := fun (m : Nat) (c : Int) (o : Nat → Prop) w' h' b0 b1 => rank_anyG ga m t c o xs k w' h' b0 b1 hLx
  have hSp := fun (m : Nat) (c : Int) (o : Nat → Prop) w' h' b0 b1 => split_anyG ga m t c o xs k w' h' b0 b1 hLx
  generalize hr : lrank t k xs = r at *
  generalize hlo : xs.take r = lo at *
  generalize hhi : xs.drop r = hi at *
  clear hr hvx
  go_enter Tryz.func7, Tryz.ntmps7
  go_wp2_with fail
  refine hmA.mono ?_
  rintro e w1 ⟨m, rfl, c, oa, hA, c0, c1, hoa, F1⟩
  go_wp2_with fail
  refine (hmT _ F1).mono ?_
  rintro e w2 ⟨tw, rfl, ct, ot, hT, ct0, ct1, hot, f2⟩
  have hot1 : ∀ x, ot x → ¬ oa x := fun x hx h => by have := hA.lt x h; have := hot x hx; omega
  have F2 := F1.trans f2 fun _ _ e => e
  have hA2 := hA.fr f2 fun _ _ e => e
  have hsA := hA2.self
  clear hA hmA hmT f2 hot
  go_wp2_with fail
  refine (hRk m c oa w2 hA2 c0 (by omega)).mono ?_
  rintro e w3 ⟨n3, rfl, hA3, b3, _, _, f3⟩
  have hT3 := hT.fr f3 fun x hx e => hot1 x hx (e ▸ hsA)
  have F3 := F2.trans f3 fun x hx e => by have := hoa m hsA; omega
  clear hA2 hT f3 F2
  go_wp2_with fail
  refine (hSp m _ oa w3 hA3 (by omega) (by omega)).mono ?_
  rintro e w4 ⟨l, h, rfl, n4, o1, o2, hA4, b4, hL4, hH4, ho1, ho2, ho12, f4⟩
  have hT4 := hT3.fr f4 fun x hx e => hot1 x hx (e ▸ hsA)
  have F4 := F3.trans f4 fun x hx e => by have := hoa m hsA; omega
  have d1 : ∀ x, o1 x → ¬ oa x ∧ ¬ ot x ∧ w.heap.size ≤ x := fun x hx => ⟨fun e => by have := hA3.lt x e; have := ho1 x hx; omega, fun e => by have := hT3.lt x e; have := ho1 x hx; omega, Nat.le_trans F3.size (ho1 x hx)⟩
  have d2 : ∀ x, o2 x → ¬ oa x ∧ ¬ ot x ∧ w.heap.size ≤ x := fun x hx => ⟨fun e => by have := hA3.lt x e; have := ho2 x hx; omega, fun e => by have := hT3.lt x e; have := ho2 x hx; omega, Nat.le_trans F3.size (ho2 x hx)⟩
  have hlL := len_anyG ga l t 0 o1 lo w4 hL4
  have hlH := len_anyG ga h t 0 o2 hi w4 hH4
  have hlA := len_anyG ga m t _ oa xs w4 hA4
  have hwh := whole_anyG ga gt m tw t t _ ct oa ot xs w4 hA4 hT4 hLx
  rw [htl] at hlL
  rw [hdl, show ((xs.length - r : Nat) : Int) = (xs.length : Int) - r by omega] at hlH
  have hrl' : (r : Int) ≤ (xs.length : Int) := by omega
  have hLx' : (xs.length : Int) ≤ 400 := by omega
  clear hRk hSp hA3 hT3 f4 F3 ho1 ho2
  go_wp2_with fail
  refine hlL.mono ?_
  rintro e w5 ⟨rfl, rfl⟩
  go_wp2_with fail
  refine hlH.mono ?_
  rintro e w5 ⟨rfl, rfl⟩
  go_wp2_with fail
  refine hlA.mono ?_
  rintro e w5 ⟨rfl, rfl⟩
  clear hlL hlH hlA
  go_wp2_with fail
  refine hwh.mono ?_
  rintro e w5 ⟨rfl, f5⟩
  have hA5 := hA4.fr f5 fun _ _ e => e
  have hT5 := hT4.fr f5 fun _ _ e => e
  have hL5 := hL4.fr f5 fun _ _ e => e
  have hH5 := hH4.fr f5 fun _ _ e => e
  have F5 := F4.trans f5 fun _ _ e => e
  clear hwh hA4 hT4 hL4 hH4 f5 F4
  go_wp2_with fail
  refine (delete_anyG ga m t _ oa xs k w5 hA5 (by omega) (by omega) hLx).mono ?_
  rintro e w6 ⟨n6, oa6, rfl, hA6, b6, s6, f6⟩
  have hT6 := hT5.fr f6 fun x hx => hot1 x hx
  have hL6 := hL5.fr f6 fun x hx => (d1 x hx).1
  have hH6 := hH5.fr f6 fun x hx => (d2 x hx).1
  have F6 := F5.trans f6 fun x hx e => by have := hoa x e; omega
  have g6 : ∀ x, oa6 x → oa x ∨ w5.heap.size ≤ x := s6
  have t5 := hT5.lt
  have l5 := hL5.lt
  have h5 := hH5.lt
  have z5 := F5.size
  clear hA5 hT5 hL5 hH5 f6 F5 s6
  go_wp2_with fail
  refine (put_anyG ga m t _ oa6 _ more (-5) w6 hA6 (by omega) (by omega) (Nat.le_trans (len_del _ _ _) hLx)).mono ?_
  rintro e w7 ⟨n7, oa7, rfl, hA7, b7, _, _, s7, f7⟩
  have hT7 := hT6.fr f7 fun x hx e => by
    rcases g6 x e with e | e
    · exact hot1 x hx e
    · have := t5 x hx; omega
  have hL7 := hL6.fr f7 fun x hx e => by
    rcases g6 x e with e | e
    · exact (d1 x hx).1 e
    · have := l5 x hx; omega
  have hH7 := hH6.fr f7 fun x hx e => by
    rcases g6 x e with e | e
    · exact (d2 x hx).1 e
    · have := h5 x hx; omega
  have F7 := F6.trans f7 fun x hx e => by
    rcases g6 x e with e | e
    · have := hoa x e; omega
    · omega
  clear hA6 hA7 hT6 hL6 hH6 f7 F6 s7 g6 t5 l5 h5 z5
  go_wp2_with fail
  go_loopg [17] r (fun gk s17 wr => ∃ (j : Nat), gk + j = r ∧ s17 = .int .i64 j ∧ MapG gt wr tw t ct ot xs ∧ MapG ga wr l t 0 o1 lo ∧ MapG ga wr h t 0 o2 hi ∧ Fr (fun _ => False) w wr)
  case atStart => exact ⟨0, by omega, rfl, hT7, hL7, hH7, F7⟩
  case round =>
    clear hT7 hL7 hH7 F7
    obtain ⟨j, y0, rfl, mT, mL, mH, F⟩ := hrel
    by_cases hj : j < r
    · have hj1 : (j : Int) < (r : Int) := by omega
      have hj2 : j < 400 := by omega
      obtain ⟨p, hp⟩ : ∃ p, xs[j]? = some p := ⟨_, List.getElem?_eq_getElem (by omega)⟩
      have hp' := (hget j hj).trans hp
      obtain ⟨l1, l2, l3⟩ := lat_in hp
      obtain ⟨l4, l5, l6⟩ := lat_in hp'
      have hL := at_anyG ga l t 0 o1 lo j wr mL (by omega)
      have hT := fun w' h' => at_anyG gt tw t ct ot xs j w' h' hLx
      have hle := fun w' => less_any p.1 k t w'
      rw [htb p (List.mem_of_getElem? hp')] at hle
      rw [l4, l5, l6] at hL
      rw [l1, l2, l3] at hT
      have HY : Hid (gk + j = r ∧ j < r) := ⟨y0, hj⟩
      clear l1 l2 l3 l4 l5 l6 hp hp' y0 hj
      go_wp2_with fail
      refine hL.mono ?_
      rintro e wa ⟨rfl, fa⟩
      have nT := mT.fr fa fun _ _ e => e
      have nL := mL.fr fa fun _ _ e => e
      have nH := mH.fr fa fun _ _ e => e
      have Fa := F.trans fa fun _ _ e => e
      clear mT mL mH F fa hL
      go_wp2_with fail
      refine (hT _ nT).mono ?_
      rintro e wb ⟨rfl, fb⟩
      have nT := nT.fr fb fun _ _ e => e
      have nL := nL.fr fb fun _ _ e => e
      have nH := nH.fr fb fun _ _ e => e
      have Fb := Fa.trans fb fun _ _ e => e
      clear Fa fb hT
      go_wp2_with fail
      refine (hle _).mono ?_
      rintro e wc ⟨rfl, rfl⟩
      go_wp2_with fail
      go_roundg (gk - 1)
      case measure => have := HY.out; omega
      case rel => exact ⟨j + 1, by have := HY.out; omega, by go_num, nT, nL, nH, Fb⟩
    · have hj1 : ¬ (j : Int) < (r : Int) := by omega
      clear y0 hj
      have e1 := lmet_below (t := t) 800 lo hi htd (by omega)
      have e2 := lmet_self t 800 lo (by omega)
      have P1 : Pr wr ga ga l h t 0 0 o1 o2 lo hi := ⟨mL, mH, Or.inl ho12⟩
      have hm1 := merge_one ga ga l h t 0 0 o1 o2 lo hi 40 (Or.inl rfl) (fun _ _ => -7) wr P1 (by omega) (by omega) (by omega) (by omega) (by omega) (by omega)
        (by rw [e1]; simp; omega) (by rw [e1, mer_below, htk]; exact hsx) (fun q _ _ _ w' => seven_any q.v q.u w')
      rw [e1, mer_below, htk] at hm1
      have hslf := mL.self
      have hshf := mH.self
      go_wp2_with fail
      refine hm1.mono ?_
      rintro e w8 ⟨al, rfl, d8, oA, hA8, hoA, hd8, P8, f8⟩
      have hT8 := mT.fr f8 fun x hx e => by
        rcases e with e | e
        · exact (d1 l hslf).2.1 (e ▸ hx)
        · exact (d2 h hshf).2.1 (e ▸ hx)
      have F8 := F.trans f8 fun x hx e => by
        rcases e with e | e
        · have := (d1 l hslf).2.2; omega
        · have := (d2 h hshf).2.2; omega
      have hoA' : ∀ x, oA x → ¬ o1 x := fun x hx e => by have := mL.lt x e; have := hoA x hx; omega
      have P9 : Pr w8 ga ga l l t (0 + d8) (0 + d8) o1 o1 lo lo := ⟨P8.1, P8.1, Or.inr ⟨rfl, rfl, rfl, rfl, rfl⟩⟩
      have hm2 := merge_one ga ga l l t (0 + d8) (0 + d8) o1 o1 lo lo 41 (Or.inr rfl) (fun x y => x + y) w8 P9 (by omega) (by omega) (by omega) (by omega) (by omega) (by omega)
        (by rw [e2]; simp; omega) (by rw [e2, mer_self]; exact srt_map _ (fun _ => rfl) hsl) (fun q hq _ _ w' => by
          rw [e2] at hq
          obtain ⟨p, hp, rfl⟩ := List.mem_map.1 hq
          have := htv p hp
          exact added_any p.2 p.2 w' this.1 this.2 this.1 this.2)
      rw [e2, mer_self] at hm2
      clear hm1 mT mL mH F f8 P1 e1 e2
      go_wp2_with fail
      refine hm2.mono ?_
      rintro e w9 ⟨ow, rfl, d9, oO, hO9, hoO, hd9, P10, f9⟩
      have hT9 := hT8.fr f9 fun x hx e => by
        rcases e with e | e
        · exact (d1 l hslf).2.1 (e ▸ hx)
        · exact (d1 l hslf).2.1 (e ▸ hx)
      have hA9 := hA8.fr f9 fun x hx e => by
        rcases e with e | e
        · exact hoA' x hx (e ▸ hslf)
        · exact hoA' x hx (e ▸ hslf)
      have F9 := F8.trans f9 fun x hx e => by
        have := (d1 l hslf).2.2
        rcases e with e | e
        · omega
        · omega
      have hL9 := P10.1
      have hml : (lo.map fun p => (p.1, p.2 + p.2)).length = r := by rw [List.length_map]; exact htl
      have hlO := len_anyG ga ow t 0 oO _ w9 hO9
      rw [hml] at hlO
      clear hm2 hT8 hA8 P8 P9 F8 f9 P10
      generalize hzz : (lo.map fun p => (p.1, p.2 + p.2)) = zz at *
      go_wp2_with fail
      refine hlO.mono ?_
      rintro e w10 ⟨rfl, rfl⟩
      clear hlO
      go_wp2_with fail
      go_loopg [28] r (fun gk s28 wr => ∃ (j : Nat), gk + j = r ∧ s28 = .int .i64 j ∧ MapG gt wr tw t ct ot xs ∧ MapG ga wr l t (0 + d8 + d9) o1 lo ∧ MapG ga wr ow t 0 oO zz ∧ MapG ga wr al t 0 oA xs ∧ Fr (fun _ => False) w wr)
      case atStart => exact ⟨0, by omega, rfl, hT9, hL9, hO9, hA9, F9⟩
      case round =>
        clear hT9 hL9 hO9 hA9 F9
        obtain ⟨j, y0, rfl, mT, mL, mO, mA, F⟩ := hrel
        by_cases hj : j < r
        · have hj1 : (j : Int) < (r : Int) := by omega
          have hj2 : j < 400 := by omega
          obtain ⟨p, hp⟩ : ∃ p, xs[j]? = some p := ⟨_, List.getElem?_eq_getElem (by omega)⟩
          have hp' := (hget j hj).trans hp
          have hz' : zz[j]? = some (p.1, p.2 + p.2) := by rw [← hzz, List.getElem?_map, hp']; rfl
          obtain ⟨l4, l5, l6⟩ := lat_in hp'
          obtain ⟨l1, l2, l3⟩ := lat_in hz'
          have hL := at_anyG ga l t _ o1 lo j wr mL (by omega)
          have hO := fun w' h' => at_anyG ga ow t 0 oO zz j w' h' (by omega)
          rw [l4, l5, l6] at hL
          rw [l1, l2, l3] at hO
          have hpv := htv p (List.mem_of_getElem? hp')
          have h2v : (2 * p.2 : Int) = p.2 + p.2 := by omega
          have HY : Hid (gk + j = r ∧ j < r) := ⟨y0, hj⟩
          clear l1 l2 l3 l4 l5 l6 hp hp' hz' y0 hj
          generalize p.1 = pk1 at *
          generalize p.2 = pv1 at *
          obtain ⟨v0, v1⟩ := hpv
          go_wp2_with fail
          refine hL.mono ?_
          rintro e wa ⟨rfl, fa⟩
          have nT := mT.fr fa fun _ _ e => e
          have nL := mL.fr fa fun _ _ e => e
          have nO := mO.fr fa fun _ _ e => e
          have nA := mA.fr fa fun _ _ e => e
          have Fa := F.trans fa fun _ _ e => e
          clear mT mL mO mA F fa hL
          go_wp2_with fail
          refine (hO _ nO).mono ?_
          rintro e wb ⟨rfl, fb⟩
          have nT := nT.fr fb fun _ _ e => e
          have nL := nL.fr fb fun _ _ e => e
          have nO := nO.fr fb fun _ _ e => e
          have nA := nA.fr fb fun _ _ e => e
          have Fb := Fa.trans fb fun _ _ e => e
          clear Fa fb hO
          go_wp2_with fail
          go_roundg (gk - 1)
          case measure => have := HY.out; omega
          case rel => exact ⟨j + 1, by have := HY.out; omega, by go_num, nT, nL, nO, nA, Fb⟩
        · have hj1 : ¬ (j : Int) < (r : Int) := by omega
          have hwh := whole_anyG ga gt al tw t t 0 ct oA ot xs wr mA mT hLx
          clear y0 hj
          go_wp2_with fail
          refine hwh.mono ?_
          rintro e w11 ⟨rfl, f11⟩
          go_wp2_with fail
          go_ret
          exact ⟨rfl, F.trans f11 fun _ _ e => e⟩

end Go.Proofs.YthbnbocpddddmaaGreat
