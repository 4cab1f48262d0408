/- Sets: the walk. -/
import Derived.Test.YthbnbocpddddmaaGreatWMadeG
import Derived.Test.YthbnbocpddddmaaGreatWKept
namespace Go.Proofs.YthbnbocpddddmaaGreat
open Go.RowKit

theorem both_same {xs ys : Row} {has : Bool} {p : Int × Int} (hp : p ∈ xs) : lsame p.1 (lboth ys has xs) = (lsame p.1 ys == has) := by
  cases hc : (lsame p.1 ys == has) with
  | true =>
    unfold lsame lboth
    rw [List.any_eq_true]
    exact ⟨p, List.mem_filter.2 ⟨hp, hc⟩, by simp⟩
  | false =>
    refine lsame_none fun q hq e => ?_
    obtain ⟨_, h2⟩ := List.mem_filter.1 hq
    rw [e, hc] at h2
    cases h2

theorem both_len (ys xs : Row) : (lboth ys true xs).length + (lboth ys false xs).length = xs.length := by
  induction xs with
  | nil => rfl
  | cons x xs ih =>
    unfold lboth at ih ⊢
    rw [List.filter_cons, List.filter_cons]
    cases lsame x.1 ys <;> simp at ih ⊢ <;> omega

theorem both_get {t : Bool} {xs ys : Row} {has : Bool} {p : Int × Int} (h : Srt t xs) (hp : p ∈ xs) (hs : lsame p.1 ys = has) : lget t p.1 (lboth ys has xs) = p.2 :=
  (lget_mem (lboth_srt h) (List.mem_filter.2 ⟨hp, by rw [hs]; simp⟩)).2

set_option maxRecDepth 100000 in
set_option maxHeartbeats 4000000 in
theorem sets_any (eng : Int) (t : Bool) (a1 : Option Addr) (ks : List Int) (cap1 : Nat) (a2 : Option Addr) (qs : List Int) (cap2 : Nat) (w : World) (e0 : -9223372036854775808 ≤ eng) (e1 : eng < 9223372036854775808) (hks : KeysAt w a1 ks) (hkl : ks.length < 9223372036854775808) (hqs : KeysAt w a2 qs) (hql : qs.length < 9223372036854775808) :
    Calls Tryz.prog 8 #[.int .i64 eng, .bool t, .slice a1 ks.length cap1, .slice a2 qs.length cap2] w fun e w' => e = .returned (.bool true) ∧ Fr (fun _ => False) w w' := by
  obtain ⟨ga, hga⟩ := pk_eng eng
  obtain ⟨gb, hgb⟩ := pk_eng (eng.tdiv 2)
  have hLx : (rowTo t ks (min ks.length 400)).length ≤ 400 := Nat.le_trans (rowTo_len _ _ _) (by omega)
  have hLy : (rowTo t qs (min qs.length 400)).length ≤ 400 := Nat.le_trans (rowTo_len _ _ _) (by omega)
  have hLz : (rowTo (!t) qs (min qs.length 400)).length ≤ 400 := Nat.le_trans (rowTo_len _ _ _) (by omega)
  have hd : -9223372036854775808 ≤ eng.tdiv 2 ∧ eng.tdiv 2 < 9223372036854775808 := by
    rcases Int.lt_or_le eng 0 with h | h
    · obtain ⟨n, rfl⟩ : ∃ n, eng = -n := ⟨-eng, by omega⟩
      rw [Int.neg_tdiv, Int.tdiv_eq_ediv_of_nonneg (by omega)]
      omega
    · rw [Int.tdiv_eq_ediv_of_nonneg h]
      omega
  have hmA := made_anyG ga eng t a1 ks cap1 w e0 e1 hga hks hkl
  have hmB := fun w' (f : Fr (fun _ => False) w w') => made_anyG gb (eng.tdiv 2) t a2 qs cap2 w' hd.1 hd.2 hgb (hqs.fr f) hql
  have hmZ := fun w' (f : Fr (fun _ => False) w w') => made_anyG ga eng (!t) a2 qs cap2 w' e0 e1 hga (hqs.fr f) hql
  generalize rowTo t ks (min ks.length 400) = xs at *
  generalize rowTo t qs (min qs.length 400) = ys at *
  generalize rowTo (!t) qs (min qs.length 400) = zs at *
  have htn : t ≠ !t := by cases t <;> simp
  clear hks hqs hga hgb hkl hql
  go_enter Tryz.func8, Tryz.ntmps8
  go_wp2_with fail
  refine hmA.mono ?_
  rintro e w1 ⟨a, rfl, ca, oa, hA, ca0, ca1, hoa, F1⟩
  go_wp2_with fail
  refine (hmB _ F1).mono ?_
  rintro e w2 ⟨b, rfl, cb, ob, hB, cb0, cb1, hob, f2⟩
  have F2 := F1.trans f2 fun _ _ e => e
  have hA2 := hA.fr f2 fun _ _ e => e
  have hAl := hA.lt
  clear hmA hmB hA
  go_wp2_with fail
  refine (hmZ _ F2).mono ?_
  rintro e w3 ⟨z, rfl, cz, oz, hZ, cz0, cz1, hoz, f3⟩
  have F3 := F2.trans f3 fun _ _ e => e
  have hab : ∀ x, oa x → ¬ ob x := fun x h1 h2 => by have := hAl x h1; have := hob x h2; omega
  have P3 : Pr w3 ga gb a b t ca cb oa ob xs ys := ⟨hA2.fr f3 fun _ _ e => e, hB.fr f3 fun _ _ e => e, Or.inl hab⟩
  have hzo : ∀ x, oz x → ¬ oa x ∧ ¬ ob x := fun x hx => ⟨fun h => by have := hA2.lt x h; have := hoz x hx; omega, fun h => by have := hB.lt x h; have := hoz x hx; omega⟩
  have hob' : ∀ x, ob x → w.heap.size ≤ x := fun x hx => Nat.le_trans F1.size (hob x hx)
  have hoz' : ∀ x, oz x → w.heap.size ≤ x := fun x hx => Nat.le_trans F2.size (hoz x hx)
  have hsA := P3.1.self
  have hsB := P3.2.1.self
  clear hmZ hA2 hB f2 f3 F1 F2 hAl hob hoz
  go_wp2_with fail
  refine (common_one ga gb a b t ca cb oa ob xs ys w3 P3 hLx hLy ca0 (by omega) cb0 (by omega)).mono ?_
  rintro e w4 ⟨c, rfl, d4, oc, hC, hoc, hd4, P4, f4⟩
  have hZ4 := hZ.fr f4 fun x hx e => by
    rcases e with e | e
    · exact (hzo x hx).1 (e ▸ hsA)
    · exact (hzo x hx).2 (e ▸ hsB)
  have F4 : Fr (fun _ => False) w w4 := F3.trans f4 fun x hx e => by
    rcases e with e | e
    · have := hoa a hsA; omega
    · have := hob' b hsB; omega
  have l3 := P3.1.lt
  have l3b := P3.2.1.lt
  have hoc1 : ∀ x, oc x → ¬ oa x ∧ ¬ ob x := fun x hx => ⟨fun h => by have := l3 x h; have := hoc x hx; omega, fun h => by have := l3b x h; have := hoc x hx; omega⟩
  clear hZ f4 P3 l3 l3b
  go_wp2_with fail
  refine (without_one ga gb a b t _ _ oa ob xs ys w4 P4 hLx hLy (by omega) (by omega) (by omega) (by omega)).mono ?_
  rintro e w5 ⟨v, rfl, d5, ov, hV, hov, hd5, P5, f5⟩
  have hZ5 := hZ4.fr f5 fun x hx e => by
    rcases e with e | e
    · exact (hzo x hx).1 (e ▸ hsA)
    · exact (hzo x hx).2 (e ▸ hsB)
  have hC5 := hC.fr f5 fun x hx e => by
    rcases e with e | e
    · exact (hoc1 x hx).1 (e ▸ hsA)
    · exact (hoc1 x hx).2 (e ▸ hsB)
  have F5 : Fr (fun _ => False) w w5 := F4.trans f5 fun x hx e => by
    rcases e with e | e
    · have := hoa a hsA; omega
    · have := hob' b hsB; omega
  have l4 := P4.1.lt
  have l4b := P4.2.1.lt
  have hov1 : ∀ x, ov x → ¬ oa x ∧ ¬ ob x ∧ ¬ oc x := fun x hx => ⟨fun h => by have := l4 x h; have := hov x hx; omega, fun h => by have := l4b x h; have := hov x hx; omega, fun h => by have := hC.lt x h; have := hov x hx; omega⟩
  have hoc' : ∀ x, oc x → w.heap.size ≤ x := fun x hx => Nat.le_trans F3.size (hoc x hx)
  have hov' : ∀ x, ov x → w.heap.size ≤ x := fun x hx => Nat.le_trans F4.size (hov x hx)
  clear hZ4 hC f5 P4 l4 l4b hoc hov F3 F4
  go_wp2_with fail
  refine (common_other ga ga a z t (!t) _ _ oa oz xs zs w5 P5.1 hZ5 htn).mono ?_
  rintro e w6 ⟨rfl, f6⟩
  have P6 := P5.old f6
  have hZ6 := hZ5.fr f6 fun _ _ e => e
  have hC6 := hC5.fr f6 fun _ _ e => e
  have hV6 := hV.fr f6 fun _ _ e => e
  have F6 := F5.trans f6 fun _ _ e => e
  clear P5 hZ5 hC5 hV F5 f6
  go_wp2_with fail
  refine (without_other ga ga z a (!t) t _ _ oz oa zs xs w6 hZ6 P6.1 htn.symm).mono ?_
  rintro e w7 ⟨rfl, f7⟩
  have P7 := P6.old f7
  have hC7 := hC6.fr f7 fun _ _ e => e
  have hV7 := hV6.fr f7 fun _ _ e => e
  have F7 := F6.trans f7 fun _ _ e => e
  have hlC := len_anyG ga c t 0 oc _ w7 hC7
  have hlV := len_anyG ga v t 0 ov _ w7 hV7
  have hlA := len_anyG ga a t _ oa xs w7 P7.1
  have hbl := both_len ys xs
  have hbl1 := lboth_le ys true xs
  have hbl2 := lboth_le ys false xs
  have hbl' : ((lboth ys true xs).length : Int) + ((lboth ys false xs).length : Int) = (xs.length : Int) := by omega
  clear P6 hZ6 hC6 hV6 F6 f7
  go_wp2_with fail
  refine hlC.mono ?_
  rintro e w8 ⟨rfl, rfl⟩
  go_wp2_with fail
  refine hlV.mono ?_
  rintro e w8 ⟨rfl, rfl⟩
  go_wp2_with fail
  refine hlA.mono ?_
  rintro e w8 ⟨rfl, rfl⟩
  clear hlA hlV hlC
  go_wp2_with fail
  have hsC := hC7.self
  have hsV := hV7.self
  have hsx := P7.1.srt
  have HD : Hid (0 ≤ ca + d4 + d5 ∧ 0 ≤ cb + d4 + d5 ∧ cb + d4 + d5 ≤ 5000000) := ⟨by omega, by omega, by omega⟩
  generalize ca + (d4 : Int) + d5 = ca7 at *
  generalize cb + (d4 : Int) + d5 = cb7 at *
  clear hbl hbl' hd htn
  go_loopg [20] xs.length (fun gk s20 wr => ∃ (j : Nat) (c1 c2 c3 : Int), gk + j = xs.length ∧ s20 = .int .i64 j ∧ MapG ga wr a t ca7 oa xs ∧ MapG gb wr b t c1 ob ys ∧ MapG ga wr c t c2 oc (lboth ys true xs) ∧ MapG ga wr v t c3 ov (lboth ys false xs) ∧ (0 ≤ c1 ∧ c1 ≤ 5000000 + 10000 * j ∧ 0 ≤ c2 ∧ c2 ≤ 10000 * j ∧ 0 ≤ c3 ∧ c3 ≤ 10000 * j) ∧ Fr (fun _ => False) w wr)
  case atStart => exact ⟨0, cb7, 0, 0, by omega, rfl, P7.1, P7.2.1, hC7, hV7, by have := HD.out; omega, F7⟩
  case round =>
    clear P7 hC7 hV7 F7
    obtain ⟨j, c1, c2, c3, y0, rfl, mA, mB, mC, mV, yb, F⟩ := hrel
    have hlen := len_anyG ga a t ca7 oa xs wr mA
    by_cases hj : j < xs.length
    · have hj1 : (j : Int) < (xs.length : Int) := by omega
      have hj2 : j < 400 := by omega
      have hA := at_anyG ga a t ca7 oa xs j wr mA hLx
      obtain ⟨p, hp⟩ : ∃ p, xs[j]? = some p := ⟨_, List.getElem?_eq_getElem hj⟩
      obtain ⟨l1, l2, l3⟩ := lat_in hp
      rw [l1, l2, l3] at hA
      have hpm := List.mem_of_getElem? hp
      have s1 := both_same (ys := ys) (has := true) hpm
      have s2 := both_same (ys := ys) (has := false) hpm
      have hB := fun w' h' => get_anyG gb b t c1 ob ys p.1 w' h' (by omega) (by omega) hLy
      have hC := fun w' h' => get_anyG ga c t c2 oc (lboth ys true xs) p.1 w' h' (by omega) (by omega) (by omega)
      have hV := fun w' h' => get_anyG ga v t c3 ov (lboth ys false xs) p.1 w' h' (by omega) (by omega) (by omega)
      rw [s1] at hC
      rw [s2] at hV
      have g1 := fun e => both_get (t := t) (ys := ys) (has := true) hsx hpm e
      have g2 := fun e => both_get (t := t) (ys := ys) (has := false) hsx hpm e
      have HY : Hid (gk + j = xs.length ∧ (0 ≤ c1 ∧ c1 ≤ 5000000 + 10000 * j ∧ 0 ≤ c2 ∧ c2 ≤ 10000 * j ∧ 0 ≤ c3 ∧ c3 ≤ 10000 * j)) := ⟨y0, yb⟩
      generalize lget t p.1 ys = gy at *
      generalize lget t p.1 (lboth ys true xs) = gc at *
      generalize lget t p.1 (lboth ys false xs) = gv at *
      clear y0 yb hj l1 l2 l3 hp hpm s1 s2
      cases hin : lsame p.1 ys
      · have e2 := g2 hin
        rw [hin] at hB hC hV
        rw [e2] at hV
        simp only [show (false == true) = false from rfl, show (false == false) = true from rfl] at hC hV
        clear g1 g2 hin e2
        go_wp2_with fail
        refine hlen.mono ?_
        rintro e w9 ⟨rfl, rfl⟩
        go_wp2_with fail
        refine hA.mono ?_
        rintro e wa ⟨rfl, fa⟩
        have nA := mA.fr fa fun _ _ e => e
        have nB := mB.fr fa fun _ _ e => e
        have nC := mC.fr fa fun _ _ e => e
        have nV := mV.fr fa fun _ _ e => e
        have Fa := F.trans fa fun _ _ e => e
        clear mA mB mC mV F fa hA hlen
        go_wp2_with fail
        refine (hB _ nB).mono ?_
        rintro e wb ⟨n1, rfl, nB, b1, _, _, fb⟩
        have nA := nA.fr fb fun x hx e => hab x hx (e ▸ hsB)
        have nC := nC.fr fb fun x hx e => (hoc1 x hx).2 (e ▸ hsB)
        have nV := nV.fr fb fun x hx e => (hov1 x hx).2.1 (e ▸ hsB)
        have Fb := Fa.trans fb fun x hx e => by have := hob' b hsB; omega
        clear Fa fb hB
        go_wp2_with fail
        refine (hC _ nC).mono ?_
        rintro e wc ⟨n2, rfl, nC, b2, _, _, fc⟩
        have nA := nA.fr fc fun x hx e => (hoc1 c hsC).1 (e ▸ hx)
        have nB := nB.fr fc fun x hx e => (hoc1 c hsC).2 (e ▸ hx)
        have nV := nV.fr fc fun x hx e => (hov1 x hx).2.2 (e ▸ hsC)
        have Fc := Fb.trans fc fun x hx e => by have := hoc' c hsC; omega
        clear Fb fc hC
        go_wp2_with fail
        refine (hV _ nV).mono ?_
        rintro e wd ⟨n3, rfl, nV, b3, _, _, fd⟩
        have nA := nA.fr fd fun x hx e => (hov1 v hsV).1 (e ▸ hx)
        have nB := nB.fr fd fun x hx e => (hov1 v hsV).2.1 (e ▸ hx)
        have nC := nC.fr fd fun x hx e => (hov1 v hsV).2.2 (e ▸ hx)
        have Fd := Fc.trans fd fun x hx e => by have := hov' v hsV; omega
        clear Fc fd hV
        go_wp2_with fail
        go_roundg (gk - 1)
        case measure => have := HY.out; omega
        case rel => exact ⟨j + 1, c1 + n1, c2 + n2, c3 + n3, by have := HY.out; omega, by go_num, nA, nB, nC, nV, by have := HY.out; omega, Fd⟩
      · have e1 := g1 hin
        rw [hin] at hB hC hV
        rw [e1] at hC
        simp only [show (true == true) = true from rfl, show (true == false) = false from rfl] at hC hV
        clear g1 g2 hin e1
        go_wp2_with fail
        refine hlen.mono ?_
        rintro e w9 ⟨rfl, rfl⟩
        go_wp2_with fail
        refine hA.mono ?_
        rintro e wa ⟨rfl, fa⟩
        have nA := mA.fr fa fun _ _ e => e
        have nB := mB.fr fa fun _ _ e => e
        have nC := mC.fr fa fun _ _ e => e
        have nV := mV.fr fa fun _ _ e => e
        have Fa := F.trans fa fun _ _ e => e
        clear mA mB mC mV F fa hA hlen
        go_wp2_with fail
        refine (hB _ nB).mono ?_
        rintro e wb ⟨n1, rfl, nB, b1, _, _, fb⟩
        have nA := nA.fr fb fun x hx e => hab x hx (e ▸ hsB)
        have nC := nC.fr fb fun x hx e => (hoc1 x hx).2 (e ▸ hsB)
        have nV := nV.fr fb fun x hx e => (hov1 x hx).2.1 (e ▸ hsB)
        have Fb := Fa.trans fb fun x hx e => by have := hob' b hsB; omega
        clear Fa fb hB
        go_wp2_with fail
        refine (hC _ nC).mono ?_
        rintro e wc ⟨n2, rfl, nC, b2, _, _, fc⟩
        have nA := nA.fr fc fun x hx e => (hoc1 c hsC).1 (e ▸ hx)
        have nB := nB.fr fc fun x hx e => (hoc1 c hsC).2 (e ▸ hx)
        have nV := nV.fr fc fun x hx e => (hov1 x hx).2.2 (e ▸ hsC)
        have Fc := Fb.trans fc fun x hx e => by have := hoc' c hsC; omega
        clear Fb fc hC
        go_wp2_with fail
        refine (hV _ nV).mono ?_
        rintro e wd ⟨n3, rfl, nV, b3, _, _, fd⟩
        have nA := nA.fr fd fun x hx e => (hov1 v hsV).1 (e ▸ hx)
        have nB := nB.fr fd fun x hx e => (hov1 v hsV).2.1 (e ▸ hx)
        have nC := nC.fr fd fun x hx e => (hov1 v hsV).2.2 (e ▸ hx)
        have Fd := Fc.trans fd fun x hx e => by have := hov' v hsV; omega
        clear Fc fd hV
        go_wp2_with fail
        go_roundg (gk - 1)
        case measure => have := HY.out; omega
        case rel => exact ⟨j + 1, c1 + n1, c2 + n2, c3 + n3, by have := HY.out; omega, by go_num, nA, nB, nC, nV, by have := HY.out; omega, Fd⟩
    · have hj1 : ¬ (j : Int) < (xs.length : Int) := by omega
      clear y0
      go_wp2_with fail
      refine hlen.mono ?_
      rintro e w9 ⟨rfl, rfl⟩
      go_wp2_with fail
      go_ret
      exact ⟨rfl, F⟩

end Go.Proofs.YthbnbocpddddmaaGreat
