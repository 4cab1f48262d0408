/- Maps made of two: Merge. -/
import Derived.Test.YthbnbocpddddmaaGreatWKept
namespace Go.Proofs.YthbnbocpddddmaaGreat
open Go.RowKit

theorem fn_there (fid : Nat) (w : World) : (binOp .eql 101 (.func (.func fid) #[] #[]) .nilFunc).run Tryz.prog w = .ok (.bool false) w := by kernel_rfl

set_option maxRecDepth 100000 in
set_option maxHeartbeats 1000000 in
theorem value_any (h : Hd) (fid : Nat) (hfid : fid = 40 ∨ fid = 41) (g : Int → Int → Int) (w : World) (hf : h.a = true → h.b = true → ∀ w, Calls Tryz.prog fid #[.int .i64 h.v, .int .i64 h.u] w fun e w' => e = .returned (.int .i64 (g h.v h.u)) ∧ w' = w) :
    Calls Tryz.prog 88 #[hval h, .func (.func fid) #[] #[]] w fun e w' => e = .returned (.int .i64 (hmer g h).2) ∧ Fr (fun _ => False) w w' := by
  obtain ⟨k, v, u, a, b⟩ := h
  unfold hval hmer
  have A : Fr (fun _ => False) w (w.alloc (.cells #[.int .i64 k, .int .i64 v, .int .i64 u, .bool a, .bool b] 177)) := Fr.alloc (Fr.refl _ _) _
  cases a
  · simp only [if_true]
    clear hf
    go_enter Tryz.func88, Tryz.ntmps88
    go_wp2_with fail
    go_ret
    exact ⟨rfl, A⟩
  · cases b
    · simp only [Bool.true_eq_false, if_false, if_true]
      clear hf
      go_enter Tryz.func88, Tryz.ntmps88
      go_wp2_with fail
      go_ret
      exact ⟨rfl, A⟩
    · simp only [Bool.true_eq_false, if_false]
      have hf' := hf rfl rfl
      have hn := fn_there fid (w.alloc (.cells #[.int .i64 k, .int .i64 v, .int .i64 u, .bool true, .bool true] 177))
      clear hf
      rcases hfid with rfl | rfl
      · go_enter Tryz.func88, Tryz.ntmps88
        go_wp2_with fail
        refine (hf' _).mono ?_
        rintro e w1 ⟨rfl, rfl⟩
        go_wp2_with fail
        go_ret
        exact ⟨rfl, A⟩
      · go_enter Tryz.func88, Tryz.ntmps88
        go_wp2_with fail
        refine (hf' _).mono ?_
        rintro e w1 ⟨rfl, rfl⟩
        go_wp2_with fail
        go_ret
        exact ⟨rfl, A⟩

def mergeTo (g : Int → Int → Int) (L : List Hd) (j : Nat) : Row := (L.take j).map (hmer g)

theorem mergeTo_succ {g : Int → Int → Int} {L : List Hd} {j : Nat} {h : Hd} (e : L[j]? = some h) : mergeTo g L (j + 1) = mergeTo g L j ++ [(h.k, (hmer g h).2)] := by
  unfold mergeTo
  rw [List.take_add_one, e, List.map_append]
  rfl
theorem mergeTo_sub (g : Int → Int → Int) (L : List Hd) (j : Nat) : (mergeTo g L j).Sublist (L.map (hmer g)) := (List.take_sublist j L).map _
theorem mergeTo_len (g : Int → Int → Int) (L : List Hd) (j : Nat) : (mergeTo g L j).length ≤ j := by unfold mergeTo; rw [List.length_map]; exact List.length_take_le ..

set_option maxRecDepth 100000 in
set_option maxHeartbeats 4000000 in
theorem merge_one (ga gb : Bool) (a b : Nat) (t : Bool) (ca cb : Int) (oa ob : Nat → Prop) (xs ys : Row) (fid : Nat) (hfid : fid = 40 ∨ fid = 41) (fg : Int → Int → Int) (w : World) (h : Pr w ga gb a b t ca cb oa ob xs ys)
    (lx : xs.length ≤ 400) (ly : ys.length ≤ 400) (a0 : 0 ≤ ca) (a1 : ca ≤ 8000000000000000000) (b0 : 0 ≤ cb) (b1 : cb ≤ 8000000000000000000)
    (hfull : (lmet t 800 xs ys).length ≤ 400) (hS : Srt t ((lmet t 800 xs ys).map (hmer fg))) (hf : ∀ q ∈ lmet t 800 xs ys, q.a = true → q.b = true → ∀ w, Calls Tryz.prog fid #[.int .i64 q.v, .int .i64 q.u] w fun e w' => e = .returned (.int .i64 (fg q.v q.u)) ∧ w' = w) :
    Calls Tryz.prog 39 #[.pointer (some ⟨a, 0, none⟩), .pointer (some ⟨b, 0, none⟩), .func (.func fid) #[] #[]] w fun e w' => ∃ n : Nat, e = .returned (.tuple #[.pointer (some ⟨n, 0, none⟩), .int .i64 0]) ∧ ∃ (d : Nat) (own' : Nat → Prop),
      MapG ga w' n t 0 own' ((lmet t 800 xs ys).map (hmer fg)) ∧ (∀ x, own' x → w.heap.size ≤ x) ∧ d ≤ 800 ∧ Pr w' ga gb a b t (ca + d) (cb + d) oa ob xs ys ∧ Fr (fun x => x = a ∨ x = b) w w' := by
  have hap := apart_any ga gb a b t t ca cb oa ob xs ys w h.1 h.2.1
  simp only [if_true] at hap
  have hmet := met_any ga gb a b t ca cb oa ob xs ys w.drew (h.old (Fr.drew (Fr.refl _ _))) lx ly a0 a1 b0 b1
  have hltA := h.1.lt
  have hltB := h.2.1.lt
  have hsA := h.1.self
  have hsB := h.2.1.self
  generalize hLL : lmet t 800 xs ys = L at *
  clear h hLL
  go_enter Tryz.func39, Tryz.ntmps39
  go_wp2_with fail
  refine hap.mono ?_
  rintro e w1 ⟨rfl, rfl⟩
  go_wp2_with fail
  refine hmet.mono ?_
  rintro e w3 ⟨v, d, rfl, o3, hd, P3, F3⟩
  have F3' : Fr (fun x => x = a ∨ x = b) w w3 := Fr.trans (S' := fun x => x = a ∨ x = b) (Fr.drew (Fr.refl _ _)) F3 fun _ _ e => e
  have hal := alike_anyG ga a t _ oa xs w3 P3.1
  obtain ⟨av, cv, rfl⟩ := own_sl o3
  have hLl : ¬ (400 : Int) < (L.length : Int) := by omega
  clear hap hmet F3
  go_wp2_with fail
  refine hal.mono ?_
  rintro e w2 ⟨n, rfl, own2, M3, q2, q3⟩
  have o4 := own_kept o3 q3 fun _ _ e => e
  have P4 := P3.old q3
  have FF : Fr (fun x => x = a ∨ x = b) w w2 := F3'.trans q3 fun _ _ e => e.elim
  have hvx : ∀ x, own2 x → (Value.slice av L.length cv).ownBlock ≠ some x := fun x hx e => by have := (o3.lt x e).2; have := q2 x hx; omega
  have q2' : ∀ x, own2 x → w.heap.size ≤ x := fun x hx => Nat.le_trans F3'.size (q2 x hx)
  clear hal o3 P3 F3' q2 q3
  go_wp2_with fail
  go_loopg [29] L.length (fun gk s29 wr => ∃ (j : Nat) (own' : Nat → Prop), gk + j = L.length ∧ s29 = .int .i64 j ∧ MapG ga wr n t 0 own' (mergeTo fg L j) ∧ (∀ x, own' x → w.heap.size ≤ x) ∧ wr.ownsRow w.drew.heap.size 177 5 (.slice av L.length cv) L.length (hcells L) ∧ (∀ x, own' x → (Value.slice av L.length cv).ownBlock ≠ some x) ∧ Pr wr ga gb a b t (ca + d) (cb + d) oa ob xs ys ∧ Fr (fun x => x = a ∨ x = b) w wr)
  case atStart => exact ⟨0, own2, by omega, rfl, M3, q2', o4, hvx, P4, FF⟩
  case round =>
    clear M3 q2' o4 hvx P4 FF
    obtain ⟨j, own', y0, rfl, hM, hown, o3, hvx, P, F⟩ := hrel
    by_cases hj : j < L.length
    · have hj1 : (j : Int) < (L.length : Int) := by omega
      obtain ⟨p, hp⟩ : ∃ p, L[j]? = some p := ⟨_, List.getElem?_eq_getElem hj⟩
      obtain ⟨g, cap, hv, hg, k0, k1, k2, k3, k4⟩ := held_cells o3 hp
      have hav : av = some ⟨g, 0, none⟩ := (by simpa using hv : av = some ⟨g, 0, none⟩ ∧ cv = cap).1
      subst hav
      have hsucc := mergeTo_succ (g := fg) hp
      have hsub := mergeTo_sub fg L (j + 1)
      have hkl := mergeTo_len fg L j
      have HY : Hid (gk + j = L.length ∧ j < L.length) := ⟨y0, hj⟩
      have A1 : Fr (fun _ => False) wr (wr.alloc (.cells #[.int .i64 p.k, .int .i64 p.v, .int .i64 p.u, .bool p.a, .bool p.b] 177)) := Fr.alloc (Fr.refl _ _) _
      have B1 := blk_new wr (.cells #[.int .i64 p.k, .int .i64 p.v, .int .i64 p.u, .bool p.a, .bool p.b] 177)
      have hval1 := fun w' => value_any p fid hfid fg w' (hf p (List.mem_of_getElem? hp))
      have hsr : Srt t (mergeTo fg L j ++ [(p.k, (hmer fg p).2)]) := by rw [← hsucc]; exact List.Pairwise.sublist hsub hS
      have hadd := fun w' h' => add_anyG ga n t 0 own' (mergeTo fg L j) p.k (hmer fg p).2 w' h' hsr (by omega)
      rw [← hsucc] at hadd
      generalize (hmer fg p).2 = mv at *
      generalize hW : wr.alloc (.cells #[.int .i64 p.k, .int .i64 p.v, .int .i64 p.u, .bool p.a, .bool p.b] 177) = wa at *
      have D1 : Fr (fun _ => False) wa wa.drew := Fr.drew (Fr.refl _ _)
      have HW : Hid (wr.alloc (.cells #[.int .i64 p.k, .int .i64 p.v, .int .i64 p.u, .bool p.a, .bool p.b] 177) = wa) := hW
      have x0 : wa.cell? ⟨wr.heap.size, 0, none⟩ = some (.int .i64 p.k) := cell_of B1 0
      have x1 : wa.cell? ⟨wr.heap.size, 1, none⟩ = some (.int .i64 p.v) := cell_of B1 1
      have x2 : wa.cell? ⟨wr.heap.size, 2, none⟩ = some (.int .i64 p.u) := cell_of B1 2
      have x3 : wa.cell? ⟨wr.heap.size, 3, none⟩ = some (.bool p.a) := cell_of B1 3
      have x4 : wa.cell? ⟨wr.heap.size, 4, none⟩ = some (.bool p.b) := cell_of B1 4
      have hbl : wr.heap.size < wa.drew.heap.size := lt_of_blk B1
      have hno : ¬ own' wr.heap.size := fun e => by have := hM.lt _ e; omega
      unfold hval at hval1
      clear hsr hsucc hsub hkl hp y0 hj hf hW B1
      go_wp2_with fail
      rw [HW.out]
      go_region_held3 (fun w' => w'.cell? ⟨wr.heap.size, 0, none⟩ = some (.int .i64 p.k) ∧ w'.cell? ⟨wr.heap.size, 1, none⟩ = some (.int .i64 p.v) ∧ w'.cell? ⟨wr.heap.size, 2, none⟩ = some (.int .i64 p.u) ∧ w'.cell? ⟨wr.heap.size, 3, none⟩ = some (.bool p.a) ∧ w'.cell? ⟨wr.heap.size, 4, none⟩ = some (.bool p.b))
        (first | exact ⟨x0, x1, x2, x3, x4⟩ | exact ⟨u0, u1, u2, u3, u4⟩ | exact ⟨v0, v1, v2, v3, v4⟩)
        (first
          | (go_at_call 88; refine (hval1 _).mono ?_; rintro e w4 ⟨rfl, f4⟩; have u0 := (f4.cell (b := wr.heap.size) 0 hbl (fun e => e)).trans x0; have u1 := (f4.cell (b := wr.heap.size) 1 hbl (fun e => e)).trans x1; have u2 := (f4.cell (b := wr.heap.size) 2 hbl (fun e => e)).trans x2; have u3 := (f4.cell (b := wr.heap.size) 3 hbl (fun e => e)).trans x3; have u4 := (f4.cell (b := wr.heap.size) 4 hbl (fun e => e)).trans x4)
          | (go_at_call 87; refine (hadd _ (((hM.fr A1 fun _ _ e => e).fr D1 fun _ _ e => e).fr f4 fun _ _ e => e)).mono ?_; rintro e w5 ⟨rfl, o5, m5, s5, f5⟩; have v0 := (f5.cell (b := wr.heap.size) 0 (Nat.lt_of_lt_of_le hbl f4.size) hno).trans u0; have v1 := (f5.cell (b := wr.heap.size) 1 (Nat.lt_of_lt_of_le hbl f4.size) hno).trans u1; have v2 := (f5.cell (b := wr.heap.size) 2 (Nat.lt_of_lt_of_le hbl f4.size) hno).trans u2; have v3 := (f5.cell (b := wr.heap.size) 3 (Nat.lt_of_lt_of_le hbl f4.size) hno).trans u3; have v4 := (f5.cell (b := wr.heap.size) 4 (Nat.lt_of_lt_of_le hbl f4.size) hno).trans u4))
      have G4 : Fr (fun _ => False) wr w4 := (A1.trans D1 fun _ _ e => e).trans f4 fun _ _ e => e
      have f5' : Fr own' wr w5 := (G4.mono fun _ _ e => e.elim).trans f5 fun _ _ e => e
      have hsz : ∀ x, o5 x → own' x ∨ wr.heap.size ≤ x := fun x e => by
        rcases s5 x e with e | e
        · exact Or.inl e
        · exact Or.inr (Nat.le_trans G4.size e)
      have HZ : Hid (MapG ga w5 n t 0 o5 (mergeTo fg L (j + 1)) ∧ (∀ x, o5 x → w.heap.size ≤ x) ∧ w5.ownsRow w.drew.heap.size 177 5 (.slice (some ⟨g, 0, none⟩) L.length cv) L.length (hcells L) ∧ (∀ x, o5 x → (Value.slice (some ⟨g, 0, none⟩) L.length cv).ownBlock ≠ some x) ∧ Pr w5 ga gb a b t (ca + d) (cb + d) oa ob xs ys ∧ Fr (fun x => x = a ∨ x = b) w w5) := by
        refine ⟨m5, fun x e => ?_, own_kept o3 f5' fun x hx e => hvx x e hx, fun x e e' => ?_, P.fr f5' (fun x hx e => by have := hown x e; have := hltA x hx; omega) (fun x hx e => by have := hown x e; have := hltB x hx; omega), F.trans f5' fun x hx e => by have := hown x e; omega⟩
        · rcases hsz x e with e | e
          · exact hown x e
          · exact Nat.le_trans F.size e
        · rcases hsz x e with e | e
          · exact hvx x e e'
          · have := (o3.lt x e').2; omega
      clear m5 s5 f5 f5' hsz G4 f4 hM hown o3 hvx P F A1 D1 u0 u1 u2 u3 u4 v0 v1 v2 v3 v4 x0 x1 x2 x3 x4 hval1 hadd
      go_wp2_with fail
      go_roundg (gk - 1)
      case measure => have := HY.out; omega
      case rel => exact ⟨j + 1, o5, by have := HY.out; omega, by go_num, HZ.out.1, HZ.out.2.1, HZ.out.2.2.1, HZ.out.2.2.2.1, HZ.out.2.2.2.2.1, HZ.out.2.2.2.2.2⟩
    · have hj1 : ¬ (j : Int) < (L.length : Int) := by omega
      have ej : j = L.length := by omega
      subst ej
      have HW : Hid (MapG ga wr n t 0 own' (L.map (hmer fg)) ∧ (∀ x, own' x → w.heap.size ≤ x) ∧ Pr wr ga gb a b t (ca + d) (cb + d) oa ob xs ys ∧ Fr (fun x => x = a ∨ x = b) w wr) := ⟨by unfold mergeTo at hM; rw [List.take_length] at hM; exact hM, hown, P, F⟩
      clear hM hown o3 hvx P F y0 hj hS hf
      go_wp2_with fail
      go_ret2
      obtain ⟨hM, hown, P, F⟩ := HW.out
      exact ⟨n, rfl, d, own', hM, hown, hd, P, F⟩

end Go.Proofs.YthbnbocpddddmaaGreat
