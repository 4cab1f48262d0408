/- known: the document's examples. -/
import Derived.Test.YthbnbocpddddmaaGreatWNew
import Derived.Test.YthbnbocpddddmaaGreatWSMap
namespace Go.Proofs.YthbnbocpddddmaaGreat
open Go.RowKit

theorem MapS.lt {w : World} {m : Nat} {c : Int} {own : Nat → Prop} {xs : List (ByteArray × Int)} (h : MapS w m c own xs) : ∀ x, own x → x < w.heap.size := by
  obtain ⟨p, oE, h1, h2, h3, h4⟩ := h
  intro x hx
  rcases (h4 x).1 hx with rfl | e
  · exact lt_of_blk h1
  · exact h2.lt x e

theorem p1 : lputF false 30 3 [] = [(30, 3)] := by decide
theorem p2 : lputF false 10 1 [(30, 3)] = [(10, 1), (30, 3)] := by decide
theorem p3 : lputF false 20 2 [(10, 1), (30, 3)] = [(10, 1), (20, 2), (30, 3)] := by decide
theorem p4 : lrank false 25 [(10, 1), (20, 2), (30, 3)] = 2 := by decide
theorem p5 : latK [(10, 1), (20, 2), (30, 3)] (lfloor false 25 [(10, 1), (20, 2), (30, 3)]) = 20 := by decide
theorem p6 : latB [(10, 1), (20, 2), (30, 3)] (lfloor false 25 [(10, 1), (20, 2), (30, 3)]) = true := by decide
theorem d3 : 3 * dg (0 + 1) ≤ 100 ∧ 3 * dg (1 + 1) ≤ 100 ∧ 3 * dg (2 + 1) ≤ 100 ∧ 3 * dg (3 + 1) ≤ 100 := by
  refine ⟨?_, ?_, ?_, ?_⟩ <;> (repeat (unfold dg; simp))

set_option maxRecDepth 100000 in
set_option maxHeartbeats 2000000 in
theorem known_any (w : World) : Calls Tryz.prog 82 #[] w fun e w' => e = .returned (.bool true) ∧ Fr (fun _ => False) w w' := by
  go_enter Tryz.func82, Tryz.ntmps82
  go_wp2_with fail
  refine (folded_any _).mono ?_
  rintro e w1 ⟨rfl, f1⟩
  go_wp2_with fail
  refine (newS_any _).mono ?_
  rintro e w2 ⟨m, rfl, oS, hS, oSf, f2⟩
  go_wp2_with fail
  refine (ints_any _).mono ?_
  rintro e w3 ⟨rfl, f3⟩
  go_wp2_with fail
  refine (newT_any false _).mono ?_
  rintro e w4 ⟨n, rfl, oT, hT, oTf, f4⟩
  have F4 : Fr (fun _ => False) w w4 := ((f1.trans f2 fun _ _ e => e).trans f3 fun _ _ e => e).trans f4 fun _ _ e => e
  have hS4 := (hS.fr f3 fun _ _ e => e).fr f4 fun _ _ e => e
  have oSw : ∀ x, oS x → w.heap.size ≤ x := fun x e => Nat.le_trans f1.size (oSf x e)
  have oTw : ∀ x, oT x → w.heap.size ≤ x := fun x e => Nat.le_trans (Nat.le_trans f1.size (Nat.le_trans f2.size f3.size)) (oTf x e)
  have hdis : ∀ x, oT x → ¬ oS x := fun x e e' => by have := hS.lt x e'; have := oTf x e; have := f3.size; omega
  clear f1 f2 f3 f4 hS oSf oTf
  go_wp2_with fail
  refine (putS_first m oS _ hS4).mono ?_
  rintro e w5 ⟨n5, oS5, rfl, hS5, b5, s5, f5⟩
  go_wp2_with fail
  refine (putS_second m n5 oS5 _ hS5 (by omega) (by omega)).mono ?_
  rintro e w6 ⟨n6, rfl, hS6, b6, f6⟩
  go_wp2_with fail
  refine (atS_any m _ oS5 _ hS6).mono ?_
  rintro e w7 ⟨rfl, f7⟩
  go_wp2_with fail
  have F5 : Fr (fun _ => False) w w5 := F4.trans f5 fun x h e => by have := oSw x e; omega
  have oS5w : ∀ x, oS5 x → w.heap.size ≤ x := fun x e => by
    rcases s5 x e with e | e
    · exact oSw x e
    · exact Nat.le_trans F4.size e
  have F7 : Fr (fun _ => False) w w7 := (F5.trans f6 fun x h e => by have := oS5w x e; omega).trans f7 fun _ _ e => e
  have hT7 : MapT w7 n false 0 oT [] := ((hT.fr f5 hdis).fr f6 fun x e e' => by
    rcases s5 x e' with e2 | e2
    · exact hdis x e e2
    · have := hT.lt x e; omega).fr f7 fun _ _ e => e
  have hann : ann = ⟨#[65, 110, 110]⟩ := rfl
  rw [hann]
  clear hS4 hdis hS5 hS6 f5 f6 f7 b5 b6 s5 oS5w oSw hT F4 F5 hann
  refine (put_anyT n false 0 oT [] 30 3 _ hT7 (by omega) (by omega) (by simp)).mono ?_
  rintro e w8 ⟨n8, o8, rfl, h8, c8, _, s8, f8⟩
  rw [p1] at h8
  have F8 : Fr (fun _ => False) w w8 := F7.trans f8 fun x h e => by have := oTw x e; omega
  have o8w : ∀ x, o8 x → w.heap.size ≤ x := fun x e => by
    rcases s8 x e with e | e
    · exact oTw x e
    · exact Nat.le_trans F7.size e
  have c8' := Nat.le_trans c8 d3.1
  clear hT7 oTw s8 f8 F7 c8
  go_wp2_with fail
  refine (put_anyT n false _ o8 [(30, 3)] 10 1 _ h8 (by omega) (by omega) (by simp)).mono ?_
  rintro e w9 ⟨n9, o9, rfl, h9, c9, _, s9, f9⟩
  rw [p2] at h9
  have F9 : Fr (fun _ => False) w w9 := F8.trans f9 fun x h e => by have := o8w x e; omega
  have o9w : ∀ x, o9 x → w.heap.size ≤ x := fun x e => by
    rcases s9 x e with e | e
    · exact o8w x e
    · exact Nat.le_trans F8.size e
  have c9' := Nat.le_trans c9 d3.2.1
  clear h8 o8w s9 f9 F8 c9
  go_wp2_with fail
  refine (put_anyT n false _ o9 [(10, 1), (30, 3)] 20 2 _ h9 (by omega) (by omega) (by simp)).mono ?_
  rintro e w10 ⟨n10, o10, rfl, h10, c10, _, s10, f10⟩
  rw [p3] at h10
  have F10 : Fr (fun _ => False) w w10 := F9.trans f10 fun x h e => by have := o9w x e; omega
  have o10w : ∀ x, o10 x → w.heap.size ≤ x := fun x e => by
    rcases s10 x e with e | e
    · exact o9w x e
    · exact Nat.le_trans F9.size e
  have c10' := Nat.le_trans c10 d3.2.2.1
  have om : o10 n := (h10.choose_spec.choose_spec.2.2.2.1 n).2 (Or.inl rfl)
  have nw := o10w n om
  clear h9 o9w s10 f10 F9 c10
  go_wp2_with fail
  refine (rank_anyT n false _ o10 [(10, 1), (20, 2), (30, 3)] 25 _ h10 (by omega) (by omega) (by simp)).mono ?_
  rintro e w11 ⟨n11, rfl, h11, c11, _, f11⟩
  rw [p4]
  have F11 : Fr (fun _ => False) w w11 := F10.trans f11 fun x h e => by omega
  have c11' := Nat.le_trans c11 d3.2.2.2
  clear h10 f11 F10 c11
  go_wp2_with fail
  refine (floor_anyT n false _ o10 [(10, 1), (20, 2), (30, 3)] 25 _ h11 (by omega) (by omega) (by simp)).mono ?_
  rintro e w12 ⟨n12, rfl, h12, c12, _, f12⟩
  rw [p5, p6]
  have F12 : Fr (fun _ => False) w w12 := F11.trans f12 fun x h e => by omega
  clear h11 h12 f12 F11 c12 o10w om nw
  go_wp2_with fail
  go_ret
  exact ⟨rfl, F12⟩

end Go.Proofs.YthbnbocpddddmaaGreat
