/- Delete, over one engine. -/
import Derived.Test.YthbnbocpddddmaaGreatWMapK
import Derived.Test.YthbnbocpddddmaaGreatWRemKI
namespace Go.Proofs.YthbnbocpddddmaaGreat
open Go.RowKit

theorem kRemove_any (p : Nat) (own : Nat → Prop) (xs : Row) (i : Nat) (w : World) (h : EngK w p own xs) (hi : i < xs.length) (hs : xs.length ≤ 4000) :
    Calls Tryz.prog 218 #[.pointer (some ⟨p, 0, none⟩), .int .i64 i] w fun e w' => e = .returned (.tuple #[]) ∧
      ∃ own', EngK w' p own' (xs.eraseIdx i) ∧ (∀ x, own' x → own x ∨ w.heap.size ≤ x) ∧ Fr own w w' := SkI.kRemove_any p own xs i w h hi hs

theorem method_removeK (a : Addr) (w : World) : (method 489 116 (.pointer (some a)) "Remove").run Tryz.prog w = .ok (218, .pointer (some a)) w := by kernel_rfl

set_option maxRecDepth 100000 in
set_option maxHeartbeats 600000 in
theorem delete_anyK (m : Nat) (t : Bool) (c : Int) (own : Nat → Prop) (xs : Row) (k : Int) (w : World) (h : MapK w m t c own xs) (b0 : 0 ≤ c) (b1 : c ≤ 8000000000000000000) (hs : xs.length ≤ 400) :
    Calls Tryz.prog 33 #[.pointer (some ⟨m, 0, none⟩), .int .i64 k] w fun e w' => ∃ (n : Nat) (own' : Nat → Prop), e = .returned (.tuple #[.int .i64 (lget t k xs), .bool (lsame k xs)]) ∧
      MapK w' m t (c + n) own' (ldel t k xs) ∧ n ≤ 10000 ∧ (∀ x, own' x → own x ∨ w.heap.size ≤ x) ∧ Fr own w w' := by
  have hfind := find_anyK m t c own xs k w h b0 b1 (by omega)
  have hsr : Srt t xs := h.choose_spec.choose_spec.2.2.2.2
  have hom : own m := (h.choose_spec.choose_spec.2.2.2.1 m).2 (Or.inl rfl)
  have hmeth := method_atK
  have hmeth2 := method_removeK
  unfold ldel lget
  clear h
  cases hsm : lsame k xs with
  | true =>
    obtain ⟨u, hu⟩ := at_rank hsr hsm
    rw [hsm] at hfind
    simp only [if_true]
    rw [hu]
    simp only [Option.getD_some]
    have hlt := (List.getElem?_eq_some_iff.1 hu).1
    have HU : Hid (xs[lrank t k xs]? = some (k, u)) := hu
    have HP : Hid (Srt t (xs.eraseIdx (lrank t k xs))) := List.Pairwise.sublist (List.eraseIdx_sublist _ _) hsr
    clear hsm hu hsr
    go_enter Tryz.func33, Tryz.ntmps33
    go_wp2_with fail
    refine hfind.mono ?_
    rintro e w3 ⟨n, rfl, g1, g2, g3, g4⟩
    obtain ⟨p, oE, h1, h2, h3, h4, h5⟩ := g1
    have c2 : w3.cell? ⟨m, 3, none⟩ = some (.iface 116 (.pointer (some ⟨p, 0, none⟩))) := cell_of h1 3
    have hat := kAt_any p oE xs (lrank t k xs) k u w3 h2 HU.out (by omega)
    go_wp2_with fail
    refine hat.mono ?_
    rintro e w4 ⟨rfl, fr⟩
    have h1' := (fr.block m (lt_of_blk h1) (fun e => e)).trans h1
    have c2' : w4.cell? ⟨m, 3, none⟩ = some (.iface 116 (.pointer (some ⟨p, 0, none⟩))) := cell_of h1' 3
    have hrem := kRemove_any p oE xs (lrank t k xs) w4 (h2.fr fr fun _ _ e => e) hlt (by omega)
    go_wp2_with fail
    refine hrem.mono ?_
    rintro e w5 ⟨rfl, oE', q1, q2, q3⟩
    go_wp2_with fail
    go_ret2
    have nm : ¬ oE' m := fun e => by
      rcases q2 m e with e | e
      · exact h3 e
      · have := lt_of_blk h1'; omega
    refine ⟨n, fun x => x = m ∨ oE' x, rfl, ⟨p, oE', (q3.block m (lt_of_blk h1') h3).trans h1', q1, nm, fun x => Iff.rfl, HP.out⟩, g2, fun x hx => ?_, ?_⟩
    · rcases hx with e | e
      · rw [e]; exact Or.inl hom
      · rcases q2 x e with e | e
        · exact Or.inl ((h4 x).2 (Or.inr e))
        · exact Or.inr (Nat.le_trans (Nat.le_trans g4.size fr.size) e)
    · exact ((g4.mono fun x _ e => by rw [e]; exact hom).trans fr fun _ _ e => e.elim).trans q3 fun x _ e => (h4 x).2 (Or.inr e)
  | false =>
    rw [hsm] at hfind
    simp only [Bool.false_eq_true, if_false]
    clear hsm hsr
    go_enter Tryz.func33, Tryz.ntmps33
    go_wp2_with fail
    refine hfind.mono ?_
    rintro e w3 ⟨n, rfl, g1, g2, g3, g4⟩
    go_wp2_with fail
    go_ret2
    exact ⟨n, own, rfl, g1, g2, fun x hx => Or.inl hx, g4.mono fun x _ e => by rw [e]; exact hom⟩

end Go.Proofs.YthbnbocpddddmaaGreat
