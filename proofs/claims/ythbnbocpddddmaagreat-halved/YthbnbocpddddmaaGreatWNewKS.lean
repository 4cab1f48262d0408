/- skip.New. -/
import Derived.Test.YthbnbocpddddmaaGreatWInsKS
namespace Go.Proofs.YthbnbocpddddmaaGreat.SkS
open Go.RowKit

set_option maxRecDepth 100000 in
set_option maxHeartbeats 1000000 in
theorem kNew_any (w : World) :
    Calls Tryz.prog 57 #[] w fun e w' => ∃ (p : Nat), e = .returned (.pointer (some ⟨p, 0, none⟩)) ∧ ∃ own : Nat → Prop, Eng w' p own [] ∧ (∀ x, own x → w.heap.size ≤ x) ∧ Fr (fun _ => False) w w' := by
  have hmk := make_link9
  go_enter Tryz.func57, Tryz.ntmps57
  go_wp2_with fail
  go_loopg [11] 9 (fun gk s11 wr => ∃ l : Nat, gk + l = 9 ∧ s11 = .int .i64 l ∧ wr.heap[w.heap.size]? = some (linkB 9 fun m => if m < l then (none, 1) else (none, 0)) ∧
    (∃ k, wr.heap[w.heap.size + 1]? = some (nodeB ⟨w.heap.size + 1, w.heap.size, 9, k, 0⟩)) ∧ wr.heap.size = w.heap.size + 2 ∧ Fr (fun _ => False) w wr)
  case atStart =>
    refine ⟨0, rfl, rfl, ?_, ⟨⟨#[]⟩, ?_⟩, by simp, Fr.alloc (Fr.alloc (Fr.refl _ _) _) _⟩
    · rw [Below.heap_alloc _ _ _ (by simp)]; exact blk_new _ _
    · have := blk_new (w.alloc (linkB 9 fun _ => (none, 0))) (Obj.cells #[.string ⟨#[]⟩, .int .i64 0, .slice (some ⟨w.heap.size, 0, none⟩) 9 9] 208)
      rw [World.size_alloc] at this; exact this
  case round =>
    obtain ⟨l, y0, rfl, y1, ⟨k, y2⟩, y3, fr⟩ := hrel
    have k1 : wr.cell? ⟨w.heap.size + 1, 2, none⟩ = some (.slice (some ⟨w.heap.size, 0, none⟩) 9 9) := cell_of y2 2
    by_cases hl : l < 9
    · have hl' : (l : Int) < 9 := by omega
      obtain ⟨g1, g2⟩ := lcells_at 9 (fun m => if m < l then ((none : Option Addr), (1 : Int)) else (none, 0)) l hl
      rw [Nat.mul_comm] at g2
      have k2 : wr.cell? ⟨w.heap.size, l * 2 + 1, none⟩ = some (.int .i64 0) := by rw [cell_of y1]; simpa using g2
      have f2 : wr.frozen? ⟨w.heap.size, l * 2 + 1, none⟩ = false := frozen_of y1 _
      clear g1 g2
      go_wp2_with fail
      go_roundg (gk - 1)
      case measure => omega
      case rel =>
        refine ⟨l + 1, by omega, by go_num, ?_, ⟨k, ?_⟩, by simpa using y3, Fr.setCell fr (by exact fun e => absurd e (by simp)) _⟩
        · rw [blk_set y1]
          simp only [linkB]
          have := lcells_set1 9 (fun m => if m < l then ((none : Option Addr), (1 : Int)) else (none, 0)) l hl 1
          rw [Nat.mul_comm 2 l] at this
          have e : (fun m => if m < l + 1 then ((none : Option Addr), (1 : Int)) else (none, 0)) = (fun m => if m = l then (((if l < l then ((none : Option Addr), (1 : Int)) else (none, 0))).1, (1 : Int)) else if m < l then (none, 1) else (none, 0)) := by
            funext m
            by_cases c : m = l
            · subst c; simp
            · by_cases d : m < l
              · simp [c, d, Nat.lt_succ_of_lt d]
              · simp [c, d, show ¬ m < l + 1 by omega]
          rw [e, ← this]
          simp
        · rw [blk_set_ne _ _ (by omega)]; exact y2
    · have hl' : ¬ (l : Int) < 9 := by omega
      have el : l = 9 := by omega
      subst el
      go_wp2_with fail
      go_ret
      refine ⟨w.heap.size + 2, rfl, fun x => x = w.heap.size + 2 ∨ x ∈ blocks [⟨w.heap.size + 1, w.heap.size, 9, k, 0⟩], ⟨⟨w.heap.size + 1, w.heap.size, 9, k, 0⟩, [], 0, (by rw [← y3]; exact blk_new _ _), by omega, by omega, ⟨fun j n hj => ?_, by simp [blocks]⟩, rfl, by simp, by simp [blocks], rfl, fun x => Iff.rfl⟩, ?_, Fr.alloc fr _⟩
      · cases j with
        | zero =>
          simp at hj; subst hj
          refine ⟨by rw [Below.heap_alloc _ _ _ (by simp; omega)]; exact y2, ?_⟩
          rw [Below.heap_alloc _ _ _ (by simp; omega), y1]
          simp only [linkB]
          congr 3
        | succ j => simp at hj
      · rintro x (e | e)
        · omega
        · simp [blocks] at e; omega

end Go.Proofs.YthbnbocpddddmaaGreat.SkS
