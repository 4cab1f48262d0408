/- Ints, Turned, New of maps of numbers, pick. -/
import Derived.Test.YthbnbocpddddmaaGreatWMapT
import Derived.Test.YthbnbocpddddmaaGreatWMapK
namespace Go.Proofs.YthbnbocpddddmaaGreat
open Go.RowKit

theorem cell_alloc_old {w : World} {b off : Nat} (o : Obj) (h : b < w.heap.size) : (w.alloc o).cell? ⟨b, off, none⟩ = w.cell? ⟨b, off, none⟩ := World.cell?_of_block (w := w) (Below.heap_alloc _ _ _ h)

set_option maxRecDepth 100000 in
set_option maxHeartbeats 400000 in
theorem ints_any (w : World) : Calls Tryz.prog 50 #[] w fun e w' => e = .returned (.agg #[.iface 187 (.agg #[]), .bool false]) ∧ Fr (fun _ => False) w w' := by
  go_enter Tryz.func50, Tryz.ntmps50
  go_wp2_with fail
  exact bodyPost_ret (v := .agg #[.iface 187 (.agg #[]), .bool false]) (by simp [results, Tryz.results50, go_sem]) rfl ⟨rfl, Fr.alloc (Fr.refl _ _) _⟩

set_option maxRecDepth 100000 in
set_option maxHeartbeats 400000 in
theorem turned_any (t : Bool) (w : World) : Calls Tryz.prog 49 #[.agg #[.iface 187 (.agg #[]), .bool t]] w fun e w' => e = .returned (.agg #[.iface 187 (.agg #[]), .bool (!t)]) ∧ Fr (fun _ => False) w w' := by
  go_enter Tryz.func49, Tryz.ntmps49
  go_wp2_with fail
  exact bodyPost_ret (v := .agg #[.iface 187 (.agg #[]), .bool (!t)]) (by simp [results, Tryz.results49, go_sem]) rfl ⟨rfl, Fr.alloc (Fr.alloc (Fr.refl _ _) _) _⟩

set_option maxHeartbeats 400000 in
theorem tNew_any (w : World) : Calls Tryz.prog 51 #[] w fun e w' => ∃ p : Nat, e = .returned (.pointer (some ⟨p, 0, none⟩)) ∧ ∃ own : Nat → Prop, EngT w' p own [] ∧ (∀ x, own x → w.heap.size ≤ x) ∧ Fr (fun _ => False) w w' := by
  go_enter Tryz.func51, Tryz.ntmps51
  go_wp2_with fail
  go_ret
  exact ⟨w.heap.size, rfl, fun x => x = w.heap.size ∨ Tr.nil.has x, ⟨.nil, blk_new _ _, trivial, trivial, fun e => e, rfl, fun x => Iff.rfl⟩, fun x e => by rcases e with e | e; omega; exact e.elim, Fr.alloc (Fr.refl _ _) _⟩

set_option maxRecDepth 100000 in
set_option maxHeartbeats 1000000 in
theorem newT_any (t : Bool) (w : World) : Calls Tryz.prog 11 #[.agg #[.iface 187 (.agg #[]), .bool t], .int .i64 0] w fun e w' => ∃ m : Nat, e = .returned (.tuple #[.pointer (some ⟨m, 0, none⟩), .int .i64 0]) ∧ ∃ own : Nat → Prop, MapT w' m t 0 own [] ∧ (∀ x, own x → w.heap.size ≤ x) ∧ Fr (fun _ => False) w w' := by
  go_enter Tryz.func11, Tryz.ntmps11
  go_wp2_with fail
  go_region_held3 (fun w' => w'.cell? ⟨w.heap.size, 0, none⟩ = some (.iface 187 (.agg #[])) ∧ w'.cell? ⟨w.heap.size, 1, none⟩ = some (.bool t))
    (refine ⟨?_, ?_⟩ <;> simp [*, cell_alloc_old])
    ((go_at_call 51; refine (tNew_any _).mono ?_; rintro e w1 ⟨p, rfl, own, q1, q2, q3⟩; have k2 : w.heap.size < w1.heap.size := (by have := q3.size; simp at this; omega); have k0 := (q3.cell (b := w.heap.size) 0 (by simp) (fun e => e)); have k1 := (q3.cell (b := w.heap.size) 1 (by simp) (fun e => e))))
  go_wp2_with fail
  go_ret2
  have k3 : ¬ own w1.heap.size := fun e => by have := q1.lt _ e; omega
  refine ⟨w1.heap.size, rfl, fun x => x = w1.heap.size ∨ own x, ⟨p, own, blk_new _ _, q1.fr (Fr.alloc (Fr.refl _ _) _) (fun _ _ e => e), k3, fun x => Iff.rfl, List.Pairwise.nil⟩, fun x e => ?_, ?_⟩
  · rcases e with e | e
    · omega
    · have := q2 x e; simp at this; omega
  · exact Fr.alloc (Fr.trans (S' := fun _ => False) (Fr.drew (Fr.alloc (Fr.refl _ _) _)) q3 fun _ _ e => e) _

set_option maxRecDepth 100000 in
set_option maxHeartbeats 1000000 in
theorem newK_any (t : Bool) (w : World) : Calls Tryz.prog 11 #[.agg #[.iface 187 (.agg #[]), .bool t], .int .i64 1] w fun e w' => ∃ m : Nat, e = .returned (.tuple #[.pointer (some ⟨m, 0, none⟩), .int .i64 0]) ∧ ∃ own : Nat → Prop, MapK w' m t 0 own [] ∧ (∀ x, own x → w.heap.size ≤ x) ∧ Fr (fun _ => False) w w' := by
  go_enter Tryz.func11, Tryz.ntmps11
  go_wp2_with fail
  go_region_held3 (fun w' => w'.cell? ⟨w.heap.size, 0, none⟩ = some (.iface 187 (.agg #[])) ∧ w'.cell? ⟨w.heap.size, 1, none⟩ = some (.bool t))
    (refine ⟨?_, ?_⟩ <;> simp [*, cell_alloc_old])
    ((go_at_call 52; refine (SkI.kNew_any _).mono ?_; rintro e w1 ⟨p, rfl, own, q1, q2, q3⟩; have k2 : w.heap.size < w1.heap.size := (by have := q3.size; simp at this; omega); have k0 := (q3.cell (b := w.heap.size) 0 (by simp) (fun e => e)); have k1 := (q3.cell (b := w.heap.size) 1 (by simp) (fun e => e))))
  go_wp2_with fail
  go_ret2
  have k3 : ¬ own w1.heap.size := fun e => by have := SkI.Eng.lt q1 _ e; omega
  refine ⟨w1.heap.size, rfl, fun x => x = w1.heap.size ∨ own x, ⟨p, own, blk_new _ _, SkI.Eng.fr q1 (Fr.alloc (Fr.refl _ _) _) (fun _ _ e => e), k3, fun x => Iff.rfl, List.Pairwise.nil⟩, fun x e => ?_, ?_⟩
  · rcases e with e | e
    · omega
    · have := q2 x e; simp at this; omega
  · exact Fr.alloc (Fr.trans (S' := fun _ => False) (Fr.drew (Fr.alloc (Fr.refl _ _) _)) q3 fun _ _ e => e) _

/-- pick of two. -/
def pk (c : Int) : Int := if c < 0 then (-(c + 1)) % 2 else c % 2
theorem pk_01 (c : Int) : pk c = 0 ∨ pk c = 1 := by unfold pk; split <;> omega

set_option maxHeartbeats 400000 in
theorem pick_any (c : Int) (w : World) (c0 : -9223372036854775808 ≤ c) (c1 : c < 9223372036854775808) : Calls Tryz.prog 44 #[.int .i64 c, .int .i64 2] w fun e w' => e = .returned (.int .i64 (pk c)) ∧ w' = w := by
  unfold pk
  by_cases h : c < 0
  · rw [if_pos h]
    go_enter Tryz.func44, Tryz.ntmps44
    go_wp2_with fail
    go_ret
    have e : -((c + 1).tmod 2) = (-(c + 1)) % 2 := by rw [← Int.neg_tmod, Int.tmod_eq_emod_of_nonneg (by omega)]
    exact ⟨congrArg (fun x => Ending.returned (.int .i64 x)) e, rfl⟩
  · rw [if_neg h]
    go_enter Tryz.func44, Tryz.ntmps44
    go_wp2_with fail
    go_ret
    exact ⟨rfl, rfl⟩

end Go.Proofs.YthbnbocpddddmaaGreat
