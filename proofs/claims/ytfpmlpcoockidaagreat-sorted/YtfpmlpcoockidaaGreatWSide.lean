/- The closure that compares and counts. -/
import Derived.Test.YtfpmlpcoockidaaGreatWCmp
namespace Go.Proofs.YtfpmlpcoockidaaGreat
open Go.RowKit

/-- A map's block. -/
def mapBlk (turned : Bool) (items : Value) (c : Int) : Obj := .cells #[.iface 127 (.agg #[]), .bool turned, items, .int .i64 c] 86 (0, 0)

theorem Fr.cell {S : Nat → Prop} {w w' : World} (h : Fr S w w') {b : Nat} (o : Nat) (hb : b < w.heap.size) (hn : ¬ S b) : w'.cell? ⟨b, o, none⟩ = w.cell? ⟨b, o, none⟩ := World.cell?_of_block (w := w) (h.block b hb hn)

set_option maxHeartbeats 1000000 in
theorem side_any (m mb kb : Nat) (turned : Bool) (items : Value) (c k key : Int) (w : World) (hm : w.heap[m]? = some (mapBlk turned items c))
    (hmb : w.heap[mb]? = some (.cells #[.pointer (some ⟨m, 0, none⟩)] 31 (0, 0))) (hkb : w.heap[kb]? = some (.cells #[.int .i64 k] 3 (0, 0)))
    (n1 : mb ≠ m) (n2 : kb ≠ m) (b0 : 0 ≤ c) (b1 : c ≤ 9000000000000000000) :
    Calls Tryz.prog 53 #[.int .i64 key, .pointer (some ⟨mb, 0, none⟩), .pointer (some ⟨kb, 0, none⟩)] w fun e w' => e = .returned (.int .i64 (side turned k key)) ∧
      w'.heap[m]? = some (mapBlk turned items (c + 1)) ∧ Fr (fun x => x = m) w w' := by
  have x1 := lt_of_blk hm
  have x2 := lt_of_blk hmb
  have x3 := lt_of_blk hkb
  have c0 : w.cell? ⟨m, 0, none⟩ = some (.iface 127 (.agg #[])) := cell_of hm 0
  have c1 : w.cell? ⟨m, 1, none⟩ = some (.bool turned) := cell_of hm 1
  have c3 : w.cell? ⟨m, 3, none⟩ = some (.int .i64 c) := cell_of hm 3
  have f3 : w.frozen? ⟨m, 3, none⟩ = false := frozen_of hm 3
  have d0 : w.cell? ⟨mb, 0, none⟩ = some (.pointer (some ⟨m, 0, none⟩)) := cell_of hmb 0
  have e0 : w.cell? ⟨kb, 0, none⟩ = some (.int .i64 k) := cell_of hkb 0
  have n1' : m ≠ mb := Ne.symm n1
  have n2' : m ≠ kb := Ne.symm n2
  go_enter Tryz.func53, Tryz.ntmps53
  go_wp2_with fail
  go_region_held3 (fun w' => w'.cell? ⟨mb, 0, none⟩ = some (.pointer (some ⟨m, 0, none⟩)) ∧ w'.cell? ⟨m, 0, none⟩ = some (.iface 127 (.agg #[])) ∧ w'.cell? ⟨m, 1, none⟩ = some (.bool turned) ∧ w'.cell? ⟨kb, 0, none⟩ = some (.int .i64 k))
   (refine ⟨?_, ?_, ?_, ?_⟩ <;> simp [*, World.cell?_setCell_other])
   ((go_at_call 54; refine (compare_any turned k key _).mono ?_; rintro e w1 ⟨rfl, fr⟩; have q0 := fr.cell (b := m) 0 (by simpa using x1) (fun e => e); have q1 := fr.cell (b := m) 1 (by simpa using x1) (fun e => e); have q2 := fr.cell (b := mb) 0 (by simpa using x2) (fun e => e); have q3 := fr.cell (b := kb) 0 (by simpa using x3) (fun e => e)))
  go_wp2_with fail
  go_ret
  refine ⟨rfl, (fr.block m (by simpa using x1) (fun e => e)).trans ((blk_set hm 3 _).trans rfl), ?_⟩
  refine Fr.trans (Fr.drew (Fr.setCell (Fr.refl _ _) (by exact fun _ => rfl) _)) fr (fun _ _ e => e.elim)

end Go.Proofs.YtfpmlpcoockidaaGreat
