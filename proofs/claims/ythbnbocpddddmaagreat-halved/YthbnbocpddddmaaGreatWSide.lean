/- The closure that compares and counts. -/
import Derived.Test.YthbnbocpddddmaaGreatWCmp
namespace Go.Proofs.YthbnbocpddddmaaGreat
open Go.RowKit

/-- The engine that an engine value is of; a map's block. -/
def engOf : Value → Int
  | .iface t _ => if t = 116 then 1 else 0
  | _ => 0
def mapBlk (turned : Bool) (items : Value) (c : Int) : Obj := .cells #[.iface 187 (.agg #[]), .bool turned, .int .i64 (engOf items), items, .int .i64 c] 115 (0, 0)

/-- A cursor's block. -/
def curBlk (m : Nat) (s k : Int) : Obj := .cells #[.pointer (some ⟨m, 0, none⟩), .int .i64 s, .int .i64 k] 184 (0, 0)

theorem Fr.cell {S : Nat → Prop} {w w' : World} (h : Fr S w w') {b : Nat} (o : Nat) (hb : b < w.heap.size) (hn : ¬ S b) : w'.cell? ⟨b, o, none⟩ = w.cell? ⟨b, o, none⟩ := World.cell?_of_block (w := w) (h.block b hb hn)

set_option maxHeartbeats 1000000 in
theorem mcompare_any (m : Nat) (turned : Bool) (items : Value) (c a b : Int) (w : World) (hm : w.heap[m]? = some (mapBlk turned items c)) (b0 : 0 ≤ c) (b1 : c ≤ 9000000000000000000) :
    Calls Tryz.prog 93 #[.pointer (some ⟨m, 0, none⟩), .int .i64 a, .int .i64 b] w fun e w' => e = .returned (.int .i64 (side turned a b)) ∧
      w'.heap[m]? = some (mapBlk turned items (c + 1)) ∧ Fr (fun x => x = m) w w' := by
  have x1 := lt_of_blk hm
  have c0 : w.cell? ⟨m, 0, none⟩ = some (.iface 187 (.agg #[])) := cell_of hm 0
  have c1 : w.cell? ⟨m, 1, none⟩ = some (.bool turned) := cell_of hm 1
  have c3 : w.cell? ⟨m, 4, none⟩ = some (.int .i64 c) := cell_of hm 4
  have f3 : w.frozen? ⟨m, 4, none⟩ = false := frozen_of hm 4
  go_enter Tryz.func93, Tryz.ntmps93
  go_wp2_with fail
  refine (compare_any turned a b _).mono ?_
  rintro e w1 ⟨rfl, fr⟩
  go_wp2_with fail
  go_ret
  refine ⟨rfl, (fr.block m (by simpa using x1) (fun e => e)).trans ((blk_set hm 4 _).trans rfl), ?_⟩
  exact Fr.trans (Fr.setCell (Fr.refl _ _) (by exact fun _ => rfl) _) fr (fun _ _ e => e.elim)

set_option maxHeartbeats 1000000 in
theorem side_any (m mb kb : Nat) (turned : Bool) (items : Value) (c k key : Int) (w : World) (hm : w.heap[m]? = some (mapBlk turned items c))
    (hmb : w.heap[mb]? = some (.cells #[.pointer (some ⟨m, 0, none⟩)] 31 (0, 0))) (hkb : w.heap[kb]? = some (.cells #[.int .i64 k] 3 (0, 0)))
    (_n1 : mb ≠ m) (_n2 : kb ≠ m) (b0 : 0 ≤ c) (b1 : c ≤ 9000000000000000000) :
    Calls Tryz.prog 92 #[.int .i64 key, .pointer (some ⟨mb, 0, none⟩), .pointer (some ⟨kb, 0, none⟩)] w fun e w' => e = .returned (.int .i64 (side turned k key)) ∧
      w'.heap[m]? = some (mapBlk turned items (c + 1)) ∧ Fr (fun x => x = m) w w' := by
  have d0 : w.cell? ⟨mb, 0, none⟩ = some (.pointer (some ⟨m, 0, none⟩)) := cell_of hmb 0
  have e0 : w.cell? ⟨kb, 0, none⟩ = some (.int .i64 k) := cell_of hkb 0
  have hc := mcompare_any m turned items c k key w hm b0 b1
  clear hm hmb hkb
  go_enter Tryz.func92, Tryz.ntmps92
  go_wp2_with fail
  refine hc.mono ?_
  rintro e w1 ⟨rfl, g1, g2⟩
  go_wp2_with fail
  go_ret
  exact ⟨rfl, g1, g2⟩

end Go.Proofs.YthbnbocpddddmaaGreat
