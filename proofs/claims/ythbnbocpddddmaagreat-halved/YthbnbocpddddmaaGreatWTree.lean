/- The tree's small functions: count, levels, measure, the two turns. -/
import Derived.Test.YthbnbocpddddmaaGreatProg
import Derived.Test.YthbnbocpddddmaaGreatMem
import Derived.WalkKit
import Derived.WalkSpells
import Derived.WalkLawsBesides
import Derived.Deep.QuietTactic
import Derived.BigQuiet
import Derived.Deep.RegionWith
import Derived.Deep.RegionHeld3
import Derived.Deep.DeepCutAuto
import Derived.Deep.Light
import Derived.Deep.MidRow
namespace Go.Proofs.YthbnbocpddddmaaGreat
open Go.RowKit

set_option maxHeartbeats 400000 in
theorem count_any (p : Option Addr) (s h : Int) (w : World) (ht : Top 336 w p s h) :
    Calls Tryz.prog 205 #[.pointer p] w fun e w' => e = .returned (.int .i64 s) ∧ w' = w := by
  rcases ht with ⟨rfl, rfl, rfl⟩ | ⟨b, k, v, lp, rp, rfl, hb⟩
  · go_enter Tryz.func205, Tryz.ntmps205
    go_wp2
    go_ret
    exact ⟨rfl, rfl⟩
  · have c4 : w.cell? ⟨b, 4, none⟩ = some (.int .i64 s) := cell_of hb 4
    clear hb
    go_enter Tryz.func205, Tryz.ntmps205
    go_wp2
    go_ret
    exact ⟨rfl, rfl⟩

set_option maxHeartbeats 400000 in
theorem levels_any (p : Option Addr) (s h : Int) (w : World) (ht : Top 336 w p s h) :
    Calls Tryz.prog 210 #[.pointer p] w fun e w' => e = .returned (.int .i64 h) ∧ w' = w := by
  rcases ht with ⟨rfl, rfl, rfl⟩ | ⟨b, k, v, lp, rp, rfl, hb⟩
  · go_enter Tryz.func210, Tryz.ntmps210
    go_wp2
    go_ret
    exact ⟨rfl, rfl⟩
  · have c4 : w.cell? ⟨b, 5, none⟩ = some (.int .i64 h) := cell_of hb 5
    clear hb
    go_enter Tryz.func210, Tryz.ntmps210
    go_wp2
    go_ret
    exact ⟨rfl, rfl⟩

end Go.Proofs.YthbnbocpddddmaaGreat
