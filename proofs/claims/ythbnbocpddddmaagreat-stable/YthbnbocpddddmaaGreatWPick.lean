/- pick, of a thousand and of two thousand. -/
import Derived.Test.YthbnbocpddddmaaGreatWNew
import Derived.Test.YthbnbocpddddmaaGreatStab
namespace Go.Proofs.YthbnbocpddddmaaGreat
open Go.RowKit

set_option maxHeartbeats 400000 in
theorem pick1000_any (c : Int) (w : World) (c0 : -9223372036854775808 ≤ c) (c1 : c < 9223372036854775808) : Calls Tryz.prog 44 #[.int .i64 c, .int .i64 1000] w fun e w' => e = .returned (.int .i64 (pkn c 1000)) ∧ w' = w := by
  unfold pkn
  by_cases h : c < 0
  · rw [if_pos h]
    go_enter Tryz.func44, Tryz.ntmps44
    go_wp2_with fail
    go_ret
    have e : -((c + 1).tmod 1000) = (-(c + 1)) % 1000 := by rw [← Int.neg_tmod, Int.tmod_eq_emod_of_nonneg (by omega)]
    exact ⟨congrArg (fun x => Ending.returned (.int .i64 x)) e, rfl⟩
  · rw [if_neg h]
    go_enter Tryz.func44, Tryz.ntmps44
    go_wp2_with fail
    go_ret
    exact ⟨rfl, rfl⟩

set_option maxHeartbeats 400000 in
theorem pick2000_any (c : Int) (w : World) (c0 : -9223372036854775808 ≤ c) (c1 : c < 9223372036854775808) : Calls Tryz.prog 44 #[.int .i64 c, .int .i64 2000] w fun e w' => e = .returned (.int .i64 (pkn c 2000)) ∧ w' = w := by
  unfold pkn
  by_cases h : c < 0
  · rw [if_pos h]
    go_enter Tryz.func44, Tryz.ntmps44
    go_wp2_with fail
    go_ret
    have e : -((c + 1).tmod 2000) = (-(c + 1)) % 2000 := by rw [← Int.neg_tmod, Int.tmod_eq_emod_of_nonneg (by omega)]
    exact ⟨congrArg (fun x => Ending.returned (.int .i64 x)) e, rfl⟩
  · rw [if_neg h]
    go_enter Tryz.func44, Tryz.ntmps44
    go_wp2_with fail
    go_ret
    exact ⟨rfl, rfl⟩

end Go.Proofs.YthbnbocpddddmaaGreat
