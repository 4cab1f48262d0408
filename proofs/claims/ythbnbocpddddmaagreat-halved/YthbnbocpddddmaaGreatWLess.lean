/- less. -/
import Derived.Test.YthbnbocpddddmaaGreatWTree
import Derived.Test.YthbnbocpddddmaaGreatLst
namespace Go.Proofs.YthbnbocpddddmaaGreat
open Go.RowKit

set_option maxHeartbeats 400000 in
theorem less_any (a b : Int) (t : Bool) (w : World) : Calls Tryz.prog 36 #[.int .i64 a, .int .i64 b, .bool t] w fun e w' => e = .returned (.bool (lessB t a b)) ∧ w' = w := by
  unfold lessB
  cases t
  · go_enter Tryz.func36, Tryz.ntmps36
    go_wp2_with fail
    go_ret
    exact ⟨rfl, rfl⟩
  · go_enter Tryz.func36, Tryz.ntmps36
    go_wp2_with fail
    go_ret
    exact ⟨rfl, rfl⟩

end Go.Proofs.YthbnbocpddddmaaGreat
