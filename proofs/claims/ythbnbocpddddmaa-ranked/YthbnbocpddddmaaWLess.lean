/- less. -/
import Derived.Test.YthbnbocpddddmaaWTree
import Derived.Test.YthbnbocpddddmaaLst
namespace Go.Proofs.Ythbnbocpddddmaa
open Go.RowKit

set_option maxHeartbeats 400000 in
theorem less_any (a b : Int) (t : Bool) (w : World) : Calls Try.prog 38 #[.int .i64 a, .int .i64 b, .bool t] w fun e w' => e = .returned (.bool (lessB t a b)) ∧ w' = w := by
  unfold lessB
  cases t
  · go_enter Try.func38, Try.ntmps38
    go_wp2_with fail
    go_ret
    exact ⟨rfl, rfl⟩
  · go_enter Try.func38, Try.ntmps38
    go_wp2_with fail
    go_ret
    exact ⟨rfl, rfl⟩

end Go.Proofs.Ythbnbocpddddmaa
