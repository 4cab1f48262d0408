/- Comparing: cmp.Compare[int], Ints.Compare, Order[int].compare. -/
import Derived.Test.YthbnbocpddddmaaGreatWTree
import Derived.Test.YthbnbocpddddmaaGreatLst
namespace Go.Proofs.YthbnbocpddddmaaGreat
open Go.RowKit

set_option maxHeartbeats 400000 in
theorem isNaN_any (a : Int) (w : World) : Calls Tryz.prog 276 #[.int .i64 a] w fun e w' => e = .returned (.bool false) ∧ w' = w := by
  go_enter Tryz.func276, Tryz.ntmps276
  go_wp2
  go_ret
  exact ⟨by simp, rfl⟩

set_option maxHeartbeats 400000 in
theorem cmp_any (a b : Int) (w : World) : Calls Tryz.prog 275 #[.int .i64 a, .int .i64 b] w fun e w' => e = .returned (.int .i64 (sgn a b)) ∧ w' = w := by
  unfold sgn
  by_cases h1 : a < b
  · rw [if_pos h1]
    go_enter Tryz.func275, Tryz.ntmps275
    go_wp2_with (go_at_call 276; refine (isNaN_any _ _).mono ?_; rintro e w' ⟨rfl, rfl⟩)
    go_ret
    exact ⟨rfl, rfl⟩
  · rw [if_neg h1]
    by_cases h2 : b < a
    · rw [if_pos h2]
      go_enter Tryz.func275, Tryz.ntmps275
      go_wp2_with (go_at_call 276; refine (isNaN_any _ _).mono ?_; rintro e w' ⟨rfl, rfl⟩)
      go_ret
      exact ⟨rfl, rfl⟩
    · rw [if_neg h2]
      go_enter Tryz.func275, Tryz.ntmps275
      go_wp2_with (go_at_call 276; refine (isNaN_any _ _).mono ?_; rintro e w' ⟨rfl, rfl⟩)
      go_ret
      exact ⟨rfl, rfl⟩

set_option maxHeartbeats 400000 in
theorem intsCompare_any (a b : Int) (w : World) : Calls Tryz.prog 274 #[.agg #[], .int .i64 a, .int .i64 b] w fun e w' => e = .returned (.int .i64 (sgn a b)) ∧ Fr (fun _ => False) w w' := by
  go_enter Tryz.func274, Tryz.ntmps274
  go_wp2_with (go_at_call 275; refine (cmp_any _ _ _).mono ?_; rintro e w' ⟨rfl, rfl⟩)
  go_ret
  exact ⟨rfl, Fr.alloc (Fr.refl _ _) _⟩

theorem method_compare (w : World) : (method 489 187 (.agg #[]) "Compare").run Tryz.prog w = .ok (274, .agg #[]) w := by kernel_rfl

set_option maxRecDepth 100000 in
set_option maxHeartbeats 400000 in
theorem compare_any (turned : Bool) (a b : Int) (w : World) : Calls Tryz.prog 118 #[.agg #[.iface 187 (.agg #[]), .bool turned], .int .i64 a, .int .i64 b] w fun e w' => e = .returned (.int .i64 (side turned a b)) ∧ Fr (fun _ => False) w w' := by
  have hm := method_compare
  cases turned
  · go_enter Tryz.func118, Tryz.ntmps118
    go_wp2_with fail
    refine (intsCompare_any _ _ _).mono ?_
    rintro e w' ⟨rfl, fr⟩
    go_wp2_with fail
    go_ret
    exact ⟨rfl, (Fr.alloc (Fr.refl _ _) _).trans fr fun _ _ e => e⟩
  · go_enter Tryz.func118, Tryz.ntmps118
    go_wp2_with fail
    refine (intsCompare_any _ _ _).mono ?_
    rintro e w' ⟨rfl, fr⟩
    go_wp2_with fail
    go_ret
    exact ⟨rfl, (Fr.alloc (Fr.refl _ _) _).trans fr fun _ _ e => e⟩

end Go.Proofs.YthbnbocpddddmaaGreat
