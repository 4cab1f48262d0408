/- height: from 1 to 9, whatever the count. -/
import Derived.Test.YthbnbocpddddmaaGreatWTree
namespace Go.Proofs.YthbnbocpddddmaaGreat
open Go.RowKit

theorem byte_small (s : ByteArray) (i : Nat) (h : i < s.size) (ha : s.data.toList.all (fun b => decide (b.toNat ≤ 8)) = true) : ((s[i]'h).toNat : Int) ≤ 8 := by
  have := List.all_eq_true.1 ha (s[i]'h) (by simp [ByteArray.getElem_eq_getElem_data])
  simp at this; omega

theorem fin_sum (c t : Int) (c0 : 0 ≤ c) (c1 : c ≤ 56) (t0 : 0 ≤ t) (t8 : t ≤ 8) : 0 ≤ wrap64 (c + wrap64 t) ∧ wrap64 (c + wrap64 t) ≤ 64 := by
  have e : wrap64 t = t := by unfold wrap64; omega
  rw [e]
  have e : wrap64 (c + t) = c + t := by unfold wrap64; omega
  rw [e]; omega
theorem fin_0 (t : Int) (t0 : 0 ≤ t) (t8 : t ≤ 8) : 0 ≤ wrap64 (wrap64 t) ∧ wrap64 (wrap64 t) ≤ 64 := by
  have e : wrap64 t = t := by unfold wrap64; omega
  rw [e, e]; omega

set_option maxRecDepth 100000 in
set_option maxHeartbeats 1000000 in
theorem len64_any (x : Int) (w : World) (x0 : 0 ≤ x) (x1 : x < 18446744073709551616) :
    Calls Tryz.prog 224 #[.int .u64 x] w fun e w' => (∃ n : Int, e = .returned (.int .i64 n) ∧ 0 ≤ n ∧ n ≤ 64) ∧ w' = w := by
  go_enter Tryz.func224, Tryz.ntmps224
  go_wp2_with fail
  all_goals go_ret
  all_goals refine ⟨⟨_, rfl, ?_⟩, rfl⟩
  all_goals first
    | (refine fin_sum _ _ ?_ ?_ ?_ (byte_small _ _ _ ?_))
    | (refine fin_0 _ ?_ (byte_small _ _ _ ?_))
  all_goals first
    | omega
    | decide +kernel

set_option maxRecDepth 100000 in
set_option maxHeartbeats 1000000 in
theorem lz_any (x : Int) (w : World) (x0 : 0 ≤ x) (x1 : x < 18446744073709551616) :
    Calls Tryz.prog 223 #[.int .u64 x] w fun e w' => (∃ n : Int, e = .returned (.int .i64 n) ∧ 0 ≤ n ∧ n ≤ 64) ∧ w' = w := by
  have hl := len64_any x w x0 x1
  clear x0 x1
  go_enter Tryz.func223, Tryz.ntmps223
  go_wp2_with fail
  refine hl.mono ?_
  rintro e w' ⟨⟨n, rfl, n0, n1⟩, rfl⟩
  go_wp2_with fail
  go_ret
  exact ⟨⟨_, rfl, by omega, by omega⟩, rfl⟩

theorem wrap_bd (y : Int) : 0 ≤ IntKind.u64.wrap y ∧ IntKind.u64.wrap y < 18446744073709551616 := by
  simp [IntKind.wrap, IntKind.bits, IntKind.signed]; omega

set_option maxRecDepth 100000 in
set_option maxHeartbeats 1000000 in
theorem height_any (x : Int) (w : World) :
    Calls Tryz.prog 221 #[.int .u64 x] w fun e w' => (∃ n : Nat, e = .returned (.int .i64 n) ∧ 1 ≤ n ∧ n ≤ 9) ∧ w' = w := by
  go_enter Tryz.func221, Tryz.ntmps221
  go_wp2_with fail
  have hb := wrap_bd (x * 11400714819323198485)
  generalize IntKind.u64.wrap (x * 11400714819323198485) = y at *
  refine (lz_any y w hb.1 hb.2).mono ?_
  rintro e w' ⟨⟨n, rfl, n0, n1⟩, rfl⟩
  clear hb
  go_wp2_with fail
  · go_ret
    exact ⟨⟨9, rfl, by omega, by omega⟩, rfl⟩
  · go_ret
    exact ⟨⟨(n + 1).toNat, by rw [Int.toNat_of_nonneg (by omega)]; rfl, by omega, by omega⟩, rfl⟩

end Go.Proofs.YthbnbocpddddmaaGreat
