/- Texts of ASCII letters: number, DecodeRuneInString, cmp.Compare[rune]. -/
import Derived.Test.YthbnbocpddddmaaGreatWTree
import Derived.Test.YthbnbocpddddmaaGreatLst
namespace Go.Proofs.YthbnbocpddddmaaGreat
open Go.RowKit

def low (b : Bool) (r : Int) : Int := if b = true ∧ 65 ≤ r ∧ r ≤ 90 then r + 32 else r

set_option maxHeartbeats 400000 in
theorem isNaNRune_any (a : Int) (w : World) : Calls Tryz.prog 282 #[.int .i32 a] w fun e w' => e = .returned (.bool false) ∧ w' = w := by
  go_enter Tryz.func282, Tryz.ntmps282
  go_wp2
  go_ret
  exact ⟨by simp, rfl⟩

set_option maxHeartbeats 400000 in
theorem cmpRune_any (a b : Int) (w : World) : Calls Tryz.prog 279 #[.int .i32 a, .int .i32 b] w fun e w' => e = .returned (.int .i64 (sgn a b)) ∧ w' = w := by
  unfold sgn
  by_cases h1 : a < b
  · rw [if_pos h1]
    go_enter Tryz.func279, Tryz.ntmps279
    go_wp2_with (go_at_call 282; refine (isNaNRune_any _ _).mono ?_; rintro e w' ⟨rfl, rfl⟩)
    go_ret
    exact ⟨rfl, rfl⟩
  · rw [if_neg h1]
    by_cases h2 : b < a
    · rw [if_pos h2]
      go_enter Tryz.func279, Tryz.ntmps279
      go_wp2_with (go_at_call 282; refine (isNaNRune_any _ _).mono ?_; rintro e w' ⟨rfl, rfl⟩)
      go_ret
      exact ⟨rfl, rfl⟩
    · rw [if_neg h2]
      go_enter Tryz.func279, Tryz.ntmps279
      go_wp2_with (go_at_call 282; refine (isNaNRune_any _ _).mono ?_; rintro e w' ⟨rfl, rfl⟩)
      go_ret
      exact ⟨rfl, rfl⟩

set_option maxHeartbeats 400000 in
theorem number_ascii (b : Bool) (r : Int) (s : ByteArray) (w : World) (r0 : 0 ≤ r) (r1 : r < 128) :
    Calls Tryz.prog 280 #[.agg #[.bool b], .int .i32 r, .string s] w fun e w' => e = .returned (.int .i32 (low b r)) ∧ Fr (fun _ => False) w w' := by
  have h0 : (r == 65533) = false := by rw [beq_eq_false_iff_ne]; omega
  unfold low
  cases b
  · rw [if_neg (by simp)]
    go_enter Tryz.func280, Tryz.ntmps280
    go_wp2_with fail
    go_ret
    exact ⟨rfl, Fr.alloc (Fr.refl _ _) _⟩
  · by_cases h1 : 65 ≤ r
    · by_cases h2 : r ≤ 90
      · rw [if_pos ⟨rfl, h1, h2⟩]
        go_enter Tryz.func280, Tryz.ntmps280
        go_wp2_with fail
        go_ret
        exact ⟨congrArg (fun x => Ending.returned (.int .i32 x)) (by omega : r - 65 + 97 = r + 32), Fr.alloc (Fr.refl _ _) _⟩
      · rw [if_neg (by omega)]
        go_enter Tryz.func280, Tryz.ntmps280
        go_wp2_with fail
        go_ret
        exact ⟨rfl, Fr.alloc (Fr.refl _ _) _⟩
    · rw [if_neg (by omega)]
      go_enter Tryz.func280, Tryz.ntmps280
      go_wp2_with fail
      go_ret
      exact ⟨rfl, Fr.alloc (Fr.refl _ _) _⟩

set_option maxHeartbeats 400000 in
theorem decode_asc (s : ByteArray) (w : World) (hs : 0 < s.size) (ha : (s[0]'hs).toNat < 128) :
    Calls Tryz.prog 278 #[.string s] w fun e w' => e = .returned (.tuple #[.int .i32 ((s[0]'hs).toNat : Int), .int .i64 1]) ∧ w' = w := by
  have he : s.toList.isEmpty = false := by
    rw [List.isEmpty_eq_false_iff]
    intro e
    have : s.data.toList = [] := by simpa [ByteArray.toList_eq] using e
    simp at this
    simp [ByteArray.size, this] at hs
  have ha' : ((s[0]'hs).toNat : Int) < 128 := by omega
  go_enter Tryz.func278, Tryz.ntmps278
  go_wp2_with fail
  go_ret2
  exact ⟨rfl, rfl⟩

end Go.Proofs.YthbnbocpddddmaaGreat
