/-
  No cell of these rows narrows 'for every input' (looked for: loops, veiled, ifaces, maps, wideKeys, modest, calm, conditions, laid).
  DERIVED. THE GIVEN ROWS OF THIS SEAT. 7 by the template 'for every input the law returns true; each argument reads behind the call as it read before'; 0 by the template 'total and deterministic' (their statements: YthbnbocpddddmaaGreatTotals.lean).
  GIVEN WITH THE SEED: the statements are not yours to turn. If you find one false, say at which input.
  Laid BY PROGRAM, IN A SANDBOX (cutbox-rows.mjs): the forced cells as the released guide's own fill.sh prints them over the translation 57a4b46886f3a8eb… (all of the seat's roots in one cut). By AI agents, Wed Nov 11 2026. No macro, syntax, notation, axiom, sorry.
-/
import Derived.Test.YthbnbocpddddmaaGreatChecked
import GoSem.Claim
import GoSem.ClaimJoined
import GoSem.ClaimMapViews
import Derived.JoinedTies
import Derived.KernelRfl
namespace Go.Proofs.YthbnbocpddddmaaGreat
/- THE CELL 'sum', in the pinned program and in every row, IS THE sha256 OF THE DUMP (.gsa) THAT YthbnbocpddddmaaGreatProg.lean LOADS. Nothing in Lean hashes anything: it is a label: what it is worth is what the hold of that sum in a sandbox is worth. -/
noncomputable def Tryz.pinned : Pinned := { name := "ythbnbocpddddmaagreat", sum := "57a4b46886f3a8eb48a2658889d5a164af3757df88c7ed2c6f0d8795c6f5eaa8", checked := Tryz.checked }
namespace Rows
def none {H : Type} : Left H := { results := [], args := [] }

/-- 'alcovelaw.Orders': WHATEVER THE INPUT: true; the input reads as it did. -/
def ordersSpec : ChangeSpec := { name := "orders", fn := fun _ => fun
  | [d1, d2, d3, d4, d5, d6, d7, d8, d9] => { results := [.lit (.bool true)], args := [d1, d2, d3, d4, d5, d6, d7, d8, d9] }
  | _ => none }
def ordersRow : OpenClaim := { program := "ythbnbocpddddmaagreat", sum := "57a4b46886f3a8eb48a2658889d5a164af3757df88c7ed2c6f0d8795c6f5eaa8", func := "alcove/alcovelaw.Orders", spec := "orders", unfollowed := true, recurses := true, apart := false }
def OrdersSaid : Prop := ordersRow.holds Tryz.pinned (OpenSpec.ofChange ordersSpec)

/-- ITS FALSE NEIGHBOUR: 'it returns false'. Refute it at one input. -/
def ordersWrong : ChangeSpec := { name := "orders", fn := fun _ => fun
  | [d1, d2, d3, d4, d5, d6, d7, d8, d9] => { results := [.lit (.bool false)], args := [d1, d2, d3, d4, d5, d6, d7, d8, d9] }
  | _ => none }
def OrdersWrongFalsely : Prop := ordersRow.holds Tryz.pinned (OpenSpec.ofChange ordersWrong)

/-- 'alcovelaw.Texts': WHATEVER THE INPUT: true; the input reads as it did. -/
def textsSpec : ChangeSpec := { name := "texts", fn := fun _ => fun
  | [d] => { results := [.lit (.bool true)], args := [d] }
  | _ => none }
def textsRow : OpenClaim := { program := "ythbnbocpddddmaagreat", sum := "57a4b46886f3a8eb48a2658889d5a164af3757df88c7ed2c6f0d8795c6f5eaa8", func := "alcove/alcovelaw.Texts", spec := "texts", unfollowed := true, recurses := true, apart := false }
def TextsSaid : Prop := textsRow.holds Tryz.pinned (OpenSpec.ofChange textsSpec)

/-- ITS FALSE NEIGHBOUR: 'it returns false'. Refute it at one input. -/
def textsWrong : ChangeSpec := { name := "texts", fn := fun _ => fun
  | [d] => { results := [.lit (.bool false)], args := [d] }
  | _ => none }
def TextsWrongFalsely : Prop := textsRow.holds Tryz.pinned (OpenSpec.ofChange textsWrong)

/-- 'alcovelaw.Points': WHATEVER THE INPUT: true; the input reads as it did. -/
def pointsSpec : ChangeSpec := { name := "points", fn := fun _ => fun
  | [d] => { results := [.lit (.bool true)], args := [d] }
  | _ => none }
def pointsRow : OpenClaim := { program := "ythbnbocpddddmaagreat", sum := "57a4b46886f3a8eb48a2658889d5a164af3757df88c7ed2c6f0d8795c6f5eaa8", func := "alcove/alcovelaw.Points", spec := "points", unfollowed := true, recurses := true, apart := false }
def PointsSaid : Prop := pointsRow.holds Tryz.pinned (OpenSpec.ofChange pointsSpec)

/-- ITS FALSE NEIGHBOUR: 'it returns false'. Refute it at one input. -/
def pointsWrong : ChangeSpec := { name := "points", fn := fun _ => fun
  | [d] => { results := [.lit (.bool false)], args := [d] }
  | _ => none }
def PointsWrongFalsely : Prop := pointsRow.holds Tryz.pinned (OpenSpec.ofChange pointsWrong)

/-- 'alcovekeep.Sorted': WHATEVER THE INPUT: true; the input reads as it did. -/
def sortedSpec : ChangeSpec := { name := "sorted", fn := fun _ => fun
  | [d1, d2, d3, d4] => { results := [.lit (.bool true)], args := [d1, d2, d3, d4] }
  | _ => none }
def sortedRow : OpenClaim := { program := "ythbnbocpddddmaagreat", sum := "57a4b46886f3a8eb48a2658889d5a164af3757df88c7ed2c6f0d8795c6f5eaa8", func := "alcove/alcovekeep.Sorted", spec := "sorted", unfollowed := true, recurses := true, apart := false }
def SortedSaid : Prop := sortedRow.holds Tryz.pinned (OpenSpec.ofChange sortedSpec)

/-- ITS FALSE NEIGHBOUR: 'it returns false'. Refute it at one input. -/
def sortedWrong : ChangeSpec := { name := "sorted", fn := fun _ => fun
  | [d1, d2, d3, d4] => { results := [.lit (.bool false)], args := [d1, d2, d3, d4] }
  | _ => none }
def SortedWrongFalsely : Prop := sortedRow.holds Tryz.pinned (OpenSpec.ofChange sortedWrong)

/-- 'alcovekeep.Halved': WHATEVER THE INPUT: true; the input reads as it did. -/
def halvedSpec : ChangeSpec := { name := "halved", fn := fun _ => fun
  | [d1, d2, d3, d4, d5] => { results := [.lit (.bool true)], args := [d1, d2, d3, d4, d5] }
  | _ => none }
def halvedRow : OpenClaim := { program := "ythbnbocpddddmaagreat", sum := "57a4b46886f3a8eb48a2658889d5a164af3757df88c7ed2c6f0d8795c6f5eaa8", func := "alcove/alcovekeep.Halved", spec := "halved", unfollowed := true, recurses := true, apart := false }
def HalvedSaid : Prop := halvedRow.holds Tryz.pinned (OpenSpec.ofChange halvedSpec)

/-- ITS FALSE NEIGHBOUR: 'it returns false'. Refute it at one input. -/
def halvedWrong : ChangeSpec := { name := "halved", fn := fun _ => fun
  | [d1, d2, d3, d4, d5] => { results := [.lit (.bool false)], args := [d1, d2, d3, d4, d5] }
  | _ => none }
def HalvedWrongFalsely : Prop := halvedRow.holds Tryz.pinned (OpenSpec.ofChange halvedWrong)

/-- 'alcovekeep.Sets': WHATEVER THE INPUT: true; the input reads as it did. -/
def setsSpec : ChangeSpec := { name := "sets", fn := fun _ => fun
  | [d1, d2, d3, d4] => { results := [.lit (.bool true)], args := [d1, d2, d3, d4] }
  | _ => none }
def setsRow : OpenClaim := { program := "ythbnbocpddddmaagreat", sum := "57a4b46886f3a8eb48a2658889d5a164af3757df88c7ed2c6f0d8795c6f5eaa8", func := "alcove/alcovekeep.Sets", spec := "sets", unfollowed := true, recurses := true, apart := false }
def SetsSaid : Prop := setsRow.holds Tryz.pinned (OpenSpec.ofChange setsSpec)

/-- ITS FALSE NEIGHBOUR: 'it returns false'. Refute it at one input. -/
def setsWrong : ChangeSpec := { name := "sets", fn := fun _ => fun
  | [d1, d2, d3, d4] => { results := [.lit (.bool false)], args := [d1, d2, d3, d4] }
  | _ => none }
def SetsWrongFalsely : Prop := setsRow.holds Tryz.pinned (OpenSpec.ofChange setsWrong)

/-- 'alcovekeep.Stable': WHATEVER THE INPUT: true; the input reads as it did. -/
def stableSpec : ChangeSpec := { name := "stable", fn := fun _ => fun
  | [d1, d2, d3] => { results := [.lit (.bool true)], args := [d1, d2, d3] }
  | _ => none }
def stableRow : OpenClaim := { program := "ythbnbocpddddmaagreat", sum := "57a4b46886f3a8eb48a2658889d5a164af3757df88c7ed2c6f0d8795c6f5eaa8", func := "alcove/alcovekeep.Stable", spec := "stable", unfollowed := true, recurses := true, apart := false }
def StableSaid : Prop := stableRow.holds Tryz.pinned (OpenSpec.ofChange stableSpec)

/-- ITS FALSE NEIGHBOUR: 'it returns false'. Refute it at one input. -/
def stableWrong : ChangeSpec := { name := "stable", fn := fun _ => fun
  | [d1, d2, d3] => { results := [.lit (.bool false)], args := [d1, d2, d3] }
  | _ => none }
def StableWrongFalsely : Prop := stableRow.holds Tryz.pinned (OpenSpec.ofChange stableWrong)

/- THE SECOND FORM. 'bulk': how many values and letters a reading holds, each counted each time it is reached (what is shared counts as often as it is met; a slice's spare places count too). A statement '..UptoSaid' is the law's where the arguments, and the package variables that the reading takes, are together of bulk at most 1048576: NARROWER than '..Said'. Prove '..Said' where nothing that the law and all that it calls make is longer than what came in: it says more and counts as full. Else prove '..UptoSaid'. A law counts once. -/
mutual
def uptoBulk {H : Type} : DataW H → Nat
  | .lit (.string bytes) => bytes.length + 1
  | .lit _ => 1
  | .nil => 1
  | .ptr d => uptoBulk d + 1
  | .slice elems spare => uptoBulkAll elems + uptoBulkAll spare + 1
  | .agg parts => uptoBulkAll parts + 1
  | .iface _ d => uptoBulk d + 1
  | .map entries => uptoBulkEntries entries + 1
  | .held _ => 1
def uptoBulkAll {H : Type} : List (DataW H) → Nat
  | [] => 0
  | d :: r => uptoBulk d + uptoBulkAll r
def uptoBulkEntries {H : Type} : List (Lit × DataW H) → Nat
  | [] => 0
  | x :: r => uptoBulkEntry x + uptoBulkEntries r
def uptoBulkEntry {H : Type} : Lit × DataW H → Nat
  | (.string bytes, d) => bytes.length + uptoBulk d + 1
  | (_, d) => uptoBulk d + 1
 end
def uptoSmall : (H : Type) → List (DataW H) → Bool := fun _ ds => decide (uptoBulkAll ds ≤ 1048576)
def OpenSpec.upto (s : _root_.Go.ChangeSpec) : _root_.Go.OpenSpec := { _root_.Go.OpenSpec.ofChange s with cond := some uptoSmall }

/-- 'alcovelaw.Orders', WHERE WHAT IT READS IS OF BULK AT MOST 1048576: true; the input reads as it did. -/
def ordersUptoRow : OpenClaim := { program := "ythbnbocpddddmaagreat", sum := "57a4b46886f3a8eb48a2658889d5a164af3757df88c7ed2c6f0d8795c6f5eaa8", func := "alcove/alcovelaw.Orders", spec := "orders", unfollowed := true, recurses := true, apart := false, narrowed := true }
def OrdersUptoSaid : Prop := ordersUptoRow.holds Tryz.pinned (OpenSpec.upto ordersSpec)

/-- 'alcovelaw.Texts', WHERE WHAT IT READS IS OF BULK AT MOST 1048576: true; the input reads as it did. -/
def textsUptoRow : OpenClaim := { program := "ythbnbocpddddmaagreat", sum := "57a4b46886f3a8eb48a2658889d5a164af3757df88c7ed2c6f0d8795c6f5eaa8", func := "alcove/alcovelaw.Texts", spec := "texts", unfollowed := true, recurses := true, apart := false, narrowed := true }
def TextsUptoSaid : Prop := textsUptoRow.holds Tryz.pinned (OpenSpec.upto textsSpec)

/-- 'alcovelaw.Points', WHERE WHAT IT READS IS OF BULK AT MOST 1048576: true; the input reads as it did. -/
def pointsUptoRow : OpenClaim := { program := "ythbnbocpddddmaagreat", sum := "57a4b46886f3a8eb48a2658889d5a164af3757df88c7ed2c6f0d8795c6f5eaa8", func := "alcove/alcovelaw.Points", spec := "points", unfollowed := true, recurses := true, apart := false, narrowed := true }
def PointsUptoSaid : Prop := pointsUptoRow.holds Tryz.pinned (OpenSpec.upto pointsSpec)

/-- 'alcovekeep.Sorted', WHERE WHAT IT READS IS OF BULK AT MOST 1048576: true; the input reads as it did. -/
def sortedUptoRow : OpenClaim := { program := "ythbnbocpddddmaagreat", sum := "57a4b46886f3a8eb48a2658889d5a164af3757df88c7ed2c6f0d8795c6f5eaa8", func := "alcove/alcovekeep.Sorted", spec := "sorted", unfollowed := true, recurses := true, apart := false, narrowed := true }
def SortedUptoSaid : Prop := sortedUptoRow.holds Tryz.pinned (OpenSpec.upto sortedSpec)

/-- 'alcovekeep.Halved', WHERE WHAT IT READS IS OF BULK AT MOST 1048576: true; the input reads as it did. -/
def halvedUptoRow : OpenClaim := { program := "ythbnbocpddddmaagreat", sum := "57a4b46886f3a8eb48a2658889d5a164af3757df88c7ed2c6f0d8795c6f5eaa8", func := "alcove/alcovekeep.Halved", spec := "halved", unfollowed := true, recurses := true, apart := false, narrowed := true }
def HalvedUptoSaid : Prop := halvedUptoRow.holds Tryz.pinned (OpenSpec.upto halvedSpec)

/-- 'alcovekeep.Sets', WHERE WHAT IT READS IS OF BULK AT MOST 1048576: true; the input reads as it did. -/
def setsUptoRow : OpenClaim := { program := "ythbnbocpddddmaagreat", sum := "57a4b46886f3a8eb48a2658889d5a164af3757df88c7ed2c6f0d8795c6f5eaa8", func := "alcove/alcovekeep.Sets", spec := "sets", unfollowed := true, recurses := true, apart := false, narrowed := true }
def SetsUptoSaid : Prop := setsUptoRow.holds Tryz.pinned (OpenSpec.upto setsSpec)

/-- 'alcovekeep.Stable', WHERE WHAT IT READS IS OF BULK AT MOST 1048576: true; the input reads as it did. -/
def stableUptoRow : OpenClaim := { program := "ythbnbocpddddmaagreat", sum := "57a4b46886f3a8eb48a2658889d5a164af3757df88c7ed2c6f0d8795c6f5eaa8", func := "alcove/alcovekeep.Stable", spec := "stable", unfollowed := true, recurses := true, apart := false, narrowed := true }
def StableUptoSaid : Prop := stableUptoRow.holds Tryz.pinned (OpenSpec.upto stableSpec)

end Rows
end Go.Proofs.YthbnbocpddddmaaGreat
