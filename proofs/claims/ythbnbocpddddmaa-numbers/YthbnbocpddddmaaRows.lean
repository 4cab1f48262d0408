/-
  No cell of these rows narrows 'for every input' (looked for: loops, veiled, ifaces, maps, wideKeys, modest, calm, conditions, laid).
  DERIVED. THE GIVEN ROWS OF THIS SEAT. 5 by the template 'for every input the law returns true; each argument reads behind the call as it read before'; 0 by the template 'total and deterministic' (their statements: YthbnbocpddddmaaTotals.lean).
  GIVEN WITH THE SEED: the statements are not yours to turn. If you find one false, say at which input.
  Laid BY PROGRAM, IN A SANDBOX (cutbox-rows.mjs): the forced cells as the released guide's own fill.sh prints them over the translation c6987929e18e065f… (all of the seat's roots in one cut). By AI agents, Wed Nov 11 2026. No macro, syntax, notation, axiom, sorry.
-/
import Derived.Test.YthbnbocpddddmaaChecked
import GoSem.Claim
import GoSem.ClaimJoined
import GoSem.ClaimMapViews
import Derived.JoinedTies
import Derived.KernelRfl
namespace Go.Proofs.Ythbnbocpddddmaa
/- THE CELL 'sum', in the pinned program and in every row, IS THE sha256 OF THE DUMP (.gsa) THAT YthbnbocpddddmaaProg.lean LOADS. Nothing in Lean hashes anything: it is a label: what it is worth is what the hold of that sum in a sandbox is worth. -/
noncomputable def Try.pinned : Pinned := { name := "ythbnbocpddddmaa", sum := "c6987929e18e065f88621705cda31ac17ae4997602e0e96f850aaa19360f524e", checked := Try.checked }
namespace Rows
def none {H : Type} : Left H := { results := [], args := [] }

/-- 'alcovelaw.Numbers': WHATEVER THE INPUT: true; the input reads as it did. -/
def numbersSpec : ChangeSpec := { name := "numbers", fn := fun _ => fun
  | [d] => { results := [.lit (.bool true)], args := [d] }
  | _ => none }
def numbersRow : OpenClaim := { program := "ythbnbocpddddmaa", sum := "c6987929e18e065f88621705cda31ac17ae4997602e0e96f850aaa19360f524e", func := "alcove/alcovelaw.Numbers", spec := "numbers", unfollowed := true, recurses := true, apart := false }
def NumbersSaid : Prop := numbersRow.holds Try.pinned (OpenSpec.ofChange numbersSpec)

/-- ITS FALSE NEIGHBOUR: 'it returns false'. Refute it at one input. -/
def numbersWrong : ChangeSpec := { name := "numbers", fn := fun _ => fun
  | [d] => { results := [.lit (.bool false)], args := [d] }
  | _ => none }
def NumbersWrongFalsely : Prop := numbersRow.holds Try.pinned (OpenSpec.ofChange numbersWrong)

/-- 'alcovelaw.Walks': WHATEVER THE INPUT: true; the input reads as it did. -/
def walksSpec : ChangeSpec := { name := "walks", fn := fun _ => fun
  | [d1, d2, d3, d4, d5, d6] => { results := [.lit (.bool true)], args := [d1, d2, d3, d4, d5, d6] }
  | _ => none }
def walksRow : OpenClaim := { program := "ythbnbocpddddmaa", sum := "c6987929e18e065f88621705cda31ac17ae4997602e0e96f850aaa19360f524e", func := "alcove/alcovelaw.Walks", spec := "walks", unfollowed := true, recurses := true, apart := false }
def WalksSaid : Prop := walksRow.holds Try.pinned (OpenSpec.ofChange walksSpec)

/-- ITS FALSE NEIGHBOUR: 'it returns false'. Refute it at one input. -/
def walksWrong : ChangeSpec := { name := "walks", fn := fun _ => fun
  | [d1, d2, d3, d4, d5, d6] => { results := [.lit (.bool false)], args := [d1, d2, d3, d4, d5, d6] }
  | _ => none }
def WalksWrongFalsely : Prop := walksRow.holds Try.pinned (OpenSpec.ofChange walksWrong)

/-- 'alcovelaw.Backs': WHATEVER THE INPUT: true; the input reads as it did. -/
def backsSpec : ChangeSpec := { name := "backs", fn := fun _ => fun
  | [d1, d2, d3, d4] => { results := [.lit (.bool true)], args := [d1, d2, d3, d4] }
  | _ => none }
def backsRow : OpenClaim := { program := "ythbnbocpddddmaa", sum := "c6987929e18e065f88621705cda31ac17ae4997602e0e96f850aaa19360f524e", func := "alcove/alcovelaw.Backs", spec := "backs", unfollowed := true, recurses := true, apart := false }
def BacksSaid : Prop := backsRow.holds Try.pinned (OpenSpec.ofChange backsSpec)

/-- ITS FALSE NEIGHBOUR: 'it returns false'. Refute it at one input. -/
def backsWrong : ChangeSpec := { name := "backs", fn := fun _ => fun
  | [d1, d2, d3, d4] => { results := [.lit (.bool false)], args := [d1, d2, d3, d4] }
  | _ => none }
def BacksWrongFalsely : Prop := backsRow.holds Try.pinned (OpenSpec.ofChange backsWrong)

/-- 'alcovelaw.Merges': WHATEVER THE INPUT: true; the input reads as it did. -/
def mergesSpec : ChangeSpec := { name := "merges", fn := fun _ => fun
  | [d1, d2, d3, d4, d5, d6] => { results := [.lit (.bool true)], args := [d1, d2, d3, d4, d5, d6] }
  | _ => none }
def mergesRow : OpenClaim := { program := "ythbnbocpddddmaa", sum := "c6987929e18e065f88621705cda31ac17ae4997602e0e96f850aaa19360f524e", func := "alcove/alcovelaw.Merges", spec := "merges", unfollowed := true, recurses := true, apart := false }
def MergesSaid : Prop := mergesRow.holds Try.pinned (OpenSpec.ofChange mergesSpec)

/-- ITS FALSE NEIGHBOUR: 'it returns false'. Refute it at one input. -/
def mergesWrong : ChangeSpec := { name := "merges", fn := fun _ => fun
  | [d1, d2, d3, d4, d5, d6] => { results := [.lit (.bool false)], args := [d1, d2, d3, d4, d5, d6] }
  | _ => none }
def MergesWrongFalsely : Prop := mergesRow.holds Try.pinned (OpenSpec.ofChange mergesWrong)

/-- 'alcovekeep.Ranked': WHATEVER THE INPUT: true; the input reads as it did. -/
def rankedSpec : ChangeSpec := { name := "ranked", fn := fun _ => fun
  | [d1, d2, d3, d4] => { results := [.lit (.bool true)], args := [d1, d2, d3, d4] }
  | _ => none }
def rankedRow : OpenClaim := { program := "ythbnbocpddddmaa", sum := "c6987929e18e065f88621705cda31ac17ae4997602e0e96f850aaa19360f524e", func := "alcove/alcovekeep.Ranked", spec := "ranked", unfollowed := true, recurses := true, apart := false }
def RankedSaid : Prop := rankedRow.holds Try.pinned (OpenSpec.ofChange rankedSpec)

/-- ITS FALSE NEIGHBOUR: 'it returns false'. Refute it at one input. -/
def rankedWrong : ChangeSpec := { name := "ranked", fn := fun _ => fun
  | [d1, d2, d3, d4] => { results := [.lit (.bool false)], args := [d1, d2, d3, d4] }
  | _ => none }
def RankedWrongFalsely : Prop := rankedRow.holds Try.pinned (OpenSpec.ofChange rankedWrong)

/- THE SECOND FORM. 'bulk': how many values and letters a reading holds, each counted each time it is reached (what is shared counts as often as it is met; a slice's spare places count too). A statement '..UptoSaid' is the law's where the arguments, and the package variables that the reading takes, are together of bulk at most 1048576: NARROWER than '..Said'. Prove '..Said' where nothing that the law and all that it calls make is longer than what came in: it says more and counts as full. Else prove '..UptoSaid'. A law counts once. -/
mutual
def uptoBulk {H : Type} : DataW H → Nat
  | .lit (.string bytes) => bytes.length + 1
  | .lit _ => 1
  | .nil => 1
  | .ptr d => uptoBulk d + 1
  | .slice elems spare => uptoBulkAll elems + uptoBulkAll spare + 1
  | .agg parts => uptoBulkAll parts + 1
  | .iface _ d => uptoBulk d + 1
  | .map entries => uptoBulkEntries entries + 1
  | .held _ => 1
def uptoBulkAll {H : Type} : List (DataW H) → Nat
  | [] => 0
  | d :: r => uptoBulk d + uptoBulkAll r
def uptoBulkEntries {H : Type} : List (Lit × DataW H) → Nat
  | [] => 0
  | x :: r => uptoBulkEntry x + uptoBulkEntries r
def uptoBulkEntry {H : Type} : Lit × DataW H → Nat
  | (.string bytes, d) => bytes.length + uptoBulk d + 1
  | (_, d) => uptoBulk d + 1
 end
def uptoSmall : (H : Type) → List (DataW H) → Bool := fun _ ds => decide (uptoBulkAll ds ≤ 1048576)
def OpenSpec.upto (s : _root_.Go.ChangeSpec) : _root_.Go.OpenSpec := { _root_.Go.OpenSpec.ofChange s with cond := some uptoSmall }

/-- 'alcovelaw.Numbers', WHERE WHAT IT READS IS OF BULK AT MOST 1048576: true; the input reads as it did. -/
def numbersUptoRow : OpenClaim := { program := "ythbnbocpddddmaa", sum := "c6987929e18e065f88621705cda31ac17ae4997602e0e96f850aaa19360f524e", func := "alcove/alcovelaw.Numbers", spec := "numbers", unfollowed := true, recurses := true, apart := false, narrowed := true }
def NumbersUptoSaid : Prop := numbersUptoRow.holds Try.pinned (OpenSpec.upto numbersSpec)

/-- 'alcovelaw.Walks', WHERE WHAT IT READS IS OF BULK AT MOST 1048576: true; the input reads as it did. -/
def walksUptoRow : OpenClaim := { program := "ythbnbocpddddmaa", sum := "c6987929e18e065f88621705cda31ac17ae4997602e0e96f850aaa19360f524e", func := "alcove/alcovelaw.Walks", spec := "walks", unfollowed := true, recurses := true, apart := false, narrowed := true }
def WalksUptoSaid : Prop := walksUptoRow.holds Try.pinned (OpenSpec.upto walksSpec)

/-- 'alcovelaw.Backs', WHERE WHAT IT READS IS OF BULK AT MOST 1048576: true; the input reads as it did. -/
def backsUptoRow : OpenClaim := { program := "ythbnbocpddddmaa", sum := "c6987929e18e065f88621705cda31ac17ae4997602e0e96f850aaa19360f524e", func := "alcove/alcovelaw.Backs", spec := "backs", unfollowed := true, recurses := true, apart := false, narrowed := true }
def BacksUptoSaid : Prop := backsUptoRow.holds Try.pinned (OpenSpec.upto backsSpec)

/-- 'alcovelaw.Merges', WHERE WHAT IT READS IS OF BULK AT MOST 1048576: true; the input reads as it did. -/
def mergesUptoRow : OpenClaim := { program := "ythbnbocpddddmaa", sum := "c6987929e18e065f88621705cda31ac17ae4997602e0e96f850aaa19360f524e", func := "alcove/alcovelaw.Merges", spec := "merges", unfollowed := true, recurses := true, apart := false, narrowed := true }
def MergesUptoSaid : Prop := mergesUptoRow.holds Try.pinned (OpenSpec.upto mergesSpec)

/-- 'alcovekeep.Ranked', WHERE WHAT IT READS IS OF BULK AT MOST 1048576: true; the input reads as it did. -/
def rankedUptoRow : OpenClaim := { program := "ythbnbocpddddmaa", sum := "c6987929e18e065f88621705cda31ac17ae4997602e0e96f850aaa19360f524e", func := "alcove/alcovekeep.Ranked", spec := "ranked", unfollowed := true, recurses := true, apart := false, narrowed := true }
def RankedUptoSaid : Prop := rankedUptoRow.holds Try.pinned (OpenSpec.upto rankedSpec)

end Rows
end Go.Proofs.Ythbnbocpddddmaa
