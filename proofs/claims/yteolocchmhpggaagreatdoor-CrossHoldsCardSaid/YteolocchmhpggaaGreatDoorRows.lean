/-
  NARROWER THAN 'FOR EVERY INPUT', by the rows' own cells (each row's printed sentence says how): CrossHolds: laid · CrossMeets: laid · CrossMirrors: laid · CrossMoves: laid.
  DERIVED. THE GIVEN ROWS OF THIS SEAT. 4 by the template 'for every input the law returns true; each argument reads behind the call as it read before'; 0 by the template 'total and deterministic' (their statements: YteolocchmhpggaaGreatDoorTotals.lean).
  GIVEN WITH THE SEED: the statements are not yours to turn. If you find one false, say at which input.
  Laid BY PROGRAM, IN A SANDBOX (cutbox-rows.mjs): the forced cells as the released guide's own fill.sh prints them over the translation ad4e1b8d05c6e72a… (all of the seat's roots in one cut). By AI agents, Wed Nov 11 2026. No macro, syntax, notation, axiom, sorry.
-/
import Derived.Test.YteolocchmhpggaaGreatDoorChecked
import GoSem.Claim
import GoSem.ClaimJoined
import GoSem.ClaimMapViews
import Derived.JoinedTies
import Derived.KernelRfl
namespace Go.Proofs.YteolocchmhpggaaGreatDoor
/- THE CELL 'sum', in the pinned program and in every row, IS THE sha256 OF THE DUMP (.gsa) THAT YteolocchmhpggaaGreatDoorProg.lean LOADS. Nothing in Lean hashes anything: it is a label: what it is worth is what the hold of that sum in a sandbox is worth. -/
noncomputable def Tryz.pinned : Pinned := { name := "yteolocchmhpggaagreatdoor", sum := "ad4e1b8d05c6e72af0f619c477775e3a35477b077d38e52f3da1d579ea3f6035", checked := Tryz.checked }
namespace Rows
def none {H : Type} : Left H := { results := [], args := [] }

/- WHAT THE LISTED PACKAGE-LEVEL VARIABLES READ AS WHEN THE CALL BEGINS. Each datum BY PROGRAM (the guide's laid-datum.mjs) off the statement by which the dump's own 'gosem.cut.vars' lays the variable. In a bare row this is a premise. The card (YteolocchmhpggaaGreatDoorCards.lean) ties it to the program's text. -/
def laid_math_bits_deBruijn64tab {H : Type} : DataW H := .agg [.lit (.int .u8 0), .lit (.int .u8 1), .lit (.int .u8 56), .lit (.int .u8 2), .lit (.int .u8 57), .lit (.int .u8 49), .lit (.int .u8 28), .lit (.int .u8 3), .lit (.int .u8 61), .lit (.int .u8 58), .lit (.int .u8 42), .lit (.int .u8 50), .lit (.int .u8 38), .lit (.int .u8 29), .lit (.int .u8 17), .lit (.int .u8 4), .lit (.int .u8 62), .lit (.int .u8 47), .lit (.int .u8 59), .lit (.int .u8 36), .lit (.int .u8 45), .lit (.int .u8 43), .lit (.int .u8 51), .lit (.int .u8 22), .lit (.int .u8 53), .lit (.int .u8 39), .lit (.int .u8 33), .lit (.int .u8 30), .lit (.int .u8 24), .lit (.int .u8 18), .lit (.int .u8 12), .lit (.int .u8 5), .lit (.int .u8 63), .lit (.int .u8 55), .lit (.int .u8 48), .lit (.int .u8 27), .lit (.int .u8 60), .lit (.int .u8 41), .lit (.int .u8 37), .lit (.int .u8 16), .lit (.int .u8 46), .lit (.int .u8 35), .lit (.int .u8 44), .lit (.int .u8 21), .lit (.int .u8 52), .lit (.int .u8 32), .lit (.int .u8 23), .lit (.int .u8 11), .lit (.int .u8 54), .lit (.int .u8 26), .lit (.int .u8 40), .lit (.int .u8 15), .lit (.int .u8 34), .lit (.int .u8 20), .lit (.int .u8 31), .lit (.int .u8 10), .lit (.int .u8 25), .lit (.int .u8 14), .lit (.int .u8 19), .lit (.int .u8 9), .lit (.int .u8 13), .lit (.int .u8 8), .lit (.int .u8 7), .lit (.int .u8 6)]

/-- 'merestonelaw05.CrossHolds': WHATEVER THE INPUT: true; the input reads as it did. -/
def crossHoldsSpec : ChangeSpec := { name := "crossHolds", fn := fun _ => fun
  | [d1, d2, d3] => { results := [.lit (.bool true)], args := [d1, d2, d3] }
  | _ => none }
def crossHoldsRow : OpenClaim := { program := "yteolocchmhpggaagreatdoor", sum := "ad4e1b8d05c6e72af0f619c477775e3a35477b077d38e52f3da1d579ea3f6035", func := "merestone/merestonelaw05.CrossHolds", spec := "crossHolds", inPlace := ["math/bits.Add64", "math/bits.Sub64"], unfollowed := true, recurses := true, named := ["math/bits.deBruijn64tab", "math/bits.divideError", "math/bits.overflowError"], apart := false, laid := [("math/bits.deBruijn64tab", laid_math_bits_deBruijn64tab)] }
def CrossHoldsSaid : Prop := crossHoldsRow.holds Tryz.pinned (OpenSpec.ofChange crossHoldsSpec)

/-- ITS FALSE NEIGHBOUR: 'it returns false'. Refute it at one input. -/
def crossHoldsWrong : ChangeSpec := { name := "crossHolds", fn := fun _ => fun
  | [d1, d2, d3] => { results := [.lit (.bool false)], args := [d1, d2, d3] }
  | _ => none }
def CrossHoldsWrongFalsely : Prop := crossHoldsRow.holds Tryz.pinned (OpenSpec.ofChange crossHoldsWrong)

/-- 'merestonelaw05.CrossMeets': WHATEVER THE INPUT: true; the input reads as it did. -/
def crossMeetsSpec : ChangeSpec := { name := "crossMeets", fn := fun _ => fun
  | [d1, d2] => { results := [.lit (.bool true)], args := [d1, d2] }
  | _ => none }
def crossMeetsRow : OpenClaim := { program := "yteolocchmhpggaagreatdoor", sum := "ad4e1b8d05c6e72af0f619c477775e3a35477b077d38e52f3da1d579ea3f6035", func := "merestone/merestonelaw05.CrossMeets", spec := "crossMeets", inPlace := ["math/bits.Add64", "math/bits.Sub64"], unfollowed := true, recurses := true, named := ["math/bits.deBruijn64tab", "math/bits.divideError", "math/bits.overflowError"], apart := false, laid := [("math/bits.deBruijn64tab", laid_math_bits_deBruijn64tab)] }
def CrossMeetsSaid : Prop := crossMeetsRow.holds Tryz.pinned (OpenSpec.ofChange crossMeetsSpec)

/-- ITS FALSE NEIGHBOUR: 'it returns false'. Refute it at one input. -/
def crossMeetsWrong : ChangeSpec := { name := "crossMeets", fn := fun _ => fun
  | [d1, d2] => { results := [.lit (.bool false)], args := [d1, d2] }
  | _ => none }
def CrossMeetsWrongFalsely : Prop := crossMeetsRow.holds Tryz.pinned (OpenSpec.ofChange crossMeetsWrong)

/-- 'merestonelaw05.CrossMirrors': WHATEVER THE INPUT: true; the input reads as it did. -/
def crossMirrorsSpec : ChangeSpec := { name := "crossMirrors", fn := fun _ => fun
  | [d1, d2] => { results := [.lit (.bool true)], args := [d1, d2] }
  | _ => none }
def crossMirrorsRow : OpenClaim := { program := "yteolocchmhpggaagreatdoor", sum := "ad4e1b8d05c6e72af0f619c477775e3a35477b077d38e52f3da1d579ea3f6035", func := "merestone/merestonelaw05.CrossMirrors", spec := "crossMirrors", inPlace := ["math/bits.Add64", "math/bits.Sub64"], unfollowed := true, recurses := true, named := ["math/bits.deBruijn64tab", "math/bits.divideError", "math/bits.overflowError"], apart := false, laid := [("math/bits.deBruijn64tab", laid_math_bits_deBruijn64tab)] }
def CrossMirrorsSaid : Prop := crossMirrorsRow.holds Tryz.pinned (OpenSpec.ofChange crossMirrorsSpec)

/-- ITS FALSE NEIGHBOUR: 'it returns false'. Refute it at one input. -/
def crossMirrorsWrong : ChangeSpec := { name := "crossMirrors", fn := fun _ => fun
  | [d1, d2] => { results := [.lit (.bool false)], args := [d1, d2] }
  | _ => none }
def CrossMirrorsWrongFalsely : Prop := crossMirrorsRow.holds Tryz.pinned (OpenSpec.ofChange crossMirrorsWrong)

/-- 'merestonelaw05.CrossMoves': WHATEVER THE INPUT: true; the input reads as it did. -/
def crossMovesSpec : ChangeSpec := { name := "crossMoves", fn := fun _ => fun
  | [d1, d2, d3, d4] => { results := [.lit (.bool true)], args := [d1, d2, d3, d4] }
  | _ => none }
def crossMovesRow : OpenClaim := { program := "yteolocchmhpggaagreatdoor", sum := "ad4e1b8d05c6e72af0f619c477775e3a35477b077d38e52f3da1d579ea3f6035", func := "merestone/merestonelaw05.CrossMoves", spec := "crossMoves", inPlace := ["math/bits.Add64", "math/bits.Sub64"], unfollowed := true, recurses := true, named := ["math/bits.deBruijn64tab", "math/bits.divideError", "math/bits.overflowError"], apart := false, laid := [("math/bits.deBruijn64tab", laid_math_bits_deBruijn64tab)] }
def CrossMovesSaid : Prop := crossMovesRow.holds Tryz.pinned (OpenSpec.ofChange crossMovesSpec)

/-- ITS FALSE NEIGHBOUR: 'it returns false'. Refute it at one input. -/
def crossMovesWrong : ChangeSpec := { name := "crossMoves", fn := fun _ => fun
  | [d1, d2, d3, d4] => { results := [.lit (.bool false)], args := [d1, d2, d3, d4] }
  | _ => none }
def CrossMovesWrongFalsely : Prop := crossMovesRow.holds Tryz.pinned (OpenSpec.ofChange crossMovesWrong)

/- THE SECOND FORM. 'bulk': how many values and letters a reading holds, each counted each time it is reached (what is shared counts as often as it is met; a slice's spare places count too). A statement '..UptoSaid' is the law's where the arguments, and the package variables that the reading takes, are together of bulk at most 1048576: NARROWER than '..Said'. Prove '..Said' where nothing that the law and all that it calls make is longer than what came in: it says more and counts as full. Else prove '..UptoSaid'. A law counts once. -/
mutual
def uptoBulk {H : Type} : DataW H → Nat
  | .lit (.string bytes) => bytes.length + 1
  | .lit _ => 1
  | .nil => 1
  | .ptr d => uptoBulk d + 1
  | .slice elems spare => uptoBulkAll elems + uptoBulkAll spare + 1
  | .agg parts => uptoBulkAll parts + 1
  | .iface _ d => uptoBulk d + 1
  | .map entries => uptoBulkEntries entries + 1
  | .held _ => 1
def uptoBulkAll {H : Type} : List (DataW H) → Nat
  | [] => 0
  | d :: r => uptoBulk d + uptoBulkAll r
def uptoBulkEntries {H : Type} : List (Lit × DataW H) → Nat
  | [] => 0
  | x :: r => uptoBulkEntry x + uptoBulkEntries r
def uptoBulkEntry {H : Type} : Lit × DataW H → Nat
  | (.string bytes, d) => bytes.length + uptoBulk d + 1
  | (_, d) => uptoBulk d + 1
 end
def uptoSmall : (H : Type) → List (DataW H) → Bool := fun _ ds => decide (uptoBulkAll ds ≤ 1048576)
def OpenSpec.upto (s : _root_.Go.ChangeSpec) : _root_.Go.OpenSpec := { _root_.Go.OpenSpec.ofChange s with cond := some uptoSmall }

/-- 'merestonelaw05.CrossHolds', WHERE WHAT IT READS IS OF BULK AT MOST 1048576: true; the input reads as it did. -/
def crossHoldsUptoRow : OpenClaim := { program := "yteolocchmhpggaagreatdoor", sum := "ad4e1b8d05c6e72af0f619c477775e3a35477b077d38e52f3da1d579ea3f6035", func := "merestone/merestonelaw05.CrossHolds", spec := "crossHolds", inPlace := ["math/bits.Add64", "math/bits.Sub64"], unfollowed := true, recurses := true, named := ["math/bits.deBruijn64tab", "math/bits.divideError", "math/bits.overflowError"], apart := false, laid := [("math/bits.deBruijn64tab", laid_math_bits_deBruijn64tab)], narrowed := true }
def CrossHoldsUptoSaid : Prop := crossHoldsUptoRow.holds Tryz.pinned (OpenSpec.upto crossHoldsSpec)

/-- 'merestonelaw05.CrossMeets', WHERE WHAT IT READS IS OF BULK AT MOST 1048576: true; the input reads as it did. -/
def crossMeetsUptoRow : OpenClaim := { program := "yteolocchmhpggaagreatdoor", sum := "ad4e1b8d05c6e72af0f619c477775e3a35477b077d38e52f3da1d579ea3f6035", func := "merestone/merestonelaw05.CrossMeets", spec := "crossMeets", inPlace := ["math/bits.Add64", "math/bits.Sub64"], unfollowed := true, recurses := true, named := ["math/bits.deBruijn64tab", "math/bits.divideError", "math/bits.overflowError"], apart := false, laid := [("math/bits.deBruijn64tab", laid_math_bits_deBruijn64tab)], narrowed := true }
def CrossMeetsUptoSaid : Prop := crossMeetsUptoRow.holds Tryz.pinned (OpenSpec.upto crossMeetsSpec)

/-- 'merestonelaw05.CrossMirrors', WHERE WHAT IT READS IS OF BULK AT MOST 1048576: true; the input reads as it did. -/
def crossMirrorsUptoRow : OpenClaim := { program := "yteolocchmhpggaagreatdoor", sum := "ad4e1b8d05c6e72af0f619c477775e3a35477b077d38e52f3da1d579ea3f6035", func := "merestone/merestonelaw05.CrossMirrors", spec := "crossMirrors", inPlace := ["math/bits.Add64", "math/bits.Sub64"], unfollowed := true, recurses := true, named := ["math/bits.deBruijn64tab", "math/bits.divideError", "math/bits.overflowError"], apart := false, laid := [("math/bits.deBruijn64tab", laid_math_bits_deBruijn64tab)], narrowed := true }
def CrossMirrorsUptoSaid : Prop := crossMirrorsUptoRow.holds Tryz.pinned (OpenSpec.upto crossMirrorsSpec)

/-- 'merestonelaw05.CrossMoves', WHERE WHAT IT READS IS OF BULK AT MOST 1048576: true; the input reads as it did. -/
def crossMovesUptoRow : OpenClaim := { program := "yteolocchmhpggaagreatdoor", sum := "ad4e1b8d05c6e72af0f619c477775e3a35477b077d38e52f3da1d579ea3f6035", func := "merestone/merestonelaw05.CrossMoves", spec := "crossMoves", inPlace := ["math/bits.Add64", "math/bits.Sub64"], unfollowed := true, recurses := true, named := ["math/bits.deBruijn64tab", "math/bits.divideError", "math/bits.overflowError"], apart := false, laid := [("math/bits.deBruijn64tab", laid_math_bits_deBruijn64tab)], narrowed := true }
def CrossMovesUptoSaid : Prop := crossMovesUptoRow.holds Tryz.pinned (OpenSpec.upto crossMovesSpec)

end Rows
end Go.Proofs.YteolocchmhpggaaGreatDoor
