/-
  No cell of these rows narrows 'for every input' (looked for: loops, veiled, ifaces, maps, wideKeys, modest, calm, conditions, laid).
  DERIVED. THE GIVEN ROWS OF THIS SEAT. 5 by the template 'for every input the law returns true; each argument reads behind the call as it read before'; 0 by the template 'total and deterministic' (their statements: YtfdofajknnocfaaTotals.lean).
  GIVEN WITH THE SEED: the statements are not yours to turn. If you find one false, say at which input.
  Laid BY PROGRAM, IN A SANDBOX (cutbox-rows.mjs): the forced cells as the released guide's own fill.sh prints them over the translation 3efb4b45934b99f4… (all of the seat's roots in one cut). By AI agents, Wed Nov 11 2026. No macro, syntax, notation, axiom, sorry.
-/
import Derived.Test.YtfdofajknnocfaaChecked
import GoSem.Claim
import GoSem.ClaimJoined
import GoSem.ClaimMapViews
import Derived.JoinedTies
import Derived.KernelRfl
namespace Go.Proofs.Ytfdofajknnocfaa
/- THE CELL 'sum', in the pinned program and in every row, IS THE sha256 OF THE DUMP (.gsa) THAT YtfdofajknnocfaaProg.lean LOADS. Nothing in Lean hashes anything: it is a label: what it is worth is what the hold of that sum in a sandbox is worth. -/
noncomputable def Try.pinned : Pinned := { name := "ytfdofajknnocfaa", sum := "3efb4b45934b99f4088b64257ee8b117a564e808dac3387a92ba3986f3ac04fa", checked := Try.checked }
namespace Rows
def none {H : Type} : Left H := { results := [], args := [] }

/-- 'merestonelaw07.AngleOrders': WHATEVER THE INPUT: true; the input reads as it did. -/
def angleOrdersSpec : ChangeSpec := { name := "angleOrders", fn := fun _ => fun
  | [d1, d2] => { results := [.lit (.bool true)], args := [d1, d2] }
  | _ => none }
def angleOrdersRow : OpenClaim := { program := "ytfdofajknnocfaa", sum := "3efb4b45934b99f4088b64257ee8b117a564e808dac3387a92ba3986f3ac04fa", func := "merestone/merestonelaw07.AngleOrders", spec := "angleOrders", unfollowed := true, recurses := true, apart := false }
def AngleOrdersSaid : Prop := angleOrdersRow.holds Try.pinned (OpenSpec.ofChange angleOrdersSpec)

/-- ITS FALSE NEIGHBOUR: 'it returns false'. Refute it at one input. -/
def angleOrdersWrong : ChangeSpec := { name := "angleOrders", fn := fun _ => fun
  | [d1, d2] => { results := [.lit (.bool false)], args := [d1, d2] }
  | _ => none }
def AngleOrdersWrongFalsely : Prop := angleOrdersRow.holds Try.pinned (OpenSpec.ofChange angleOrdersWrong)

/-- 'merestonelaw07.AngleBetweens': WHATEVER THE INPUT: true; the input reads as it did. -/
def angleBetweensSpec : ChangeSpec := { name := "angleBetweens", fn := fun _ => fun
  | [d1, d2, d3] => { results := [.lit (.bool true)], args := [d1, d2, d3] }
  | _ => none }
def angleBetweensRow : OpenClaim := { program := "ytfdofajknnocfaa", sum := "3efb4b45934b99f4088b64257ee8b117a564e808dac3387a92ba3986f3ac04fa", func := "merestone/merestonelaw07.AngleBetweens", spec := "angleBetweens", unfollowed := true, recurses := true, apart := false }
def AngleBetweensSaid : Prop := angleBetweensRow.holds Try.pinned (OpenSpec.ofChange angleBetweensSpec)

/-- ITS FALSE NEIGHBOUR: 'it returns false'. Refute it at one input. -/
def angleBetweensWrong : ChangeSpec := { name := "angleBetweens", fn := fun _ => fun
  | [d1, d2, d3] => { results := [.lit (.bool false)], args := [d1, d2, d3] }
  | _ => none }
def AngleBetweensWrongFalsely : Prop := angleBetweensRow.holds Try.pinned (OpenSpec.ofChange angleBetweensWrong)

/-- 'merestonelaw07.AngleSorts': WHATEVER THE INPUT: true; the input reads as it did. -/
def angleSortsSpec : ChangeSpec := { name := "angleSorts", fn := fun _ => fun
  | [d1, d2, d3] => { results := [.lit (.bool true)], args := [d1, d2, d3] }
  | _ => none }
def angleSortsRow : OpenClaim := { program := "ytfdofajknnocfaa", sum := "3efb4b45934b99f4088b64257ee8b117a564e808dac3387a92ba3986f3ac04fa", func := "merestone/merestonelaw07.AngleSorts", spec := "angleSorts", unfollowed := true, recurses := true, apart := false }
def AngleSortsSaid : Prop := angleSortsRow.holds Try.pinned (OpenSpec.ofChange angleSortsSpec)

/-- ITS FALSE NEIGHBOUR: 'it returns false'. Refute it at one input. -/
def angleSortsWrong : ChangeSpec := { name := "angleSorts", fn := fun _ => fun
  | [d1, d2, d3] => { results := [.lit (.bool false)], args := [d1, d2, d3] }
  | _ => none }
def AngleSortsWrongFalsely : Prop := angleSortsRow.holds Try.pinned (OpenSpec.ofChange angleSortsWrong)

/-- 'merestonelaw07.AngleHolds': WHATEVER THE INPUT: true; the input reads as it did. -/
def angleHoldsSpec : ChangeSpec := { name := "angleHolds", fn := fun _ => fun
  | [d1, d2, d3] => { results := [.lit (.bool true)], args := [d1, d2, d3] }
  | _ => none }
def angleHoldsRow : OpenClaim := { program := "ytfdofajknnocfaa", sum := "3efb4b45934b99f4088b64257ee8b117a564e808dac3387a92ba3986f3ac04fa", func := "merestone/merestonelaw07.AngleHolds", spec := "angleHolds", unfollowed := true, recurses := true, apart := false }
def AngleHoldsSaid : Prop := angleHoldsRow.holds Try.pinned (OpenSpec.ofChange angleHoldsSpec)

/-- ITS FALSE NEIGHBOUR: 'it returns false'. Refute it at one input. -/
def angleHoldsWrong : ChangeSpec := { name := "angleHolds", fn := fun _ => fun
  | [d1, d2, d3] => { results := [.lit (.bool false)], args := [d1, d2, d3] }
  | _ => none }
def AngleHoldsWrongFalsely : Prop := angleHoldsRow.holds Try.pinned (OpenSpec.ofChange angleHoldsWrong)

/-- 'merestonelaw07.AngleMirrors': WHATEVER THE INPUT: true; the input reads as it did. -/
def angleMirrorsSpec : ChangeSpec := { name := "angleMirrors", fn := fun _ => fun
  | [d1, d2, d3] => { results := [.lit (.bool true)], args := [d1, d2, d3] }
  | _ => none }
def angleMirrorsRow : OpenClaim := { program := "ytfdofajknnocfaa", sum := "3efb4b45934b99f4088b64257ee8b117a564e808dac3387a92ba3986f3ac04fa", func := "merestone/merestonelaw07.AngleMirrors", spec := "angleMirrors", unfollowed := true, recurses := true, apart := false }
def AngleMirrorsSaid : Prop := angleMirrorsRow.holds Try.pinned (OpenSpec.ofChange angleMirrorsSpec)

/-- ITS FALSE NEIGHBOUR: 'it returns false'. Refute it at one input. -/
def angleMirrorsWrong : ChangeSpec := { name := "angleMirrors", fn := fun _ => fun
  | [d1, d2, d3] => { results := [.lit (.bool false)], args := [d1, d2, d3] }
  | _ => none }
def AngleMirrorsWrongFalsely : Prop := angleMirrorsRow.holds Try.pinned (OpenSpec.ofChange angleMirrorsWrong)

/- THE SECOND FORM. 'bulk': how many values and letters a reading holds, each counted each time it is reached (what is shared counts as often as it is met; a slice's spare places count too). A statement '..UptoSaid' is the law's where the arguments, and the package variables that the reading takes, are together of bulk at most 1048576: NARROWER than '..Said'. Prove '..Said' where nothing that the law and all that it calls make is longer than what came in: it says more and counts as full. Else prove '..UptoSaid'. A law counts once. -/
mutual
def uptoBulk {H : Type} : DataW H → Nat
  | .lit (.string bytes) => bytes.length + 1
  | .lit _ => 1
  | .nil => 1
  | .ptr d => uptoBulk d + 1
  | .slice elems spare => uptoBulkAll elems + uptoBulkAll spare + 1
  | .agg parts => uptoBulkAll parts + 1
  | .iface _ d => uptoBulk d + 1
  | .map entries => uptoBulkEntries entries + 1
  | .held _ => 1
def uptoBulkAll {H : Type} : List (DataW H) → Nat
  | [] => 0
  | d :: r => uptoBulk d + uptoBulkAll r
def uptoBulkEntries {H : Type} : List (Lit × DataW H) → Nat
  | [] => 0
  | x :: r => uptoBulkEntry x + uptoBulkEntries r
def uptoBulkEntry {H : Type} : Lit × DataW H → Nat
  | (.string bytes, d) => bytes.length + uptoBulk d + 1
  | (_, d) => uptoBulk d + 1
 end
def uptoSmall : (H : Type) → List (DataW H) → Bool := fun _ ds => decide (uptoBulkAll ds ≤ 1048576)
def OpenSpec.upto (s : _root_.Go.ChangeSpec) : _root_.Go.OpenSpec := { _root_.Go.OpenSpec.ofChange s with cond := some uptoSmall }

/-- 'merestonelaw07.AngleOrders', WHERE WHAT IT READS IS OF BULK AT MOST 1048576: true; the input reads as it did. -/
def angleOrdersUptoRow : OpenClaim := { program := "ytfdofajknnocfaa", sum := "3efb4b45934b99f4088b64257ee8b117a564e808dac3387a92ba3986f3ac04fa", func := "merestone/merestonelaw07.AngleOrders", spec := "angleOrders", unfollowed := true, recurses := true, apart := false, narrowed := true }
def AngleOrdersUptoSaid : Prop := angleOrdersUptoRow.holds Try.pinned (OpenSpec.upto angleOrdersSpec)

/-- 'merestonelaw07.AngleBetweens', WHERE WHAT IT READS IS OF BULK AT MOST 1048576: true; the input reads as it did. -/
def angleBetweensUptoRow : OpenClaim := { program := "ytfdofajknnocfaa", sum := "3efb4b45934b99f4088b64257ee8b117a564e808dac3387a92ba3986f3ac04fa", func := "merestone/merestonelaw07.AngleBetweens", spec := "angleBetweens", unfollowed := true, recurses := true, apart := false, narrowed := true }
def AngleBetweensUptoSaid : Prop := angleBetweensUptoRow.holds Try.pinned (OpenSpec.upto angleBetweensSpec)

/-- 'merestonelaw07.AngleSorts', WHERE WHAT IT READS IS OF BULK AT MOST 1048576: true; the input reads as it did. -/
def angleSortsUptoRow : OpenClaim := { program := "ytfdofajknnocfaa", sum := "3efb4b45934b99f4088b64257ee8b117a564e808dac3387a92ba3986f3ac04fa", func := "merestone/merestonelaw07.AngleSorts", spec := "angleSorts", unfollowed := true, recurses := true, apart := false, narrowed := true }
def AngleSortsUptoSaid : Prop := angleSortsUptoRow.holds Try.pinned (OpenSpec.upto angleSortsSpec)

/-- 'merestonelaw07.AngleHolds', WHERE WHAT IT READS IS OF BULK AT MOST 1048576: true; the input reads as it did. -/
def angleHoldsUptoRow : OpenClaim := { program := "ytfdofajknnocfaa", sum := "3efb4b45934b99f4088b64257ee8b117a564e808dac3387a92ba3986f3ac04fa", func := "merestone/merestonelaw07.AngleHolds", spec := "angleHolds", unfollowed := true, recurses := true, apart := false, narrowed := true }
def AngleHoldsUptoSaid : Prop := angleHoldsUptoRow.holds Try.pinned (OpenSpec.upto angleHoldsSpec)

/-- 'merestonelaw07.AngleMirrors', WHERE WHAT IT READS IS OF BULK AT MOST 1048576: true; the input reads as it did. -/
def angleMirrorsUptoRow : OpenClaim := { program := "ytfdofajknnocfaa", sum := "3efb4b45934b99f4088b64257ee8b117a564e808dac3387a92ba3986f3ac04fa", func := "merestone/merestonelaw07.AngleMirrors", spec := "angleMirrors", unfollowed := true, recurses := true, apart := false, narrowed := true }
def AngleMirrorsUptoSaid : Prop := angleMirrorsUptoRow.holds Try.pinned (OpenSpec.upto angleMirrorsSpec)

end Rows
end Go.Proofs.Ytfdofajknnocfaa
