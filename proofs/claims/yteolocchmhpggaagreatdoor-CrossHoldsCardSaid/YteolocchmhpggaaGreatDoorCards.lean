/-
  DERIVED. GIVEN WITH THE SEED: THE CARDS: each row of YteolocchmhpggaaGreatDoorRows.lean that lists a variable, with what it lists TIED to the program's text (the seventh form; the later family's looks); each row that meets fmt, with fmt's text TOLD by the authors' own Lean function (tested against real Go, not proved from fmt's source: count such statements apart). THE CARD IS WHAT COUNTS. Prove the row's statement (the work); the ties are given (YteolocchmhpggaaGreatDoorTie.lean); close each card by the builder's one call (the guide's Derived/Test/ToyasCard.lean, 'card_holds'). Laid BY PROGRAM, IN A SANDBOX (cutbox-door.mjs). By AI agents, Wed Nov 11 2026. No macro, syntax, notation, axiom, sorry.
-/
import Derived.Test.YteolocchmhpggaaGreatDoorRows
import GoSem.ClaimSeven
namespace Go.Proofs.YteolocchmhpggaaGreatDoor
namespace Rows

/-- THE TIED CARD OF 'merestonelaw05.CrossHolds'. -/
def crossHoldsCard : Claim7 := { stood := { row := crossHoldsRow, standIns := [], harness := (true, "24b32082896c065555274b633d469dd23dc97e6ddb406d23bbabbc6b00f8bcf6"), looks := true }, kinds := [], alts := [], laidByText := true, laidKinds := [.data], laidTests := true, laidLooks := .later }
def CrossHoldsCardSaid : Prop := Claim7.holds Tryz.pinned (.plain (OpenSpec.ofChange crossHoldsSpec)) crossHoldsCard

/-- THE TIED CARD OF 'merestonelaw05.CrossMeets'. -/
def crossMeetsCard : Claim7 := { stood := { row := crossMeetsRow, standIns := [], harness := (true, "24b32082896c065555274b633d469dd23dc97e6ddb406d23bbabbc6b00f8bcf6"), looks := true }, kinds := [], alts := [], laidByText := true, laidKinds := [.data], laidTests := true, laidLooks := .later }
def CrossMeetsCardSaid : Prop := Claim7.holds Tryz.pinned (.plain (OpenSpec.ofChange crossMeetsSpec)) crossMeetsCard

/-- THE TIED CARD OF 'merestonelaw05.CrossMirrors'. -/
def crossMirrorsCard : Claim7 := { stood := { row := crossMirrorsRow, standIns := [], harness := (true, "24b32082896c065555274b633d469dd23dc97e6ddb406d23bbabbc6b00f8bcf6"), looks := true }, kinds := [], alts := [], laidByText := true, laidKinds := [.data], laidTests := true, laidLooks := .later }
def CrossMirrorsCardSaid : Prop := Claim7.holds Tryz.pinned (.plain (OpenSpec.ofChange crossMirrorsSpec)) crossMirrorsCard

/-- THE TIED CARD OF 'merestonelaw05.CrossMoves'. -/
def crossMovesCard : Claim7 := { stood := { row := crossMovesRow, standIns := [], harness := (true, "24b32082896c065555274b633d469dd23dc97e6ddb406d23bbabbc6b00f8bcf6"), looks := true }, kinds := [], alts := [], laidByText := true, laidKinds := [.data], laidTests := true, laidLooks := .later }
def CrossMovesCardSaid : Prop := Claim7.holds Tryz.pinned (.plain (OpenSpec.ofChange crossMovesSpec)) crossMovesCard

/-- THE SECOND FORM's CARD OF 'merestonelaw05.CrossHolds'. -/
def crossHoldsUptoCard : Claim7 := { stood := { row := crossHoldsUptoRow, standIns := [], harness := (true, "24b32082896c065555274b633d469dd23dc97e6ddb406d23bbabbc6b00f8bcf6"), looks := true }, kinds := [], alts := [], laidByText := true, laidKinds := [.data], laidTests := true, laidLooks := .later }
def CrossHoldsUptoCardSaid : Prop := Claim7.holds Tryz.pinned (.plain (OpenSpec.upto crossHoldsSpec)) crossHoldsUptoCard

/-- THE SECOND FORM's CARD OF 'merestonelaw05.CrossMeets'. -/
def crossMeetsUptoCard : Claim7 := { stood := { row := crossMeetsUptoRow, standIns := [], harness := (true, "24b32082896c065555274b633d469dd23dc97e6ddb406d23bbabbc6b00f8bcf6"), looks := true }, kinds := [], alts := [], laidByText := true, laidKinds := [.data], laidTests := true, laidLooks := .later }
def CrossMeetsUptoCardSaid : Prop := Claim7.holds Tryz.pinned (.plain (OpenSpec.upto crossMeetsSpec)) crossMeetsUptoCard

/-- THE SECOND FORM's CARD OF 'merestonelaw05.CrossMirrors'. -/
def crossMirrorsUptoCard : Claim7 := { stood := { row := crossMirrorsUptoRow, standIns := [], harness := (true, "24b32082896c065555274b633d469dd23dc97e6ddb406d23bbabbc6b00f8bcf6"), looks := true }, kinds := [], alts := [], laidByText := true, laidKinds := [.data], laidTests := true, laidLooks := .later }
def CrossMirrorsUptoCardSaid : Prop := Claim7.holds Tryz.pinned (.plain (OpenSpec.upto crossMirrorsSpec)) crossMirrorsUptoCard

/-- THE SECOND FORM's CARD OF 'merestonelaw05.CrossMoves'. -/
def crossMovesUptoCard : Claim7 := { stood := { row := crossMovesUptoRow, standIns := [], harness := (true, "24b32082896c065555274b633d469dd23dc97e6ddb406d23bbabbc6b00f8bcf6"), looks := true }, kinds := [], alts := [], laidByText := true, laidKinds := [.data], laidTests := true, laidLooks := .later }
def CrossMovesUptoCardSaid : Prop := Claim7.holds Tryz.pinned (.plain (OpenSpec.upto crossMovesSpec)) crossMovesUptoCard
end Rows
end Go.Proofs.YteolocchmhpggaaGreatDoor
