/-
  DERIVED. GIVEN WITH THE SEED: THE CARDS: each row of YtpbdhhdmnnelhaaDoorRows.lean that lists a variable, with what it lists TIED to the program's text (the seventh form; the later family's looks); each row that meets fmt, with fmt's text TOLD by the authors' own Lean function (tested against real Go, not proved from fmt's source: count such statements apart). THE CARD IS WHAT COUNTS. Prove the row's statement (the work); the ties are given (YtpbdhhdmnnelhaaDoorTie.lean); close each card by the builder's one call (the guide's Derived/Test/ToyasCard.lean, 'card_holds'). Laid BY PROGRAM, IN A SANDBOX (cutbox-door.mjs). By AI agents, Wed Nov 11 2026. No macro, syntax, notation, axiom, sorry.
-/
import Derived.Test.YtpbdhhdmnnelhaaDoorRows
import GoSem.ClaimSeven
namespace Go.Proofs.YtpbdhhdmnnelhaaDoor
namespace Rows

/-- THE TIED CARD OF 'merestonelaw01.LimbOfs'. -/
def limbOfsCard : Claim7 := { stood := { row := limbOfsRow, standIns := [], harness := (true, "42df2d0c9557acb7dd2c4e0222a05f226b88a2166ce3c0da00e8769a1a5e5d23"), looks := true }, kinds := [], alts := [], laidByText := true, laidKinds := [.data, .data, .data], laidTests := true, laidLooks := .later }
def LimbOfsCardSaid : Prop := Claim7.holds Tryd.pinned (.plain (OpenSpec.ofChange limbOfsSpec)) limbOfsCard

/-- THE TIED CARD OF 'merestonelaw01.LimbSums'. -/
def limbSumsCard : Claim7 := { stood := { row := limbSumsRow, standIns := [], harness := (true, "42df2d0c9557acb7dd2c4e0222a05f226b88a2166ce3c0da00e8769a1a5e5d23"), looks := true }, kinds := [], alts := [], laidByText := true, laidKinds := [.data, .data, .data], laidTests := true, laidLooks := .later }
def LimbSumsCardSaid : Prop := Claim7.holds Tryd.pinned (.plain (OpenSpec.ofChange limbSumsSpec)) limbSumsCard

/-- THE TIED CARD OF 'merestonelaw01.LimbQuos'. -/
def limbQuosCard : Claim7 := { stood := { row := limbQuosRow, standIns := [], harness := (true, "42df2d0c9557acb7dd2c4e0222a05f226b88a2166ce3c0da00e8769a1a5e5d23"), looks := true }, kinds := [], alts := [], laidByText := true, laidKinds := [.data, .data, .data], laidTests := true, laidLooks := .later }
def LimbQuosCardSaid : Prop := Claim7.holds Tryd.pinned (.plain (OpenSpec.ofChange limbQuosSpec)) limbQuosCard

/-- THE TIED CARD OF 'merestonelaw01.LimbOrders'. -/
def limbOrdersCard : Claim7 := { stood := { row := limbOrdersRow, standIns := [], harness := (true, "42df2d0c9557acb7dd2c4e0222a05f226b88a2166ce3c0da00e8769a1a5e5d23"), looks := true }, kinds := [], alts := [], laidByText := true, laidKinds := [.data, .data, .data], laidTests := true, laidLooks := .later }
def LimbOrdersCardSaid : Prop := Claim7.holds Tryd.pinned (.plain (OpenSpec.ofChange limbOrdersSpec)) limbOrdersCard

/-- THE TIED CARD OF 'merestonelaw01.LimbTexts'. -/
def limbTextsCard : Claim7 := { stood := { row := limbTextsRow, standIns := [], harness := (true, "42df2d0c9557acb7dd2c4e0222a05f226b88a2166ce3c0da00e8769a1a5e5d23"), looks := true }, kinds := [], alts := [], laidByText := true, laidKinds := [.data, .data, .data], laidTests := true, laidLooks := .later }
def LimbTextsCardSaid : Prop := Claim7.holds Tryd.pinned (.plain (OpenSpec.ofChange limbTextsSpec)) limbTextsCard

/-- THE TIED CARD OF 'merestonelaw01.LimbBits'. -/
def limbBitsCard : Claim7 := { stood := { row := limbBitsRow, standIns := [], harness := (true, "42df2d0c9557acb7dd2c4e0222a05f226b88a2166ce3c0da00e8769a1a5e5d23"), looks := true }, kinds := [], alts := [], laidByText := true, laidKinds := [.data, .data, .data], laidTests := true, laidLooks := .later }
def LimbBitsCardSaid : Prop := Claim7.holds Tryd.pinned (.plain (OpenSpec.ofChange limbBitsSpec)) limbBitsCard

/-- THE TIED CARD OF 'merestonelaw01.LimbHolds'. -/
def limbHoldsCard : Claim7 := { stood := { row := limbHoldsRow, standIns := [], harness := (true, "42df2d0c9557acb7dd2c4e0222a05f226b88a2166ce3c0da00e8769a1a5e5d23"), looks := true }, kinds := [], alts := [], laidByText := true, laidKinds := [.data, .data, .data], laidTests := true, laidLooks := .later }
def LimbHoldsCardSaid : Prop := Claim7.holds Tryd.pinned (.plain (OpenSpec.ofChange limbHoldsSpec)) limbHoldsCard

/-- THE TIED CARD OF 'merestonelaw01.LimbMirrors'. -/
def limbMirrorsCard : Claim7 := { stood := { row := limbMirrorsRow, standIns := [], harness := (true, "42df2d0c9557acb7dd2c4e0222a05f226b88a2166ce3c0da00e8769a1a5e5d23"), looks := true }, kinds := [], alts := [], laidByText := true, laidKinds := [.data, .data, .data], laidTests := true, laidLooks := .later }
def LimbMirrorsCardSaid : Prop := Claim7.holds Tryd.pinned (.plain (OpenSpec.ofChange limbMirrorsSpec)) limbMirrorsCard

/-- THE SECOND FORM's CARD OF 'merestonelaw01.LimbOfs'. -/
def limbOfsUptoCard : Claim7 := { stood := { row := limbOfsUptoRow, standIns := [], harness := (true, "42df2d0c9557acb7dd2c4e0222a05f226b88a2166ce3c0da00e8769a1a5e5d23"), looks := true }, kinds := [], alts := [], laidByText := true, laidKinds := [.data, .data, .data], laidTests := true, laidLooks := .later }
def LimbOfsUptoCardSaid : Prop := Claim7.holds Tryd.pinned (.plain (OpenSpec.upto limbOfsSpec)) limbOfsUptoCard

/-- THE SECOND FORM's CARD OF 'merestonelaw01.LimbSums'. -/
def limbSumsUptoCard : Claim7 := { stood := { row := limbSumsUptoRow, standIns := [], harness := (true, "42df2d0c9557acb7dd2c4e0222a05f226b88a2166ce3c0da00e8769a1a5e5d23"), looks := true }, kinds := [], alts := [], laidByText := true, laidKinds := [.data, .data, .data], laidTests := true, laidLooks := .later }
def LimbSumsUptoCardSaid : Prop := Claim7.holds Tryd.pinned (.plain (OpenSpec.upto limbSumsSpec)) limbSumsUptoCard

/-- THE SECOND FORM's CARD OF 'merestonelaw01.LimbQuos'. -/
def limbQuosUptoCard : Claim7 := { stood := { row := limbQuosUptoRow, standIns := [], harness := (true, "42df2d0c9557acb7dd2c4e0222a05f226b88a2166ce3c0da00e8769a1a5e5d23"), looks := true }, kinds := [], alts := [], laidByText := true, laidKinds := [.data, .data, .data], laidTests := true, laidLooks := .later }
def LimbQuosUptoCardSaid : Prop := Claim7.holds Tryd.pinned (.plain (OpenSpec.upto limbQuosSpec)) limbQuosUptoCard

/-- THE SECOND FORM's CARD OF 'merestonelaw01.LimbOrders'. -/
def limbOrdersUptoCard : Claim7 := { stood := { row := limbOrdersUptoRow, standIns := [], harness := (true, "42df2d0c9557acb7dd2c4e0222a05f226b88a2166ce3c0da00e8769a1a5e5d23"), looks := true }, kinds := [], alts := [], laidByText := true, laidKinds := [.data, .data, .data], laidTests := true, laidLooks := .later }
def LimbOrdersUptoCardSaid : Prop := Claim7.holds Tryd.pinned (.plain (OpenSpec.upto limbOrdersSpec)) limbOrdersUptoCard

/-- THE SECOND FORM's CARD OF 'merestonelaw01.LimbTexts'. -/
def limbTextsUptoCard : Claim7 := { stood := { row := limbTextsUptoRow, standIns := [], harness := (true, "42df2d0c9557acb7dd2c4e0222a05f226b88a2166ce3c0da00e8769a1a5e5d23"), looks := true }, kinds := [], alts := [], laidByText := true, laidKinds := [.data, .data, .data], laidTests := true, laidLooks := .later }
def LimbTextsUptoCardSaid : Prop := Claim7.holds Tryd.pinned (.plain (OpenSpec.upto limbTextsSpec)) limbTextsUptoCard

/-- THE SECOND FORM's CARD OF 'merestonelaw01.LimbBits'. -/
def limbBitsUptoCard : Claim7 := { stood := { row := limbBitsUptoRow, standIns := [], harness := (true, "42df2d0c9557acb7dd2c4e0222a05f226b88a2166ce3c0da00e8769a1a5e5d23"), looks := true }, kinds := [], alts := [], laidByText := true, laidKinds := [.data, .data, .data], laidTests := true, laidLooks := .later }
def LimbBitsUptoCardSaid : Prop := Claim7.holds Tryd.pinned (.plain (OpenSpec.upto limbBitsSpec)) limbBitsUptoCard

/-- THE SECOND FORM's CARD OF 'merestonelaw01.LimbHolds'. -/
def limbHoldsUptoCard : Claim7 := { stood := { row := limbHoldsUptoRow, standIns := [], harness := (true, "42df2d0c9557acb7dd2c4e0222a05f226b88a2166ce3c0da00e8769a1a5e5d23"), looks := true }, kinds := [], alts := [], laidByText := true, laidKinds := [.data, .data, .data], laidTests := true, laidLooks := .later }
def LimbHoldsUptoCardSaid : Prop := Claim7.holds Tryd.pinned (.plain (OpenSpec.upto limbHoldsSpec)) limbHoldsUptoCard

/-- THE SECOND FORM's CARD OF 'merestonelaw01.LimbMirrors'. -/
def limbMirrorsUptoCard : Claim7 := { stood := { row := limbMirrorsUptoRow, standIns := [], harness := (true, "42df2d0c9557acb7dd2c4e0222a05f226b88a2166ce3c0da00e8769a1a5e5d23"), looks := true }, kinds := [], alts := [], laidByText := true, laidKinds := [.data, .data, .data], laidTests := true, laidLooks := .later }
def LimbMirrorsUptoCardSaid : Prop := Claim7.holds Tryd.pinned (.plain (OpenSpec.upto limbMirrorsSpec)) limbMirrorsUptoCard
end Rows
end Go.Proofs.YtpbdhhdmnnelhaaDoor
