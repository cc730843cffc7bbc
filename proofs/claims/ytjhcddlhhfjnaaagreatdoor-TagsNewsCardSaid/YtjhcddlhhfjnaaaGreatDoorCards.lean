/-
  DERIVED. GIVEN WITH THE SEED: THE CARDS: each row of YtjhcddlhhfjnaaaGreatDoorRows.lean that lists a variable, with what it lists TIED to the program's text (the seventh form; the later family's looks); each row that meets fmt, with fmt's text TOLD by the authors' own Lean function (tested against real Go, not proved from fmt's source: count such statements apart). THE CARD IS WHAT COUNTS. Prove the row's statement (the work); the ties are given (YtjhcddlhhfjnaaaGreatDoorTie.lean); close each card by the builder's one call (the guide's Derived/Test/ToyasCard.lean, 'card_holds'). Laid BY PROGRAM, IN A SANDBOX (cutbox-door.mjs). By AI agents, Wed Nov 11 2026. No macro, syntax, notation, axiom, sorry.
-/
import Derived.Test.YtjhcddlhhfjnaaaGreatDoorRows
import GoSem.ClaimSeven
namespace Go.Proofs.YtjhcddlhhfjnaaaGreatDoor
namespace Rows

/-- THE TIED CARD OF 'merestonelaw10.TagsNews'. -/
def tagsNewsCard : Claim7 := { stood := { row := tagsNewsRow, standIns := [], harness := (true, "391539d17d95c77bb0d2f141b3e50c6f43ec7af2b91547d5ff749ca0240d017b"), looks := true }, kinds := [], alts := [], laidByText := true, laidKinds := [.data, .data, .data, .data, .sentinel, .sentinel, .pinned], laidTests := true, laidLooks := .later }
def TagsNewsCardSaid : Prop := Claim7.holds Tryz.pinned (.plain (OpenSpec.ofChange tagsNewsSpec)) tagsNewsCard

/-- THE TIED CARD OF 'merestonelaw10.TagsPlays'. -/
def tagsPlaysCard : Claim7 := { stood := { row := tagsPlaysRow, standIns := [], harness := (true, "391539d17d95c77bb0d2f141b3e50c6f43ec7af2b91547d5ff749ca0240d017b"), looks := true }, kinds := [], alts := [], laidByText := true, laidKinds := [.data, .data, .data, .data, .sentinel, .sentinel, .pinned], laidTests := true, laidLooks := .later }
def TagsPlaysCardSaid : Prop := Claim7.holds Tryz.pinned (.plain (OpenSpec.ofChange tagsPlaysSpec)) tagsPlaysCard

/-- THE TIED CARD OF 'merestonelaw10.TagsWith'. -/
def tagsWithCard : Claim7 := { stood := { row := tagsWithRow, standIns := [], harness := (true, "391539d17d95c77bb0d2f141b3e50c6f43ec7af2b91547d5ff749ca0240d017b"), looks := true }, kinds := [], alts := [], laidByText := true, laidKinds := [.data, .data, .data, .data, .sentinel, .sentinel, .pinned], laidTests := true, laidLooks := .later }
def TagsWithCardSaid : Prop := Claim7.holds Tryz.pinned (.plain (OpenSpec.ofChange tagsWithSpec)) tagsWithCard

/-- THE TIED CARD OF 'merestonelaw10.TagsTexts'. -/
def tagsTextsCard : Claim7 := { stood := { row := tagsTextsRow, standIns := [], harness := (true, "391539d17d95c77bb0d2f141b3e50c6f43ec7af2b91547d5ff749ca0240d017b"), looks := true }, kinds := [], alts := [], laidByText := true, laidKinds := [.data, .data, .data, .data, .sentinel, .sentinel, .pinned], laidTests := true, laidLooks := .later }
def TagsTextsCardSaid : Prop := Claim7.holds Tryz.pinned (.plain (OpenSpec.ofChange tagsTextsSpec)) tagsTextsCard

/-- THE SECOND FORM's CARD OF 'merestonelaw10.TagsNews'. -/
def tagsNewsUptoCard : Claim7 := { stood := { row := tagsNewsUptoRow, standIns := [], harness := (true, "391539d17d95c77bb0d2f141b3e50c6f43ec7af2b91547d5ff749ca0240d017b"), looks := true }, kinds := [], alts := [], laidByText := true, laidKinds := [.data, .data, .data, .data, .sentinel, .sentinel, .pinned], laidTests := true, laidLooks := .later }
def TagsNewsUptoCardSaid : Prop := Claim7.holds Tryz.pinned (.plain (OpenSpec.upto tagsNewsSpec)) tagsNewsUptoCard

/-- THE SECOND FORM's CARD OF 'merestonelaw10.TagsPlays'. -/
def tagsPlaysUptoCard : Claim7 := { stood := { row := tagsPlaysUptoRow, standIns := [], harness := (true, "391539d17d95c77bb0d2f141b3e50c6f43ec7af2b91547d5ff749ca0240d017b"), looks := true }, kinds := [], alts := [], laidByText := true, laidKinds := [.data, .data, .data, .data, .sentinel, .sentinel, .pinned], laidTests := true, laidLooks := .later }
def TagsPlaysUptoCardSaid : Prop := Claim7.holds Tryz.pinned (.plain (OpenSpec.upto tagsPlaysSpec)) tagsPlaysUptoCard

/-- THE SECOND FORM's CARD OF 'merestonelaw10.TagsWith'. -/
def tagsWithUptoCard : Claim7 := { stood := { row := tagsWithUptoRow, standIns := [], harness := (true, "391539d17d95c77bb0d2f141b3e50c6f43ec7af2b91547d5ff749ca0240d017b"), looks := true }, kinds := [], alts := [], laidByText := true, laidKinds := [.data, .data, .data, .data, .sentinel, .sentinel, .pinned], laidTests := true, laidLooks := .later }
def TagsWithUptoCardSaid : Prop := Claim7.holds Tryz.pinned (.plain (OpenSpec.upto tagsWithSpec)) tagsWithUptoCard

/-- THE SECOND FORM's CARD OF 'merestonelaw10.TagsTexts'. -/
def tagsTextsUptoCard : Claim7 := { stood := { row := tagsTextsUptoRow, standIns := [], harness := (true, "391539d17d95c77bb0d2f141b3e50c6f43ec7af2b91547d5ff749ca0240d017b"), looks := true }, kinds := [], alts := [], laidByText := true, laidKinds := [.data, .data, .data, .data, .sentinel, .sentinel, .pinned], laidTests := true, laidLooks := .later }
def TagsTextsUptoCardSaid : Prop := Claim7.holds Tryz.pinned (.plain (OpenSpec.upto tagsTextsSpec)) tagsTextsUptoCard
end Rows
end Go.Proofs.YtjhcddlhhfjnaaaGreatDoor
