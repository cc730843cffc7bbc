/- TagsTexts walked. -/
import Derived.Test.YtjhcddlhhfjnaaaDoorVR
namespace Go.Proofs.YtjhcddlhhfjnaaaDoor
open Go.RowKit Go.Sort Go.Shelf
/-- The document's tags in a box. -/
structure BoxR (w : World) (b : Nat) (l : List Int) (A : Option Addr) (N c : Nat) (W : World) : Prop where
  row : Row W b [.slice A N c]
  len : N = l.length
  cells : CellsS W A (intCs l)
  cap : N ≤ c
  bel : Below w.heap.size w W
theorem BoxR.after {w W W1 : World} {b : Nat} {l : List Int} {A : Option Addr} {N c : Nat} (h : BoxR w b l A N c W) (hb : Below W.heap.size W W1) : BoxR w b l A N c W1 :=
  ⟨h.row.after hb, h.len, h.cells.after hb, h.cap, h.bel.trans (hb.mono h.bel.size)⟩
theorem BoxR.made {w W : World} {l : List Int} {A : Option Addr} {N c : Nat} (h1 : N = l.length) (h2 : CellsS W A (intCs l)) (h3 : N ≤ c) (h4 : Below w.heap.size w W) : BoxR w W.heap.size l A N c (W.alloc (.cells #[.slice A N c] 31)) :=
  ⟨Row.at rfl [_] _, h1, h2.after ((Below.refl _ _).alloc (Nat.le_refl _) _), h3, h4.alloc h4.size _⟩
end Go.Proofs.YtjhcddlhhfjnaaaDoor
