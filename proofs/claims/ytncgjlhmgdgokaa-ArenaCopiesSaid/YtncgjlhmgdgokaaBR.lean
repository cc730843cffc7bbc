/- An act as an argument of layer 11's statements, opened and shut. -/
import Derived.Test.YtncgjlhmgdgokaaBH
namespace Go.Proofs.Ytncgjlhmgdgokaa
open Go.ChangeShapes Go.WideShapes Go.ChangeAt Go.RowKit

/-- An act. -/
abbrev actV (x y : Int) : Value := .agg #[.int .i64 x, .int .i64 y]
/-- The datum of an act. -/
def datA (H : Type) (x y : Int) : DataW H := .agg [.lit (.int .i64 x), .lit (.int .i64 y)]
set_option maxRecDepth 100000 in
theorem open_act {H : Type} {enc : TypeId × Value → H} {w : World} {base b0 : Nat} {spare : Nat → Bool} {held : Bool} {r : Reach} {v : Value} {d : DataW H} {p : List MemPlace}
    (hv : Value.okWide Try.prog w r b0 52 v) (h : DataW.Trod enc Try.prog w base spare held 52 v d p) :
    ∃ (x y : Int), v = actV x y ∧ d = datA H x y ∧ p = [] ∧ (Lit.int .i64 x).wf = true ∧ (Lit.int .i64 y).wf = true := by
  obtain ⟨cs, rfl, hsz⟩ := okWide_struct Try.underlying52 hv
  obtain ⟨l⟩ := cs
  match l, hsz.trans cellsAct with
  | [c0, c1], _ =>
    obtain ⟨fuel, hf⟩ := h
    obtain ⟨xs, n, _, hx, _, hlen, hg⟩ := DataW.trod_struct Try.underlying52 hf
    match xs, hlen with
    | [y0, y1], _ =>
      have g0 : DataW.trod enc Try.prog w base spare held n 3 (((Value.agg #[c0, c1]).cells.toList.drop 0).take (Try.prog.cellsOf 3)) = some y0 := hg 0 _ rfl
      have g1 : DataW.trod enc Try.prog w base spare held n 3 (((Value.agg #[c0, c1]).cells.toList.drop 1).take (Try.prog.cellsOf 3)) = some y1 := hg 1 _ rfl
      rw [cellsInt] at g0 g1
      obtain ⟨a, ea, rfl, wa⟩ := DataW.trod_int Try.underlying3 (x := y0) g0
      obtain ⟨b, eb, rfl, wb⟩ := DataW.trod_int Try.underlying3 (x := y1) g1
      simp [Value.cells] at ea eb
      subst ea eb
      simp only [Prod.mk.injEq] at hx
      exact ⟨a, b, rfl, hx.1, hx.2, wa, wb⟩
set_option maxRecDepth 100000 in
theorem shut_act {H : Type} {enc : TypeId × Value → H} {w : World} {base : Nat} {spare : Nat → Bool} {held : Bool} {x y : Int} (wa : (Lit.int .i64 x).wf = true) (wb : (Lit.int .i64 y).wf = true) :
    DataW.Trod enc Try.prog w base spare held 52 (actV x y) (datA H x y) [] := by
  refine ⟨3, ?_⟩
  simp [DataW.trod, datA, Value.cells, Try.underlying52, Try.underlying3, cellsAct, cellsInt, wa, wb]
end Go.Proofs.Ytncgjlhmgdgokaa
