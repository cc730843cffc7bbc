/- The frame of layer 7's statements: ways as arguments, opened and shut; the row's last step; a world for the witness. -/
import Derived.Test.YtfdofajknnocfaaRows
import Derived.Test.YtfdofajknnocfaaNA
import Derived.OpenShut
import Derived.ChangeArms
import Derived.WideShapes
import Derived.WalkArith
import Derived.RowKit
import Derived.ProofKit
import Derived.Deep.DeepHandedRow
import Derived.Lib.LaidTab
namespace Go.Proofs.Ytfdofajknnocfaa
open Go.ChangeShapes Go.WideShapes Go.ChangeAt Go.RowKit

theorem cellsWay : Try.prog.cellsOf 23 = 2 := by kernel_rfl
theorem cellsI64 : Try.prog.cellsOf 2 = 1 := by kernel_rfl
/-- The datum of a way. -/
def datW (H : Type) (x y : Int) : DataW H := .agg [.lit (.int .i64 x), .lit (.int .i64 y)]
set_option maxRecDepth 100000 in
theorem open_way {H : Type} {enc : TypeId × Value → H} {w : World} {base b0 : Nat} {spare : Nat → Bool} {held : Bool} {r : Reach} {v : Value} {d : DataW H} {p : List MemPlace}
    (hv : Value.okWide Try.prog w r b0 23 v) (h : DataW.Trod enc Try.prog w base spare held 23 v d p) :
    ∃ (x y : Int), v = wayV x y ∧ d = datW H x y ∧ p = [] ∧ (Lit.int .i64 x).wf = true ∧ (Lit.int .i64 y).wf = true := by
  obtain ⟨cs, rfl, hsz⟩ := okWide_struct Try.underlying23 hv
  obtain ⟨l⟩ := cs
  match l, hsz.trans cellsWay with
  | [c0, c1], _ =>
    obtain ⟨fuel, hf⟩ := h
    obtain ⟨xs, n, _, hx, _, hlen, hg⟩ := DataW.trod_struct Try.underlying23 hf
    match xs, hlen with
    | [y0, y1], _ =>
      have g0 : DataW.trod enc Try.prog w base spare held n 2 (((Value.agg #[c0, c1]).cells.toList.drop 0).take (Try.prog.cellsOf 2)) = some y0 := hg 0 _ rfl
      have g1 : DataW.trod enc Try.prog w base spare held n 2 (((Value.agg #[c0, c1]).cells.toList.drop 1).take (Try.prog.cellsOf 2)) = some y1 := hg 1 _ rfl
      rw [cellsI64] at g0 g1
      obtain ⟨a, ea, rfl, wa⟩ := DataW.trod_int Try.underlying2 (x := y0) g0
      obtain ⟨b, eb, rfl, wb⟩ := DataW.trod_int Try.underlying2 (x := y1) g1
      simp [Value.cells] at ea eb
      subst ea eb
      simp only [Prod.mk.injEq] at hx
      exact ⟨a, b, rfl, hx.1, hx.2, wa, wb⟩
set_option maxRecDepth 100000 in
theorem shut_way {H : Type} {enc : TypeId × Value → H} {w : World} {base : Nat} {spare : Nat → Bool} {held : Bool} {x y : Int} (wa : (Lit.int .i64 x).wf = true) (wb : (Lit.int .i64 y).wf = true) :
    DataW.Trod enc Try.prog w base spare held 23 (wayV x y) (datW H x y) [] := by
  refine ⟨3, ?_⟩
  simp [DataW.trod, datW, Value.cells, Try.underlying23, Try.underlying2, cellsWay, cellsI64, wa, wb]
/-- The row's last step where the arguments hold no memory and the call has left the old blocks alone. -/
theorem post_plain {H : Type} {enc : TypeId × Value → H} {P : Program} {f : Func} {s : ChangeSpec} {apart fresh handsOn again : Bool} {W W' : World} {args : Array Value} {v : Value} {ds gs : List (DataW H)}
    (hW : DataW.Whole enc P f.params.toList s.vars apart W args.toList ds gs [])
    (hres : ∀ (b : Nat) (sp : Nat → Bool) (hd : Bool), DataW.TrodAll enc P W' b sp hd f.resultTypes.toList (v.resultList f.resultTypes.size) (s.fn H (ds ++ gs)).results [])
    (hargs : ∀ sp : Nat → Bool, DataW.TrodAll enc P W' 0 sp true f.params.toList args.toList (s.fn H (ds ++ gs)).args [])
    (hvars : ∀ sp : Nat → Bool, DataW.TrodVars enc P W' sp s.vars (s.fn H (ds ++ gs)).vars [])
    (hb : Below W.heap.size W W')
    (hok : ∀ (j : Nat) (t : TypeId) (r : Value), f.resultTypes[j]? = some t → (v.resultList f.resultTypes.size)[j]? = some r → Value.okWide P W' .any 0 t r) :
    s.post enc P f apart fresh handsOn again W args v W' := by
  refine ⟨ds, gs, [], [], [], [], hW, hres _ _ _, hargs _, hvars _, hb.frame _, fun _ => ?_⟩
  exact ⟨hok, _, _, [], ⟨[], [], trodAll_append (hargs _) (hres _ _ _), hvars _, rfl, fun _ _ h => (List.not_mem_nil h).elim, fun _ => List.Pairwise.nil⟩, fun _ h => (List.not_mem_nil h).elim⟩
theorem own : ownKnob Try.prog.godebug = none := by kernel_rfl
noncomputable def bareWorld (os : Os) : World := World.holding Try.prog os ⟨#[], #[], []⟩
end Go.Proofs.Ytfdofajknnocfaa
