import Derived.Test.YteolocchmhpggaaGreatDoorRows
import Derived.Test.YteolocchmhpggaaGreatDoorCards
import Derived.Test.YteolocchmhpggaaGreatDoorTie
import Derived.Test.YteolocchmhpggaaGreatDoorZKkSH
import Derived.Test.YteolocchmhpggaaGreatDoorKkTz
import Derived.OpenShut
import Derived.ChangeArms
import Derived.WideShapes
import Derived.WalkArith
import Derived.WalkKit
import Derived.RowKit
import Derived.ProofKit
import Derived.Deep.DeepHandedRow
import Derived.Lib.LaidTab
namespace Go.Proofs.YteolocchmhpggaaGreatDoor
open Go.ChangeShapes Go.WideShapes Go.ChangeAt Go.RowKit

theorem cellsSeg : Tryz.prog.cellsOf 25 = 4 := by kernel_rfl
theorem cellsNode : Tryz.prog.cellsOf 23 = 2 := by kernel_rfl
theorem cellsI64 : Tryz.prog.cellsOf 2 = 1 := by kernel_rfl
def datN (H : Type) (x y : Int) : DataW H := .agg [.lit (.int .i64 x), .lit (.int .i64 y)]
def datS (H : Type) (ax ay bx bY : Int) : DataW H := .agg [datN H ax ay, datN H bx bY]
theorem open_node {H : Type} {enc : TypeId × Value → H} {w : World} {base : Nat} {spare : Nat → Bool} {held : Bool} {fuel : Nat} {x0 x1 : Value} {y : DataW H × List MemPlace}
 (h : DataW.trod enc Tryz.prog w base spare held fuel 23 [x0, x1] = some y) :
 ∃ a b : Int, x0 = .int .i64 a ∧ x1 = .int .i64 b ∧ y = (datN H a b, []) ∧ (Lit.int .i64 a).wf = true ∧ (Lit.int .i64 b).wf = true := by
 obtain ⟨xs, n, _, hx, _, hlen, hg⟩ := DataW.trod_struct Tryz.underlying23 h
 match xs, hlen with
 | [y0, y1], _ =>
   have g0 : DataW.trod enc Tryz.prog w base spare held n 2 (([x0, x1].drop 0).take (Tryz.prog.cellsOf 2)) = some y0 := hg 0 _ rfl
   have g1 : DataW.trod enc Tryz.prog w base spare held n 2 (([x0, x1].drop 1).take (Tryz.prog.cellsOf 2)) = some y1 := hg 1 _ rfl
   rw [cellsI64] at g0 g1
   obtain ⟨a, ea, rfl, wa⟩ := DataW.trod_int Tryz.underlying2 (x := y0) g0
   obtain ⟨b, eb, rfl, wb⟩ := DataW.trod_int Tryz.underlying2 (x := y1) g1
   simp at ea eb
   exact ⟨a, b, ea, eb, hx, wa, wb⟩
set_option maxRecDepth 100000 in
theorem open_seg {H : Type} {enc : TypeId × Value → H} {w : World} {base b0 : Nat} {spare : Nat → Bool} {held : Bool} {r : Reach} {v : Value} {d : DataW H} {p : List MemPlace}
 (hv : Value.okWide Tryz.prog w r b0 25 v) (h : DataW.Trod enc Tryz.prog w base spare held 25 v d p) :
 ∃ (ax ay bx bY : Int), v = .agg #[.int .i64 ax, .int .i64 ay, .int .i64 bx, .int .i64 bY] ∧ d = datS H ax ay bx bY ∧ p = [] ∧ ((Lit.int .i64 ax).wf = true ∧ (Lit.int .i64 ay).wf = true ∧ (Lit.int .i64 bx).wf = true ∧ (Lit.int .i64 bY).wf = true) := by
 obtain ⟨cs, rfl, hsz⟩ := okWide_struct Tryz.underlying25 hv
 obtain ⟨l⟩ := cs
 match l, hsz.trans cellsSeg with
 | [c0, c1, c2, c3], _ =>
   obtain ⟨fuel, hf⟩ := h
   obtain ⟨xs, n, _, hx, _, hlen, hg⟩ := DataW.trod_struct Tryz.underlying25 hf
   match xs, hlen with
   | [y0, y1], _ =>
     have g0 : DataW.trod enc Tryz.prog w base spare held n 23 (((Value.agg #[c0, c1, c2, c3]).cells.toList.drop 0).take (Tryz.prog.cellsOf 23)) = some y0 := hg 0 _ rfl
     have g1 : DataW.trod enc Tryz.prog w base spare held n 23 (((Value.agg #[c0, c1, c2, c3]).cells.toList.drop 2).take (Tryz.prog.cellsOf 23)) = some y1 := hg 1 _ rfl
     rw [cellsNode] at g0 g1
     obtain ⟨a, b, rfl, rfl, rfl, wa, wb⟩ := open_node (y := y0) g0
     obtain ⟨c, e, rfl, rfl, rfl, wc, we⟩ := open_node (y := y1) g1
     simp only [Prod.mk.injEq] at hx
     exact ⟨a, b, c, e, rfl, hx.1, hx.2, wa, wb, wc, we⟩
set_option maxRecDepth 100000 in
theorem shut_seg {H : Type} {enc : TypeId × Value → H} {w : World} {base : Nat} {spare : Nat → Bool} {held : Bool} {ax ay bx bY : Int}
 (h : (Lit.int .i64 ax).wf = true ∧ (Lit.int .i64 ay).wf = true ∧ (Lit.int .i64 bx).wf = true ∧ (Lit.int .i64 bY).wf = true) :
 DataW.Trod enc Tryz.prog w base spare held 25 (.agg #[.int .i64 ax, .int .i64 ay, .int .i64 bx, .int .i64 bY]) (datS H ax ay bx bY) [] := by
 obtain ⟨wa, wb, wc, we⟩ := h
 refine ⟨4, ?_⟩
 simp [DataW.trod, datS, datN, Value.cells, Tryz.underlying25, Tryz.underlying23, Tryz.underlying2, cellsSeg, cellsNode, cellsI64, wa, wb, wc, we]
theorem post_plain {H : Type} {enc : TypeId × Value → H} {P : Program} {f : Func} {s : ChangeSpec} {apart fresh handsOn again : Bool} {W W' : World} {args : Array Value} {v : Value} {ds gs : List (DataW H)}
 (hW : DataW.Whole enc P f.params.toList s.vars apart W args.toList ds gs [])
 (hres : ∀ (b : Nat) (sp : Nat → Bool) (hd : Bool), DataW.TrodAll enc P W' b sp hd f.resultTypes.toList (v.resultList f.resultTypes.size) (s.fn H (ds ++ gs)).results [])
 (hargs : ∀ sp : Nat → Bool, DataW.TrodAll enc P W' 0 sp true f.params.toList args.toList (s.fn H (ds ++ gs)).args [])
 (hvars : ∀ sp : Nat → Bool, DataW.TrodVars enc P W' sp s.vars (s.fn H (ds ++ gs)).vars [])
 (hb : Below W.heap.size W W')
 (hok : ∀ (j : Nat) (t : TypeId) (r : Value), f.resultTypes[j]? = some t → (v.resultList f.resultTypes.size)[j]? = some r → Value.okWide P W' .any 0 t r) :
 s.post enc P f apart fresh handsOn again W args v W' := by
 refine ⟨ds, gs, [], [], [], [], hW, hres _ _ _, hargs _, hvars _, hb.frame _, fun _ => ?_⟩
 exact ⟨hok, _, _, [], ⟨[], [], trodAll_append (hargs _) (hres _ _ _), hvars _, rfl, fun _ _ h => (List.not_mem_nil h).elim, fun _ => List.Pairwise.nil⟩, fun _ h => (List.not_mem_nil h).elim⟩
theorem tabIs_of_vars {P : Program} {W : World} {name : String} {k : IntKind} {zs : List Int} {rest : List (String × DataW Unit)} {ps : List MemPlace} {g : Nat} {t e : TypeId} {n : Nat}
 (hg : P.globalNamed name = some g) (hty : (P.globals[g]?).map (·.type) = some t) (ht : P.underlying t = some (.array n e)) (he : P.underlying e = some (.int k)) (hce : P.cellsOf e = 1) (hct : P.cellsOf t = n)
 (h : DataW.LaidVars P W ((name, Lib.tabData k zs) :: rest) ps) : Lib.TabIs P W name k zs := by
 obtain ⟨g', t', cs, fuel, p, q, hg', ht', hvar, hd, _, _⟩ := h
 obtain rfl := Option.some.inj (hg.symm.trans hg')
 obtain rfl := Option.some.inj (hty.symm.trans ht')
 unfold Lib.TabIs
 rw [hvar, ← Lib.cells_of_tab ht he hce hct hd]
theorem g64 : Tryz.prog.globalNamed "math/bits.deBruijn64tab" = some 0 := by kernel_rfl
theorem g64t : (Tryz.prog.globals[0]?).map (·.type) = some 233 := by kernel_rfl
theorem c64 : Tryz.prog.cellsOf 233 = 64 := by kernel_rfl
theorem c8 : Tryz.prog.cellsOf 5 = 1 := by kernel_rfl
theorem tables {W : World} (h : laidMetH Tryz.prog Rows.crossMirrorsRow.laid W) : TabTz W := by
 obtain ⟨ps, hv, _⟩ : laidMet Tryz.prog Rows.crossMirrorsRow.laid W := h
 have T : Lib.TabIs Tryz.prog W "math/bits.deBruijn64tab" .u8 (Lib.deBruijn64tab.map fun n : Nat => (n : Int)) := tabIs_of_vars g64 g64t Tryz.underlying233 Tryz.underlying5 c8 c64 hv
 intro j hj
 have := T.cell g64 j (by simpa using hj)
 rw [this]
 simp [List.getD, hj]
theorem own : ownKnob Tryz.prog.godebug = none := by kernel_rfl
def tabled (n : Nat) (vs : Array Value) (h : Array Obj) : Array Obj := h.modify n fun
 | .cells _ t frozen => .cells vs t frozen
 | o => o
noncomputable def laidWorld (os : Os) : World :=
 { World.holding Tryz.prog os ⟨#[], #[], []⟩ with heap := tabled 0 (Lib.deBruijn64tab.map fun n : Nat => Value.int .u8 n).toArray (World.holding Tryz.prog os ⟨#[], #[], []⟩).heap }
end Go.Proofs.YteolocchmhpggaaGreatDoor
