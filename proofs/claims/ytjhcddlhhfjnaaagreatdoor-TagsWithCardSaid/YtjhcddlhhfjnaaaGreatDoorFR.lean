/- The frame of layer 10's statements: the row's last step, the variables out of the row's list, a world for the witness. -/
import Derived.Test.YtjhcddlhhfjnaaaGreatDoorRows
import Derived.Test.YtjhcddlhhfjnaaaGreatDoorCards
import Derived.Test.YtjhcddlhhfjnaaaGreatDoorTie
import Derived.Test.YtjhcddlhhfjnaaaGreatDoorVR
import Derived.OpenShut
import Derived.ChangeArms
import Derived.WideShapes
import Derived.WalkArith
import Derived.WalkKit
import Derived.RowKit
import Derived.ProofKit
import Derived.Deep.DeepHandedRow
import Derived.Lib.LaidTab
import Derived.Stop.LaidErr
namespace Go.Proofs.YtjhcddlhhfjnaaaGreatDoor
open Go.ChangeShapes Go.WideShapes Go.ChangeAt Go.RowKit

/-- The row's last step where the arguments hold no memory and the call has left the old blocks alone. -/
theorem post_plain {H : Type} {enc : TypeId × Value → H} {P : Program} {f : Func} {s : ChangeSpec} {apart fresh handsOn again : Bool} {W W' : World} {args : Array Value} {v : Value} {ds gs : List (DataW H)}
    (hW : DataW.Whole enc P f.params.toList s.vars apart W args.toList ds gs [])
    (hres : ∀ (b : Nat) (sp : Nat → Bool) (hd : Bool), DataW.TrodAll enc P W' b sp hd f.resultTypes.toList (v.resultList f.resultTypes.size) (s.fn H (ds ++ gs)).results [])
    (hargs : ∀ sp : Nat → Bool, DataW.TrodAll enc P W' 0 sp true f.params.toList args.toList (s.fn H (ds ++ gs)).args [])
    (hvars : ∀ sp : Nat → Bool, DataW.TrodVars enc P W' sp s.vars (s.fn H (ds ++ gs)).vars [])
    (hb : Below W.heap.size W W')
    (hok : ∀ (j : Nat) (t : TypeId) (r : Value), f.resultTypes[j]? = some t → (v.resultList f.resultTypes.size)[j]? = some r → Value.okWide P W' .any 0 t r) :
    s.post enc P f apart fresh handsOn again W args v W' := by
  refine ⟨ds, gs, [], [], [], [], hW, hres _ _ _, hargs _, hvars _, hb.frame _, fun _ => ?_⟩
  exact ⟨hok, _, _, [], ⟨[], [], trodAll_append (hargs _) (hres _ _ _), hvars _, rfl, fun _ _ h => (List.not_mem_nil h).elim, fun _ => List.Pairwise.nil⟩, fun _ h => (List.not_mem_nil h).elim⟩

theorem laidVars_tail {P : Program} {w : World} {x : String × DataW Unit} {r : List (String × DataW Unit)} {ps : List MemPlace} (h : DataW.LaidVars P w (x :: r) ps) : ∃ q, DataW.LaidVars P w r q := by
  obtain ⟨_, _, _, _, _, q, _, _, _, _, hr, _⟩ := h
  exact ⟨q, hr⟩
theorem tabIs_of_vars {P : Program} {W : World} {name : String} {k : IntKind} {zs : List Int} {rest : List (String × DataW Unit)} {ps : List MemPlace} {g : Nat} {t e : TypeId} {n : Nat}
    (hg : P.globalNamed name = some g) (hty : (P.globals[g]?).map (·.type) = some t) (ht : P.underlying t = some (.array n e)) (he : P.underlying e = some (.int k)) (hce : P.cellsOf e = 1) (hct : P.cellsOf t = n)
    (h : DataW.LaidVars P W ((name, Lib.tabData k zs) :: rest) ps) : Lib.TabIs P W name k zs := by
  obtain ⟨g', t', cs, fuel, p, q, hg', ht', hvar, hd, _, _⟩ := h
  obtain rfl := Option.some.inj (hg.symm.trans hg')
  obtain rfl := Option.some.inj (hty.symm.trans ht')
  unfold Lib.TabIs
  rw [hvar, ← Lib.cells_of_tab ht he hce hct hd]

theorem g10 : Tryz.prog.globalNamed "internal/strconv.uint64pow10" = some 0 := by kernel_rfl
theorem g10t : (Tryz.prog.globals[0]?).map (·.type) = some 126 := by kernel_rfl
theorem c10 : Tryz.prog.cellsOf 126 = 20 := by kernel_rfl
theorem c10e : Tryz.prog.cellsOf 110 = 1 := by kernel_rfl
theorem gES : Tryz.prog.globalNamed "strconv.ErrSyntax" = some 4 := by kernel_rfl
theorem gESt : (Tryz.prog.globals[4]?).map (·.type) = some 97 := by kernel_rfl
theorem gER : Tryz.prog.globalNamed "strconv.ErrRange" = some 5 := by kernel_rfl
theorem gERt : (Tryz.prog.globals[5]?).map (·.type) = some 97 := by kernel_rfl
theorem starES : "*" ++ "errors.errorString" = "*errors.errorString" := by decide
theorem rowES (u : TypeId) (h : Tryz.prog.typeName? 3 u = some "*errors.errorString") : u = 153 :=
  typeName_ptr_named (nm := "errors.errorString") (by rw [starES]; kernel_rfl) (by kernel_rfl) (by decide) u (by rw [starES]; exact h)
theorem cES : Tryz.prog.cellsOf 155 = 1 := by kernel_rfl
theorem cStr : Tryz.prog.cellsOf 9 = 1 := by kernel_rfl
/-- The variables, out of the row's list. -/
theorem vars_of {W : World} (h : laidMetH Tryz.prog Rows.tagsTextsRow.laid W) : VarS W := by
  have hL : laidMet Tryz.prog Rows.tagsTextsRow.laid W := h
  obtain ⟨ps, hv, _⟩ := id hL
  obtain ⟨q1, h1⟩ := laidVars_tail hv
  obtain ⟨q2, h2⟩ := laidVars_tail h1
  obtain ⟨a0, s0, hv0, -, -, -⟩ := laid_sentinel hL.tail.tail.tail.tail gER gERt Tryz.underlying97 rowES Tryz.underlying153 Tryz.underlying155 rfl rfl Tryz.underlying9 cES cStr
  obtain ⟨a1, s1, hv1, -, -, -⟩ := laid_sentinel hL.tail.tail.tail.tail.tail gES gESt Tryz.underlying97 rowES Tryz.underlying153 Tryz.underlying155 rfl rfl Tryz.underlying9 cES cStr
  exact ⟨tabIs_of_vars g10 g10t Tryz.underlying126 Tryz.underlying110 c10e c10 h2, ⟨_, _, hv1⟩, ⟨_, _, hv0⟩⟩
theorem own : ownKnob Tryz.prog.godebug = none := by kernel_rfl

/-- A plain datum's values. -/
def flat0 : DataW Unit → List Value
  | .lit (.int k z) => [.int k z]
  | _ => []
def flat1 : DataW Unit → List Value
  | .agg l => l.flatMap flat0
  | d => flat0 d
def flat2 : DataW Unit → List Value
  | .agg l => l.flatMap flat1
  | d => flat0 d
def tabled (n : Nat) (d : DataW Unit) (h : Array Obj) : Array Obj := h.modify n fun
  | .cells _ t frozen => .cells (flat2 d).toArray t frozen
  | o => o
def sentried (n : Nat) (v : Value) (h : Array Obj) : Array Obj := h.modify n fun
  | .cells _ t frozen => .cells #[v] t frozen
  | o => o
/-- So many blocks has the settled world. -/
noncomputable def low : Nat := (World.holding Tryz.prog default ⟨#[], #[], []⟩).heap.size
/-- A world for the witness: the variables hold what their initialisers lay. -/
noncomputable def laidWorld (os : Os) : World :=
  let w0 := World.holding Tryz.prog os ⟨#[.cells #[.string ⟨#[105, 110, 118, 97, 108, 105, 100, 32, 115, 121, 110, 116, 97, 120]⟩] 155, .cells #[.string ⟨#[118, 97, 108, 117, 101, 32, 111, 117, 116, 32, 111, 102, 32, 114, 97, 110, 103, 101]⟩] 155], #[], []⟩
  { w0 with heap := tabled 6 Rows.laid_math_bits_deBruijn32tab (tabled 7 Rows.laid_math_bits_deBruijn64tab (tabled 0 Rows.laid_internal_strconv_uint64pow10
      (tabled 3 Rows.laid_unicode_utf8_acceptRanges (tabled 2 Rows.laid_unicode_utf8_first
      (sentried 4 (.iface 153 (.pointer (some ⟨low, 0, none⟩))) (sentried 5 (.iface 153 (.pointer (some ⟨low + 1, 0, none⟩))) w0.heap)))))) }
end Go.Proofs.YtjhcddlhhfjnaaaGreatDoor
