/- The frame of every statement of layer 1: the row's last step where no memory comes in, the tables out of the row's list, a world for the witness. -/
import Derived.Test.YtpbdhhdmnnelhaaDoorCards
import Derived.Test.YtpbdhhdmnnelhaaDoorTie
import Derived.Test.YtpbdhhdmnnelhaaDoorV
import Derived.Test.YtpbdhhdmnnelhaaDoorAD
import Derived.WalkKit
import Derived.ProofKit
import Derived.Deep.DeepHandedRow
import Derived.Lib.LaidTab
namespace Go.Proofs.YtpbdhhdmnnelhaaDoor
open Go.ChangeShapes Go.WideShapes Go.ChangeAt Go.RowKit

/-- The row's last step where the arguments hold no memory and the call has left the old blocks alone. -/
theorem post_plain {H : Type} {enc : TypeId × Value → H} {P : Program} {f : Func} {s : ChangeSpec} {apart fresh handsOn again : Bool} {W W' : World} {args : Array Value} {v : Value} {ds gs : List (DataW H)}
    (hW : DataW.Whole enc P f.params.toList s.vars apart W args.toList ds gs [])
    (hres : ∀ (b : Nat) (sp : Nat → Bool) (hd : Bool), DataW.TrodAll enc P W' b sp hd f.resultTypes.toList (v.resultList f.resultTypes.size) (s.fn H (ds ++ gs)).results [])
    (hargs : ∀ sp : Nat → Bool, DataW.TrodAll enc P W' 0 sp true f.params.toList args.toList (s.fn H (ds ++ gs)).args [])
    (hvars : ∀ sp : Nat → Bool, DataW.TrodVars enc P W' sp s.vars (s.fn H (ds ++ gs)).vars [])
    (hb : Below W.heap.size W W')
    (hok : ∀ (j : Nat) (t : TypeId) (r : Value), f.resultTypes[j]? = some t → (v.resultList f.resultTypes.size)[j]? = some r → Value.okWide P W' .any 0 t r) :
    s.post enc P f apart fresh handsOn again W args v W' := by
  refine ⟨ds, gs, [], [], [], [], hW, hres _ _ _, hargs _, hvars _, hb.frame _, fun _ => ?_⟩
  exact ⟨hok, _, _, [], ⟨[], [], trodAll_append (hargs _) (hres _ _ _), hvars _, rfl, fun _ _ h => (List.not_mem_nil h).elim, fun _ => List.Pairwise.nil⟩, fun _ h => (List.not_mem_nil h).elim⟩

theorem laidVars_tail {P : Program} {w : World} {x : String × DataW Unit} {r : List (String × DataW Unit)} {ps : List MemPlace} (h : DataW.LaidVars P w (x :: r) ps) : ∃ q, DataW.LaidVars P w r q := by
  obtain ⟨_, _, _, _, _, q, _, _, _, _, hr, _⟩ := h
  exact ⟨q, hr⟩
theorem tabIs_of_vars {P : Program} {W : World} {name : String} {k : IntKind} {zs : List Int} {rest : List (String × DataW Unit)} {ps : List MemPlace} {g : Nat} {t e : TypeId} {n : Nat}
    (hg : P.globalNamed name = some g) (hty : (P.globals[g]?).map (·.type) = some t) (ht : P.underlying t = some (.array n e)) (he : P.underlying e = some (.int k)) (hce : P.cellsOf e = 1) (hct : P.cellsOf t = n)
    (h : DataW.LaidVars P W ((name, Lib.tabData k zs) :: rest) ps) : Lib.TabIs P W name k zs := by
  obtain ⟨g', t', cs, fuel, p, q, hg', ht', hvar, hd, _, _⟩ := h
  obtain rfl := Option.some.inj (hg.symm.trans hg')
  obtain rfl := Option.some.inj (hty.symm.trans ht')
  unfold Lib.TabIs
  rw [hvar, ← Lib.cells_of_tab ht he hce hct hd]

theorem g64 : Tryd.prog.globalNamed "math/bits.deBruijn64tab" = some 0 := by kernel_rfl
theorem g64t : (Tryd.prog.globals[0]?).map (·.type) = some 142 := by kernel_rfl
theorem c64 : Tryd.prog.cellsOf 142 = 64 := by kernel_rfl
theorem c8 : Tryd.prog.cellsOf 5 = 1 := by kernel_rfl
theorem g10 : Tryd.prog.globalNamed "internal/strconv.uint64pow10" = some 3 := by kernel_rfl
theorem g10t : (Tryd.prog.globals[3]?).map (·.type) = some 154 := by kernel_rfl
theorem c10 : Tryd.prog.cellsOf 154 = 20 := by kernel_rfl

theorem row4_in {a b c d : Int} (ha : 0 ≤ a ∧ a < 18446744073709551616) (hb : 0 ≤ b ∧ b < 18446744073709551616) (hc : 0 ≤ c ∧ c < 18446744073709551616) (hd : 0 ≤ d ∧ d < 18446744073709551616) :
    ∀ k, 0 ≤ row4 a b c d k ∧ row4 a b c d k < 18446744073709551616
  | 0 => ha
  | 1 => hb
  | 2 => hc
  | _ + 3 => hd
/-- The tables, out of the row's list. -/
theorem tables {W : World} (h : laidMetH Tryd.prog Rows.limbOrdersRow.laid W) : TabTz W ∧ Tab10 W := by
  obtain ⟨ps, hv, _⟩ : laidMet Tryd.prog Rows.limbOrdersRow.laid W := h
  obtain ⟨q1, h1⟩ := laidVars_tail hv
  obtain ⟨q2, h2⟩ := laidVars_tail h1
  have T : Lib.TabIs Tryd.prog W "math/bits.deBruijn64tab" .u8 (Lib.deBruijn64tab.map fun n : Nat => (n : Int)) := tabIs_of_vars g64 g64t Tryd.underlying142 Tryd.underlying5 c8 c64 h1
  refine ⟨fun j hj => ?_, tabIs_of_vars g10 g10t Tryd.underlying154 Tryd.underlying22 cellsW c10 h2⟩
  have := T.cell g64 j (by simpa using hj)
  rw [this]
  simp [List.getD, hj]

theorem own : ownKnob Tryd.prog.godebug = none := by kernel_rfl

/-- A world for the witness: the tables hold what their initialisers lay. -/
def tabled (n : Nat) (vs : Array Value) (h : Array Obj) : Array Obj := h.modify n fun
  | .cells _ t frozen => .cells vs t frozen
  | o => o
noncomputable def laidWorld (os : Os) : World :=
  { World.holding Tryd.prog os ⟨#[], #[], []⟩ with heap := tabled 5 (Lib.deBruijn32tab.map fun n : Nat => Value.int .u8 n).toArray (tabled 0 (Lib.deBruijn64tab.map fun n : Nat => Value.int .u8 n).toArray
      (tabled 3 (Lib.pow10Tab.map fun n => Value.int .u64 n).toArray (World.holding Tryd.prog os ⟨#[], #[], []⟩).heap)) }
end Go.Proofs.YtpbdhhdmnnelhaaDoor
