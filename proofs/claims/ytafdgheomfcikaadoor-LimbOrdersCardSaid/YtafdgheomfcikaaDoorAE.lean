/- LimbOrders: the contract over every argument, out of the walk. -/
import Derived.Test.YtafdgheomfcikaaDoorCards
import Derived.Test.YtafdgheomfcikaaDoorTie
import Derived.Test.YtafdgheomfcikaaDoorAC
import Derived.Test.YtafdgheomfcikaaDoorAD
import Derived.WalkKit
import Derived.ProofKit
import Derived.Deep.DeepHandedRow
import Derived.Lib.LaidTab
namespace Go.Proofs.YtafdgheomfcikaaDoor
open Go.ChangeShapes Go.WideShapes Go.ChangeAt Go.RowKit

/-- The row's last step where the arguments hold no memory and the call has left the old blocks alone. -/
theorem post_plain {H : Type} {enc : TypeId × Value → H} {P : Program} {f : Func} {s : ChangeSpec} {apart fresh handsOn again : Bool} {W W' : World} {args : Array Value} {v : Value} {ds gs : List (DataW H)}
    (hW : DataW.Whole enc P f.params.toList s.vars apart W args.toList ds gs [])
    (hres : ∀ (b : Nat) (sp : Nat → Bool) (hd : Bool), DataW.TrodAll enc P W' b sp hd f.resultTypes.toList (v.resultList f.resultTypes.size) (s.fn H (ds ++ gs)).results [])
    (hargs : ∀ sp : Nat → Bool, DataW.TrodAll enc P W' 0 sp true f.params.toList args.toList (s.fn H (ds ++ gs)).args [])
    (hvars : ∀ sp : Nat → Bool, DataW.TrodVars enc P W' sp s.vars (s.fn H (ds ++ gs)).vars [])
    (hb : Below W.heap.size W W')
    (hok : ∀ (j : Nat) (t : TypeId) (r : Value), f.resultTypes[j]? = some t → (v.resultList f.resultTypes.size)[j]? = some r → Value.okWide P W' .any 0 t r) :
    s.post enc P f apart fresh handsOn again W args v W' := by
  refine ⟨ds, gs, [], [], [], [], hW, hres _ _ _, hargs _, hvars _, hb.frame _, fun _ => ?_⟩
  exact ⟨hok, _, _, [], ⟨[], [], trodAll_append (hargs _) (hres _ _ _), hvars _, rfl, fun _ _ h => (List.not_mem_nil h).elim, fun _ => List.Pairwise.nil⟩, fun _ h => (List.not_mem_nil h).elim⟩

theorem laidVars_tail {P : Program} {w : World} {x : String × DataW Unit} {r : List (String × DataW Unit)} {ps : List MemPlace} (h : DataW.LaidVars P w (x :: r) ps) : ∃ q, DataW.LaidVars P w r q := by
  obtain ⟨_, _, _, _, _, q, _, _, _, _, hr, _⟩ := h
  exact ⟨q, hr⟩
theorem tabIs_of_vars {P : Program} {W : World} {name : String} {k : IntKind} {zs : List Int} {rest : List (String × DataW Unit)} {ps : List MemPlace} {g : Nat} {t e : TypeId} {n : Nat}
    (hg : P.globalNamed name = some g) (hty : (P.globals[g]?).map (·.type) = some t) (ht : P.underlying t = some (.array n e)) (he : P.underlying e = some (.int k)) (hce : P.cellsOf e = 1) (hct : P.cellsOf t = n)
    (h : DataW.LaidVars P W ((name, Lib.tabData k zs) :: rest) ps) : Lib.TabIs P W name k zs := by
  obtain ⟨g', t', cs, fuel, p, q, hg', ht', hvar, hd, _, _⟩ := h
  obtain rfl := Option.some.inj (hg.symm.trans hg')
  obtain rfl := Option.some.inj (hty.symm.trans ht')
  unfold Lib.TabIs
  rw [hvar, ← Lib.cells_of_tab ht he hce hct hd]

theorem g64 : Tryd.prog.globalNamed "math/bits.deBruijn64tab" = some 0 := by kernel_rfl
theorem g64t : (Tryd.prog.globals[0]?).map (·.type) = some 140 := by kernel_rfl
theorem c64 : Tryd.prog.cellsOf 140 = 64 := by kernel_rfl
theorem c8 : Tryd.prog.cellsOf 5 = 1 := by kernel_rfl
theorem g10 : Tryd.prog.globalNamed "internal/strconv.uint64pow10" = some 3 := by kernel_rfl
theorem g10t : (Tryd.prog.globals[3]?).map (·.type) = some 152 := by kernel_rfl
theorem c10 : Tryd.prog.cellsOf 152 = 20 := by kernel_rfl

theorem row4_in {a b c d : Int} (ha : 0 ≤ a ∧ a < 18446744073709551616) (hb : 0 ≤ b ∧ b < 18446744073709551616) (hc : 0 ≤ c ∧ c < 18446744073709551616) (hd : 0 ≤ d ∧ d < 18446744073709551616) :
    ∀ k, 0 ≤ row4 a b c d k ∧ row4 a b c d k < 18446744073709551616
  | 0 => ha
  | 1 => hb
  | 2 => hc
  | _ + 3 => hd
/-- The tables, out of the row's list. -/
theorem tables {W : World} (h : laidMetH Tryd.prog Rows.limbOrdersRow.laid W) : TabTz W ∧ Tab10 W := by
  obtain ⟨ps, hv, _⟩ : laidMet Tryd.prog Rows.limbOrdersRow.laid W := h
  obtain ⟨q1, h1⟩ := laidVars_tail hv
  obtain ⟨q2, h2⟩ := laidVars_tail h1
  have T : Lib.TabIs Tryd.prog W "math/bits.deBruijn64tab" .u8 (Lib.deBruijn64tab.map fun n : Nat => (n : Int)) := tabIs_of_vars g64 g64t Tryd.underlying140 Tryd.underlying5 c8 c64 h1
  refine ⟨fun j hj => ?_, tabIs_of_vars g10 g10t Tryd.underlying152 Tryd.underlying22 cellsW c10 h2⟩
  have := T.cell g64 j (by simpa using hj)
  rw [this]
  simp [List.getD, hj]

set_option maxRecDepth 100000 in
theorem contract_orders (H : Type) (enc : TypeId × Value → H) (W : World) (base : Nat) (args : Array Value) (ds gs : List (DataW H)) (before : List MemPlace)
    (hval : ∀ (j : Nat) t v, Tryd.f6.params[j]? = some t → args[j]? = some v → Value.okWide Tryd.prog W .any base t v)
    (hW : DataW.Whole enc Tryd.prog Tryd.f6.params.toList Rows.limbOrdersSpec.vars false W args.toList ds gs before) (hL : laidMetH Tryd.prog Rows.limbOrdersRow.laid W) :
    Calls Tryd.prog 6 args W fun e W' => ∃ v, e = .returned v ∧ Rows.limbOrdersSpec.post enc Tryd.prog Tryd.f6 false true false false W args v W' := by
  have hW' := hW
  obtain ⟨p, q, hA0, hV, rfl, hfz, hnd⟩ := hW
  have hA : DataW.TrodAll enc Tryd.prog W 0 (fun _ => true) true Tryd.f6.params.toList args.toList ds p := hA0
  rw [Tryd.params6] at hA hval
  obtain ⟨v0, vs0, d0, ds0, p0, q0, hargs, rfl, rfl, h0, r0⟩ := trodAll_cons hA
  obtain ⟨v1, vs1, d1, ds1, p1, q1, hargs1, rfl, rfl, h1, r1⟩ := trodAll_cons r0
  obtain ⟨rfl, rfl, rfl⟩ := trodAll_nil r1
  subst hargs1
  obtain rfl : args = #[v0, v1] := by cases args; simp_all
  obtain ⟨rfl, rfl⟩ := trodVars_none hV
  obtain ⟨s, a0, a1, a2, a3, rfl, rfl, rfl, ba0, ba1, ba2, ba3⟩ := open_iv (hval 0 25 v0 rfl rfl) h0
  obtain ⟨t, b0, b1, b2, b3, rfl, rfl, rfl, bb0, bb1, bb2, bb3⟩ := open_iv (hval 1 25 v1 rfl rfl) h1
  clear hA0
  obtain ⟨hz, ht⟩ := tables hL
  have hw0 : 0 < W.heap.size := Nat.lt_of_le_of_lt (Nat.zero_le _) (block_lt_of_cell (hz 0 (by decide)))
  refine (orders_true s t a0 a1 a2 a3 b0 b1 b2 b3 W ht hz hw0 (row4_in ba0 ba1 ba2 ba3) (row4_in bb0 bb1 bb2 bb3)).mono ?_
  rintro e W' ⟨rfl, hb⟩
  exact ⟨_, rfl, post_plain (ds := [datI H s a0 a1 a2 a3, datI H t b0 b1 b2 b3]) (gs := []) hW' (fun _ _ _ => trodAll_cons_mk (shut_bool Tryd.underlying4 _) trodAll_mk0) (fun _ => trodAll_cons_mk (shut_iv s ba0 ba1 ba2 ba3) (trodAll_cons_mk (shut_iv t bb0 bb1 bb2 bb3) trodAll_mk0)) (fun _ => rfl) hb (ok_one (by kernel_rfl) rfl (okWide_bool_mk Tryd.underlying4 _))⟩
end Go.Proofs.YtafdgheomfcikaaDoor
