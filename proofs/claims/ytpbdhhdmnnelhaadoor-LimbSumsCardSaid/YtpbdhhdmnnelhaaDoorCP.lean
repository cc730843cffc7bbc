/-
Proved: LimbSums returns true at every list of Ints and any two Ints (Add, Mul, Sub, Neg against the document's own numbers), and leaves its arguments alone. Conditions: those of the given card alone.
-/
import Derived.Test.YtpbdhhdmnnelhaaDoorCI
import Derived.Test.YtpbdhhdmnnelhaaDoorCL
import Derived.Test.YtpbdhhdmnnelhaaDoorCN
import Derived.Test.YtpbdhhdmnnelhaaDoorCO

/- law01.LimbSums at every argument. -/
namespace Go.Proofs.YtpbdhhdmnnelhaaDoor
open Go.RowKit

theorem wrong_is {s : Bool} {a b c d : Int} (h : (s && zeroB a b c d) = true) : s = true ∧ a = 0 ∧ b = 0 ∧ c = 0 ∧ d = 0 := by
  obtain ⟨h1, h2⟩ := Bool.and_eq_true_iff.1 h
  exact ⟨h1, zeroB_iff.1 h2⟩
set_option maxRecDepth 100000 in
theorem sums_true (A : Option Addr) (b o n c : Nat) (neg : Nat → Bool) (m : Nat → Nat → Int) (s t : Bool) (a0 a1 a2 a3 b0 b1 b2 b3 : Int) (w : World) (ht : Tab10 w) (hz : TabTz w) (hw0 : 0 < w.heap.size)
    (lb : b < w.heap.size) (hi : IntsAt w b o n neg m) (hm : ∀ k, BdF (m k)) (hA : 0 < n → A = some ⟨b, o, none⟩)
    (ha0 : 0 ≤ a0 ∧ a0 < 18446744073709551616) (ha1 : 0 ≤ a1 ∧ a1 < 18446744073709551616) (ha2 : 0 ≤ a2 ∧ a2 < 18446744073709551616) (ha3 : 0 ≤ a3 ∧ a3 < 18446744073709551616)
    (hb0 : 0 ≤ b0 ∧ b0 < 18446744073709551616) (hb1 : 0 ≤ b1 ∧ b1 < 18446744073709551616) (hb2 : 0 ≤ b2 ∧ b2 < 18446744073709551616) (hb3 : 0 ≤ b3 ∧ b3 < 18446744073709551616) :
    Calls Tryd.prog 4 #[.slice A n c, iv s a0 a1 a2 a3, iv t b0 b1 b2 b3] w fun e w' => e = .returned (.bool true) ∧ Below w.heap.size w w' := by
  by_cases hn : 6 < n
  · exact sums_many A n c s t a0 a1 a2 a3 b0 b1 b2 b3 w ht hz hw0 hn
  · cases hr : rightAll neg m n
    · exact sums_wrong A b o n c neg m s t a0 a1 a2 a3 b0 b1 b2 b3 w ht hz hw0 (by omega) lb hi hm hA hr
    · have hr' : ∀ i, i < n → (neg i && zeroB (m i 0) (m i 1) (m i 2) (m i 3)) = false := fun i hin => by
        have h := rightAll_iff.1 hr i hin
        unfold rightB at h
        cases hh : (neg i && zeroB (m i 0) (m i 1) (m i 2) (m i 3))
        · rfl
        · rw [hh] at h; cases h
      obtain ⟨zs, hzs, hi'⟩ := ints_nums hi hm hr'
      cases hsa : (s && zeroB a0 a1 a2 a3)
      · obtain ⟨x, hx, hex, _, _, _, _, _⟩ := iv_num s a0 a1 a2 a3 ha0 ha1 ha2 ha3 hsa
        rw [hex]
        cases hsb : (t && zeroB b0 b1 b2 b3)
        · obtain ⟨y, hy, hey, _, _, _, _, _⟩ := iv_num t b0 b1 b2 b3 hb0 hb1 hb2 hb3 hsb
          rw [hey]
          exact sums_r A b o n c zs x y w ht hz hw0 (by omega) hx hy lb hi' hzs hA
        · obtain ⟨rfl, rfl, rfl, rfl, rfl⟩ := wrong_is hsb
          exact sums_b A b o n c zs x w ht hz hw0 (by omega) hx lb hi' hzs hA
      · obtain ⟨rfl, rfl, rfl, rfl, rfl⟩ := wrong_is hsa
        refine sums_a A b o n c zs t b0 b1 b2 b3 w ht hz hw0 (by omega) (Lib.hid fun W => ?_) lb hi' hzs hA
        cases hsb : (t && zeroB b0 b1 b2 b3)
        · obtain ⟨y, hy, hey, _, _, _, _, _⟩ := iv_num t b0 b1 b2 b3 hb0 hb1 hb2 hb3 hsb
          rw [hey]
          exact sub_bad_a y W hy
        · obtain ⟨rfl, rfl, rfl, rfl, rfl⟩ := wrong_is hsb
          exact sub_bad_b true 0 0 0 0 W
end Go.Proofs.YtpbdhhdmnnelhaaDoor
namespace Go.Proofs.YtpbdhhdmnnelhaaDoor
open Go.ChangeShapes Go.WideShapes Go.ChangeAt Go.RowKit

set_option maxRecDepth 100000 in
theorem contract_sums (H : Type) (enc : TypeId × Value → H) (W : World) (base : Nat) (args : Array Value) (ds gs : List (DataW H)) (before : List MemPlace)
    (hval : ∀ (j : Nat) t v, Tryd.f4.params[j]? = some t → args[j]? = some v → Value.okWide Tryd.prog W .any base t v)
    (hW : DataW.Whole enc Tryd.prog Tryd.f4.params.toList Rows.limbSumsSpec.vars false W args.toList ds gs before) (hL : laidMetH Tryd.prog Rows.limbSumsRow.laid W) :
    Calls Tryd.prog 4 args W fun e W' => ∃ v, e = .returned v ∧ Rows.limbSumsSpec.post enc Tryd.prog Tryd.f4 false true false false W args v W' := by
  have hW' := hW
  obtain ⟨p, q, hA0, hV, rfl, hfz, hnd⟩ := hW
  have hA : DataW.TrodAll enc Tryd.prog W 0 (fun _ => true) true Tryd.f4.params.toList args.toList ds p := hA0
  rw [Tryd.params4] at hA hval
  obtain ⟨v0, vs0, d0, ds0, p0, q0, hargs, rfl, rfl, h0, r0⟩ := trodAll_cons hA
  obtain ⟨v1, vs1, d1, ds1, p1, q1, hargs1, rfl, rfl, h1, r1⟩ := trodAll_cons r0
  obtain ⟨v2, vs2, d2, ds2, p2, q2, hargs2, rfl, rfl, h2, r2⟩ := trodAll_cons r1
  obtain ⟨rfl, rfl, rfl⟩ := trodAll_nil r2
  subst hargs2
  subst hargs1
  obtain rfl : args = #[v0, v1, v2] := by cases args; simp_all
  obtain ⟨rfl, rfl⟩ := trodVars_none hV
  obtain ⟨A, n, c, rfl⟩ := okWide_slice Tryd.underlying44 (hval 0 44 v0 rfl rfl)
  obtain ⟨s, a0, a1, a2, a3, rfl, rfl, rfl, ba0, ba1, ba2, ba3⟩ := open_iv (hval 1 25 v1 rfl rfl) h1
  obtain ⟨t, b0, b1, b2, b3, rfl, rfl, rfl, bb0, bb1, bb2, bb3⟩ := open_iv (hval 2 25 v2 rfl rfl) h2
  clear hA0
  obtain ⟨hz, ht⟩ := tables hL
  have hw0 : 0 < W.heap.size := Nat.lt_of_le_of_lt (Nat.zero_le _) (block_lt_of_cell (hz 0 (by decide)))
  have hlt : ∀ x ∈ p0, x.block < W.heap.size := fun x hx => hW'.lt x (by simp [hx])
  obtain ⟨b, o, neg, m, hAd, lb, hi, hm⟩ := open_ints_arg hw0 h0
  refine (sums_true A b o n c neg m s t a0 a1 a2 a3 b0 b1 b2 b3 W ht hz hw0 lb hi hm hAd ba0 ba1 ba2 ba3 bb0 bb1 bb2 bb3).mono ?_
  rintro e W' ⟨rfl, hb⟩
  have h0' := Below.trod laidOut (by kernel_rfl) (of_decide_eq_true (by kernel_rfl)) h0 hb hlt
  exact ⟨_, rfl, ⟨_, _, _, [], _, [], hW', trodAll_cons_mk (shut_bool Tryd.underlying4 _) trodAll_mk0, trodAll_cons_mk h0' (trodAll_cons_mk (shut_iv s ba0 ba1 ba2 ba3) (trodAll_cons_mk (shut_iv t bb0 bb1 bb2 bb3) trodAll_mk0)), rfl, hb.frame _, fun h => by cases h⟩⟩
end Go.Proofs.YtpbdhhdmnnelhaaDoor
namespace Go.Proofs.YtpbdhhdmnnelhaaDoor.fnSums
open Go.ChangeShapes Go.WideShapes Go.ChangeAt Go.RowKit

abbrev wit : Array Value := #[.slice none 0 0, iv false 0 0 0 0, iv false 0 0 0 0]
theorem laid_met (os : Os) : laidMet Tryd.prog Rows.limbSumsRow.laid ((laidWorld os).forCall (fun _ _ => 0) ⟨#[], wit, []⟩).memory :=
  laidMet_of_run' 8 (by kernel_rfl) (by kernel_rfl)
theorem reads (os : Os) {H : Type} (enc : TypeId × Value → H) : ∃ places, DataW.whole enc Tryd.prog ((laidWorld os).forCall (fun _ _ => 0) ⟨#[], wit, []⟩).memory Tryd.f4.params.toList Rows.limbSumsSpec.vars false wit.toList 8 = some ([.nil, datI H false 0 0 0 0, datI H false 0 0 0 0], [], places) :=
  ⟨[], by kernel_rfl⟩

set_option maxRecDepth 100000 in
theorem lifted (os : Os) (started : os.Started) (H : Type) (enc : TypeId × Value → H) (F : Stop.Interp) :
    ReturnsInHanded {} Tryd.checked os 4 .any ((OpenSpec.ofChange Rows.limbSumsSpec).preRow enc Tryd.prog Tryd.f4 Rows.limbSumsRow.domain false Rows.limbSumsRow.laid) (((OpenSpec.ofChange Rows.limbSumsSpec).at F).post enc Tryd.prog Tryd.f4 false true false false) := by
  obtain ⟨places, hx⟩ := reads os enc
  refine returnsInHanded_of_row (C := Tryd.checked) (s := OpenSpec.ofChange Rows.limbSumsSpec) own started (by kernel_rfl) Tryd.func4
    (witness_row_at (enc := enc) (C := Tryd.checked) false (laidWorld os) wit rfl (by kernel_rfl) (by kernel_rfl) (by kernel_rfl)
      (OpenSpec.preRow_of_cond 8 hx (by kernel_rfl) (fun k hk => by cases hk) (by kernel_rfl) (laid_met os))) ?_
  intro W base args ds gs before hval hW _ _ _ hL _ _
  exact contract_sums H enc W base args ds gs before hval hW hL

theorem said : Rows.LimbSumsSaid :=
  OpenClaim.holds_of_cond 4 Tryd.f4 rfl rfl rfl rfl rfl rfl rfl ⟨rfl, rfl, rfl, rfl, rfl⟩ rfl rfl rfl rfl rfl (by kernel_rfl) Tryd.func4 (by kernel_rfl)
    (of_decide_eq_true (by kernel_rfl)) (by unfold Func.isWrapper; first | (rw [if_pos (by decide +kernel)]; kernel_rfl) | (rw [if_neg (by decide +kernel)]; exact ⟨rfl, rfl⟩))
    (fun os started H enc _ F => by rw [OpenClaim.pre_eq_preRow]; exact lifted os started H enc F)

theorem plain (f : FuncId) (fn : Func) (hf : Tryd.pinned.checked.prog.funcNamed "merestone/merestonelaw01.LimbSums" = some f) (hfn : Tryd.pinned.checked.prog.funcs[f]? = some fn) :
    true = Tryd.pinned.checked.prog.looks [] ∧ ∀ (j : Nat) t, fn.params[j]? = some t → Tryd.pinned.checked.prog.wantsStandIn t = false := by
  obtain rfl : f = 4 := Option.some.inj ((show Tryd.prog.funcNamed "merestone/merestonelaw01.LimbSums" = some 4 by kernel_rfl).symm.trans hf) |>.symm
  obtain rfl : fn = Tryd.f4 := (Option.some.inj (Tryd.func4.symm.trans hfn)).symm
  refine ⟨by kernel_rfl, fun j t ht => ?_⟩
  rw [Tryd.params4] at ht
  have ht' : t = 44 ∨ t = 25 := by simpa using Array.mem_of_getElem? ht
  rcases ht' with rfl | rfl
  · exact (show Tryd.prog.wantsStandIn 44 = false by kernel_rfl)
  · exact (show Tryd.prog.wantsStandIn 25 = false by kernel_rfl)

/-- The card. -/
theorem card : Rows.LimbSumsCardSaid :=
  Claim7.holds_tied_plain_at .later [] _ _ _ _ said (fun _ h => by cases h) (by kernel_rfl) (fun _ h => by cases h) limbSums_row_tie rfl ⟨rfl, rfl⟩ (by kernel_rfl) rfl plain (by kernel_rfl)
end Go.Proofs.YtpbdhhdmnnelhaaDoor.fnSums
