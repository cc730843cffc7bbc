/-
Proved: ArenaCopies returns true at every list of acts, every two acts, every number (a copy stands alike and goes on apart; which arenas are the same; one may leave the places), and leaves its arguments alone. Conditions: none but those of the given statement.
-/
import Derived.Test.YtncgjlhmgdgokaaBQ
import Derived.Test.YtncgjlhmgdgokaaBR
namespace Go.Proofs.Ytncgjlhmgdgokaa
open Go.RowKit Go.Sort ArenaMath

theorem copies_true (ws : List (Int × Int)) (A : Option Addr) (c : Nat) (x1 y1 x2 y2 many : Int) (w : World) (hwf : ∀ p, p ∈ ws → (Lit.int .i64 p.1).wf = true ∧ (Lit.int .i64 p.2).wf = true) (w1 : (Lit.int .i64 y1).wf = true) (w2 : (Lit.int .i64 y2).wf = true) (hx : ActsS w A ws) :
    Calls Try.prog 4 #[.slice A ws.length c, actV x1 y1, actV x2 y2, .int .i64 many] w fun e w' => e = .returned (.bool true) ∧ Below w.heap.size w w' := by
  by_cases hn : ws.length ≤ 30
  · exact copies_short ws A ws.length c x1 y1 x2 y2 many w rfl hn (fun p hp => (hwf p hp).2) w1 w2 hx
  · exact copies_long A ws.length c x1 y1 x2 y2 many w (by omega)
end Go.Proofs.Ytncgjlhmgdgokaa
namespace Go.Proofs.Ytncgjlhmgdgokaa.fnArenaCopies
open Go.ChangeShapes Go.WideShapes Go.ChangeAt Go.RowKit

set_option maxRecDepth 100000 in
theorem contract (H : Type) (enc : TypeId × Value → H) (W : World) (base : Nat) (args : Array Value) (ds gs : List (DataW H)) (before : List MemPlace)
    (hval : ∀ (j : Nat) t v, Try.f4.params[j]? = some t → args[j]? = some v → Value.okWide Try.prog W .any base t v)
    (hW : DataW.Whole enc Try.prog Try.f4.params.toList Rows.arenaCopiesSpec.vars false W args.toList ds gs before) :
    Calls Try.prog 4 args W fun e W' => ∃ v, e = .returned v ∧ Rows.arenaCopiesSpec.post enc Try.prog Try.f4 false true false false W args v W' := by
  have hW' := hW
  obtain ⟨p, q, hA0, hV, rfl, hfz, hnd⟩ := hW
  have hA : DataW.TrodAll enc Try.prog W 0 (fun _ => true) true Try.f4.params.toList args.toList ds p := hA0
  rw [Try.params4] at hA hval
  obtain ⟨v0, vs0, d0, ds0, p0, q0, hargs0, rfl, rfl, h0, r0⟩ := trodAll_cons hA
  obtain ⟨v1, vs1, d1, ds1, p1, q1, hargs1, rfl, rfl, h1, r1⟩ := trodAll_cons r0
  obtain ⟨v2, vs2, d2, ds2, p2, q2, hargs2, rfl, rfl, h2, r2⟩ := trodAll_cons r1
  obtain ⟨v3, vs3, d3, ds3, p3, q3, hargs3, rfl, rfl, h3, r3⟩ := trodAll_cons r2
  obtain ⟨rfl, rfl, rfl⟩ := trodAll_nil r3
  subst hargs1
  subst hargs2
  subst hargs3
  obtain rfl : args = #[v0, v1, v2, v3] := by cases args; simp_all
  obtain ⟨rfl, rfl⟩ := trodVars_none hV
  obtain ⟨A, n, c, rfl⟩ := okWide_slice Try.underlying22 (hval 0 22 v0 rfl rfl)
  obtain ⟨x1, y1, rfl, rfl, rfl, wx1, wy1⟩ := open_act (hval 1 52 v1 rfl rfl) h1
  obtain ⟨x2, y2, rfl, rfl, rfl, wx2, wy2⟩ := open_act (hval 2 52 v2 rfl rfl) h2
  obtain ⟨n3, rfl, rfl, rfl, b3⟩ := open_int Try.underlying3 (hval 3 3 v3 rfl rfl) h3
  clear hA0
  have hlt : ∀ x ∈ p0, x.block < W.heap.size := fun x hx => hW'.lt x (by simp [hx])
  obtain ⟨ws, rfl, hwf, hws⟩ := open_acts_arg h0
  refine (copies_true ws A c x1 y1 x2 y2 n3 W hwf wy1 wy2 hws).mono ?_
  rintro e W' ⟨rfl, hb⟩
  have h0' := Below.trod laidOut (by kernel_rfl) (of_decide_eq_true (by kernel_rfl)) h0 hb hlt
  exact ⟨_, rfl, ⟨_, _, _, [], _, [], hW', trodAll_cons_mk (shut_bool Try.underlying4 _) trodAll_mk0, trodAll_cons_mk h0' (trodAll_cons_mk (shut_act wx1 wy1) (trodAll_cons_mk (shut_act wx2 wy2) (trodAll_cons_mk (shut_int Try.underlying3 b3) trodAll_mk0))), rfl, hb.frame _, fun h => by cases h⟩⟩

abbrev wit : Array Value := #[.slice none 0 0, actV 0 0, actV 0 0, .int .i64 0]
theorem laid_met (os : Os) : laidMet Try.prog Rows.arenaCopiesRow.laid ((bareWorld os).forCall (fun _ _ => 0) ⟨#[], wit, []⟩).memory :=
  laidMet_of_run' 8 (by kernel_rfl) (by kernel_rfl)
theorem reads (os : Os) {H : Type} (enc : TypeId × Value → H) : ∃ places, DataW.whole enc Try.prog ((bareWorld os).forCall (fun _ _ => 0) ⟨#[], wit, []⟩).memory Try.f4.params.toList Rows.arenaCopiesSpec.vars false wit.toList 8 = some ([.nil, datA H 0 0, datA H 0 0, .lit (.int .i64 0)], [], places) :=
  ⟨[], by kernel_rfl⟩

set_option maxRecDepth 100000 in
theorem lifted (os : Os) (started : os.Started) (H : Type) (enc : TypeId × Value → H) (F : Stop.Interp) :
    ReturnsInHanded {} Try.checked os 4 .any ((OpenSpec.ofChange Rows.arenaCopiesSpec).preRow enc Try.prog Try.f4 Rows.arenaCopiesRow.domain false Rows.arenaCopiesRow.laid) (((OpenSpec.ofChange Rows.arenaCopiesSpec).at F).post enc Try.prog Try.f4 false true false false) := by
  obtain ⟨places, hx⟩ := reads os enc
  refine returnsInHanded_of_row (C := Try.checked) (s := OpenSpec.ofChange Rows.arenaCopiesSpec) own started (by kernel_rfl) Try.func4
    (witness_row_at (enc := enc) (C := Try.checked) false (bareWorld os) wit rfl (by kernel_rfl) (by kernel_rfl) (by kernel_rfl)
      (OpenSpec.preRow_of_cond 8 hx (by kernel_rfl) (fun k hk => by cases hk) (by kernel_rfl) (laid_met os))) ?_
  intro W base args ds gs before hval hW _ _ _ _ _ _
  exact contract H enc W base args ds gs before hval hW

/-- The statement. -/
theorem said : Rows.ArenaCopiesSaid :=
  OpenClaim.holds_of_cond 4 Try.f4 rfl rfl rfl rfl rfl rfl rfl ⟨rfl, rfl, rfl, rfl, rfl⟩ rfl rfl rfl rfl rfl (by kernel_rfl) Try.func4 (by kernel_rfl)
    (of_decide_eq_true (by kernel_rfl)) (by unfold Func.isWrapper; first | (rw [if_pos (by decide +kernel)]; kernel_rfl) | (rw [if_neg (by decide +kernel)]; exact ⟨rfl, rfl⟩))
    (fun os started H enc _ F => by rw [OpenClaim.pre_eq_preRow]; exact lifted os started H enc F)
end Go.Proofs.Ytncgjlhmgdgokaa.fnArenaCopies
