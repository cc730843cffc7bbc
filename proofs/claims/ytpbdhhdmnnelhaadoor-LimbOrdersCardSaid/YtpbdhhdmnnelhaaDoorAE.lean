/- LimbOrders: the contract over every argument, out of the walk. -/
import Derived.Test.YtpbdhhdmnnelhaaDoorFr
import Derived.Test.YtpbdhhdmnnelhaaDoorAC
namespace Go.Proofs.YtpbdhhdmnnelhaaDoor
open Go.ChangeShapes Go.WideShapes Go.ChangeAt Go.RowKit

set_option maxRecDepth 100000 in
theorem contract_orders (H : Type) (enc : TypeId × Value → H) (W : World) (base : Nat) (args : Array Value) (ds gs : List (DataW H)) (before : List MemPlace)
    (hval : ∀ (j : Nat) t v, Tryd.f6.params[j]? = some t → args[j]? = some v → Value.okWide Tryd.prog W .any base t v)
    (hW : DataW.Whole enc Tryd.prog Tryd.f6.params.toList Rows.limbOrdersSpec.vars false W args.toList ds gs before) (hL : laidMetH Tryd.prog Rows.limbOrdersRow.laid W) :
    Calls Tryd.prog 6 args W fun e W' => ∃ v, e = .returned v ∧ Rows.limbOrdersSpec.post enc Tryd.prog Tryd.f6 false true false false W args v W' := by
  have hW' := hW
  obtain ⟨p, q, hA0, hV, rfl, hfz, hnd⟩ := hW
  have hA : DataW.TrodAll enc Tryd.prog W 0 (fun _ => true) true Tryd.f6.params.toList args.toList ds p := hA0
  rw [Tryd.params6] at hA hval
  obtain ⟨v0, vs0, d0, ds0, p0, q0, hargs, rfl, rfl, h0, r0⟩ := trodAll_cons hA
  obtain ⟨v1, vs1, d1, ds1, p1, q1, hargs1, rfl, rfl, h1, r1⟩ := trodAll_cons r0
  obtain ⟨rfl, rfl, rfl⟩ := trodAll_nil r1
  subst hargs1
  obtain rfl : args = #[v0, v1] := by cases args; simp_all
  obtain ⟨rfl, rfl⟩ := trodVars_none hV
  obtain ⟨s, a0, a1, a2, a3, rfl, rfl, rfl, ba0, ba1, ba2, ba3⟩ := open_iv (hval 0 25 v0 rfl rfl) h0
  obtain ⟨t, b0, b1, b2, b3, rfl, rfl, rfl, bb0, bb1, bb2, bb3⟩ := open_iv (hval 1 25 v1 rfl rfl) h1
  clear hA0
  obtain ⟨hz, ht⟩ := tables hL
  have hw0 : 0 < W.heap.size := Nat.lt_of_le_of_lt (Nat.zero_le _) (block_lt_of_cell (hz 0 (by decide)))
  refine (orders_true s t a0 a1 a2 a3 b0 b1 b2 b3 W ht hz hw0 (row4_in ba0 ba1 ba2 ba3) (row4_in bb0 bb1 bb2 bb3)).mono ?_
  rintro e W' ⟨rfl, hb⟩
  exact ⟨_, rfl, post_plain (ds := [datI H s a0 a1 a2 a3, datI H t b0 b1 b2 b3]) (gs := []) hW' (fun _ _ _ => trodAll_cons_mk (shut_bool Tryd.underlying4 _) trodAll_mk0) (fun _ => trodAll_cons_mk (shut_iv s ba0 ba1 ba2 ba3) (trodAll_cons_mk (shut_iv t bb0 bb1 bb2 bb3) trodAll_mk0)) (fun _ => rfl) hb (ok_one (by kernel_rfl) rfl (okWide_bool_mk Tryd.underlying4 _))⟩
end Go.Proofs.YtpbdhhdmnnelhaaDoor
