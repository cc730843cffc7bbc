import Derived.Test.YtdfmmkidknginaaGreatDoorZKkBase
import Derived.OpenShut
import Derived.ChangeArms
import Derived.WideShapes
import Derived.WalkArith
import Derived.RowKit
namespace Go.Proofs.YtdfmmkidknginaaGreatDoor
open Go.RowKit Go.ChangeShapes Go.WideShapes
theorem cellsInt : Tryz.prog.cellsOf 42 = 5 := by kernel_rfl
theorem cellsMag : Tryz.prog.cellsOf 40 = 4 := by kernel_rfl
theorem cellsW : Tryz.prog.cellsOf 39 = 1 := by kernel_rfl
theorem cellsB : Tryz.prog.cellsOf 4 = 1 := by kernel_rfl
theorem wf_bd {n : Int} (h : (Lit.int .u64 n).wf = true) : 0 ≤ n ∧ n < 18446744073709551616 := by
 simp [Lit.wf, IntKind.min, IntKind.max, IntKind.signed, IntKind.bits] at h
 omega
def datI (H : Type) (s : Bool) (a b c e : Int) : DataW H := .agg [.lit (.bool s), .agg [.lit (.int .u64 a), .lit (.int .u64 b), .lit (.int .u64 c), .lit (.int .u64 e)]]
theorem open_mag {H : Type} {enc : TypeId × Value → H} {w : World} {base : Nat} {spare : Nat → Bool} {held : Bool} {fuel : Nat} {x0 x1 x2 x3 : Value} {y : DataW H × List MemPlace}
 (h : DataW.trod enc Tryz.prog w base spare held fuel 40 [x0, x1, x2, x3] = some y) :
 ∃ a b c e : Int, x0 = .int .u64 a ∧ x1 = .int .u64 b ∧ x2 = .int .u64 c ∧ x3 = .int .u64 e ∧ y = (.agg [.lit (.int .u64 a), .lit (.int .u64 b), .lit (.int .u64 c), .lit (.int .u64 e)], []) ∧
  (Lit.int .u64 a).wf = true ∧ (Lit.int .u64 b).wf = true ∧ (Lit.int .u64 c).wf = true ∧ (Lit.int .u64 e).wf = true := by
 obtain ⟨xs, m, _, rfl, _, hl, hf⟩ := DataW.trod_array Tryz.underlying40 h
 match xs, hl with
 | [z0, z1, z2, z3], _ =>
   have h0 := hf 0 (by omega)
   have h1 := hf 1 (by omega)
   have h2 := hf 2 (by omega)
   have h3 := hf 3 (by omega)
   simp only [cellsW] at h0 h1 h2 h3
   obtain ⟨a, ea, rfl, wa⟩ := DataW.trod_int Tryz.underlying39 (x := z0) h0
   obtain ⟨b, eb, rfl, wb⟩ := DataW.trod_int Tryz.underlying39 (x := z1) h1
   obtain ⟨c, ec, rfl, wc⟩ := DataW.trod_int Tryz.underlying39 (x := z2) h2
   obtain ⟨e, ee, rfl, we⟩ := DataW.trod_int Tryz.underlying39 (x := z3) h3
   simp at ea eb ec ee
   exact ⟨a, b, c, e, ea, eb, ec, ee, rfl, wa, wb, wc, we⟩
end Go.Proofs.YtdfmmkidknginaaGreatDoor
