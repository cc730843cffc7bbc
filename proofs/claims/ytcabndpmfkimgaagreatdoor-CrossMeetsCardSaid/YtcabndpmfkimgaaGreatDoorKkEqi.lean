import Derived.Test.YtcabndpmfkimgaaGreatDoorKkBase
import Derived.Laws.StructEq
namespace Go.Proofs.YtcabndpmfkimgaaGreatDoor
open Go.RowKit

theorem eqInt (d : Nat) (s t : Bool) (a b c e a' b' c' e' : Int) (w : World) :
 (Op.equalIn (d + 3) 30 (iv s a b c e) (iv t a' b' c' e')).run Tryz.prog w = .ok (s == t && (a == a' && (b == b' && (c == c' && e == e')))) w := by
 have u := Tryz.underlying30
 have h := eqArr d
 rw [show d + 3 = (d + 2) + 1 from rfl, Op.equalIn]
 simp only [Sem.run_bind, run_underlying u, Result.andThen_ok]
 go_simp
 by_cases h0 : s = t <;> by_cases h1 : a = a' <;> by_cases h2 : b = b' <;> by_cases h3 : c = c' <;> by_cases h4 : e = e' <;> simp [h0, h1, h2, h3, h4]
theorem neqInt (s t : Bool) (a b c e a' b' c' e' : Int) (w : World) :
 (binOp .neq 30 (iv s a b c e) (iv t a' b' c' e')).run Tryz.prog w = .ok (.bool (!(s == t && (a == a' && (b == b' && (c == c' && e == e')))))) w := by
 rw [run_neq_struct, show (10000 : Nat) = 9997 + 3 from rfl, eqInt 9997]; rfl

end Go.Proofs.YtcabndpmfkimgaaGreatDoor
