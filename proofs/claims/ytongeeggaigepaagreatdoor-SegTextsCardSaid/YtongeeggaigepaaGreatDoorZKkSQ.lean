import Derived.Test.YtongeeggaigepaaGreatDoorZKkSG
import Derived.Test.YtongeeggaigepaaGreatDoorZKkSM
import Derived.Test.YtongeeggaigepaaGreatDoorZKkSH
import Derived.Test.YtongeeggaigepaaGreatDoorZKkSI
namespace Go.Proofs.YtongeeggaigepaaGreatDoor
open Go.RowKit CrossMath
def ptA (p : Pt) : Array Value := ratA p.xn p.xd ++ ratA p.yn p.yd
end Go.Proofs.YtongeeggaigepaaGreatDoor

namespace Go.Proofs.YtongeeggaigepaaGreatDoor
open Go.RowKit CrossMath
theorem eqlNode (a b c d : Int) (W : World) : (binOp .eql 23 (.agg (nodeA a b)) (.agg (nodeA c d))).run Tryz.prog W = .ok (.bool (a == c && b == d)) W := by
 have u := Tryz.underlying23
 rw [run_eql_struct]
 go_simp
 by_cases h1 : a = c <;> by_cases h2 : b = d <;> simp [h1, h2]
end Go.Proofs.YtongeeggaigepaaGreatDoor

namespace Go.Proofs.YtongeeggaigepaaGreatDoor
open Go.RowKit CrossMath
def eqI (s t : Bool) (a b c e a' b' c' e' : Int) : Bool := s == t && (a == a' && (b == b' && (c == c' && e == e')))
theorem eqIntI (d : Nat) (a0 : Bool) (a1 a2 a3 a4 : Int) (b0 : Bool) (b1 b2 b3 b4 : Int) (w : World) : (Op.equalIn (d + 3) 42 (.agg #[.bool a0, .int .u64 a1, .int .u64 a2, .int .u64 a3, .int .u64 a4]) (.agg #[.bool b0, .int .u64 b1, .int .u64 b2, .int .u64 b3, .int .u64 b4])).run Tryz.prog w = .ok (eqI a0 b0 a1 a2 a3 a4 b1 b2 b3 b4) w := eqInt d a0 b0 a1 a2 a3 a4 b1 b2 b3 b4 w
set_option maxRecDepth 100000 in
set_option maxHeartbeats 1600000 in
theorem eqRatI (d : Nat) (a0 : Bool) (a1 a2 a3 a4 : Int) (b0 : Bool) (b1 b2 b3 b4 : Int) (e0 : Bool) (e1 e2 e3 e4 : Int) (f0 : Bool) (f1 f2 f3 f4 : Int) (w : World) :
 (Op.equalIn (d + 4) 44 (.agg #[.bool a0, .int .u64 a1, .int .u64 a2, .int .u64 a3, .int .u64 a4, .bool b0, .int .u64 b1, .int .u64 b2, .int .u64 b3, .int .u64 b4]) (.agg #[.bool e0, .int .u64 e1, .int .u64 e2, .int .u64 e3, .int .u64 e4, .bool f0, .int .u64 f1, .int .u64 f2, .int .u64 f3, .int .u64 f4])).run Tryz.prog w = .ok (eqI a0 e0 a1 a2 a3 a4 e1 e2 e3 e4 && eqI b0 f0 b1 b2 b3 b4 f1 f2 f3 f4) w := by
 have u := Tryz.underlying44
 have HA := eqIntI d a0 a1 a2 a3 a4 e0 e1 e2 e3 e4
 have HB := eqIntI d b0 b1 b2 b3 b4 f0 f1 f2 f3 f4
 rw [show d + 4 = (d + 3) + 1 from rfl, run_equalIn_agg w (d + 3) 44 _ _ Tryz.underlying44 (by kernel_rfl)]
 generalize eqI a0 e0 a1 a2 a3 a4 e1 e2 e3 e4 = r at *
 generalize eqI b0 f0 b1 b2 b3 b4 f1 f2 f3 f4 = s at *
 clear u
 cases r <;> cases s <;> simp [Op.eqFields, go_sem, HA, HB]
set_option maxRecDepth 100000 in
set_option maxHeartbeats 1600000 in
theorem eqPtI (d : Nat) (a0 : Bool) (a1 a2 a3 a4 : Int) (b0 : Bool) (b1 b2 b3 b4 : Int) (c0 : Bool) (c1 c2 c3 c4 : Int) (g0 : Bool) (g1 g2 g3 g4 : Int) (h0 : Bool) (h1 h2 h3 h4 : Int) (i0 : Bool) (i1 i2 i3 i4 : Int) (j0 : Bool) (j1 j2 j3 j4 : Int) (k0 : Bool) (k1 k2 k3 k4 : Int) (w : World) :
 (Op.equalIn (d + 5) 46 (.agg #[.bool a0, .int .u64 a1, .int .u64 a2, .int .u64 a3, .int .u64 a4, .bool b0, .int .u64 b1, .int .u64 b2, .int .u64 b3, .int .u64 b4, .bool c0, .int .u64 c1, .int .u64 c2, .int .u64 c3, .int .u64 c4, .bool g0, .int .u64 g1, .int .u64 g2, .int .u64 g3, .int .u64 g4]) (.agg #[.bool h0, .int .u64 h1, .int .u64 h2, .int .u64 h3, .int .u64 h4, .bool i0, .int .u64 i1, .int .u64 i2, .int .u64 i3, .int .u64 i4, .bool j0, .int .u64 j1, .int .u64 j2, .int .u64 j3, .int .u64 j4, .bool k0, .int .u64 k1, .int .u64 k2, .int .u64 k3, .int .u64 k4])).run Tryz.prog w = .ok ((eqI a0 h0 a1 a2 a3 a4 h1 h2 h3 h4 && eqI b0 i0 b1 b2 b3 b4 i1 i2 i3 i4) && (eqI c0 j0 c1 c2 c3 c4 j1 j2 j3 j4 && eqI g0 k0 g1 g2 g3 g4 k1 k2 k3 k4)) w := by
 have HA := eqRatI d a0 a1 a2 a3 a4 b0 b1 b2 b3 b4 h0 h1 h2 h3 h4 i0 i1 i2 i3 i4
 have HB := eqRatI d c0 c1 c2 c3 c4 g0 g1 g2 g3 g4 j0 j1 j2 j3 j4 k0 k1 k2 k3 k4
 rw [show d + 5 = (d + 4) + 1 from rfl, run_equalIn_agg w (d + 4) 46 _ _ Tryz.underlying46 (by kernel_rfl)]
 generalize (eqI a0 h0 a1 a2 a3 a4 h1 h2 h3 h4 && eqI b0 i0 b1 b2 b3 b4 i1 i2 i3 i4) = r at *
 generalize (eqI c0 j0 c1 c2 c3 c4 j1 j2 j3 j4 && eqI g0 k0 g1 g2 g3 g4 k1 k2 k3 k4) = s at *
 cases r <;> cases s <;> simp [Op.eqFields, go_sem, HA, HB]
end Go.Proofs.YtongeeggaigepaaGreatDoor

namespace Go.Proofs.YtongeeggaigepaaGreatDoor
open Go.RowKit CrossMath
section
variable {w0 W W1 : World} {L : List (Nat × Array Value)} {ga gb : Int × Int} {listed : Array Bool} {a : Act}
end
end Go.Proofs.YtongeeggaigepaaGreatDoor
