import Derived.Test.YteolocchmhpggaaGreatDoorZKkWE
import Derived.Test.YteolocchmhpggaaGreatDoorZKkSO
namespace Go.Proofs.YteolocchmhpggaaGreatDoor
open Go.RowKit CrossMath

def GoodR (n d : Int) : Prop := 0 < d ∧ Int.gcd n d = 1 ∧ n.natAbs < 1237940039285380274899124224 ∧ d.natAbs < 1152921504606846976
def GoodP (p : Pt) : Prop := GoodR p.xn p.xd ∧ GoodR p.yn p.yd
end Go.Proofs.YteolocchmhpggaaGreatDoor
