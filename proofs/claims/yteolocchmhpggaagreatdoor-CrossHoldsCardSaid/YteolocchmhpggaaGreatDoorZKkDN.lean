import Derived.Test.YteolocchmhpggaaGreatDoorZKkDL
import Derived.Deep.AppendLies
import Derived.Deep.RegionLaw
namespace Go.Proofs.YteolocchmhpggaaGreatDoor
open Go.RowKit
section
variable {w W W1 W2 : World} {b k : Nat} {xs ys es : List Value} {v v' : Value}
end
section
variable {w W W1 : World} {b g N Bq rv : Nat} {xs ys : List Value} {qf qf' : Nat → Nat} {v : Value}
end
end Go.Proofs.YteolocchmhpggaaGreatDoor

namespace Go.Proofs.YteolocchmhpggaaGreatDoor
open Go.RowKit
section
variable {w W W1 W2 : World} {b k : Nat} {xs ys es : List Value} {v v' : Value}
end
section
variable {w W W1 : World} {b g N Bq rv : Nat} {xs ys : List Value} {qf qf' : Nat → Nat} {v : Value}
end
end Go.Proofs.YteolocchmhpggaaGreatDoor
