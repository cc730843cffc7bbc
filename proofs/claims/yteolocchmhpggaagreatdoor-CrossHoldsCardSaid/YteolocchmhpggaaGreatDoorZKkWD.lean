import Derived.Test.YteolocchmhpggaaGreatDoorZKkSH
import Derived.Test.YteolocchmhpggaaGreatDoorZKkRI
import Derived.Test.YteolocchmhpggaaGreatDoorZKkSG
namespace Go.Proofs.YteolocchmhpggaaGreatDoor
open Go.RowKit

section
variable {w0 W W1 : World} {L : List (Nat × Array Value)} {s t : Bool} {m k p j : Nat} {listed : Array Bool} {a : Act}
end
end Go.Proofs.YteolocchmhpggaaGreatDoor
