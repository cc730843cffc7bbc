import Derived.Test.YteolocchmhpggaaGreatDoorZKkP
import Derived.Deep.RegionWith
import Derived.Deep.DeepCutAuto
namespace Go.Proofs.YteolocchmhpggaaGreatDoor
open Go.RowKit
section
variable {w0 W W1 : World} {a b : Int}
end
end Go.Proofs.YteolocchmhpggaaGreatDoor
