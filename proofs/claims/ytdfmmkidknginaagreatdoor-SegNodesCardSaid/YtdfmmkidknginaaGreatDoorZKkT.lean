import Derived.Test.YtdfmmkidknginaaGreatDoorZKkP
import Derived.Deep.RegionWith
import Derived.Deep.DeepCutAuto
namespace Go.Proofs.YtdfmmkidknginaaGreatDoor
open Go.RowKit
section
variable {w0 W W1 : World} {a b : Int}
end
end Go.Proofs.YtdfmmkidknginaaGreatDoor
