import Derived.Test.YtcabndpmfkimgaaGreatDoorZKkP
import Derived.Deep.RegionWith
import Derived.Deep.DeepCutAuto
namespace Go.Proofs.YtcabndpmfkimgaaGreatDoor
open Go.RowKit
section
variable {w0 W W1 : World} {a b : Int}
end
end Go.Proofs.YtcabndpmfkimgaaGreatDoor
