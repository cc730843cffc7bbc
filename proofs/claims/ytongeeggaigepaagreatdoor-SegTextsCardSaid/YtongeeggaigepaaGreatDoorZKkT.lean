import Derived.Test.YtongeeggaigepaaGreatDoorZKkP
import Derived.Deep.RegionWith
import Derived.Deep.DeepCutAuto
namespace Go.Proofs.YtongeeggaigepaaGreatDoor
open Go.RowKit
section
variable {w0 W W1 : World} {a b : Int}
end
end Go.Proofs.YtongeeggaigepaaGreatDoor
