import Derived.Test.YtongeeggaigepaaGreatDoorZKkBase
import Derived.OpenShut
import Derived.ChangeArms
import Derived.WideShapes
import Derived.WalkArith
import Derived.RowKit
namespace Go.Proofs.YtongeeggaigepaaGreatDoor
open Go.RowKit Go.ChangeShapes Go.WideShapes
end Go.Proofs.YtongeeggaigepaaGreatDoor
