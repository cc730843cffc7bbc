import Derived.Test.YtongeeggaigepaaGreatDoorZKkSH
import Derived.Test.YtongeeggaigepaaGreatDoorZKkRI
import Derived.Test.YtongeeggaigepaaGreatDoorZKkSG
namespace Go.Proofs.YtongeeggaigepaaGreatDoor
open Go.RowKit
section
variable {w0 W W1 : World} {L : List (Nat × Array Value)} {s t : Bool} {m k p j : Nat} {listed : Array Bool} {a : Act}
end
end Go.Proofs.YtongeeggaigepaaGreatDoor
