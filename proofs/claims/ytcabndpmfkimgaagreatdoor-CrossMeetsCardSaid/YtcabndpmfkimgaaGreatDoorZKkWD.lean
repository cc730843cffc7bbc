import Derived.Test.YtcabndpmfkimgaaGreatDoorZKkSH
import Derived.Test.YtcabndpmfkimgaaGreatDoorZKkRI
import Derived.Test.YtcabndpmfkimgaaGreatDoorZKkSG
namespace Go.Proofs.YtcabndpmfkimgaaGreatDoor
open Go.RowKit

section
variable {w0 W W1 : World} {L : List (Nat × Array Value)} {s t : Bool} {m k p j : Nat} {listed : Array Bool} {a : Act}
end
end Go.Proofs.YtcabndpmfkimgaaGreatDoor
