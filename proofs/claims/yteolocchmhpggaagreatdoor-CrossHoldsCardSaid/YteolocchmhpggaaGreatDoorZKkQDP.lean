import Derived.Test.YteolocchmhpggaaGreatDoorZKkDN
import Derived.Test.YteolocchmhpggaaGreatDoorZKkDD
import Derived.Test.YteolocchmhpggaaGreatDoorZKkDA
import Derived.Test.YteolocchmhpggaaGreatDoorZKkBase
import Derived.Test.YteolocchmhpggaaGreatDoorProg
import Derived.WalkKit
import Derived.WalkSpells
import Derived.WalkLawsBesides
import Derived.Deep.QuietTactic
import Derived.BigQuiet
import Derived.Lib.Hide
import Derived.ChangeKeysEq
import Derived.Laws.Bits64b
import Derived.Deep.CutBlock
import Derived.Deep.DeepCutAuto
import Derived.BigRegion
import Derived.Test.YteolocchmhpggaaGreatDoorKkShelf
import Derived.Lib.AppendIntMem
import Derived.Lib.QuietBelow
import Derived.Test.YteolocchmhpggaaGreatDoorZKkI
import Derived.Test.YteolocchmhpggaaGreatDoorZKkCar
import Derived.Shelf.Spec.BitsCarry
import Derived.Defers
import Derived.Recover
import Derived.Laws.Pointers
import Derived.Deep.RegionWith
import Derived.Deep.LoopGhost
namespace Go.Proofs.YteolocchmhpggaaGreatDoor
open Go.RowKit
section
variable {w W W1 : World} {X : Nat} {V : List Value} {m : Nat} {A : Option Addr} {c : Nat}
end
section
variable {w W W1 : World} {X : Nat} {V : List Value} {m q r : Nat} {A A1 A2 : Option Addr} {c : Nat}
end
end Go.Proofs.YteolocchmhpggaaGreatDoor

namespace Go.Proofs.YteolocchmhpggaaGreatDoor
open Go.RowKit
section
variable {w W W1 : World} {m k c d : Nat} {A B : Option Addr}
end
end Go.Proofs.YteolocchmhpggaaGreatDoor
namespace Go.Proofs.YteolocchmhpggaaGreatDoor
open Go.RowKit
section
variable {w W W1 : World} {m k c d : Nat} {A B : Option Addr}
end
end Go.Proofs.YteolocchmhpggaaGreatDoor
