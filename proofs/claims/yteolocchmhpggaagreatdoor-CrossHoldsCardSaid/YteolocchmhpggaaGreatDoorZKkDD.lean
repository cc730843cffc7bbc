import Derived.Test.YteolocchmhpggaaGreatDoorZKkDA
import Derived.Test.YteolocchmhpggaaGreatDoorZKkBase
import Derived.Test.YteolocchmhpggaaGreatDoorKkShelf
import Derived.Lib.AppendIntMem
import Derived.Lib.QuietBelow
import Derived.Test.YteolocchmhpggaaGreatDoorZKkI
import Derived.Deep.LoopGhost
namespace Go.Proofs.YteolocchmhpggaaGreatDoor
open Go.RowKit Go.Sort Go.Lib
end Go.Proofs.YteolocchmhpggaaGreatDoor
namespace Go.Proofs.YteolocchmhpggaaGreatDoor
open Go.RowKit Go.Sort Go.Lib
theorem words_nought {m : Nat} (h : m < T256) : (((W64 m 0 : Nat) : Int) == 0 && (((W64 m 1 : Nat) : Int) == 0 && (((W64 m 2 : Nat) : Int) == 0 && ((W64 m 3 : Nat) : Int) == 0))) = decide (m = 0) := by
 have e : valW (nat4 (W64 m 0) (W64 m 1) (W64 m 2) (W64 m 3)) 4 = m := by
  have e : valW (nat4 (W64 m 0) (W64 m 1) (W64 m 2) (W64 m 3)) 4 = valW (W64 m) 4 := rfl
  rw [e, valW_W64, ← T256_w, Nat.mod_eq_of_lt h]
 have hz := zeroB_val (W64 m 0) (W64 m 1) (W64 m 2) (W64 m 3)
 rw [e] at hz
 rw [Bool.eq_iff_iff, decide_eq_true_iff, ← hz]
 simp [zeroB]
end Go.Proofs.YteolocchmhpggaaGreatDoor
namespace Go.Proofs.YteolocchmhpggaaGreatDoor
open Go.RowKit Go.Sort Go.Lib
end Go.Proofs.YteolocchmhpggaaGreatDoor
