import Derived.Test.YtongeeggaigepaaGreatDoorZKkSH
import Derived.Test.YtongeeggaigepaaGreatDoorZKkSM
namespace Go.Proofs.YtongeeggaigepaaGreatDoor
open Go.RowKit CrossMath
abbrev segA (ax ay bx bY : Int) : Array Value := #[.int .i64 ax, .int .i64 ay, .int .i64 bx, .int .i64 bY]
theorem segA_one (ax ay bx bY : Int) : OneC (segA ax ay bx bY) := by simp [OneC, Value.oneCell']
theorem agg_seg : AggTy Tryz.prog 25 4 := .of _ Tryz.underlying25 rfl (by kernel_rfl)
end Go.Proofs.YtongeeggaigepaaGreatDoor
