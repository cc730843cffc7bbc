import Derived.Test.YtongeeggaigepaaGreatDoorZKkWE
import Derived.Test.YtongeeggaigepaaGreatDoorZKkSQ
namespace Go.Proofs.YtongeeggaigepaaGreatDoor
open Go.RowKit CrossMath
theorem rout_good (n d : Int) (A B : Option Addr) (c e : Nat) (w : World) (hd : 0 < d) (hn : n.natAbs < T256) (hd' : d.natAbs < T256) (dA : DS w n.natAbs A) (dB : DS w d.natAbs B) :
 Calls Tryz.prog 43 #[.agg #[.bool (decide (n < 0)), .slice A (L16 n.natAbs) c, .bool false, .slice B (L16 d.natAbs) e]] w fun e w' => e = .returned (.tuple #[.agg (ratA n d), .int .i64 0]) ∧ Below w.heap.size w w' := by
 have d0 : decide (d < 0) = false := by simp; omega
 refine rout_core _ _ _ _ _ _ _ _ _ _ _ _ A B _ c _ e w (fun W hW => ?_) (fun W hW => ?_)
 ·have := out_z n A c W (dA.below hW)
  rw [outV, if_pos hn] at this
  exact this
 ·have := out_z d B e W (dB.below hW)
  rw [outV, if_pos hd', bigv, d0] at this
  exact this
end Go.Proofs.YtongeeggaigepaaGreatDoor
