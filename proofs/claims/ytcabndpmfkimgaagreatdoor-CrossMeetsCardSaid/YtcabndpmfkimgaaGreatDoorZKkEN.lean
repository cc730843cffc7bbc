import Derived.Test.YtcabndpmfkimgaaGreatDoorZKkEF
import Derived.Test.YtcabndpmfkimgaaGreatDoorZKkDN
import Derived.Test.YtcabndpmfkimgaaGreatDoorZKkDD
import Derived.Deep.RegionHeld3
import Derived.Deep.CutBlock
import Derived.Test.YtcabndpmfkimgaaGreatDoorZKkCI
namespace Go.Proofs.YtcabndpmfkimgaaGreatDoor
open Go.RowKit
theorem gcd_z (x y : Int) (w : World) (hx : x.natAbs < T256) (hy : y.natAbs < T256) (ht : TabTz w) (hw0 : 0 < w.heap.size) :
 Calls Tryz.prog 127 #[ivz x, ivz y] w fun e w' => e = .returned (.tuple #[ivz (Int.gcd x y : Nat), .int .i64 0]) ∧ Below w.heap.size w w' := by
 have h := gcd_of (decide (x < 0)) (decide (y < 0)) _ _ _ _ _ _ _ _ _ _ _ _ w (ivz_right x hx) (ivz_right y hy) (fun W hb => shared_any x.natAbs y.natAbs W hx hy (ht.below hw0 hb) (Nat.lt_of_lt_of_le hw0 hb.size))
 rw [show ivz (Int.gcd x y : Nat) = iv false (W64 (x.natAbs.gcd y.natAbs) 0 : Nat) (W64 (x.natAbs.gcd y.natAbs) 1 : Nat) (W64 (x.natAbs.gcd y.natAbs) 2 : Nat) (W64 (x.natAbs.gcd y.natAbs) 3 : Nat) by
  rw [ivz, Int.natAbs_natCast, decide_eq_false (by omega : ¬ ((Int.gcd x y : Nat) : Int) < 0)]; rfl]
 exact h
end Go.Proofs.YtcabndpmfkimgaaGreatDoor
namespace Go.Proofs.YtcabndpmfkimgaaGreatDoor
open Go.RowKit
end Go.Proofs.YtcabndpmfkimgaaGreatDoor
namespace Go.Proofs.YtcabndpmfkimgaaGreatDoor
open Go.RowKit
end Go.Proofs.YtcabndpmfkimgaaGreatDoor
namespace Go.Proofs.YtcabndpmfkimgaaGreatDoor
open Go.RowKit
end Go.Proofs.YtcabndpmfkimgaaGreatDoor
