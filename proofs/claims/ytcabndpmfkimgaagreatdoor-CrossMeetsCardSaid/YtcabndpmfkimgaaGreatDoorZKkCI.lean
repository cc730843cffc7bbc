import Derived.Test.YtcabndpmfkimgaaGreatDoorZKkBX
import Derived.Test.YtcabndpmfkimgaaGreatDoorZKkBO
import Derived.Test.YtcabndpmfkimgaaGreatDoorKkE
import Derived.Test.YtcabndpmfkimgaaGreatDoorZKkT
import Derived.Test.YtcabndpmfkimgaaGreatDoorKkBase
import Derived.Test.YtcabndpmfkimgaaGreatDoorKkShelf
import Derived.Lib.AppendIntMem
import Derived.Lib.QuietBelow
import Derived.Test.YtcabndpmfkimgaaGreatDoorZKkI
import Derived.BigQuiet
import Derived.Laws.StructEq
namespace Go.Proofs.YtcabndpmfkimgaaGreatDoor
open Go.RowKit
section
variable {w W W1 : World} {L : List (Nat × List Value)}
end
end Go.Proofs.YtcabndpmfkimgaaGreatDoor
namespace Go.Proofs.YtcabndpmfkimgaaGreatDoor
open Go.RowKit
end Go.Proofs.YtcabndpmfkimgaaGreatDoor
namespace Go.Proofs.YtcabndpmfkimgaaGreatDoor
open Go.RowKit
section
variable {w W W1 : World} {ra rb dv : List Value} {B : Nat}
end
theorem sub_out (x y : Int) (hx : x.natAbs < T256) : ansz (zfold (fun a b => a + b) (fun i => if i = 0 then x else -y) 0 2) = outV (x - y) := by
 have h1 : zfold (fun a b => a + b) (fun i => if i = 0 then x else -y) 0 1 = some x := by
  have h := zfold_some (op := fun a b => a + b) (zs := fun i => if i = 0 then x else -y) (z0 := 0) (z := 0) (k := 0) rfl (by simpa using hx)
  simpa using h
 unfold outV
 by_cases hf : (x - y).natAbs < T256
 ·have h := zfold_some (op := fun a b => a + b) (k := 1) h1 (by simpa [Int.sub_eq_add_neg] using hf)
  rw [if_pos hf, h, ansz]
  simp [Int.sub_eq_add_neg]
 ·have h := zfold_stop (op := fun a b => a + b) (k := 1) (n := 2) h1 (by simpa [Int.sub_eq_add_neg] using hf) (by omega)
  rw [if_neg hf, h, ansz, ivz_nought]
theorem sub_outs (x y : Int) (w : World) (hx : x.natAbs < T256) (hy : y.natAbs < T256) : Calls Tryz.prog 96 #[ivz x, ivz y] w fun e w' => e = .returned (outV (x - y)) ∧ Below w.heap.size w w' := by
 have h := sub_z x y w hx hy
 rw [sub_out x y hx] at h
 exact h
end Go.Proofs.YtcabndpmfkimgaaGreatDoor
