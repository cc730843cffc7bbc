import Derived.Test.YtongeeggaigepaaGreatDoorZKkBX
import Derived.Test.YtongeeggaigepaaGreatDoorZKkBO
import Derived.Test.YtongeeggaigepaaGreatDoorZKkE
import Derived.Test.YtongeeggaigepaaGreatDoorZKkT
import Derived.Test.YtongeeggaigepaaGreatDoorZKkM
import Derived.Test.YtongeeggaigepaaGreatDoorZKkI
import Derived.Lib.QuietBelow
import Derived.BigQuiet
import Derived.Laws.StructEq
import Derived.Test.YtongeeggaigepaaGreatDoorZKkBase
namespace Go.Proofs.YtongeeggaigepaaGreatDoor
open Go.RowKit
def RS (w : World) (L : List (Nat × List Value)) (W : World) : Prop := (∀ p, p ∈ L → Row W p.1 p.2) ∧ Below w.heap.size w W
section
variable {w W W1 : World} {L : List (Nat × List Value)}
end
end Go.Proofs.YtongeeggaigepaaGreatDoor
namespace Go.Proofs.YtongeeggaigepaaGreatDoor
open Go.RowKit
end Go.Proofs.YtongeeggaigepaaGreatDoor
namespace Go.Proofs.YtongeeggaigepaaGreatDoor
open Go.RowKit
section
variable {w W W1 : World} {ra rb dv : List Value} {B : Nat}
end
theorem sub_out (x y : Int) (hx : x.natAbs < T256) : ansz (zfold (fun a b => a + b) (fun i => if i = 0 then x else -y) 0 2) = outV (x - y) := by
 have h1 : zfold (fun a b => a + b) (fun i => if i = 0 then x else -y) 0 1 = some x := by
  have h := zfold_some (op := fun a b => a + b) (zs := fun i => if i = 0 then x else -y) (z0 := 0) (z := 0) (k := 0) rfl (by simpa using hx)
  simpa using h
 unfold outV
 by_cases hf : (x - y).natAbs < T256
 ·have h := zfold_some (op := fun a b => a + b) (k := 1) h1 (by simpa [Int.sub_eq_add_neg] using hf)
  rw [if_pos hf, h, ansz]
  simp [Int.sub_eq_add_neg]
 ·have h := zfold_stop (op := fun a b => a + b) (k := 1) (n := 2) h1 (by simpa [Int.sub_eq_add_neg] using hf) (by omega)
  rw [if_neg hf, h, ansz, ivz_nought]
theorem sub_outs (x y : Int) (w : World) (hx : x.natAbs < T256) (hy : y.natAbs < T256) : Calls Tryz.prog 124 #[ivz x, ivz y] w fun e w' => e = .returned (outV (x - y)) ∧ Below w.heap.size w w' := by
 have h := sub_z x y w hx hy
 rw [sub_out x y hx] at h
 exact h
theorem word_row (z : Int) (hz : z.natAbs < T256) : RN (decide (z < 0)) (fun k => ((W64 z.natAbs k : Nat) : Int)) z := RN.of hz (fun i => W64_bd _ i) (fun _ _ => rfl)
theorem mul_nums (A : Option Addr) (b o n c : Nat) (zs : Nat → Int) (w : World) (hn : n ≤ 1000) (lb : b < w.heap.size)
 (hi : IntsAt w b o n (fun i => decide (zs i < 0)) (fun i k => (W64 (zs i).natAbs k : Nat))) (hz : ∀ i, i < n → (zs i).natAbs < T256) (hA : 0 < n → A = some ⟨b, o, none⟩) :
 Calls Tryz.prog 88 #[.slice A n c] w fun e w' => e = .returned (ansz (zfold (fun a b => a * b) zs 1 n)) ∧ Below w.heap.size w w' := by
 have h := mul_o A b o n c _ _ w (by omega) lb hi (fun i k => W64_bd _ k) hA
 rw [after_num (zs := zs) step_times one_num n (fun i hi => word_row _ (hz i hi))] at h
 exact h
theorem right_num (z : Int) (hz : z.natAbs < T256) : rightB (decide (z < 0)) (W64 z.natAbs 0 : Nat) (W64 z.natAbs 1 : Nat) (W64 z.natAbs 2 : Nat) (W64 z.natAbs 3 : Nat) = true := by rw [rightB, ivz_right z hz]; rfl
end Go.Proofs.YtongeeggaigepaaGreatDoor
