import Derived.Test.YtcabndpmfkimgaaGreatDoorZKkY
import Derived.Test.YtcabndpmfkimgaaGreatDoorKkBase
import Derived.Laws.StructEq
import Derived.Deep.RegionHeld3
import Derived.IntWalk
namespace Go.Proofs.YtcabndpmfkimgaaGreatDoor
open Go.RowKit
theorem ofW_abs (n : Int) (h1 : -9223372036854775808 ≤ n) (h2 : n ≤ 9223372036854775807) : ofW n = (n.natAbs : Int) := by
 unfold ofW
 simp only [IntKind.wrap_u64]
 split <;> omega
theorem W64_small (m : Nat) (h : m < 18446744073709551616) : W64 m 0 = m ∧ W64 m 1 = 0 ∧ W64 m 2 = 0 ∧ W64 m 3 = 0 := by
 refine ⟨by unfold W64; simp; omega, ?_, ?_, ?_⟩
 ·unfold W64; rw [Nat.div_eq_of_lt (by simpa using h)]
 ·unfold W64; rw [Nat.div_eq_of_lt (Nat.lt_of_lt_of_le h (by decide))]
 ·unfold W64; rw [Nat.div_eq_of_lt (Nat.lt_of_lt_of_le h (by decide))]
theorem ivz_small (n : Int) (h1 : -9223372036854775808 ≤ n) (h2 : n ≤ 9223372036854775807) : ivz n = iv (decide (n < 0)) (ofW n) 0 0 0 := by
 obtain ⟨e0, e1, e2, e3⟩ := W64_small n.natAbs (by omega)
 unfold ivz
 rw [e0, e1, e2, e3, ofW_abs n h1 h2]
 rfl
end Go.Proofs.YtcabndpmfkimgaaGreatDoor
