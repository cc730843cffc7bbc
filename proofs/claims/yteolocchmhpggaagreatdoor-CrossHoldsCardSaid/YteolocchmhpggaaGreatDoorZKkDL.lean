import Derived.Test.YteolocchmhpggaaGreatDoorZKkBG
import Derived.Test.YteolocchmhpggaaGreatDoorZKkE
import Derived.Test.YteolocchmhpggaaGreatDoorZKkBX
import Derived.Deep.RegionHeld3
import Derived.Deep.CutBlock
namespace Go.Proofs.YteolocchmhpggaaGreatDoor
open Go.RowKit
theorem tdiv_sign (x y : Int) : x.tdiv y = (if (!(decide (x < 0) == decide (y < 0))) = true then -((x.natAbs / y.natAbs : Nat) : Int) else ((x.natAbs / y.natAbs : Nat) : Int)) := by
 rcases Int.natAbs_eq x with h | h <;> rcases Int.natAbs_eq y with k | k <;> generalize x.natAbs = m at * <;> generalize y.natAbs = n at * <;> subst h <;> subst k
 ·simp [Int.not_lt.2 (Int.natCast_nonneg _)]
 ·rcases Nat.eq_zero_or_pos n with rfl | hn
  ·simp
  ·have h1 : decide (-(n : Int) < 0) = true := decide_eq_true (by omega)
   have h2 : decide ((m : Int) < 0) = false := decide_eq_false (by omega)
   rw [h1, h2, Int.tdiv_neg]; rfl
 ·rcases Nat.eq_zero_or_pos m with rfl | hm
  ·simp
  ·have h1 : decide (-(m : Int) < 0) = true := decide_eq_true (by omega)
   have h2 : decide ((n : Int) < 0) = false := decide_eq_false (by omega)
   rw [h1, h2, Int.neg_tdiv]; rfl
 ·rcases Nat.eq_zero_or_pos m with rfl | hm
  ·simp
  ·rcases Nat.eq_zero_or_pos n with rfl | hn
   ·simp
   ·have h1 : decide (-(m : Int) < 0) = true := decide_eq_true (by omega)
    have h2 : decide (-(n : Int) < 0) = true := decide_eq_true (by omega)
    rw [h1, h2, Int.neg_tdiv, Int.tdiv_neg, Int.neg_neg]; rfl
theorem tmod_sign (x y : Int) : x.tmod y = (if decide (x < 0) = true then -((x.natAbs % y.natAbs : Nat) : Int) else ((x.natAbs % y.natAbs : Nat) : Int)) := by
 rcases Int.natAbs_eq x with h | h <;> rcases Int.natAbs_eq y with k | k <;> generalize x.natAbs = m at * <;> generalize y.natAbs = n at * <;> subst h <;> subst k
 ·rw [if_neg (by simp)]; rfl
 ·rw [if_neg (by simp), Int.tmod_neg]; rfl
 ·rcases Nat.eq_zero_or_pos m with rfl | hm
  ·simp
  ·rw [if_pos (by simp; omega), Int.neg_tmod]; rfl
 ·rcases Nat.eq_zero_or_pos m with rfl | hm
  ·simp
  ·rw [if_pos (by simp; omega), Int.neg_tmod, Int.tmod_neg]; rfl
theorem tdiv_abs (x y : Int) : (x.tdiv y).natAbs = x.natAbs / y.natAbs := by rw [tdiv_sign]; generalize x.natAbs / y.natAbs = q; split <;> omega
theorem tmod_abs (x y : Int) : (x.tmod y).natAbs = x.natAbs % y.natAbs := by rw [tmod_sign]; generalize x.natAbs % y.natAbs = q; split <;> omega
section
variable {w W W1 : World} {xs ys us vs : List Value}
end
section
variable {w W W1 : World} {xs ys us vs : List Value}
end
end Go.Proofs.YteolocchmhpggaaGreatDoor

namespace Go.Proofs.YteolocchmhpggaaGreatDoor
open Go.RowKit
section
variable {w W W1 : World} {xs ys us vs : List Value}
end
section
variable {w W W1 : World} {xs ys us vs : List Value}
end
end Go.Proofs.YteolocchmhpggaaGreatDoor
