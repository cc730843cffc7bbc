import Derived.Test.YteolocchmhpggaaGreatDoorZKkBase
namespace Go.Proofs.YteolocchmhpggaaGreatDoor
open Go.RowKit

def nodeV (x y : Int) : Value := .agg #[.int .i64 x, .int .i64 y]
def segV (ax ay bx bY : Int) : Value := .agg #[.int .i64 ax, .int .i64 ay, .int .i64 bx, .int .i64 bY]
def inB (x : Int) : Bool := !decide (x < -67108864) && !decide (67108864 < x)
def aheadB (ax ay bx bY : Int) : Bool := decide (ax < bx) || (decide (ax = bx) && decide (ay < bY))
theorem ahead_any (ax ay bx bY : Int) (w : World) :
 Calls Tryz.prog 90 #[nodeV ax ay, nodeV bx bY] w fun e w' => e = .returned (.bool (aheadB ax ay bx bY)) ∧ Below w.heap.size w w' := by
 unfold nodeV
 have HB := Lib.hid (fun o o2 => ((Below.refl w.heap.size w).alloc (Nat.le_refl _) o).alloc (by simp) o2)
 by_cases h1 : ax < bx
 ·have hr := Lib.hid (show aheadB ax ay bx bY = true by simp [aheadB, h1])
  go_enter Tryz.func90, Tryz.ntmps90
  go_wp2
  go_ret
  exact ⟨by rw [hr.out]; rfl, HB.out _ _⟩
 ·by_cases h2 : ax = bx
  ·subst h2
   by_cases h3 : ay < bY
   ·have hr := Lib.hid (show aheadB ax ay ax bY = true by simp [aheadB, h3])
    go_enter Tryz.func90, Tryz.ntmps90
    go_wp2
    go_ret
    exact ⟨by rw [hr.out]; rfl, HB.out _ _⟩
   ·have hr := Lib.hid (show aheadB ax ay ax bY = false by simp [aheadB, h3])
    go_enter Tryz.func90, Tryz.ntmps90
    go_wp2
    go_ret
    exact ⟨by rw [hr.out]; rfl, HB.out _ _⟩
  ·have hr := Lib.hid (show aheadB ax ay bx bY = false by simp [aheadB, h1, h2])
   go_enter Tryz.func90, Tryz.ntmps90
   go_wp2
   go_ret
   exact ⟨by rw [hr.out]; rfl, HB.out _ _⟩
theorem at_two0 (x y : Int) (W : World) : (Instr.index 183 (.agg #[.int .i64 x, .int .i64 y]) (.int .i64 0)).run Tryz.prog W = .ok (.int .i64 x) W := by kernel_rfl
theorem at_two1 (x y : Int) (W : World) : (Instr.index 183 (.agg #[.int .i64 x, .int .i64 y]) (.int .i64 1)).run Tryz.prog W = .ok (.int .i64 y) W := by kernel_rfl
set_option maxRecDepth 100000 in
set_option maxHeartbeats 800000 in
theorem nodes_any (x y : Int) (w : World) :
 Calls Tryz.prog 99 #[nodeV x y] w fun e w' => e = .returned (.int .i64 (if (inB x && inB y) = true then 0 else 2)) ∧ Below w.heap.size w w' := by
 have HB := Lib.hid (fun o => (Below.refl w.heap.size w).alloc (Nat.le_refl _) o)
 have ix0 := at_two0 x y
 have ix1 := at_two1 x y
 have HK : Hid (∃ k : Int, (if (inB x && inB y) = true then (0 : Int) else 2) = k ∧ (k = 0 ∧ ¬ x < -67108864 ∧ ¬ 67108864 < x ∧ ¬ y < -67108864 ∧ ¬ 67108864 < y ∨ k = 2 ∧ (x < -67108864 ∨ 67108864 < x ∨ y < -67108864 ∨ 67108864 < y))) := by
  refine Lib.hid ⟨_, rfl, ?_⟩
  by_cases h1 : x < -67108864 <;> by_cases h2 : 67108864 < x <;> by_cases h3 : y < -67108864 <;> by_cases h4 : 67108864 < y <;> simp [inB, h1, h2, h3, h4]
 obtain ⟨k, hk, hc⟩ := HK.out
 rw [hk]
 clear hk HK
 unfold nodeV
 have HC := Lib.hid hc
 clear hc
 go_enter Tryz.func99, Tryz.ntmps99
 go_wp2
 refine wp_loop_rounds 3 ?_
 rw [rounds_succ]
 go_wp2
 all_goals
  first
   | (go_ret; exact ⟨by have hk := HC.out; obtain rfl : k = 2 := by omega
                        rfl, HB.out _⟩)
   | (rw [rounds_succ]; go_wp2
      all_goals
       first
        | (go_ret; exact ⟨by have hk := HC.out; obtain rfl : k = 2 := by omega
                             rfl, HB.out _⟩)
        | (rw [rounds_succ]; go_wp2
           go_ret
           exact ⟨by have hk := HC.out; obtain rfl : k = 0 := by omega
                     rfl, HB.out _⟩))
def Bd (x : Int) : Prop := -67108864 ≤ x ∧ x ≤ 67108864
theorem inB_iff (x : Int) : inB x = true ↔ Bd x := by
 unfold inB Bd
 rw [Bool.and_eq_true_iff, Bool.not_eq_true', Bool.not_eq_true', decide_eq_false_iff_not, decide_eq_false_iff_not]
 omega
theorem wrap_in {z : Int} (h0 : -9223372036854775808 ≤ z) (h1 : z ≤ 9223372036854775807) : wrap64 z = z := by unfold wrap64; omega
theorem mul_bd {a b : Int} (ha : -134217728 ≤ a ∧ a ≤ 134217728) (hb : -134217728 ≤ b ∧ b ≤ 134217728) : -18014398509481984 ≤ a * b ∧ a * b ≤ 18014398509481984 := by
 have h1 : a.natAbs ≤ 134217728 := by omega
 have h2 : b.natAbs ≤ 134217728 := by omega
 have h3 : (a * b).natAbs ≤ 134217728 * 134217728 := by rw [Int.natAbs_mul]; exact Nat.mul_le_mul h1 h2
 have h4 : (134217728 * 134217728 : Nat) = 18014398509481984 := by decide
 rw [h4] at h3
 omega
def offN (ax ay bx bY nx ny : Int) : Int := (bx - ax) * (ny - ay) - (bY - ay) * (nx - ax)
theorem off_bd {ax ay bx bY nx ny : Int} (h1 : Bd ax) (h2 : Bd ay) (h3 : Bd bx) (h4 : Bd bY) (h5 : Bd nx) (h6 : Bd ny) : -36028797018963968 ≤ offN ax ay bx bY nx ny ∧ offN ax ay bx bY nx ny ≤ 36028797018963968 := by
 unfold Bd at *
 have p := mul_bd (a := bx - ax) (b := ny - ay) (by omega) (by omega)
 have q := mul_bd (a := bY - ay) (b := nx - ax) (by omega) (by omega)
 unfold offN
 generalize (bx - ax) * (ny - ay) = P at *
 generalize (bY - ay) * (nx - ax) = Q at *
 omega
set_option maxRecDepth 100000 in
set_option maxHeartbeats 800000 in
theorem off_any (ax ay bx bY nx ny : Int) (w : World) (h1 : Bd ax) (h2 : Bd ay) (h3 : Bd bx) (h4 : Bd bY) (h5 : Bd nx) (h6 : Bd ny) :
 Calls Tryz.prog 87 #[segV ax ay bx bY, nodeV nx ny] w fun e w' => e = .returned (.int .i64 (offN ax ay bx bY nx ny)) ∧ Below w.heap.size w w' := by
 have HB := Lib.hid (fun o o2 => ((Below.refl w.heap.size w).alloc (Nat.le_refl _) o).alloc (by simp) o2)
 have hb := off_bd h1 h2 h3 h4 h5 h6
 unfold Bd at *
 have p := mul_bd (a := bx - ax) (b := ny - ay) (by omega) (by omega)
 have q := mul_bd (a := bY - ay) (b := nx - ax) (by omega) (by omega)
 have w1 : wrap64 (bx - ax) = bx - ax := wrap_in (by omega) (by omega)
 have w2 : wrap64 (ny - ay) = ny - ay := wrap_in (by omega) (by omega)
 have w3 : wrap64 (bY - ay) = bY - ay := wrap_in (by omega) (by omega)
 have w4 : wrap64 (nx - ax) = nx - ax := wrap_in (by omega) (by omega)
 have w5 : wrap64 ((bx - ax) * (ny - ay)) = (bx - ax) * (ny - ay) := wrap_in (by omega) (by omega)
 have w6 : wrap64 ((bY - ay) * (nx - ax)) = (bY - ay) * (nx - ax) := wrap_in (by omega) (by omega)
 unfold offN at hb ⊢
 have hw : wrap64 ((bx - ax) * (ny - ay) - (bY - ay) * (nx - ax)) = (bx - ax) * (ny - ay) - (bY - ay) * (nx - ax) := wrap_in (by omega) (by omega)
 have HV := Lib.hid (show wrap64 (wrap64 (wrap64 (bx - ax) * wrap64 (ny - ay)) - wrap64 (wrap64 (bY - ay) * wrap64 (nx - ax))) = (bx - ax) * (ny - ay) - (bY - ay) * (nx - ax) by rw [w1, w2, w3, w4, w5, w6, hw])
 clear hb hw h1 h2 h3 h4 h5 h6 p q w1 w2 w3 w4 w5 w6
 unfold segV nodeV
 go_enter Tryz.func87, Tryz.ntmps87
 go_wp2
 go_ret
 exact ⟨by rw [← HV.out]; rfl, HB.out _ _⟩
end Go.Proofs.YteolocchmhpggaaGreatDoor
