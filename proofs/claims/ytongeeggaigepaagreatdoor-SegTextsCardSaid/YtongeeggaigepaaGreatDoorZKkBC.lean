import Derived.Test.YtongeeggaigepaaGreatDoorZKkBase
import Derived.Deep.RegionHeld3
import Derived.IntWalk
namespace Go.Proofs.YtongeeggaigepaaGreatDoor
open Go.RowKit
theorem ofW_abs (n : Int) (h1 : -9223372036854775808 ≤ n) (h2 : n ≤ 9223372036854775807) : ofW n = (n.natAbs : Int) := by
 unfold ofW
 simp only [IntKind.wrap_u64]
 split <;> omega
theorem W64_small (m : Nat) (h : m < 18446744073709551616) : W64 m 0 = m ∧ W64 m 1 = 0 ∧ W64 m 2 = 0 ∧ W64 m 3 = 0 := by
 refine ⟨by unfold W64; simp; omega, ?_, ?_, ?_⟩
 ·unfold W64; rw [Nat.div_eq_of_lt (by simpa using h)]
 ·unfold W64; rw [Nat.div_eq_of_lt (Nat.lt_of_lt_of_le h (by decide))]
 ·unfold W64; rw [Nat.div_eq_of_lt (Nat.lt_of_lt_of_le h (by decide))]
theorem ivz_small (n : Int) (h1 : -9223372036854775808 ≤ n) (h2 : n ≤ 9223372036854775807) : ivz n = iv (decide (n < 0)) (ofW n) 0 0 0 := by
 obtain ⟨e0, e1, e2, e3⟩ := W64_small n.natAbs (by omega)
 unfold ivz
 rw [e0, e1, e2, e3, ofW_abs n h1 h2]
 rfl
def smallN (s : Bool) (a : Int) : Int := if s then IntKind.i64.wrap (-IntKind.i64.wrap a) else IntKind.i64.wrap a
def smallB (s : Bool) (a b c d : Int) : Bool := (decide (smallN s a < 0) == s) && (ofW (smallN s a) == a && ((0 : Int) == b && ((0 : Int) == c && (0 : Int) == d)))
theorem smallN_pos (a : Int) : smallN false a = wrap64 a := by simp [smallN, IntKind.wrap_i64, wrap64]
theorem smallN_neg (a : Int) : smallN true a = wrap64 (-wrap64 a) := by simp [smallN, IntKind.wrap_i64, wrap64]
theorem smallB_says (s : Bool) (a b c d : Int) (ha : 0 ≤ a ∧ a < 18446744073709551616) :
 smallB s a b c d = (rightB s a b c d && (decide (b = 0 ∧ c = 0 ∧ d = 0) && (decide (a < 9223372036854775808) || (s && decide (a = 9223372036854775808))))) := by
 unfold smallB rightB smallN ofW zeroB
 simp only [IntKind.wrap_i64, IntKind.wrap_u64]
 rw [Bool.eq_iff_iff]
 cases s <;> simp <;> omega
def RB (w : World) (vs : List Value) (W : World) : Prop := Row W w.heap.size vs ∧ Below w.heap.size w W
theorem RB.after {w W W1 : World} {vs : List Value} (h : RB w vs W) (hb : Below W.heap.size W W1) : RB w vs W1 := ⟨h.1.after hb, h.2.trans (hb.mono h.2.size)⟩
theorem RB.drew {w W : World} {vs : List Value} (h : RB w vs W) : RB w vs W.drew := ⟨h.1.drew, h.2.drew⟩
theorem RB.new (w : World) (vs : List Value) (t : TypeId) : RB w vs (w.alloc (.cells vs.toArray t)) := ⟨Row.new w vs t, (Below.refl _ _).alloc (Nat.le_refl _) _⟩
theorem RB.c {w W : World} {vs : List Value} (h : RB w vs W) (i : Nat) {v : Value} (hv : vs[i]? = some v) : W.cell? ⟨w.heap.size, i, none⟩ = some v := h.1.c i hv
set_option maxRecDepth 100000 in
set_option maxHeartbeats 800000 in
theorem small_any (s : Bool) (a b c d : Int) (w : World) :
 Calls Tryz.prog 118 #[iv s a b c d] w fun e w' => e = .returned (.tuple #[.int .i64 (if smallB s a b c d = true then smallN s a else 0), .bool (smallB s a b c d)]) ∧ Below w.heap.size w w' := by
 have i0 : ∀ W, RB w [.bool s, .int .u64 a, .int .u64 b, .int .u64 c, .int .u64 d] W → W.cell? ⟨w.heap.size, 0, none⟩ = some (.bool s) := fun W h => h.c 0 rfl
 have i1 : ∀ W, RB w [.bool s, .int .u64 a, .int .u64 b, .int .u64 c, .int .u64 d] W → W.cell? ⟨w.heap.size, 1, none⟩ = some (.int .u64 a) := fun W h => h.c 1 rfl
 have i2 : ∀ W, RB w [.bool s, .int .u64 a, .int .u64 b, .int .u64 c, .int .u64 d] W → W.cell? ⟨w.heap.size, 2, none⟩ = some (.int .u64 b) := fun W h => h.c 2 rfl
 have i3 : ∀ W, RB w [.bool s, .int .u64 a, .int .u64 b, .int .u64 c, .int .u64 d] W → W.cell? ⟨w.heap.size, 3, none⟩ = some (.int .u64 c) := fun W h => h.c 3 rfl
 have i4 : ∀ W, RB w [.bool s, .int .u64 a, .int .u64 b, .int .u64 c, .int .u64 d] W → W.cell? ⟨w.heap.size, 4, none⟩ = some (.int .u64 d) := fun W h => h.c 4 rfl
 have hP : RB w [.bool s, .int .u64 a, .int .u64 b, .int .u64 c, .int .u64 d] (w.alloc (.cells #[.bool s, .int .u64 a, .int .u64 b, .int .u64 c, .int .u64 d] 42)) := RB.new w _ _
 have HS : Hid (∀ n, n = smallN s a → ∀ w1 : World, (binOp .neq 42 (iv (decide (n < 0)) (ofW n) 0 0 0) (iv s a b c d)).run Tryz.prog w1 = .ok (.bool (!smallB s a b c d)) w1) := Lib.hid (fun n hn w1 => by rw [neqInt, hn]; rfl)
 have HW : Hid (smallN s a = smallN s a) := Lib.hid rfl
 cases s
 ·have hq := HS.out (wrap64 a) (smallN_pos a).symm
  have HN := Lib.hid (smallN_pos a)
  cases hB : smallB false a b c d
  all_goals
   rw [hB] at hq
   clear hB HS HW
   go_enter Tryz.func118, Tryz.ntmps118
   go_wp2_with fail
   go_region_held3 (fun w' : World => RB w [.bool false, .int .u64 a, .int .u64 b, .int .u64 c, .int .u64 d] w')
    (first
      | (with_reducible refine RB.drew ?_; with_reducible assumption)
      | (with_reducible refine RB.after ?_ hb; with_reducible assumption))
    ((go_at_call 89; refine (of_any _ _).mono ?_; rintro e w' ⟨rfl, hb⟩))
   have hO := ‹RB w [.bool false, .int .u64 a, .int .u64 b, .int .u64 c, .int .u64 d] _›
   go_wp2
   go_ret2
   exact ⟨by first | rfl | (rw [HN.out]; rfl), hO.2⟩
 ·have hq := HS.out (wrap64 (-wrap64 a)) (smallN_neg a).symm
  have HN := Lib.hid (smallN_neg a)
  cases hB : smallB true a b c d
  all_goals
   rw [hB] at hq
   clear hB HS HW
   go_enter Tryz.func118, Tryz.ntmps118
   go_wp2_with fail
   go_region_held3 (fun w' : World => RB w [.bool true, .int .u64 a, .int .u64 b, .int .u64 c, .int .u64 d] w')
    (first
      | (with_reducible refine RB.drew ?_; with_reducible assumption)
      | (with_reducible refine RB.after ?_ hb; with_reducible assumption))
    ((go_at_call 89; refine (of_any _ _).mono ?_; rintro e w' ⟨rfl, hb⟩))
   have hO := ‹RB w [.bool true, .int .u64 a, .int .u64 b, .int .u64 c, .int .u64 d] _›
   go_wp2
   go_ret2
   exact ⟨by first | rfl | (rw [HN.out]; rfl), hO.2⟩
end Go.Proofs.YtongeeggaigepaaGreatDoor
