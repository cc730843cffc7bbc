/- Package tags' small functions: may, order, often, the sum of two counts, is one too many; no condition. -/
import Derived.Test.YtjhcddlhhfjnaaaGreatDoorTA
import Derived.IntWalk
import Derived.Deep.MidRow
import Derived.Deep.RegionHeld3
import Derived.Lib.QuietBelow
namespace Go.Proofs.YtjhcddlhhfjnaaaGreatDoor
open Go.RowKit

/-- A count's value. -/
abbrev cntV (n t : Int) : Value := .agg #[.int .i64 n, .int .i64 t]
/-- -1, 0 or 1. -/
def cmpI (a b : Int) : Int := if a < b then -1 else if b < a then 1 else 0
/-- May the number be? -/
def mayN (n : Int) : Bool := decide (1 ≤ n) && decide (n ≤ 2147483647)

set_option maxHeartbeats 400000 in
theorem compare_int64 (a b : Int) (w : World) :
    Calls Tryz.prog 64 #[.int .i64 a, .int .i64 b] w fun e w' => e = .returned (.int .i64 (cmpI a b)) ∧ w = w' := by
  by_cases h : a < b
  · have H := Lib.hid (show cmpI a b = -1 by simp [cmpI, h])
    go_enter Tryz.func64, Tryz.ntmps64
    go_wp2
    go_ret
    exact ⟨by rw [H.out]; rfl, rfl⟩
  · by_cases h' : b < a
    · have H := Lib.hid (show cmpI a b = 1 by simp [cmpI, h, h'])
      go_enter Tryz.func64, Tryz.ntmps64
      go_wp2
      go_ret
      exact ⟨by rw [H.out]; rfl, rfl⟩
    · have H := Lib.hid (show cmpI a b = 0 by simp [cmpI, h, h'])
      go_enter Tryz.func64, Tryz.ntmps64
      go_wp2
      go_ret
      exact ⟨by rw [H.out]; rfl, rfl⟩
theorem may_any (n : Int) (w : World) :
    Calls Tryz.prog 35 #[.int .i64 n] w fun e w' => e = .returned (.bool (mayN n)) ∧ w = w' := by
  by_cases h1 : 1 ≤ n
  · by_cases h2 : n ≤ 2147483647
    · have H := Lib.hid (show mayN n = true by simp [mayN, h1, h2])
      go_enter Tryz.func35, Tryz.ntmps35
      go_wp2
      all_goals
        go_ret
        exact ⟨by rw [H.out]; rfl, rfl⟩
    · have H := Lib.hid (show mayN n = false by simp [mayN, h2])
      have h3 : decide (n ≤ 2147483647) = false := decide_eq_false h2
      go_enter Tryz.func35, Tryz.ntmps35
      go_wp2
      all_goals
        go_ret
        exact ⟨by rw [H.out]; rfl, rfl⟩
  · have H := Lib.hid (show mayN n = false by simp [mayN, h1])
    have h3 : decide (1 ≤ n) = false := decide_eq_false h1
    go_enter Tryz.func35, Tryz.ntmps35
    go_wp2
    all_goals
      go_ret
      exact ⟨by rw [H.out]; rfl, rfl⟩
theorem order_any (n s m t : Int) (w : World) :
    Calls Tryz.prog 53 #[cntV n s, cntV m t] w fun e w' => e = .returned (.int .i64 (cmpI n m)) ∧ Below w.heap.size w w' := by
  have HB := Lib.hid (fun o o2 => ((Below.refl w.heap.size w).alloc (Nat.le_refl _) o).alloc (by simp) o2)
  go_enter Tryz.func53, Tryz.ntmps53
  go_wp2_with fail
  refine (compare_int64 _ _ _).mono ?_
  rintro e w1 ⟨rfl, rfl⟩
  go_wp2
  go_ret
  exact ⟨rfl, HB.out _ _⟩
theorem long_one (n t : Int) (w : World) :
    Calls Tryz.prog 51 #[cntV n t] w fun e w' => e = .returned (.bool (decide (255 < t))) ∧ Below w.heap.size w w' := by
  have HB := Lib.hid (fun o => (Below.refl w.heap.size w).alloc (Nat.le_refl _) o)
  go_enter Tryz.func51, Tryz.ntmps51
  go_wp2
  all_goals
    go_ret
    exact ⟨rfl, HB.out _⟩
def OftenPost (w : World) (n t : Int) (e : Ending) (w' : World) : Prop :=
  ∃ b, e = .returned (.slice (some ⟨b, 0, none⟩) 1 1) ∧ w.heap.size ≤ b ∧ Row w' b [.int .i64 n, .int .i64 t] ∧ Below w.heap.size w w'
theorem often_any (n t : Int) (w : World) :
    Calls Tryz.prog 38 #[.int .i64 n, .int .i64 t] w (OftenPost w n t) := by
  go_enter Tryz.func38, Tryz.ntmps38
  go_wp2
  go_ret
  exact ⟨_, rfl, Nat.le_refl _, Row.at rfl [_, _] _, (Below.refl _ _).alloc (Nat.le_refl _) _⟩
/-- Is it above nought? -/
def posB (x : Int) : Bool := decide (0 < x)
theorem wr_small {x : Int} (h1 : -9223372036854775808 ≤ x) (h2 : x ≤ 9223372036854775807) : wrap64 x = x := by unfold wrap64; omega
set_option maxHeartbeats 1600000 in
set_option maxRecDepth 100000 in
theorem both_any (n s m t : Int) (w : World) (h1 : -1000 ≤ s) (h2 : s ≤ 1000) (h3 : -1000 ≤ t) (h4 : t ≤ 1000) :
    Calls Tryz.prog 54 #[cntV n s, cntV m t] w fun e w' => e = .returned (.tuple #[cntV n (s + t), .bool (posB (s + t))]) ∧ Below w.heap.size w w' := by
  go_enter Tryz.func54, Tryz.ntmps54
  go_wp2
  go_region
  all_goals
    go_wp2_with fail
    refine bodyPost_ret (v := .tuple #[cntV n (s + t), .bool (decide (0 < s + t))]) (by simp [results, Tryz.results54, go_sem]) rfl ⟨rfl, ?_⟩
    exact ((((Below.refl _ _).alloc (Nat.le_refl _) _).alloc (by simp) _).alloc (by simp; omega) _).drew
end Go.Proofs.YtjhcddlhhfjnaaaGreatDoor
