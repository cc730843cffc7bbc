/- Contracts of package ratio's Of, Check, checkAll and parts by numbers; the numbers are Ints. -/
import Derived.Test.YthmobcpdbgmbeaaGreatDoorSD
namespace Go.Proofs.YthmobcpdbgmbeaaGreatDoor
open Go.RowKit

theorem gcd_num (x y : Int) (w : World) (hx : x.natAbs < T256) (hy : y.natAbs < T256) (ht : TabTz w) (hw0 : 0 < w.heap.size) :
    Calls Tryz.prog 127 #[.agg (intA x), .agg (intA y)] w fun e w' => e = .returned (.tuple #[.agg (intA (Int.gcd x y : Nat)), .int .i64 0]) ∧ Below w.heap.size w w' := gcd_z x y w hx hy ht hw0
theorem quo_num (x y : Int) (w : World) (hx : x.natAbs < T256) (hy : y.natAbs < T256) (hy0 : y ≠ 0) :
    Calls Tryz.prog 167 #[.agg (intA x), .agg (intA y)] w fun e w' => e = .returned (.tuple #[.agg (intA (x.tdiv y)), .agg (intA (x.tmod y)), .int .i64 0]) ∧ Below w.heap.size w w' := quo_z x y w hx hy hy0
theorem neg_num (x : Int) (w : World) (hx : x.natAbs < T256) :
    Calls Tryz.prog 122 #[.agg (intA x)] w fun e w' => e = .returned (.tuple #[.agg (intA (-x)), .int .i64 0]) ∧ Below w.heap.size w w' := neg_z x w hx
theorem sub_num (x y : Int) (w : World) (hx : x.natAbs < T256) (hy : y.natAbs < T256) (hz : (x - y).natAbs < T256) :
    Calls Tryz.prog 96 #[.agg (intA x), .agg (intA y)] w fun e w' => e = .returned (.tuple #[.agg (intA (x - y)), .int .i64 0]) ∧ Below w.heap.size w w' := by
  have h := sub_outs x y w hx hy
  rw [outV, if_pos hz] at h
  exact h
def sgnZ (z : Int) : Int := if z = 0 then 0 else if z < 0 then -1 else 1
theorem sign_num (x : Int) (w : World) (hx : x.natAbs < T256) : Calls Tryz.prog 128 #[.agg (intA x)] w fun e w' => e = .returned (.int .i64 (sgnZ x)) ∧ Below w.heap.size w w' := by
  have h := sign_any (decide (x < 0)) (W64 x.natAbs 0 : Nat) (W64 x.natAbs 1 : Nat) (W64 x.natAbs 2 : Nat) (W64 x.natAbs 3 : Nat) w
  rw [sgnB, zero_words hx] at h
  have e : (if decide (x.natAbs = 0) = true then (0 : Int) else if decide (x < 0) = true then -1 else 1) = sgnZ x := by
    unfold sgnZ
    simp [Int.natAbs_eq_zero]
  rw [e] at h
  exact h
theorem mul2_num (x y : Int) (b c : Nat) (w : World) (hx : x.natAbs < T256) (hy : y.natAbs < T256) (hz : (x * y).natAbs < T256)
    (hr : Row w b [.bool (decide (x < 0)), .int .u64 (W64 x.natAbs 0 : Nat), .int .u64 (W64 x.natAbs 1 : Nat), .int .u64 (W64 x.natAbs 2 : Nat), .int .u64 (W64 x.natAbs 3 : Nat), .bool (decide (y < 0)), .int .u64 (W64 y.natAbs 0 : Nat), .int .u64 (W64 y.natAbs 1 : Nat), .int .u64 (W64 y.natAbs 2 : Nat), .int .u64 (W64 y.natAbs 3 : Nat)]) :
    Calls Tryz.prog 77 #[.slice (some ⟨b, 0, none⟩) 2 c] w fun e w' => e = .returned (.tuple #[.agg (intA (x * y)), .int .i64 0]) ∧ Below w.heap.size w w' := by
  have h := mul_o (some ⟨b, 0, none⟩) b 0 2 c _ _ w (by decide) hr.lt (two_ints hr) (by
    intro k
    by_cases hk : k = 0
    · simp only [hk, if_true]; exact row4_W64_bd _
    · simp only [if_neg hk]; exact row4_W64_bd _) (fun _ => rfl)
  rw [after_num (zs := fun i => if i = 0 then x else y) step_times one_num 2 (by
    intro i hi
    match i, hi with
    | 0, _ => exact RN.of hx (row4_W64_bd _) (fun i hi => row4_W64 _ i hi)
    | 1, _ => exact RN.of hy (row4_W64_bd _) (fun i hi => row4_W64 _ i hi))] at h
  have e1 : zfold (fun a b => a * b) (fun i => if i = 0 then x else y) 1 1 = some x := by
    have := zfold_some (op := fun a b => a * b) (zs := fun i => if i = 0 then x else y) (z0 := 1) (k := 0) rfl (by simp only [if_true, Int.one_mul]; exact hx)
    simpa using this
  have e : zfold (fun a b => a * b) (fun i => if i = 0 then x else y) 1 2 = some (x * y) :=
    zfold_some (op := fun a b => a * b) (zs := fun i => if i = 0 then x else y) (k := 1) e1 hz
  rw [e] at h
  exact h
set_option maxRecDepth 100000 in
set_option maxHeartbeats 800000 in
theorem ratof_num (n : Int) (h1 : -9223372036854775808 ≤ n) (h2 : n ≤ 9223372036854775807) (w : World) : Calls Tryz.prog 119 #[.int .i64 n] w fun e w' => e = .returned (.agg (ratA n 1)) ∧ Below w.heap.size w w' := by
  have H1 := Lib.hid (of_num n h1 h2)
  clear h1 h2
  go_enter Tryz.func119, Tryz.ntmps119
  go_wp2_with fail
  have r0 := Row.at (w := w) rfl zero_rat.toList 32
  have hB := (Below.refl w.heap.size w).alloc (Nat.le_refl _) (.cells zero_rat 32)
  refine (H1.out _).mono ?_
  rintro e w1 ⟨rfl, hb⟩
  replace r0 := r0.after hb
  replace hB := hB.trans (hb.mono hB.size)
  clear hb
  go_wp2_with fail
  refine (whole_num n _).mono ?_
  rintro e w2 ⟨rfl, hb⟩
  replace r0 := r0.after hb
  replace hB := hB.trans (hb.mono hB.size)
  clear hb
  go_wp2_with (first | (refine wpList_store_R rfl _ _ _ rfl _ (ratA n 1) rfl rfl _ r0 rfl agg_rat (ratA_one n 1) ?_; intro w3 r3 o3))
  exact bodyPost_ret (results_R1 (cs := ratA n 1) rfl rfl r3 agg_rat) rfl ⟨rfl, below_on hB o3 (Nat.le_refl _)⟩
set_option maxRecDepth 100000 in
set_option maxHeartbeats 1600000 in
theorem parts_num (x y : Int) (w : World) (hx : x.natAbs < T256) (hy : y.natAbs < T256) (hy0 : y ≠ 0) :
    Calls Tryz.prog 162 #[.agg (intA x), .agg (intA y)] w fun e w' => e = .returned (.agg (intA (x.tdiv y))) ∧ Below w.heap.size w w' := by
  have H1 := Lib.hid (fun W => quo_num x y W hx hy hy0)
  have H2 := Lib.hid (fun W => must_int (intA (x.tdiv y)) rfl (intA_one _) W)
  clear hx hy hy0
  generalize x.tdiv y = q at H1 H2 ⊢
  generalize x.tmod y = r at H1
  go_enter Tryz.func162, Tryz.ntmps162
  go_wp2_with fail
  refine (H1.out _).mono ?_
  rintro e w1 ⟨rfl, hb⟩
  have rZ := ((Row.at (w := (w.alloc (.cells (intA x) 30)).alloc (.cells (intA y) 30)) (n := w.heap.size + 2) (by simp) zero_int.toList 30)).after hb
  have hB := ((((Below.refl w.heap.size w).alloc (Nat.le_refl _) (.cells (intA x) 30)).alloc (by simp) (.cells (intA y) 30)).alloc (by simp; omega) (.cells zero_int 30)).trans (hb.mono (by simp; omega))
  have hz : w.heap.size + 3 ≤ w1.heap.size := by have := hb.size; simp at this; omega
  clear hb
  go_wp2_with fail
  refine (H2.out _).mono ?_
  rintro e w2 ⟨rfl, hb⟩
  have rZ2 := ((rZ.alloc (.cells (intA q) 30)).alloc (.cells (intA r) 30)).after hb
  replace hB := ((hB.alloc (by omega) (.cells (intA q) 30)).alloc (by simp; omega) (.cells (intA r) 30)).trans (hb.mono (by simp; omega))
  clear hb rZ
  go_wp2_with (first | (refine wpList_store_R rfl _ _ _ rfl _ (intA q) rfl rfl _ rZ2 rfl agg_int (intA_one _) ?_; intro w3 r3 o3))
  exact bodyPost_ret (results_R1 (cs := intA q) rfl rfl r3 agg_int) rfl ⟨rfl, below_on hB o3 (by omega)⟩
end Go.Proofs.YthmobcpdbgmbeaaGreatDoor
