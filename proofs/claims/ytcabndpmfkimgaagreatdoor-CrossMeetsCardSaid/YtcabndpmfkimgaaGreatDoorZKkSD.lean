import Derived.Test.YtcabndpmfkimgaaGreatDoorZKkSC
import Derived.Test.YtcabndpmfkimgaaGreatDoorZKkEN
import Derived.Test.YtcabndpmfkimgaaGreatDoorZKkBC
import Derived.Deep.RegionHeld3
import Derived.Lib.QuietBelow
namespace Go.Proofs.YtcabndpmfkimgaaGreatDoor
open Go.RowKit

abbrev intA (z : Int) : Array Value := #[.bool (decide (z < 0)), .int .u64 (W64 z.natAbs 0 : Nat), .int .u64 (W64 z.natAbs 1 : Nat), .int .u64 (W64 z.natAbs 2 : Nat), .int .u64 (W64 z.natAbs 3 : Nat)]
theorem intA_one (z : Int) : OneC (intA z) := by simp [OneC, Value.oneCell']
def ratA (n d : Int) : Array Value := #[.bool (decide (n < 0)), .int .u64 (W64 n.natAbs 0 : Nat), .int .u64 (W64 n.natAbs 1 : Nat), .int .u64 (W64 n.natAbs 2 : Nat), .int .u64 (W64 n.natAbs 3 : Nat),
 .bool (decide (d < 0)), .int .u64 (W64 d.natAbs 0 : Nat), .int .u64 (W64 d.natAbs 1 : Nat), .int .u64 (W64 d.natAbs 2 : Nat), .int .u64 (W64 d.natAbs 3 : Nat)]
theorem ratA_size (n d : Int) : (ratA n d).size = 10 := rfl
theorem ratA_one (n d : Int) : OneC (ratA n d) := by simp [OneC, ratA, Value.oneCell']
theorem agg_int : AggTy Tryz.prog 30 5 := .of _ Tryz.underlying30 rfl (by kernel_rfl)
theorem agg_rat : AggTy Tryz.prog 32 10 := .of _ Tryz.underlying32 rfl (by kernel_rfl)
theorem of_num (n : Int) (h1 : -9223372036854775808 ≤ n) (h2 : n ≤ 9223372036854775807) (w : World) : Calls Tryz.prog 78 #[.int .i64 n] w fun e w' => e = .returned (.agg (intA n)) ∧ Below w.heap.size w w' := by
 have h := of_any n w
 rw [← ivz_small n h1 h2] at h
 exact h
theorem KT.put10 {w W : World} {L : List (Nat × Array Value)} {M : List (Nat × Nat)} {b n : Nat} (h : KT w L M W) (hm : (b, n) ∈ M) (y0 y1 y2 y3 y4 y5 y6 y7 y8 y9 : Value) :
 KT w L M ((((((((((W.setCell ⟨b, 0, none⟩ y0).setCell ⟨b, 1, none⟩ y1).setCell ⟨b, 2, none⟩ y2).setCell ⟨b, 3, none⟩ y3).setCell ⟨b, 4, none⟩ y4).setCell ⟨b, 5, none⟩ y5).setCell ⟨b, 6, none⟩ y6).setCell ⟨b, 7, none⟩ y7).setCell ⟨b, 8, none⟩ y8).setCell ⟨b, 9, none⟩ y9) :=
 h.put hm [y0, y1, y2, y3, y4, y5, y6, y7, y8, y9]
def cellAt (w : World) (b i : Nat) : Value := (w.cell? ⟨b, i, none⟩).getD undef
theorem KT.here {w W : World} {L : List (Nat × Array Value)} {M : List (Nat × Nat)} {b n : Nat} (h : KT w L M W) (hm : (b, n) ∈ M) (i : Nat) (hi : i < n) : W.cell? ⟨b, i, none⟩ = some (cellAt W b i) := by
 obtain ⟨v, hv⟩ := Option.isSome_iff_exists.1 ((h.2 _ hm).1.2 i hi).1
 rw [cellAt, hv]; rfl
theorem KT.free {w W : World} {L : List (Nat × Array Value)} {M : List (Nat × Nat)} {b n : Nat} (h : KT w L M W) (hm : (b, n) ∈ M) (i : Nat) (hi : i < n) : W.frozen? ⟨b, i, none⟩ = false := ((h.2 _ hm).1.2 i hi).2
set_option maxRecDepth 100000 in
set_option maxHeartbeats 1600000 in
theorem whole_num (n : Int) (w : World) : Calls Tryz.prog 121 #[.agg (intA n)] w fun e w' => e = .returned (.agg (ratA n 1)) ∧ Below w.heap.size w w' := by
 have H1 := Lib.hid (of_num 1 (by decide) (by decide))
 go_enter Tryz.func121, Tryz.ntmps121
 go_wp2_with fail
 generalize hW : World.alloc _ _ = W0
 have hK : KT w ([] ++ [(w.heap.size, intA n)]) ([] ++ [(w.heap.size + 1, 10)]) W0 := by rw [← hW]; exact (KT.of ((KS.nil w).boxed rfl _ _)).made (by simp) zero_rat _ rfl
 clear hW
 generalize hL : [] ++ [(w.heap.size, intA n)] = L at hK
 generalize hM : [] ++ [(w.heap.size + 1, 10)] = M at hK
 have HL := Lib.hid hL; clear hL
 have HM := Lib.hid (show (w.heap.size + 1, 10) ∈ M by rw [← hM]; simp); clear hM
 have l0 : ∀ W, KT w L M W → W.cell? ⟨w.heap.size, 0, none⟩ = some (.bool (decide (n < 0))) := fun W h => h.c 0 (by rw [← HL.out]; rfl) 0 rfl
 have l1 : ∀ W, KT w L M W → W.cell? ⟨w.heap.size, 1, none⟩ = some (.int .u64 (W64 (n).natAbs 0 : Nat)) := fun W h => h.c 0 (by rw [← HL.out]; rfl) 1 rfl
 have l2 : ∀ W, KT w L M W → W.cell? ⟨w.heap.size, 2, none⟩ = some (.int .u64 (W64 (n).natAbs 1 : Nat)) := fun W h => h.c 0 (by rw [← HL.out]; rfl) 2 rfl
 have l3 : ∀ W, KT w L M W → W.cell? ⟨w.heap.size, 3, none⟩ = some (.int .u64 (W64 (n).natAbs 2 : Nat)) := fun W h => h.c 0 (by rw [← HL.out]; rfl) 3 rfl
 have l4 : ∀ W, KT w L M W → W.cell? ⟨w.heap.size, 4, none⟩ = some (.int .u64 (W64 (n).natAbs 3 : Nat)) := fun W h => h.c 0 (by rw [← HL.out]; rfl) 4 rfl
 have qc0 : ∀ W, KT w L M W → W.cell? ⟨w.heap.size + 1, 0, none⟩ = some (cellAt W (w.heap.size + 1) 0) := fun W h => h.here HM.out 0 (by decide)
 have qf0 : ∀ W, KT w L M W → W.frozen? ⟨w.heap.size + 1, 0, none⟩ = false := fun W h => h.free HM.out 0 (by decide)
 have qc1 : ∀ W, KT w L M W → W.cell? ⟨w.heap.size + 1, 1, none⟩ = some (cellAt W (w.heap.size + 1) 1) := fun W h => h.here HM.out 1 (by decide)
 have qf1 : ∀ W, KT w L M W → W.frozen? ⟨w.heap.size + 1, 1, none⟩ = false := fun W h => h.free HM.out 1 (by decide)
 have qc2 : ∀ W, KT w L M W → W.cell? ⟨w.heap.size + 1, 2, none⟩ = some (cellAt W (w.heap.size + 1) 2) := fun W h => h.here HM.out 2 (by decide)
 have qf2 : ∀ W, KT w L M W → W.frozen? ⟨w.heap.size + 1, 2, none⟩ = false := fun W h => h.free HM.out 2 (by decide)
 have qc3 : ∀ W, KT w L M W → W.cell? ⟨w.heap.size + 1, 3, none⟩ = some (cellAt W (w.heap.size + 1) 3) := fun W h => h.here HM.out 3 (by decide)
 have qf3 : ∀ W, KT w L M W → W.frozen? ⟨w.heap.size + 1, 3, none⟩ = false := fun W h => h.free HM.out 3 (by decide)
 have qc4 : ∀ W, KT w L M W → W.cell? ⟨w.heap.size + 1, 4, none⟩ = some (cellAt W (w.heap.size + 1) 4) := fun W h => h.here HM.out 4 (by decide)
 have qf4 : ∀ W, KT w L M W → W.frozen? ⟨w.heap.size + 1, 4, none⟩ = false := fun W h => h.free HM.out 4 (by decide)
 have qc5 : ∀ W, KT w L M W → W.cell? ⟨w.heap.size + 1, 5, none⟩ = some (cellAt W (w.heap.size + 1) 5) := fun W h => h.here HM.out 5 (by decide)
 have qf5 : ∀ W, KT w L M W → W.frozen? ⟨w.heap.size + 1, 5, none⟩ = false := fun W h => h.free HM.out 5 (by decide)
 have qc6 : ∀ W, KT w L M W → W.cell? ⟨w.heap.size + 1, 6, none⟩ = some (cellAt W (w.heap.size + 1) 6) := fun W h => h.here HM.out 6 (by decide)
 have qf6 : ∀ W, KT w L M W → W.frozen? ⟨w.heap.size + 1, 6, none⟩ = false := fun W h => h.free HM.out 6 (by decide)
 have qc7 : ∀ W, KT w L M W → W.cell? ⟨w.heap.size + 1, 7, none⟩ = some (cellAt W (w.heap.size + 1) 7) := fun W h => h.here HM.out 7 (by decide)
 have qf7 : ∀ W, KT w L M W → W.frozen? ⟨w.heap.size + 1, 7, none⟩ = false := fun W h => h.free HM.out 7 (by decide)
 have qc8 : ∀ W, KT w L M W → W.cell? ⟨w.heap.size + 1, 8, none⟩ = some (cellAt W (w.heap.size + 1) 8) := fun W h => h.here HM.out 8 (by decide)
 have qf8 : ∀ W, KT w L M W → W.frozen? ⟨w.heap.size + 1, 8, none⟩ = false := fun W h => h.free HM.out 8 (by decide)
 have qc9 : ∀ W, KT w L M W → W.cell? ⟨w.heap.size + 1, 9, none⟩ = some (cellAt W (w.heap.size + 1) 9) := fun W h => h.here HM.out 9 (by decide)
 have qf9 : ∀ W, KT w L M W → W.frozen? ⟨w.heap.size + 1, 9, none⟩ = false := fun W h => h.free HM.out 9 (by decide)
 go_region_held3 (fun w' : World => KT w L M w')
  (first
    | (with_reducible refine KT.drew ?_; with_reducible assumption)
    | (with_reducible refine KT.put10 ?_ HM.out _ _ _ _ _ _ _ _ _ _; with_reducible assumption)
    | (with_reducible refine KT.alloc ?_ _; with_reducible assumption)
    | (with_reducible refine KT.after ?_ hb; with_reducible assumption))
  (first
    | (go_at_call 78; refine (H1.out _).mono ?_; rintro e w' ⟨rfl, hb⟩))
 clear l0 l1 l2 l3 l4 qc0 qc1 qc2 qc3 qc4 qc5 qc6 qc7 qc8 qc9 qf0 qf1 qf2 qf3 qf4 qf5 qf6 qf7 qf8 qf9
 have hq := ‹KT w L M _›
 have hr := hq.put_row (cs := [_, _, _, _, _, _, _, _, _, _]) HM.out rfl
 go_wp2
 exact bodyPost_ret (results_R1 (cs := ratA n 1) rfl rfl hr agg_rat) rfl ⟨rfl, hq.1.2⟩
end Go.Proofs.YtcabndpmfkimgaaGreatDoor

namespace Go.Proofs.YtcabndpmfkimgaaGreatDoor
open Go.RowKit

theorem gcd_num (x y : Int) (w : World) (hx : x.natAbs < T256) (hy : y.natAbs < T256) (ht : TabTz w) (hw0 : 0 < w.heap.size) :
 Calls Tryz.prog 127 #[.agg (intA x), .agg (intA y)] w fun e w' => e = .returned (.tuple #[.agg (intA (Int.gcd x y : Nat)), .int .i64 0]) ∧ Below w.heap.size w w' := gcd_z x y w hx hy ht hw0
theorem quo_num (x y : Int) (w : World) (hx : x.natAbs < T256) (hy : y.natAbs < T256) (hy0 : y ≠ 0) :
 Calls Tryz.prog 167 #[.agg (intA x), .agg (intA y)] w fun e w' => e = .returned (.tuple #[.agg (intA (x.tdiv y)), .agg (intA (x.tmod y)), .int .i64 0]) ∧ Below w.heap.size w w' := quo_z x y w hx hy hy0
theorem neg_num (x : Int) (w : World) (hx : x.natAbs < T256) :
 Calls Tryz.prog 122 #[.agg (intA x)] w fun e w' => e = .returned (.tuple #[.agg (intA (-x)), .int .i64 0]) ∧ Below w.heap.size w w' := neg_z x w hx
theorem sub_num (x y : Int) (w : World) (hx : x.natAbs < T256) (hy : y.natAbs < T256) (hz : (x - y).natAbs < T256) :
 Calls Tryz.prog 96 #[.agg (intA x), .agg (intA y)] w fun e w' => e = .returned (.tuple #[.agg (intA (x - y)), .int .i64 0]) ∧ Below w.heap.size w w' := by
 have h := sub_outs x y w hx hy
 rw [outV, if_pos hz] at h
 exact h
def sgnZ (z : Int) : Int := if z = 0 then 0 else if z < 0 then -1 else 1
theorem sign_num (x : Int) (w : World) (hx : x.natAbs < T256) : Calls Tryz.prog 128 #[.agg (intA x)] w fun e w' => e = .returned (.int .i64 (sgnZ x)) ∧ Below w.heap.size w w' := by
 have h := sign_any (decide (x < 0)) (W64 x.natAbs 0 : Nat) (W64 x.natAbs 1 : Nat) (W64 x.natAbs 2 : Nat) (W64 x.natAbs 3 : Nat) w
 rw [sgnB, zero_words hx] at h
 have e : (if decide (x.natAbs = 0) = true then (0 : Int) else if decide (x < 0) = true then -1 else 1) = sgnZ x := by
  unfold sgnZ
  simp [Int.natAbs_eq_zero]
 rw [e] at h
 exact h
theorem mul2_num (x y : Int) (b c : Nat) (w : World) (hx : x.natAbs < T256) (hy : y.natAbs < T256) (hz : (x * y).natAbs < T256)
 (hr : Row w b [.bool (decide (x < 0)), .int .u64 (W64 x.natAbs 0 : Nat), .int .u64 (W64 x.natAbs 1 : Nat), .int .u64 (W64 x.natAbs 2 : Nat), .int .u64 (W64 x.natAbs 3 : Nat), .bool (decide (y < 0)), .int .u64 (W64 y.natAbs 0 : Nat), .int .u64 (W64 y.natAbs 1 : Nat), .int .u64 (W64 y.natAbs 2 : Nat), .int .u64 (W64 y.natAbs 3 : Nat)]) :
 Calls Tryz.prog 77 #[.slice (some ⟨b, 0, none⟩) 2 c] w fun e w' => e = .returned (.tuple #[.agg (intA (x * y)), .int .i64 0]) ∧ Below w.heap.size w w' := by
 have h := mul_o (some ⟨b, 0, none⟩) b 0 2 c _ _ w (by decide) hr.lt (two_ints hr) (by
  intro k
  by_cases hk : k = 0
  ·simp only [hk, if_true]; exact row4_W64_bd _
  ·simp only [if_neg hk]; exact row4_W64_bd _) (fun _ => rfl)
 rw [after_num (zs := fun i => if i = 0 then x else y) step_times one_num 2 (by
  intro i hi
  match i, hi with
  | 0, _ => exact RN.of hx (row4_W64_bd _) (fun i hi => row4_W64 _ i hi)
  | 1, _ => exact RN.of hy (row4_W64_bd _) (fun i hi => row4_W64 _ i hi))] at h
 have e1 : zfold (fun a b => a * b) (fun i => if i = 0 then x else y) 1 1 = some x := by
  have := zfold_some (op := fun a b => a * b) (zs := fun i => if i = 0 then x else y) (z0 := 1) (k := 0) rfl (by simp only [if_true, Int.one_mul]; exact hx)
  simpa using this
 have e : zfold (fun a b => a * b) (fun i => if i = 0 then x else y) 1 2 = some (x * y) :=
  zfold_some (op := fun a b => a * b) (zs := fun i => if i = 0 then x else y) (k := 1) e1 hz
 rw [e] at h
 exact h
set_option maxRecDepth 100000 in
set_option maxHeartbeats 800000 in
theorem ratof_num (n : Int) (h1 : -9223372036854775808 ≤ n) (h2 : n ≤ 9223372036854775807) (w : World) : Calls Tryz.prog 119 #[.int .i64 n] w fun e w' => e = .returned (.agg (ratA n 1)) ∧ Below w.heap.size w w' := by
 have H1 := Lib.hid (of_num n h1 h2)
 clear h1 h2
 go_enter Tryz.func119, Tryz.ntmps119
 go_wp2_with fail
 have r0 := Row.at (w := w) rfl zero_rat.toList 32
 have hB := (Below.refl w.heap.size w).alloc (Nat.le_refl _) (.cells zero_rat 32)
 refine (H1.out _).mono ?_
 rintro e w1 ⟨rfl, hb⟩
 replace r0 := r0.after hb
 replace hB := hB.trans (hb.mono hB.size)
 clear hb
 go_wp2_with fail
 refine (whole_num n _).mono ?_
 rintro e w2 ⟨rfl, hb⟩
 replace r0 := r0.after hb
 replace hB := hB.trans (hb.mono hB.size)
 clear hb
 go_wp2_with (first | (refine wpList_store_R rfl _ _ _ rfl _ (ratA n 1) rfl rfl _ r0 rfl agg_rat (ratA_one n 1) ?_; intro w3 r3 o3))
 exact bodyPost_ret (results_R1 (cs := ratA n 1) rfl rfl r3 agg_rat) rfl ⟨rfl, below_on hB o3 (Nat.le_refl _)⟩
set_option maxRecDepth 100000 in
set_option maxHeartbeats 1600000 in
theorem parts_num (x y : Int) (w : World) (hx : x.natAbs < T256) (hy : y.natAbs < T256) (hy0 : y ≠ 0) :
 Calls Tryz.prog 162 #[.agg (intA x), .agg (intA y)] w fun e w' => e = .returned (.agg (intA (x.tdiv y))) ∧ Below w.heap.size w w' := by
 have H1 := Lib.hid (fun W => quo_num x y W hx hy hy0)
 have H2 := Lib.hid (fun W => must_int (intA (x.tdiv y)) rfl (intA_one _) W)
 clear hx hy hy0
 generalize x.tdiv y = q at H1 H2 ⊢
 generalize x.tmod y = r at H1
 go_enter Tryz.func162, Tryz.ntmps162
 go_wp2_with fail
 refine (H1.out _).mono ?_
 rintro e w1 ⟨rfl, hb⟩
 have rZ := ((Row.at (w := (w.alloc (.cells (intA x) 30)).alloc (.cells (intA y) 30)) (n := w.heap.size + 2) (by simp) zero_int.toList 30)).after hb
 have hB := ((((Below.refl w.heap.size w).alloc (Nat.le_refl _) (.cells (intA x) 30)).alloc (by simp) (.cells (intA y) 30)).alloc (by simp; omega) (.cells zero_int 30)).trans (hb.mono (by simp; omega))
 have hz : w.heap.size + 3 ≤ w1.heap.size := by have := hb.size; simp at this; omega
 clear hb
 go_wp2_with fail
 refine (H2.out _).mono ?_
 rintro e w2 ⟨rfl, hb⟩
 have rZ2 := ((rZ.alloc (.cells (intA q) 30)).alloc (.cells (intA r) 30)).after hb
 replace hB := ((hB.alloc (by omega) (.cells (intA q) 30)).alloc (by simp; omega) (.cells (intA r) 30)).trans (hb.mono (by simp; omega))
 clear hb rZ
 go_wp2_with (first | (refine wpList_store_R rfl _ _ _ rfl _ (intA q) rfl rfl _ rZ2 rfl agg_int (intA_one _) ?_; intro w3 r3 o3))
 exact bodyPost_ret (results_R1 (cs := intA q) rfl rfl r3 agg_int) rfl ⟨rfl, below_on hB o3 (by omega)⟩
end Go.Proofs.YtcabndpmfkimgaaGreatDoor
