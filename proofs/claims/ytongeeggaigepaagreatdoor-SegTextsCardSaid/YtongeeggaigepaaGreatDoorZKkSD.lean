import Derived.Test.YtongeeggaigepaaGreatDoorZKkSC
import Derived.Test.YtongeeggaigepaaGreatDoorZKkEN
import Derived.Test.YtongeeggaigepaaGreatDoorZKkBC
import Derived.Deep.RegionHeld3
import Derived.Lib.QuietBelow
namespace Go.Proofs.YtongeeggaigepaaGreatDoor
open Go.RowKit
abbrev intA (z : Int) : Array Value := #[.bool (decide (z < 0)), .int .u64 (W64 z.natAbs 0 : Nat), .int .u64 (W64 z.natAbs 1 : Nat), .int .u64 (W64 z.natAbs 2 : Nat), .int .u64 (W64 z.natAbs 3 : Nat)]
theorem intA_one (z : Int) : OneC (intA z) := by simp [OneC, Value.oneCell']
def ratA (n d : Int) : Array Value := #[.bool (decide (n < 0)), .int .u64 (W64 n.natAbs 0 : Nat), .int .u64 (W64 n.natAbs 1 : Nat), .int .u64 (W64 n.natAbs 2 : Nat), .int .u64 (W64 n.natAbs 3 : Nat),
 .bool (decide (d < 0)), .int .u64 (W64 d.natAbs 0 : Nat), .int .u64 (W64 d.natAbs 1 : Nat), .int .u64 (W64 d.natAbs 2 : Nat), .int .u64 (W64 d.natAbs 3 : Nat)]
theorem ratA_size (n d : Int) : (ratA n d).size = 10 := rfl
theorem ratA_one (n d : Int) : OneC (ratA n d) := by simp [OneC, ratA, Value.oneCell']
theorem agg_int : AggTy Tryz.prog 42 5 := .of _ Tryz.underlying42 rfl (by kernel_rfl)
theorem agg_rat : AggTy Tryz.prog 44 10 := .of _ Tryz.underlying44 rfl (by kernel_rfl)
theorem of_num (n : Int) (h1 : -9223372036854775808 ≤ n) (h2 : n ≤ 9223372036854775807) (w : World) : Calls Tryz.prog 89 #[.int .i64 n] w fun e w' => e = .returned (.agg (intA n)) ∧ Below w.heap.size w w' := by
 have h := of_any n w
 rw [← ivz_small n h1 h2] at h
 exact h
theorem KT.put10 {w W : World} {L : List (Nat × Array Value)} {M : List (Nat × Nat)} {b n : Nat} (h : KT w L M W) (hm : (b, n) ∈ M) (y0 y1 y2 y3 y4 y5 y6 y7 y8 y9 : Value) :
 KT w L M ((((((((((W.setCell ⟨b, 0, none⟩ y0).setCell ⟨b, 1, none⟩ y1).setCell ⟨b, 2, none⟩ y2).setCell ⟨b, 3, none⟩ y3).setCell ⟨b, 4, none⟩ y4).setCell ⟨b, 5, none⟩ y5).setCell ⟨b, 6, none⟩ y6).setCell ⟨b, 7, none⟩ y7).setCell ⟨b, 8, none⟩ y8).setCell ⟨b, 9, none⟩ y9) :=
 h.put hm [y0, y1, y2, y3, y4, y5, y6, y7, y8, y9]
def cellAt (w : World) (b i : Nat) : Value := (w.cell? ⟨b, i, none⟩).getD undef
theorem KT.here {w W : World} {L : List (Nat × Array Value)} {M : List (Nat × Nat)} {b n : Nat} (h : KT w L M W) (hm : (b, n) ∈ M) (i : Nat) (hi : i < n) : W.cell? ⟨b, i, none⟩ = some (cellAt W b i) := by
 obtain ⟨v, hv⟩ := Option.isSome_iff_exists.1 ((h.2 _ hm).1.2 i hi).1
 rw [cellAt, hv]; rfl
theorem KT.free {w W : World} {L : List (Nat × Array Value)} {M : List (Nat × Nat)} {b n : Nat} (h : KT w L M W) (hm : (b, n) ∈ M) (i : Nat) (hi : i < n) : W.frozen? ⟨b, i, none⟩ = false := ((h.2 _ hm).1.2 i hi).2
set_option maxRecDepth 100000 in
set_option maxHeartbeats 1600000 in
theorem whole_num (n : Int) (w : World) : Calls Tryz.prog 159 #[.agg (intA n)] w fun e w' => e = .returned (.agg (ratA n 1)) ∧ Below w.heap.size w w' := by
 have H1 := Lib.hid (of_num 1 (by decide) (by decide))
 go_enter Tryz.func159, Tryz.ntmps159
 go_wp2_with fail
 generalize hW : World.alloc _ _ = W0
 have hK : KT w ([] ++ [(w.heap.size, intA n)]) ([] ++ [(w.heap.size + 1, 10)]) W0 := by rw [← hW]; exact (KT.of ((KS.nil w).boxed rfl _ _)).made (by simp) zero_rat _ rfl
 clear hW
 generalize hL : [] ++ [(w.heap.size, intA n)] = L at hK
 generalize hM : [] ++ [(w.heap.size + 1, 10)] = M at hK
 have HL := Lib.hid hL; clear hL
 have HM := Lib.hid (show (w.heap.size + 1, 10) ∈ M by rw [← hM]; simp); clear hM
 have l0 : ∀ W, KT w L M W → W.cell? ⟨w.heap.size, 0, none⟩ = some (.bool (decide (n < 0))) := fun W h => h.c 0 (by rw [← HL.out]; rfl) 0 rfl
 have l1 : ∀ W, KT w L M W → W.cell? ⟨w.heap.size, 1, none⟩ = some (.int .u64 (W64 (n).natAbs 0 : Nat)) := fun W h => h.c 0 (by rw [← HL.out]; rfl) 1 rfl
 have l2 : ∀ W, KT w L M W → W.cell? ⟨w.heap.size, 2, none⟩ = some (.int .u64 (W64 (n).natAbs 1 : Nat)) := fun W h => h.c 0 (by rw [← HL.out]; rfl) 2 rfl
 have l3 : ∀ W, KT w L M W → W.cell? ⟨w.heap.size, 3, none⟩ = some (.int .u64 (W64 (n).natAbs 2 : Nat)) := fun W h => h.c 0 (by rw [← HL.out]; rfl) 3 rfl
 have l4 : ∀ W, KT w L M W → W.cell? ⟨w.heap.size, 4, none⟩ = some (.int .u64 (W64 (n).natAbs 3 : Nat)) := fun W h => h.c 0 (by rw [← HL.out]; rfl) 4 rfl
 have qc0 : ∀ W, KT w L M W → W.cell? ⟨w.heap.size + 1, 0, none⟩ = some (cellAt W (w.heap.size + 1) 0) := fun W h => h.here HM.out 0 (by decide)
 have qf0 : ∀ W, KT w L M W → W.frozen? ⟨w.heap.size + 1, 0, none⟩ = false := fun W h => h.free HM.out 0 (by decide)
 have qc1 : ∀ W, KT w L M W → W.cell? ⟨w.heap.size + 1, 1, none⟩ = some (cellAt W (w.heap.size + 1) 1) := fun W h => h.here HM.out 1 (by decide)
 have qf1 : ∀ W, KT w L M W → W.frozen? ⟨w.heap.size + 1, 1, none⟩ = false := fun W h => h.free HM.out 1 (by decide)
 have qc2 : ∀ W, KT w L M W → W.cell? ⟨w.heap.size + 1, 2, none⟩ = some (cellAt W (w.heap.size + 1) 2) := fun W h => h.here HM.out 2 (by decide)
 have qf2 : ∀ W, KT w L M W → W.frozen? ⟨w.heap.size + 1, 2, none⟩ = false := fun W h => h.free HM.out 2 (by decide)
 have qc3 : ∀ W, KT w L M W → W.cell? ⟨w.heap.size + 1, 3, none⟩ = some (cellAt W (w.heap.size + 1) 3) := fun W h => h.here HM.out 3 (by decide)
 have qf3 : ∀ W, KT w L M W → W.frozen? ⟨w.heap.size + 1, 3, none⟩ = false := fun W h => h.free HM.out 3 (by decide)
 have qc4 : ∀ W, KT w L M W → W.cell? ⟨w.heap.size + 1, 4, none⟩ = some (cellAt W (w.heap.size + 1) 4) := fun W h => h.here HM.out 4 (by decide)
 have qf4 : ∀ W, KT w L M W → W.frozen? ⟨w.heap.size + 1, 4, none⟩ = false := fun W h => h.free HM.out 4 (by decide)
 have qc5 : ∀ W, KT w L M W → W.cell? ⟨w.heap.size + 1, 5, none⟩ = some (cellAt W (w.heap.size + 1) 5) := fun W h => h.here HM.out 5 (by decide)
 have qf5 : ∀ W, KT w L M W → W.frozen? ⟨w.heap.size + 1, 5, none⟩ = false := fun W h => h.free HM.out 5 (by decide)
 have qc6 : ∀ W, KT w L M W → W.cell? ⟨w.heap.size + 1, 6, none⟩ = some (cellAt W (w.heap.size + 1) 6) := fun W h => h.here HM.out 6 (by decide)
 have qf6 : ∀ W, KT w L M W → W.frozen? ⟨w.heap.size + 1, 6, none⟩ = false := fun W h => h.free HM.out 6 (by decide)
 have qc7 : ∀ W, KT w L M W → W.cell? ⟨w.heap.size + 1, 7, none⟩ = some (cellAt W (w.heap.size + 1) 7) := fun W h => h.here HM.out 7 (by decide)
 have qf7 : ∀ W, KT w L M W → W.frozen? ⟨w.heap.size + 1, 7, none⟩ = false := fun W h => h.free HM.out 7 (by decide)
 have qc8 : ∀ W, KT w L M W → W.cell? ⟨w.heap.size + 1, 8, none⟩ = some (cellAt W (w.heap.size + 1) 8) := fun W h => h.here HM.out 8 (by decide)
 have qf8 : ∀ W, KT w L M W → W.frozen? ⟨w.heap.size + 1, 8, none⟩ = false := fun W h => h.free HM.out 8 (by decide)
 have qc9 : ∀ W, KT w L M W → W.cell? ⟨w.heap.size + 1, 9, none⟩ = some (cellAt W (w.heap.size + 1) 9) := fun W h => h.here HM.out 9 (by decide)
 have qf9 : ∀ W, KT w L M W → W.frozen? ⟨w.heap.size + 1, 9, none⟩ = false := fun W h => h.free HM.out 9 (by decide)
 go_region_held3 (fun w' : World => KT w L M w')
  (first
    | (with_reducible refine KT.drew ?_; with_reducible assumption)
    | (with_reducible refine KT.put10 ?_ HM.out _ _ _ _ _ _ _ _ _ _; with_reducible assumption)
    | (with_reducible refine KT.alloc ?_ _; with_reducible assumption)
    | (with_reducible refine KT.after ?_ hb; with_reducible assumption))
  (first
    | (go_at_call 89; refine (H1.out _).mono ?_; rintro e w' ⟨rfl, hb⟩))
 clear l0 l1 l2 l3 l4 qc0 qc1 qc2 qc3 qc4 qc5 qc6 qc7 qc8 qc9 qf0 qf1 qf2 qf3 qf4 qf5 qf6 qf7 qf8 qf9
 have hq := ‹KT w L M _›
 have hr := hq.put_row (cs := [_, _, _, _, _, _, _, _, _, _]) HM.out rfl
 go_wp2
 exact bodyPost_ret (results_R1 (cs := ratA n 1) rfl rfl hr agg_rat) rfl ⟨rfl, hq.1.2⟩
end Go.Proofs.YtongeeggaigepaaGreatDoor

namespace Go.Proofs.YtongeeggaigepaaGreatDoor
open Go.RowKit
theorem gcd_num (x y : Int) (w : World) (hx : x.natAbs < T256) (hy : y.natAbs < T256) (ht : TabTz w) (hw0 : 3 < w.heap.size) :
 Calls Tryz.prog 138 #[.agg (intA x), .agg (intA y)] w fun e w' => e = .returned (.tuple #[.agg (intA (Int.gcd x y : Nat)), .int .i64 0]) ∧ Below w.heap.size w w' := gcd_z x y w hx hy ht hw0
theorem sub_num (x y : Int) (w : World) (hx : x.natAbs < T256) (hy : y.natAbs < T256) (hz : (x - y).natAbs < T256) :
 Calls Tryz.prog 124 #[.agg (intA x), .agg (intA y)] w fun e w' => e = .returned (.tuple #[.agg (intA (x - y)), .int .i64 0]) ∧ Below w.heap.size w w' := by
 have h := sub_outs x y w hx hy
 rw [outV, if_pos hz] at h
 exact h
def sgnZ (z : Int) : Int := if z = 0 then 0 else if z < 0 then -1 else 1
theorem sign_num (x : Int) (w : World) (hx : x.natAbs < T256) : Calls Tryz.prog 139 #[.agg (intA x)] w fun e w' => e = .returned (.int .i64 (sgnZ x)) ∧ Below w.heap.size w w' := by
 have h := sign_any (decide (x < 0)) (W64 x.natAbs 0 : Nat) (W64 x.natAbs 1 : Nat) (W64 x.natAbs 2 : Nat) (W64 x.natAbs 3 : Nat) w
 rw [sgnB, zero_words hx] at h
 have e : (if decide (x.natAbs = 0) = true then (0 : Int) else if decide (x < 0) = true then -1 else 1) = sgnZ x := by
  unfold sgnZ
  simp [Int.natAbs_eq_zero]
 rw [e] at h
 exact h
theorem mul2_num (x y : Int) (b c : Nat) (w : World) (hx : x.natAbs < T256) (hy : y.natAbs < T256) (hz : (x * y).natAbs < T256)
 (hr : Row w b [.bool (decide (x < 0)), .int .u64 (W64 x.natAbs 0 : Nat), .int .u64 (W64 x.natAbs 1 : Nat), .int .u64 (W64 x.natAbs 2 : Nat), .int .u64 (W64 x.natAbs 3 : Nat), .bool (decide (y < 0)), .int .u64 (W64 y.natAbs 0 : Nat), .int .u64 (W64 y.natAbs 1 : Nat), .int .u64 (W64 y.natAbs 2 : Nat), .int .u64 (W64 y.natAbs 3 : Nat)]) :
 Calls Tryz.prog 88 #[.slice (some ⟨b, 0, none⟩) 2 c] w fun e w' => e = .returned (.tuple #[.agg (intA (x * y)), .int .i64 0]) ∧ Below w.heap.size w w' := by
 have h := mul_o (some ⟨b, 0, none⟩) b 0 2 c _ _ w (by decide) hr.lt (two_ints hr) (by
  intro k
  by_cases hk : k = 0
  ·simp only [hk, if_true]; exact row4_W64_bd _
  ·simp only [if_neg hk]; exact row4_W64_bd _) (fun _ => rfl)
 rw [after_num (zs := fun i => if i = 0 then x else y) step_times one_num 2 (by
  intro i hi
  match i, hi with
  | 0, _ => exact RN.of hx (row4_W64_bd _) (fun i hi => row4_W64 _ i hi)
  | 1, _ => exact RN.of hy (row4_W64_bd _) (fun i hi => row4_W64 _ i hi))] at h
 have e1 : zfold (fun a b => a * b) (fun i => if i = 0 then x else y) 1 1 = some x := by
  have := zfold_some (op := fun a b => a * b) (zs := fun i => if i = 0 then x else y) (z0 := 1) (k := 0) rfl (by simp only [if_true, Int.one_mul]; exact hx)
  simpa using this
 have e : zfold (fun a b => a * b) (fun i => if i = 0 then x else y) 1 2 = some (x * y) :=
  zfold_some (op := fun a b => a * b) (zs := fun i => if i = 0 then x else y) (k := 1) e1 hz
 rw [e] at h
 exact h
set_option maxRecDepth 100000 in
set_option maxHeartbeats 800000 in
theorem ratof_num (n : Int) (h1 : -9223372036854775808 ≤ n) (h2 : n ≤ 9223372036854775807) (w : World) : Calls Tryz.prog 137 #[.int .i64 n] w fun e w' => e = .returned (.agg (ratA n 1)) ∧ Below w.heap.size w w' := by
 have H1 := Lib.hid (of_num n h1 h2)
 clear h1 h2
 go_enter Tryz.func137, Tryz.ntmps137
 go_wp2_with fail
 have r0 := Row.at (w := w) rfl zero_rat.toList 44
 have hB := (Below.refl w.heap.size w).alloc (Nat.le_refl _) (.cells zero_rat 44)
 refine (H1.out _).mono ?_
 rintro e w1 ⟨rfl, hb⟩
 replace r0 := r0.after hb
 replace hB := hB.trans (hb.mono hB.size)
 clear hb
 go_wp2_with fail
 refine (whole_num n _).mono ?_
 rintro e w2 ⟨rfl, hb⟩
 replace r0 := r0.after hb
 replace hB := hB.trans (hb.mono hB.size)
 clear hb
 go_wp2_with (first | (refine wpList_store_R rfl _ _ _ rfl _ (ratA n 1) rfl rfl _ r0 rfl agg_rat (ratA_one n 1) ?_; intro w3 r3 o3))
 exact bodyPost_ret (results_R1 (cs := ratA n 1) rfl rfl r3 agg_rat) rfl ⟨rfl, below_on hB o3 (Nat.le_refl _)⟩
end Go.Proofs.YtongeeggaigepaaGreatDoor

namespace Go.Proofs.YtongeeggaigepaaGreatDoor
open Go.RowKit Go.Sort
theorem one_num2 (w : World) : Calls Tryz.prog 89 #[.int .i64 1] w fun e w' => e = .returned (iv false 1 0 0 0) ∧ Below w.heap.size w w' := of_any 1 w
theorem Row.fst {w : World} {b : Nat} {x y : Array Value} (h : Row w b (x ++ y).toList) : w.rangeAt b 0 x.toList := h.range 0 _ (fun j v hv => by
 rw [Nat.zero_add, Array.toList_append, List.getElem?_append_left (List.getElem?_eq_some_iff.1 hv).1]; exact hv)
theorem Row.snd {w : World} {b : Nat} {x y : Array Value} (k : Nat) (hk : x.size = k) (h : Row w b (x ++ y).toList) : w.rangeAt b k y.toList := h.range k _ (fun j v hv => by
 have hl : x.toList.length = k := by simpa using hk
 rw [Array.toList_append, List.getElem?_append_right (by omega), hl, show k + j - k = j by omega]; exact hv)
end Go.Proofs.YtongeeggaigepaaGreatDoor

namespace Go.Proofs.YtongeeggaigepaaGreatDoor
open Go.RowKit Go.Sort
def oS : Option Int → Bool
 | some z => decide (z < 0)
 | none => true
def oM : Option Int → Nat
 | some z => z.natAbs
 | none => 0
def oA (o : Option Int) : Array Value := #[.bool (oS o), .int .u64 (W64 (oM o) 0 : Nat), .int .u64 (W64 (oM o) 1 : Nat), .int .u64 (W64 (oM o) 2 : Nat), .int .u64 (W64 (oM o) 3 : Nat)]
theorem words_small {m : Nat} (hm : m < T256) : (((W64 m 1 : Nat) : Int) = 0 ∧ ((W64 m 2 : Nat) : Int) = 0 ∧ ((W64 m 3 : Nat) : Int) = 0) ↔ m < 18446744073709551616 := by
 constructor
 ·rintro ⟨h1, h2, h3⟩
  have h := valW_W64 m 4
  simp only [valW] at h
  have h0 := W64_bd m 0
  rw [Nat.mod_eq_of_lt (Nat.lt_of_lt_of_le hm (by decide))] at h
  have e1 : W64 m 1 = 0 := by omega
  have e2 : W64 m 2 = 0 := by omega
  have e3 : W64 m 3 = 0 := by omega
  rw [e1, e2, e3] at h
  omega
 ·intro h
  obtain ⟨_, h1, h2, h3⟩ := W64_small m h
  rw [h1, h2, h3]
  exact ⟨rfl, rfl, rfl⟩
def smB : Option Int → Bool
 | some z => decide (-9223372036854775808 ≤ z ∧ z < 9223372036854775808)
 | none => false
def smZ : Option Int → Int
 | some z => if -9223372036854775808 ≤ z ∧ z < 9223372036854775808 then z else 0
 | none => 0
theorem small_pure (z q0 q1 q2 q3 : Int) (hr : rightB (decide (z < 0)) q0 q1 q2 q3 = true) (hw : (q1 = 0 ∧ q2 = 0 ∧ q3 = 0) ↔ z.natAbs < 18446744073709551616) (hq : z.natAbs < 18446744073709551616 → q0 = (z.natAbs : Int))
 (hs : smallB (decide (z < 0)) q0 q1 q2 q3 = (rightB (decide (z < 0)) q0 q1 q2 q3 && (decide (q1 = 0 ∧ q2 = 0 ∧ q3 = 0) && (decide (q0 < 9223372036854775808) || (decide (z < 0) && decide (q0 = 9223372036854775808)))))) :
 smallB (decide (z < 0)) q0 q1 q2 q3 = smB (some z) ∧ (smB (some z) = true → smallN (decide (z < 0)) q0 = smZ (some z)) ∧ (smB (some z) = false → smZ (some z) = 0) := by
 have e1 : smB (some z) = decide (-9223372036854775808 ≤ z ∧ z < 9223372036854775808) := rfl
 have e2 : smZ (some z) = if -9223372036854775808 ≤ z ∧ z < 9223372036854775808 then z else 0 := rfl
 rw [e1, e2, hs, hr]
 clear e1 e2 hs hr
 by_cases hz : z.natAbs < 18446744073709551616
 ·have h0 := hq hz
  obtain ⟨h1, h2, h3⟩ := hw.2 hz
  refine ⟨?_, fun h => ?_, fun h => ?_⟩
  ·rw [Bool.eq_iff_iff]
   simp only [Bool.and_eq_true, Bool.or_eq_true, decide_eq_true_eq, true_and]
   omega
  ·have h := of_decide_eq_true h
   rw [if_pos h]
   unfold smallN
   simp only [IntKind.wrap_i64]
   by_cases hn : z < 0
   ·rw [decide_eq_true hn]
    simp only [if_true]
    omega
   ·rw [decide_eq_false hn]
    simp only [Bool.false_eq_true, if_false]
    omega
  ·rw [if_neg (of_decide_eq_false h)]
 ·have h2 : ¬ (q1 = 0 ∧ q2 = 0 ∧ q3 = 0) := fun q => hz (hw.1 q)
  have h3 : ¬ (-9223372036854775808 ≤ z ∧ z < 9223372036854775808) := by omega
  rw [if_neg h3]
  simp only [h2, h3, decide_false, Bool.false_and, Bool.and_false]
  exact ⟨trivial, fun h => (by cases h), fun _ => trivial⟩
theorem small_O (o : Option Int) (ho : oM o < T256) (w : World) : Calls Tryz.prog 118 #[.agg (oA o)] w fun e w' => e = .returned (.tuple #[.int .i64 (smZ o), .bool (smB o)]) ∧ Below w.heap.size w w' := by
 have h := small_any (oS o) (W64 (oM o) 0 : Nat) (W64 (oM o) 1 : Nat) (W64 (oM o) 2 : Nat) (W64 (oM o) 3 : Nat) w
 have hs := smallB_says (oS o) (W64 (oM o) 0 : Nat) (W64 (oM o) 1 : Nat) (W64 (oM o) 2 : Nat) (W64 (oM o) 3 : Nat) (W64_bd _ 0)
 have e : smallB (oS o) (W64 (oM o) 0 : Nat) (W64 (oM o) 1 : Nat) (W64 (oM o) 2 : Nat) (W64 (oM o) 3 : Nat) = smB o ∧ (smB o = true → smallN (oS o) (W64 (oM o) 0 : Nat) = smZ o) ∧ (smB o = false → smZ o = 0) := by
  cases o with
  | none => exact ⟨by rw [hs]; simp [oS, oM, W64, rightB, zeroB, smB], fun h => (by cases h), fun _ => rfl⟩
  | some z =>
    exact small_pure z _ _ _ _ (right_num z ho) (words_small ho) (fun hz => congrArg (fun q : Nat => (q : Int)) (W64_small z.natAbs hz).1) hs
 rw [e.1] at h
 refine h.mono ?_
 rintro e' w' ⟨rfl, hb⟩
 refine ⟨?_, hb⟩
 cases hB : smB o with
 | true => rw [if_pos rfl, e.2.1 hB]
 | false => rw [if_neg (by simp), e.2.2 hB]
def gcO : Option Int → Option Int → Int × Int
 | some x, some y => ((Int.gcd x y : Nat), 0)
 | _, _ => (0, 2)
theorem gcd_O (a b : Option Int) (ha : oM a < T256) (hb : oM b < T256) (w : World) (ht : TabTz w) (hw0 : 3 < w.heap.size) :
 Calls Tryz.prog 138 #[.agg (oA a), .agg (oA b)] w fun e w' => e = .returned (.tuple #[.agg (intA (gcO a b).1), .int .i64 (gcO a b).2]) ∧ Below w.heap.size w w' := by
 have hz : Value.agg (intA 0) = iv false 0 0 0 0 := by simp [iv, W64]
 have hbad : ∀ s t a0 a1 a2 a3 b0 b1 b2 b3, (errArg s a0 a1 a2 a3 = 2 ∨ (errArg s a0 a1 a2 a3 = 0 ∧ errArg t b0 b1 b2 b3 = 2)) → Calls Tryz.prog 138 #[iv s a0 a1 a2 a3, iv t b0 b1 b2 b3] w fun e w' => e = .returned (.tuple #[.agg (intA 0), .int .i64 2]) ∧ Below w.heap.size w w' := by
  intro s t a0 a1 a2 a3 b0 b1 b2 b3 h
  rw [hz]
  refine gcd_wrong s t a0 a1 a2 a3 b0 b1 b2 b3 w ?_
  rw [errAll_two]
  rcases h with h | ⟨h, h'⟩
  ·rw [h]; rfl
  ·rw [h, if_pos rfl, h']
 have e0 : errArg true 0 0 0 0 = 2 := rfl
 cases a with
 | none =>
   cases b with
   | none => exact hbad true true 0 0 0 0 0 0 0 0 (.inl e0)
   | some y => exact hbad true _ 0 0 0 0 _ _ _ _ (.inl e0)
 | some x =>
   cases b with
   | none => exact hbad _ true _ _ _ _ 0 0 0 0 (.inr ⟨errArg_ok (ivz_right x ha), e0⟩)
   | some y => exact gcd_num x y w ha hb ht hw0
def sgO' : Option Int → Int
 | some z => sgnZ z
 | none => 0
theorem sign_O (o : Option Int) (ho : oM o < T256) (w : World) : Calls Tryz.prog 139 #[.agg (oA o)] w fun e w' => e = .returned (.int .i64 (sgO' o)) ∧ Below w.heap.size w w' := by
 cases o with
 | none => exact sign_any true 0 0 0 0 w
 | some z => exact sign_num z w ho
theorem cmp_num (x y : Int) (w : World) (hx : x.natAbs < T256) (hy : y.natAbs < T256) : Calls Tryz.prog 92 #[.agg (intA x), .agg (intA y)] w fun e w' => e = .returned (.tuple #[.int .i64 (cmpI x y), .int .i64 0]) ∧ Below w.heap.size w w' := by
 have h := cmp_any (decide (x < 0)) (decide (y < 0)) (W64 x.natAbs 0 : Nat) (W64 x.natAbs 1 : Nat) (W64 x.natAbs 2 : Nat) (W64 x.natAbs 3 : Nat) (W64 y.natAbs 0 : Nat) (W64 y.natAbs 1 : Nat) (W64 y.natAbs 2 : Nat) (W64 y.natAbs 3 : Nat) w
 unfold cmpE at h
 rw [ivz_right x hx, ivz_right y hy] at h
 have e : cmpS (decide (x < 0)) (decide (y < 0)) (W64 x.natAbs 0 : Nat) (W64 x.natAbs 1 : Nat) (W64 x.natAbs 2 : Nat) (W64 x.natAbs 3 : Nat) (W64 y.natAbs 0 : Nat) (W64 y.natAbs 1 : Nat) (W64 y.natAbs 2 : Nat) (W64 y.natAbs 3 : Nat) = cmpI x y := by
  unfold cmpS
  rw [ordW_num hx hy, ordW_num hy hx]
  unfold cmpI
  by_cases h1 : x < 0 <;> by_cases h2 : y < 0 <;> simp only [h1, h2, decide_true, decide_false] <;> (repeat' split) <;> omega
 rw [e] at h
 exact h
end Go.Proofs.YtongeeggaigepaaGreatDoor

namespace Go.Proofs.YtongeeggaigepaaGreatDoor
open Go.RowKit Go.Sort
theorem ors_zero (a b c : Int) (ha : 0 ≤ a ∧ a < 18446744073709551616) (hb : 0 ≤ b ∧ b < 18446744073709551616) (hc : 0 ≤ c ∧ c < 18446744073709551616) :
 bits BinOp.or IntKind.u64 (bits BinOp.or IntKind.u64 a b) c = 0 ↔ (a = 0 ∧ b = 0 ∧ c = 0) := by
 obtain ⟨x, rfl⟩ := Int.eq_ofNat_of_zero_le ha.1
 obtain ⟨y, rfl⟩ := Int.eq_ofNat_of_zero_le hb.1
 obtain ⟨z, rfl⟩ := Int.eq_ofNat_of_zero_le hc.1
 have hxy : (x ||| y) < 18446744073709551616 := Nat.or_lt_two_pow (n := 64) (by omega) (by omega)
 rw [bits_or_u64_nat _ _ (by omega) (by omega), bits_or_u64_nat _ _ hxy (by omega)]
 simp only [Int.natCast_eq_zero, Nat.or_eq_zero_iff, and_assoc]
set_option maxRecDepth 100000 in
set_option maxHeartbeats 1600000 in
theorem great_any (s t : Bool) (n0 n1 n2 n3 d0 d1 d2 d3 : Int) (g : Bool) (w : World)
 (hg : (¬ bits BinOp.or IntKind.u64 (bits BinOp.or IntKind.u64 n3 n2) (n1 / 4294967296) = 0 ∧ g = true) ∨ (bits BinOp.or IntKind.u64 (bits BinOp.or IntKind.u64 n3 n2) (n1 / 4294967296) = 0 ∧ g = (bits BinOp.or IntKind.u64 (bits BinOp.or IntKind.u64 d3 d2) d1 != 0))) :
 Calls Tryz.prog 120 #[.agg #[.bool s, .int .u64 n0, .int .u64 n1, .int .u64 n2, .int .u64 n3, .bool t, .int .u64 d0, .int .u64 d1, .int .u64 d2, .int .u64 d3]] w fun e w' => e = .returned (.bool g) ∧ Below w.heap.size w w' := by
 go_enter Tryz.func120, Tryz.ntmps120
 go_upto_region 1 with fail
 generalize hW : World.alloc _ _ = W0
 have hR : Row W0 w.heap.size [.bool s, .int .u64 n0, .int .u64 n1, .int .u64 n2, .int .u64 n3, .bool t, .int .u64 d0, .int .u64 d1, .int .u64 d2, .int .u64 d3] := by rw [← hW]; exact Row.at rfl _ _
 have hB : Below w.heap.size w W0 := by rw [← hW]; exact (Below.refl _ _).alloc (Nat.le_refl _) _
 clear hW
 have hl := hR.lt
 have x0 := hR.c 1 rfl
 have x1 := hR.c 2 rfl
 have x2 := hR.c 3 rfl
 have x3 := hR.c 4 rfl
 have y0 := hR.c 6 rfl
 have y1 := hR.c 7 rfl
 have y2 := hR.c 8 rfl
 have y3 := hR.c 9 rfl
 generalize hP : bits BinOp.or IntKind.u64 (bits BinOp.or IntKind.u64 n3 n2) (n1 / 4294967296) = P at *
 generalize hQ : bits BinOp.or IntKind.u64 (bits BinOp.or IntKind.u64 d3 d2) d1 = Q at *
 have hB2 : Hid (∀ o1 o2, Below w.heap.size w ((W0.alloc o1).alloc o2).drew) := Lib.hid (fun o1 o2 => ((hB.alloc (by omega) _).alloc (by simp; omega) _).drew)
 clear hR hB
 rcases hg with ⟨h, rfl⟩ | ⟨h, rfl⟩
 ·have h1 : (P != 0) = true := by simpa using h
  clear h
  go_region
  all_goals
   go_wp2_with fail
   go_ret
   exact ⟨rfl, hB2.out _ _⟩
 ·have h1 : (P != 0) = false := by simpa using h
  clear h
  go_region
  all_goals
   go_wp2_with fail
   go_ret
   exact ⟨rfl, hB2.out _ _⟩
def rO (a b : Option Int) : Array Value := #[.bool (oS a), .int .u64 (W64 (oM a) 0 : Nat), .int .u64 (W64 (oM a) 1 : Nat), .int .u64 (W64 (oM a) 2 : Nat), .int .u64 (W64 (oM a) 3 : Nat), .bool (oS b), .int .u64 (W64 (oM b) 0 : Nat), .int .u64 (W64 (oM b) 1 : Nat), .int .u64 (W64 (oM b) 2 : Nat), .int .u64 (W64 (oM b) 3 : Nat)]
def grB (a b : Option Int) : Bool := decide (79228162514264337593543950336 ≤ oM a) || decide (18446744073709551616 ≤ oM b)
theorem words_lt (m : Nat) (hm : m < T256) : (((W64 m 3 : Nat) : Int) = 0 ∧ ((W64 m 2 : Nat) : Int) = 0 ∧ ((W64 m 1 : Nat) : Int) / 4294967296 = 0) ↔ m < 79228162514264337593543950336 := by
 have h := valW_W64 m 4
 simp only [valW] at h
 have h0 := W64_bd m 0
 have h1 := W64_bd m 1
 have h2 := W64_bd m 2
 have h3 := W64_bd m 3
 rw [Nat.mod_eq_of_lt (Nat.lt_of_lt_of_le hm (by decide))] at h
 generalize W64 m 0 = q0 at *
 generalize W64 m 1 = q1 at *
 generalize W64 m 2 = q2 at *
 generalize W64 m 3 = q3 at *
 clear hm
 omega
theorem great_O (a b : Option Int) (ha : oM a < T256) (hb : oM b < T256) (w : World) : Calls Tryz.prog 120 #[.agg (rO a b)] w fun e w' => e = .returned (.bool (grB a b)) ∧ Below w.heap.size w w' := by
 refine great_any (oS a) (oS b) _ _ _ _ _ _ _ _ (grB a b) w ?_
 have h1 := words_lt (oM a) ha
 have h2 := words_small hb
 have e1 := ors_zero (W64 (oM a) 3 : Nat) (W64 (oM a) 2 : Nat) (((W64 (oM a) 1 : Nat) : Int) / 4294967296) (W64_bd _ 3) (W64_bd _ 2) (by have := W64_bd (oM a) 1; omega)
 have e2 := ors_zero (W64 (oM b) 3 : Nat) (W64 (oM b) 2 : Nat) (W64 (oM b) 1 : Nat) (W64_bd _ 3) (W64_bd _ 2) (W64_bd _ 1)
 rw [h1] at e1
 generalize bits BinOp.or IntKind.u64 (bits BinOp.or IntKind.u64 ((W64 (oM a) 3 : Nat) : Int) ((W64 (oM a) 2 : Nat) : Int)) (((W64 (oM a) 1 : Nat) : Int) / 4294967296) = P at *
 generalize bits BinOp.or IntKind.u64 (bits BinOp.or IntKind.u64 ((W64 (oM b) 3 : Nat) : Int) ((W64 (oM b) 2 : Nat) : Int)) ((W64 (oM b) 1 : Nat) : Int) = Q at *
 have e2' : Q = 0 ↔ oM b < 18446744073709551616 := by
  rw [e2, ← h2]
  constructor
  ·rintro ⟨x, y, z⟩; exact ⟨z, y, x⟩
  ·rintro ⟨x, y, z⟩; exact ⟨z, y, x⟩
 unfold grB
 by_cases hP : P = 0
 ·right
  refine ⟨hP, ?_⟩
  rw [decide_eq_false (by have := e1.1 hP; omega), Bool.false_or]
  by_cases hQ : Q = 0
  ·rw [decide_eq_false (by have := e2'.1 hQ; omega)]; subst hQ; rfl
  ·rw [decide_eq_true (by have := fun q => hQ (e2'.2 q); omega)]; simpa using hQ
 ·left
  refine ⟨hP, ?_⟩
  rw [decide_eq_true (by have := fun q => hP (e1.2 q); omega), Bool.true_or]
end Go.Proofs.YtongeeggaigepaaGreatDoor

namespace Go.Proofs.YtongeeggaigepaaGreatDoor
open Go.RowKit Go.Sort
set_option maxRecDepth 100000 in
set_option maxHeartbeats 3200000 in
theorem check_core (s t gs : Bool) (n0 n1 n2 n3 d0 d1 d2 d3 g0 g1 g2 g3 er sg v : Int) (nb : Bool) (w : World)
 (HG : Hid (∀ W, Below w.heap.size w W → Calls Tryz.prog 138 #[iv s n0 n1 n2 n3, iv t d0 d1 d2 d3] W fun e w' => e = .returned (.tuple #[iv gs g0 g1 g2 g3, .int .i64 er]) ∧ Below W.heap.size W w'))
 (HS : Hid (∀ W, Calls Tryz.prog 139 #[iv t d0 d1 d2 d3] W fun e w' => e = .returned (.int .i64 sg) ∧ Below W.heap.size W w'))
 (e3 : ∀ w, (binOp .neq 42 (iv gs g0 g1 g2 g3) (iv false 1 0 0 0)).run Tryz.prog w = .ok (.bool nb) w)
 (hway : ((er != 0) = true ∧ v = 2) ∨ ((er != 0) = false ∧ decide (sg < 1) = true ∧ v = 2) ∨ ((er != 0) = false ∧ decide (sg < 1) = false ∧ nb = true ∧ v = 2) ∨ ((er != 0) = false ∧ decide (sg < 1) = false ∧ nb = false ∧ v = 0)) :
 Calls Tryz.prog 121 #[.agg #[.bool s, .int .u64 n0, .int .u64 n1, .int .u64 n2, .int .u64 n3, .bool t, .int .u64 d0, .int .u64 d1, .int .u64 d2, .int .u64 d3]] w fun e w' => e = .returned (.int .i64 v) ∧ Below w.heap.size w w' := by
 go_enter Tryz.func121, Tryz.ntmps121
 go_upto_region 1 with fail
 generalize hW : World.alloc _ _ = W0
 have hR : Row W0 w.heap.size [.bool s, .int .u64 n0, .int .u64 n1, .int .u64 n2, .int .u64 n3, .bool t, .int .u64 d0, .int .u64 d1, .int .u64 d2, .int .u64 d3] := by rw [← hW]; exact Row.at rfl _ _
 have hB : Below w.heap.size w W0 := by rw [← hW]; exact (Below.refl _ _).alloc (Nat.le_refl _) _
 clear hW
 have x0 := hR.c 0 rfl
 have x1 := hR.c 1 rfl
 have x2 := hR.c 2 rfl
 have x3 := hR.c 3 rfl
 have x4 := hR.c 4 rfl
 have x5 := hR.c 5 rfl
 have x6 := hR.c 6 rfl
 have x7 := hR.c 7 rfl
 have x8 := hR.c 8 rfl
 have x9 := hR.c 9 rfl
 go_wp2_with fail
 refine (HG.out _ hB).mono ?_
 rintro e w1 ⟨rfl, hb⟩
 have r1 := hR.after hb
 replace hB := hB.trans (hb.mono hB.size)
 have hlt := hR.lt
 have hlt1 := hb.size
 clear hb hR x0 x1 x2 x3 x4 x5 x6 x7 x8 x9
 go_upto_region 2 with fail
 generalize hW : World.alloc _ _ = W2
 have rS : Row W2 w1.heap.size [.bool gs, .int .u64 g0, .int .u64 g1, .int .u64 g2, .int .u64 g3] := by rw [← hW]; exact Row.at rfl _ _
 have r2 : Row W2 w.heap.size [.bool s, .int .u64 n0, .int .u64 n1, .int .u64 n2, .int .u64 n3, .bool t, .int .u64 d0, .int .u64 d1, .int .u64 d2, .int .u64 d3] := by rw [← hW]; exact r1.alloc _
 replace hB : Below w.heap.size w W2 := by rw [← hW]; exact hB.alloc (by omega) _
 clear hW r1
 have d0' := cell_regrown (r2.c 5 rfl)
 have d1' := cell_regrown (r2.c 6 rfl)
 have d2' := cell_regrown (r2.c 7 rfl)
 have d3' := cell_regrown (r2.c 8 rfl)
 have d4' := cell_regrown (r2.c 9 rfl)
 have s0 := cell_regrown (rS.c 0 rfl)
 have s1 := cell_regrown (rS.c 1 rfl)
 have s2 := cell_regrown (rS.c 2 rfl)
 have s3 := cell_regrown (rS.c 3 rfl)
 have s4 := cell_regrown (rS.c 4 rfl)
 have C1 := Lib.hid (fun d os => Calls.regrown_of (one_num2 (grow (redrawn W2 d) os)))
 have C2 := Lib.hid (fun d os => Calls.regrown_of (HS.out (grow (redrawn W2 d) os)))
 clear rS r2 HS HG
 rcases hway with ⟨q1, rfl⟩ | ⟨q1, q2, rfl⟩ | ⟨q1, q2, rfl, rfl⟩ | ⟨q1, q2, rfl, rfl⟩
 all_goals
  refine wp_region_quiet_below (by kernel_rfl) (by kernel_rfl) ?_
  repeat (first | go_big_quiet_step ((first | with_reducible exact C1.out _ _ | with_reducible exact C2.out _ _)) | quiet_step ((first | with_reducible exact C1.out _ _ | with_reducible exact C2.out _ _)))
  refine wpQuiet_nil ?_
  intro _ hw'
  obtain ⟨⟨dq, osq⟩, hw''⟩ := hw'
  subst hw''
  go_wp2
  go_ret
  exact ⟨rfl, hB.trans ((below_regrown W2 dq osq).mono hB.size)⟩
def riB : Option Int → Option Int → Bool
 | some n, some d => decide (0 < d ∧ Int.gcd n d = 1)
 | _, _ => false
theorem words_one (g : Nat) (hg : g < T256) : (!(false == false && (((W64 g 0 : Nat) : Int) == 1 && (((W64 g 1 : Nat) : Int) == 0 && (((W64 g 2 : Nat) : Int) == 0 && ((W64 g 3 : Nat) : Int) == 0))))) = decide (g ≠ 1) := by
 have h := valW_W64 g 4
 simp only [valW] at h
 rw [Nat.mod_eq_of_lt (Nat.lt_of_lt_of_le hg (by decide))] at h
 have h0 := W64_bd g 0
 generalize hq0 : W64 g 0 = q0 at *
 generalize hq1 : W64 g 1 = q1 at *
 generalize hq2 : W64 g 2 = q2 at *
 generalize hq3 : W64 g 3 = q3 at *
 have he : g = 1 ↔ (q0 = 1 ∧ q1 = 0 ∧ q2 = 0 ∧ q3 = 0) := by
  constructor
  ·intro e
   subst e
   rw [← hq0, ← hq1, ← hq2, ← hq3]
   decide
  ·rintro ⟨rfl, rfl, rfl, rfl⟩
   omega
 clear hg h hq0 hq1 hq2 hq3 h0
 rw [Bool.eq_iff_iff]
 simp only [Bool.not_eq_true', decide_eq_true_eq, Bool.and_eq_false_iff, beq_eq_false_iff_ne, ne_eq, he]
 simp
 omega
theorem check_O (a b : Option Int) (ha : oM a < T256) (hb : oM b < T256) (w : World) (ht : TabTz w) (hw0 : 3 < w.heap.size) :
 Calls Tryz.prog 121 #[.agg (rO a b)] w fun e w' => e = .returned (.int .i64 (if riB a b = true then 0 else 2)) ∧ Below w.heap.size w w' := by
 have hg1 : (gcO a b).1.natAbs < T256 := by
  cases a with
  | none => exact Nat.lt_of_lt_of_le (Nat.zero_lt_one) (by decide)
  | some x =>
    cases b with
    | none => exact Nat.lt_of_lt_of_le (Nat.zero_lt_one) (by decide)
    | some y =>
      show (((Int.gcd x y : Nat) : Int)).natAbs < T256
      rw [Int.natAbs_natCast]
      by_cases hx : x = 0
      ·subst hx; rw [Int.gcd_zero_left]; exact hb
      ·exact Nat.lt_of_le_of_lt (Nat.le_of_dvd (by omega) (Int.gcd_dvd_natAbs_left x y)) ha
 have hg0 : ¬ (gcO a b).1 < 0 := by
  cases a <;> cases b <;> simp only [gcO] <;> omega
 refine check_core _ _ (decide ((gcO a b).1 < 0)) _ _ _ _ _ _ _ _ (W64 (gcO a b).1.natAbs 0 : Nat) (W64 (gcO a b).1.natAbs 1 : Nat) (W64 (gcO a b).1.natAbs 2 : Nat) (W64 (gcO a b).1.natAbs 3 : Nat) (gcO a b).2 (sgO' b) _ (decide ((gcO a b).1.natAbs ≠ 1)) w
  (Lib.hid (fun W hW => gcd_O a b ha hb W (ht.below hw0 hW) (Nat.lt_of_lt_of_le hw0 hW.size))) (Lib.hid (fun W => sign_O b hb W)) (fun W => ?_) ?_
 ·rw [neqInt, decide_eq_false hg0, words_one _ hg1]
 ·cases a with
  | none => exact .inl ⟨rfl, rfl⟩
  | some x =>
    cases b with
    | none => exact .inl ⟨rfl, rfl⟩
    | some y =>
      right
      show (((0 : Int) != 0) = false ∧ decide (sgnZ y < 1) = true ∧ (if riB (some x) (some y) = true then (0 : Int) else 2) = 2) ∨ _ ∨ _
      have e1 : riB (some x) (some y) = decide (0 < y ∧ Int.gcd x y = 1) := rfl
      have e2 : (gcO (some x) (some y)).1.natAbs = Int.gcd x y := Int.natAbs_natCast _
      have e4 : sgO' (some y) = sgnZ y := rfl
      have e5 : ((gcO (some x) (some y)).2 != 0) = false := rfl
      rw [e2, e1, e4, e5]
      by_cases hy : 0 < y
      ·have hs : decide (sgnZ y < 1) = false := by unfold sgnZ; rw [if_neg (by omega), if_neg (by omega)]; rfl
       by_cases h1 : Int.gcd x y = 1
       ·exact .inr (.inr ⟨rfl, hs, by simp [h1], by rw [decide_eq_true ⟨hy, h1⟩]; rfl⟩)
       ·exact .inr (.inl ⟨rfl, hs, by simp [h1], by rw [decide_eq_false (fun q => h1 q.2)]; rfl⟩)
      ·have hs : decide (sgnZ y < 1) = true := by
        unfold sgnZ
        by_cases h0 : y = 0
        ·rw [if_pos h0]; rfl
        ·rw [if_neg h0, if_pos (by omega)]; rfl
       exact .inl ⟨rfl, hs, by rw [decide_eq_false (fun q => hy q.1)]; rfl⟩
end Go.Proofs.YtongeeggaigepaaGreatDoor

namespace Go.Proofs.YtongeeggaigepaaGreatDoor
open Go.RowKit Go.Sort
theorem at_rat0 (s1 t1 s2 t2 : Bool) (n10 d10 n20 d20 n11 d11 n21 d21 n12 d12 n22 d22 n13 d13 n23 d23 : Int) (W : World) : (Instr.index 172 (.agg #[.bool s1, .int .u64 n10, .int .u64 n11, .int .u64 n12, .int .u64 n13, .bool t1, .int .u64 d10, .int .u64 d11, .int .u64 d12, .int .u64 d13, .bool s2, .int .u64 n20, .int .u64 n21, .int .u64 n22, .int .u64 n23, .bool t2, .int .u64 d20, .int .u64 d21, .int .u64 d22, .int .u64 d23]) (.int .i64 0)).run Tryz.prog W = .ok (.agg #[.bool s1, .int .u64 n10, .int .u64 n11, .int .u64 n12, .int .u64 n13, .bool t1, .int .u64 d10, .int .u64 d11, .int .u64 d12, .int .u64 d13]) W := by kernel_rfl
theorem at_rat1 (s1 t1 s2 t2 : Bool) (n10 d10 n20 d20 n11 d11 n21 d21 n12 d12 n22 d22 n13 d13 n23 d23 : Int) (W : World) : (Instr.index 172 (.agg #[.bool s1, .int .u64 n10, .int .u64 n11, .int .u64 n12, .int .u64 n13, .bool t1, .int .u64 d10, .int .u64 d11, .int .u64 d12, .int .u64 d13, .bool s2, .int .u64 n20, .int .u64 n21, .int .u64 n22, .int .u64 n23, .bool t2, .int .u64 d20, .int .u64 d21, .int .u64 d22, .int .u64 d23]) (.int .i64 1)).run Tryz.prog W = .ok (.agg #[.bool s2, .int .u64 n20, .int .u64 n21, .int .u64 n22, .int .u64 n23, .bool t2, .int .u64 d20, .int .u64 d21, .int .u64 d22, .int .u64 d23]) W := by kernel_rfl
set_option maxRecDepth 100000 in
set_option maxHeartbeats 3200000 in
theorem prightO_core (s1 t1 s2 t2 : Bool) (n10 d10 n20 d20 n11 d11 n21 d21 n12 d12 n22 d22 n13 d13 n23 d23 : Int) (g1 g2 : Bool) (c1 c2 v : Int) (w : World)
 (H1 : Hid (∀ W, Calls Tryz.prog 120 #[.agg #[.bool s1, .int .u64 n10, .int .u64 n11, .int .u64 n12, .int .u64 n13, .bool t1, .int .u64 d10, .int .u64 d11, .int .u64 d12, .int .u64 d13]] W fun e w' => e = .returned (.bool g1) ∧ Below W.heap.size W w'))
 (H2 : Hid (∀ W, Calls Tryz.prog 120 #[.agg #[.bool s2, .int .u64 n20, .int .u64 n21, .int .u64 n22, .int .u64 n23, .bool t2, .int .u64 d20, .int .u64 d21, .int .u64 d22, .int .u64 d23]] W fun e w' => e = .returned (.bool g2) ∧ Below W.heap.size W w'))
 (K1 : Hid (∀ W, Below w.heap.size w W → Calls Tryz.prog 121 #[.agg #[.bool s1, .int .u64 n10, .int .u64 n11, .int .u64 n12, .int .u64 n13, .bool t1, .int .u64 d10, .int .u64 d11, .int .u64 d12, .int .u64 d13]] W fun e w' => e = .returned (.int .i64 c1) ∧ Below W.heap.size W w'))
 (K2 : Hid (∀ W, Below w.heap.size w W → Calls Tryz.prog 121 #[.agg #[.bool s2, .int .u64 n20, .int .u64 n21, .int .u64 n22, .int .u64 n23, .bool t2, .int .u64 d20, .int .u64 d21, .int .u64 d22, .int .u64 d23]] W fun e w' => e = .returned (.int .i64 c2) ∧ Below W.heap.size W w'))
 (hway : (g1 = true ∧ v = 2) ∨ (g1 = false ∧ (c1 != 0) = true ∧ v = 2) ∨ (g1 = false ∧ (c1 != 0) = false ∧ g2 = true ∧ v = 2) ∨ (g1 = false ∧ (c1 != 0) = false ∧ g2 = false ∧ (c2 != 0) = true ∧ v = 2) ∨ (g1 = false ∧ (c1 != 0) = false ∧ g2 = false ∧ (c2 != 0) = false ∧ v = 0)) :
 Calls Tryz.prog 86 #[.agg #[.bool s1, .int .u64 n10, .int .u64 n11, .int .u64 n12, .int .u64 n13, .bool t1, .int .u64 d10, .int .u64 d11, .int .u64 d12, .int .u64 d13, .bool s2, .int .u64 n20, .int .u64 n21, .int .u64 n22, .int .u64 n23, .bool t2, .int .u64 d20, .int .u64 d21, .int .u64 d22, .int .u64 d23]] w fun e w' => e = .returned (.int .i64 v) ∧ Below w.heap.size w w' := by
 have ix0 := at_rat0 s1 t1 s2 t2 n10 d10 n20 d20 n11 d11 n21 d21 n12 d12 n22 d22 n13 d13 n23 d23
 have ix1 := at_rat1 s1 t1 s2 t2 n10 d10 n20 d20 n11 d11 n21 d21 n12 d12 n22 d22 n13 d13 n23 d23
 have HW := Lib.hid hway
 clear hway
 go_enter Tryz.func86, Tryz.ntmps86
 go_wp2_with fail
 generalize hW : World.alloc _ _ = W0
 have hB : Below w.heap.size w W0 := by rw [← hW]; exact (Below.refl _ _).alloc (Nat.le_refl _) _
 clear hW
 refine wp_loop_rounds 3 ?_
 rw [rounds_succ]
 go_wp2_with fail
 generalize hW : World.alloc _ _ = W1
 have hR : Row W1 W0.heap.size [.bool s1, .int .u64 n10, .int .u64 n11, .int .u64 n12, .int .u64 n13, .bool t1, .int .u64 d10, .int .u64 d11, .int .u64 d12, .int .u64 d13] := by rw [← hW]; exact Row.at rfl _ _
 replace hB : Below w.heap.size w W1 := by rw [← hW]; exact hB.alloc hB.size _
 clear hW
 have HX := Lib.hid (And.intro hR hB)
 have x0 := HX.out.1.c 0 rfl
 have x1 := HX.out.1.c 1 rfl
 have x2 := HX.out.1.c 2 rfl
 have x3 := HX.out.1.c 3 rfl
 have x4 := HX.out.1.c 4 rfl
 have x5 := HX.out.1.c 5 rfl
 have x6 := HX.out.1.c 6 rfl
 have x7 := HX.out.1.c 7 rfl
 have x8 := HX.out.1.c 8 rfl
 have x9 := HX.out.1.c 9 rfl
 clear hR hB ix0
 generalize W0.heap.size = k0 at *
 go_wp2_with fail
 refine (H1.out _).mono ?_
 rintro e W2 ⟨rfl, hb⟩
 replace HX := Lib.hid (And.intro (HX.out.1.after hb) (HX.out.2.trans (hb.mono HX.out.2.size)))
 clear hb x0 x1 x2 x3 x4 x5 x6 x7 x8 x9
 have hway := HW.out
 by_cases hg1 : g1 = true
 ·obtain rfl : v = 2 := by
   rcases hway with ⟨_, h⟩ | ⟨q, _⟩ | ⟨q, _⟩ | ⟨q, _⟩ | ⟨q, _⟩
   ·exact h
   all_goals (rw [hg1] at q; cases q)
  subst hg1
  clear hway HW
  go_wp2_with fail
  go_ret
  exact ⟨rfl, HX.out.2⟩
 have hg1' : g1 = false := by simpa using hg1
 clear hg1
 subst hg1'
 have x0 := HX.out.1.c 0 rfl
 have x1 := HX.out.1.c 1 rfl
 have x2 := HX.out.1.c 2 rfl
 have x3 := HX.out.1.c 3 rfl
 have x4 := HX.out.1.c 4 rfl
 have x5 := HX.out.1.c 5 rfl
 have x6 := HX.out.1.c 6 rfl
 have x7 := HX.out.1.c 7 rfl
 have x8 := HX.out.1.c 8 rfl
 have x9 := HX.out.1.c 9 rfl
 go_wp2_with fail
 refine (K1.out _ HX.out.2).mono ?_
 rintro e W3 ⟨rfl, hb⟩
 replace HX := Lib.hid (And.intro (HX.out.1.after hb) (HX.out.2.trans (hb.mono HX.out.2.size)))
 clear hb x0 x1 x2 x3 x4 x5 x6 x7 x8 x9
 cases hc1 : (c1 != 0) with
 | true =>
   obtain rfl : v = 2 := by
    rcases hway with ⟨h, _⟩ | ⟨_, _, h⟩ | ⟨_, q, _⟩ | ⟨_, q, _⟩ | ⟨_, q, _⟩
    ·cases h
    ·exact h
    all_goals (rw [hc1] at q; cases q)
   clear hway HW
   go_wp2_with fail
   go_ret
   exact ⟨rfl, HX.out.2⟩
 | false =>
 go_wp2_with fail
 rw [rounds_succ]
 go_wp2_with fail
 generalize hW : World.alloc _ _ = W4
 have hR : Row W4 W3.heap.size [.bool s2, .int .u64 n20, .int .u64 n21, .int .u64 n22, .int .u64 n23, .bool t2, .int .u64 d20, .int .u64 d21, .int .u64 d22, .int .u64 d23] := by rw [← hW]; exact Row.at rfl _ _
 have hB : Below w.heap.size w W4 := by rw [← hW]; exact HX.out.2.alloc HX.out.2.size _
 clear hW HX
 have HX := Lib.hid (And.intro hR hB)
 have x0 := HX.out.1.c 0 rfl
 have x1 := HX.out.1.c 1 rfl
 have x2 := HX.out.1.c 2 rfl
 have x3 := HX.out.1.c 3 rfl
 have x4 := HX.out.1.c 4 rfl
 have x5 := HX.out.1.c 5 rfl
 have x6 := HX.out.1.c 6 rfl
 have x7 := HX.out.1.c 7 rfl
 have x8 := HX.out.1.c 8 rfl
 have x9 := HX.out.1.c 9 rfl
 clear hR hB ix1
 generalize W3.heap.size = k3 at *
 go_wp2_with fail
 refine (H2.out _).mono ?_
 rintro e W5 ⟨rfl, hb⟩
 replace HX := Lib.hid (And.intro (HX.out.1.after hb) (HX.out.2.trans (hb.mono HX.out.2.size)))
 clear hb x0 x1 x2 x3 x4 x5 x6 x7 x8 x9
 by_cases hg2 : g2 = true
 ·obtain rfl : v = 2 := by
   rcases hway with ⟨h, _⟩ | ⟨_, q, _⟩ | ⟨_, _, _, h⟩ | ⟨_, _, q, _⟩ | ⟨_, _, q, _⟩
   ·cases h
   ·rw [hc1] at q; cases q
   ·exact h
   all_goals (rw [hg2] at q; cases q)
  subst hg2
  clear hway HW
  go_wp2_with fail
  go_ret
  exact ⟨rfl, HX.out.2⟩
 have hg2' : g2 = false := by simpa using hg2
 clear hg2
 subst hg2'
 have x0 := HX.out.1.c 0 rfl
 have x1 := HX.out.1.c 1 rfl
 have x2 := HX.out.1.c 2 rfl
 have x3 := HX.out.1.c 3 rfl
 have x4 := HX.out.1.c 4 rfl
 have x5 := HX.out.1.c 5 rfl
 have x6 := HX.out.1.c 6 rfl
 have x7 := HX.out.1.c 7 rfl
 have x8 := HX.out.1.c 8 rfl
 have x9 := HX.out.1.c 9 rfl
 go_wp2_with fail
 refine (K2.out _ HX.out.2).mono ?_
 rintro e W6 ⟨rfl, hb⟩
 replace HX := Lib.hid (And.intro (HX.out.1.after hb) (HX.out.2.trans (hb.mono HX.out.2.size)))
 clear hb x0 x1 x2 x3 x4 x5 x6 x7 x8 x9
 cases hc2 : (c2 != 0) with
 | true =>
   obtain rfl : v = 2 := by
    rcases hway with ⟨h, _⟩ | ⟨_, q, _⟩ | ⟨_, _, h, _⟩ | ⟨_, _, _, _, h⟩ | ⟨_, _, _, q, _⟩
    ·cases h
    ·rw [hc1] at q; cases q
    ·cases h
    ·exact h
    ·rw [hc2] at q; cases q
   clear hway HW
   go_wp2_with fail
   go_ret
   exact ⟨rfl, HX.out.2⟩
 | false =>
   obtain rfl : v = 0 := by
    rcases hway with ⟨h, _⟩ | ⟨_, q, _⟩ | ⟨_, _, h, _⟩ | ⟨_, _, _, q, _⟩ | ⟨_, _, _, _, h⟩
    ·cases h
    ·rw [hc1] at q; cases q
    ·cases h
    ·rw [hc2] at q; cases q
    ·exact h
   clear hway HW
   go_wp2_with fail
   rw [rounds_succ]
   go_wp2_with fail
   go_ret
   exact ⟨rfl, HX.out.2⟩
def pO (a b c d : Option Int) : Array Value := #[.bool (oS a), .int .u64 (W64 (oM a) 0 : Nat), .int .u64 (W64 (oM a) 1 : Nat), .int .u64 (W64 (oM a) 2 : Nat), .int .u64 (W64 (oM a) 3 : Nat), .bool (oS b), .int .u64 (W64 (oM b) 0 : Nat), .int .u64 (W64 (oM b) 1 : Nat), .int .u64 (W64 (oM b) 2 : Nat), .int .u64 (W64 (oM b) 3 : Nat), .bool (oS c), .int .u64 (W64 (oM c) 0 : Nat), .int .u64 (W64 (oM c) 1 : Nat), .int .u64 (W64 (oM c) 2 : Nat), .int .u64 (W64 (oM c) 3 : Nat), .bool (oS d), .int .u64 (W64 (oM d) 0 : Nat), .int .u64 (W64 (oM d) 1 : Nat), .int .u64 (W64 (oM d) 2 : Nat), .int .u64 (W64 (oM d) 3 : Nat)]
theorem pO_one (a b c d : Option Int) : OneC (pO a b c d) := by simp [OneC, pO, Value.oneCell']
def okB (a b : Option Int) : Bool := !grB a b && riB a b
theorem pright_O (a b c d : Option Int) (ha : oM a < T256) (hb : oM b < T256) (hc : oM c < T256) (hd : oM d < T256) (w : World) (ht : TabTz w) (hw0 : 3 < w.heap.size) :
 Calls Tryz.prog 86 #[.agg (pO a b c d)] w fun e w' => e = .returned (.int .i64 (if (okB a b && okB c d) = true then 0 else 2)) ∧ Below w.heap.size w w' := by
 refine prightO_core _ _ _ _ _ _ _ _ _ _ _ _ _ _ _ _ _ _ _ _ (grB a b) (grB c d) (if riB a b = true then 0 else 2) (if riB c d = true then 0 else 2) _ w (Lib.hid (fun W => great_O a b ha hb W)) (Lib.hid (fun W => great_O c d hc hd W))
  (Lib.hid (fun W hW => check_O a b ha hb W (ht.below hw0 hW) (Nat.lt_of_lt_of_le hw0 hW.size))) (Lib.hid (fun W hW => check_O c d hc hd W (ht.below hw0 hW) (Nat.lt_of_lt_of_le hw0 hW.size))) ?_
 unfold okB
 cases grB a b <;> cases riB a b <;> cases grB c d <;> cases riB c d <;> decide
end Go.Proofs.YtongeeggaigepaaGreatDoor
