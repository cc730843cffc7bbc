import Derived.Test.YtdfmmkidknginaaGreatDoorZKkSC
import Derived.Test.YtdfmmkidknginaaGreatDoorZKkEN
import Derived.Test.YtdfmmkidknginaaGreatDoorZKkBC
import Derived.Deep.RegionHeld3
import Derived.Lib.QuietBelow
namespace Go.Proofs.YtdfmmkidknginaaGreatDoor
open Go.RowKit
abbrev intA (z : Int) : Array Value := #[.bool (decide (z < 0)), .int .u64 (W64 z.natAbs 0 : Nat), .int .u64 (W64 z.natAbs 1 : Nat), .int .u64 (W64 z.natAbs 2 : Nat), .int .u64 (W64 z.natAbs 3 : Nat)]
theorem intA_one (z : Int) : OneC (intA z) := by simp [OneC, Value.oneCell']
def ratA (n d : Int) : Array Value := #[.bool (decide (n < 0)), .int .u64 (W64 n.natAbs 0 : Nat), .int .u64 (W64 n.natAbs 1 : Nat), .int .u64 (W64 n.natAbs 2 : Nat), .int .u64 (W64 n.natAbs 3 : Nat),
 .bool (decide (d < 0)), .int .u64 (W64 d.natAbs 0 : Nat), .int .u64 (W64 d.natAbs 1 : Nat), .int .u64 (W64 d.natAbs 2 : Nat), .int .u64 (W64 d.natAbs 3 : Nat)]
theorem ratA_size (n d : Int) : (ratA n d).size = 10 := rfl
theorem ratA_one (n d : Int) : OneC (ratA n d) := by simp [OneC, ratA, Value.oneCell']
theorem agg_int : AggTy Tryz.prog 42 5 := .of _ Tryz.underlying42 rfl (by kernel_rfl)
theorem agg_rat : AggTy Tryz.prog 44 10 := .of _ Tryz.underlying44 rfl (by kernel_rfl)
theorem of_num (n : Int) (h1 : -9223372036854775808 ≤ n) (h2 : n ≤ 9223372036854775807) (w : World) : Calls Tryz.prog 89 #[.int .i64 n] w fun e w' => e = .returned (.agg (intA n)) ∧ Below w.heap.size w w' := by
 have h := of_any n w
 rw [← ivz_small n h1 h2] at h
 exact h
theorem KT.put10 {w W : World} {L : List (Nat × Array Value)} {M : List (Nat × Nat)} {b n : Nat} (h : KT w L M W) (hm : (b, n) ∈ M) (y0 y1 y2 y3 y4 y5 y6 y7 y8 y9 : Value) :
 KT w L M ((((((((((W.setCell ⟨b, 0, none⟩ y0).setCell ⟨b, 1, none⟩ y1).setCell ⟨b, 2, none⟩ y2).setCell ⟨b, 3, none⟩ y3).setCell ⟨b, 4, none⟩ y4).setCell ⟨b, 5, none⟩ y5).setCell ⟨b, 6, none⟩ y6).setCell ⟨b, 7, none⟩ y7).setCell ⟨b, 8, none⟩ y8).setCell ⟨b, 9, none⟩ y9) :=
 h.put hm [y0, y1, y2, y3, y4, y5, y6, y7, y8, y9]
def cellAt (w : World) (b i : Nat) : Value := (w.cell? ⟨b, i, none⟩).getD undef
theorem KT.here {w W : World} {L : List (Nat × Array Value)} {M : List (Nat × Nat)} {b n : Nat} (h : KT w L M W) (hm : (b, n) ∈ M) (i : Nat) (hi : i < n) : W.cell? ⟨b, i, none⟩ = some (cellAt W b i) := by
 obtain ⟨v, hv⟩ := Option.isSome_iff_exists.1 ((h.2 _ hm).1.2 i hi).1
 rw [cellAt, hv]; rfl
theorem KT.free {w W : World} {L : List (Nat × Array Value)} {M : List (Nat × Nat)} {b n : Nat} (h : KT w L M W) (hm : (b, n) ∈ M) (i : Nat) (hi : i < n) : W.frozen? ⟨b, i, none⟩ = false := ((h.2 _ hm).1.2 i hi).2
set_option maxRecDepth 100000 in
set_option maxHeartbeats 1600000 in
theorem whole_num (n : Int) (w : World) : Calls Tryz.prog 159 #[.agg (intA n)] w fun e w' => e = .returned (.agg (ratA n 1)) ∧ Below w.heap.size w w' := by
 have H1 := Lib.hid (of_num 1 (by decide) (by decide))
 go_enter Tryz.func159, Tryz.ntmps159
 go_wp2_with fail
 generalize hW : World.alloc _ _ = W0
 have hK : KT w ([] ++ [(w.heap.size, intA n)]) ([] ++ [(w.heap.size + 1, 10)]) W0 := by rw [← hW]; exact (KT.of ((KS.nil w).boxed rfl _ _)).made (by simp) zero_rat _ rfl
 clear hW
 generalize hL : [] ++ [(w.heap.size, intA n)] = L at hK
 generalize hM : [] ++ [(w.heap.size + 1, 10)] = M at hK
 have HL := Lib.hid hL; clear hL
 have HM := Lib.hid (show (w.heap.size + 1, 10) ∈ M by rw [← hM]; simp); clear hM
 have l0 : ∀ W, KT w L M W → W.cell? ⟨w.heap.size, 0, none⟩ = some (.bool (decide (n < 0))) := fun W h => h.c 0 (by rw [← HL.out]; rfl) 0 rfl
 have l1 : ∀ W, KT w L M W → W.cell? ⟨w.heap.size, 1, none⟩ = some (.int .u64 (W64 (n).natAbs 0 : Nat)) := fun W h => h.c 0 (by rw [← HL.out]; rfl) 1 rfl
 have l2 : ∀ W, KT w L M W → W.cell? ⟨w.heap.size, 2, none⟩ = some (.int .u64 (W64 (n).natAbs 1 : Nat)) := fun W h => h.c 0 (by rw [← HL.out]; rfl) 2 rfl
 have l3 : ∀ W, KT w L M W → W.cell? ⟨w.heap.size, 3, none⟩ = some (.int .u64 (W64 (n).natAbs 2 : Nat)) := fun W h => h.c 0 (by rw [← HL.out]; rfl) 3 rfl
 have l4 : ∀ W, KT w L M W → W.cell? ⟨w.heap.size, 4, none⟩ = some (.int .u64 (W64 (n).natAbs 3 : Nat)) := fun W h => h.c 0 (by rw [← HL.out]; rfl) 4 rfl
 have qc0 : ∀ W, KT w L M W → W.cell? ⟨w.heap.size + 1, 0, none⟩ = some (cellAt W (w.heap.size + 1) 0) := fun W h => h.here HM.out 0 (by decide)
 have qf0 : ∀ W, KT w L M W → W.frozen? ⟨w.heap.size + 1, 0, none⟩ = false := fun W h => h.free HM.out 0 (by decide)
 have qc1 : ∀ W, KT w L M W → W.cell? ⟨w.heap.size + 1, 1, none⟩ = some (cellAt W (w.heap.size + 1) 1) := fun W h => h.here HM.out 1 (by decide)
 have qf1 : ∀ W, KT w L M W → W.frozen? ⟨w.heap.size + 1, 1, none⟩ = false := fun W h => h.free HM.out 1 (by decide)
 have qc2 : ∀ W, KT w L M W → W.cell? ⟨w.heap.size + 1, 2, none⟩ = some (cellAt W (w.heap.size + 1) 2) := fun W h => h.here HM.out 2 (by decide)
 have qf2 : ∀ W, KT w L M W → W.frozen? ⟨w.heap.size + 1, 2, none⟩ = false := fun W h => h.free HM.out 2 (by decide)
 have qc3 : ∀ W, KT w L M W → W.cell? ⟨w.heap.size + 1, 3, none⟩ = some (cellAt W (w.heap.size + 1) 3) := fun W h => h.here HM.out 3 (by decide)
 have qf3 : ∀ W, KT w L M W → W.frozen? ⟨w.heap.size + 1, 3, none⟩ = false := fun W h => h.free HM.out 3 (by decide)
 have qc4 : ∀ W, KT w L M W → W.cell? ⟨w.heap.size + 1, 4, none⟩ = some (cellAt W (w.heap.size + 1) 4) := fun W h => h.here HM.out 4 (by decide)
 have qf4 : ∀ W, KT w L M W → W.frozen? ⟨w.heap.size + 1, 4, none⟩ = false := fun W h => h.free HM.out 4 (by decide)
 have qc5 : ∀ W, KT w L M W → W.cell? ⟨w.heap.size + 1, 5, none⟩ = some (cellAt W (w.heap.size + 1) 5) := fun W h => h.here HM.out 5 (by decide)
 have qf5 : ∀ W, KT w L M W → W.frozen? ⟨w.heap.size + 1, 5, none⟩ = false := fun W h => h.free HM.out 5 (by decide)
 have qc6 : ∀ W, KT w L M W → W.cell? ⟨w.heap.size + 1, 6, none⟩ = some (cellAt W (w.heap.size + 1) 6) := fun W h => h.here HM.out 6 (by decide)
 have qf6 : ∀ W, KT w L M W → W.frozen? ⟨w.heap.size + 1, 6, none⟩ = false := fun W h => h.free HM.out 6 (by decide)
 have qc7 : ∀ W, KT w L M W → W.cell? ⟨w.heap.size + 1, 7, none⟩ = some (cellAt W (w.heap.size + 1) 7) := fun W h => h.here HM.out 7 (by decide)
 have qf7 : ∀ W, KT w L M W → W.frozen? ⟨w.heap.size + 1, 7, none⟩ = false := fun W h => h.free HM.out 7 (by decide)
 have qc8 : ∀ W, KT w L M W → W.cell? ⟨w.heap.size + 1, 8, none⟩ = some (cellAt W (w.heap.size + 1) 8) := fun W h => h.here HM.out 8 (by decide)
 have qf8 : ∀ W, KT w L M W → W.frozen? ⟨w.heap.size + 1, 8, none⟩ = false := fun W h => h.free HM.out 8 (by decide)
 have qc9 : ∀ W, KT w L M W → W.cell? ⟨w.heap.size + 1, 9, none⟩ = some (cellAt W (w.heap.size + 1) 9) := fun W h => h.here HM.out 9 (by decide)
 have qf9 : ∀ W, KT w L M W → W.frozen? ⟨w.heap.size + 1, 9, none⟩ = false := fun W h => h.free HM.out 9 (by decide)
 go_region_held3 (fun w' : World => KT w L M w')
  (first
    | (with_reducible refine KT.drew ?_; with_reducible assumption)
    | (with_reducible refine KT.put10 ?_ HM.out _ _ _ _ _ _ _ _ _ _; with_reducible assumption)
    | (with_reducible refine KT.alloc ?_ _; with_reducible assumption)
    | (with_reducible refine KT.after ?_ hb; with_reducible assumption))
  (first
    | (go_at_call 89; refine (H1.out _).mono ?_; rintro e w' ⟨rfl, hb⟩))
 clear l0 l1 l2 l3 l4 qc0 qc1 qc2 qc3 qc4 qc5 qc6 qc7 qc8 qc9 qf0 qf1 qf2 qf3 qf4 qf5 qf6 qf7 qf8 qf9
 have hq := ‹KT w L M _›
 have hr := hq.put_row (cs := [_, _, _, _, _, _, _, _, _, _]) HM.out rfl
 go_wp2
 exact bodyPost_ret (results_R1 (cs := ratA n 1) rfl rfl hr agg_rat) rfl ⟨rfl, hq.1.2⟩
end Go.Proofs.YtdfmmkidknginaaGreatDoor

namespace Go.Proofs.YtdfmmkidknginaaGreatDoor
open Go.RowKit
theorem gcd_num (x y : Int) (w : World) (hx : x.natAbs < T256) (hy : y.natAbs < T256) (ht : TabTz w) (hw0 : 3 < w.heap.size) :
 Calls Tryz.prog 138 #[.agg (intA x), .agg (intA y)] w fun e w' => e = .returned (.tuple #[.agg (intA (Int.gcd x y : Nat)), .int .i64 0]) ∧ Below w.heap.size w w' := gcd_z x y w hx hy ht hw0
theorem sub_num (x y : Int) (w : World) (hx : x.natAbs < T256) (hy : y.natAbs < T256) (hz : (x - y).natAbs < T256) :
 Calls Tryz.prog 124 #[.agg (intA x), .agg (intA y)] w fun e w' => e = .returned (.tuple #[.agg (intA (x - y)), .int .i64 0]) ∧ Below w.heap.size w w' := by
 have h := sub_outs x y w hx hy
 rw [outV, if_pos hz] at h
 exact h
def sgnZ (z : Int) : Int := if z = 0 then 0 else if z < 0 then -1 else 1
theorem sign_num (x : Int) (w : World) (hx : x.natAbs < T256) : Calls Tryz.prog 139 #[.agg (intA x)] w fun e w' => e = .returned (.int .i64 (sgnZ x)) ∧ Below w.heap.size w w' := by
 have h := sign_any (decide (x < 0)) (W64 x.natAbs 0 : Nat) (W64 x.natAbs 1 : Nat) (W64 x.natAbs 2 : Nat) (W64 x.natAbs 3 : Nat) w
 rw [sgnB, zero_words hx] at h
 have e : (if decide (x.natAbs = 0) = true then (0 : Int) else if decide (x < 0) = true then -1 else 1) = sgnZ x := by
  unfold sgnZ
  simp [Int.natAbs_eq_zero]
 rw [e] at h
 exact h
theorem mul2_num (x y : Int) (b c : Nat) (w : World) (hx : x.natAbs < T256) (hy : y.natAbs < T256) (hz : (x * y).natAbs < T256)
 (hr : Row w b [.bool (decide (x < 0)), .int .u64 (W64 x.natAbs 0 : Nat), .int .u64 (W64 x.natAbs 1 : Nat), .int .u64 (W64 x.natAbs 2 : Nat), .int .u64 (W64 x.natAbs 3 : Nat), .bool (decide (y < 0)), .int .u64 (W64 y.natAbs 0 : Nat), .int .u64 (W64 y.natAbs 1 : Nat), .int .u64 (W64 y.natAbs 2 : Nat), .int .u64 (W64 y.natAbs 3 : Nat)]) :
 Calls Tryz.prog 88 #[.slice (some ⟨b, 0, none⟩) 2 c] w fun e w' => e = .returned (.tuple #[.agg (intA (x * y)), .int .i64 0]) ∧ Below w.heap.size w w' := by
 have h := mul_o (some ⟨b, 0, none⟩) b 0 2 c _ _ w (by decide) hr.lt (two_ints hr) (by
  intro k
  by_cases hk : k = 0
  ·simp only [hk, if_true]; exact row4_W64_bd _
  ·simp only [if_neg hk]; exact row4_W64_bd _) (fun _ => rfl)
 rw [after_num (zs := fun i => if i = 0 then x else y) step_times one_num 2 (by
  intro i hi
  match i, hi with
  | 0, _ => exact RN.of hx (row4_W64_bd _) (fun i hi => row4_W64 _ i hi)
  | 1, _ => exact RN.of hy (row4_W64_bd _) (fun i hi => row4_W64 _ i hi))] at h
 have e1 : zfold (fun a b => a * b) (fun i => if i = 0 then x else y) 1 1 = some x := by
  have := zfold_some (op := fun a b => a * b) (zs := fun i => if i = 0 then x else y) (z0 := 1) (k := 0) rfl (by simp only [if_true, Int.one_mul]; exact hx)
  simpa using this
 have e : zfold (fun a b => a * b) (fun i => if i = 0 then x else y) 1 2 = some (x * y) :=
  zfold_some (op := fun a b => a * b) (zs := fun i => if i = 0 then x else y) (k := 1) e1 hz
 rw [e] at h
 exact h
set_option maxRecDepth 100000 in
set_option maxHeartbeats 800000 in
theorem ratof_num (n : Int) (h1 : -9223372036854775808 ≤ n) (h2 : n ≤ 9223372036854775807) (w : World) : Calls Tryz.prog 137 #[.int .i64 n] w fun e w' => e = .returned (.agg (ratA n 1)) ∧ Below w.heap.size w w' := by
 have H1 := Lib.hid (of_num n h1 h2)
 clear h1 h2
 go_enter Tryz.func137, Tryz.ntmps137
 go_wp2_with fail
 have r0 := Row.at (w := w) rfl zero_rat.toList 44
 have hB := (Below.refl w.heap.size w).alloc (Nat.le_refl _) (.cells zero_rat 44)
 refine (H1.out _).mono ?_
 rintro e w1 ⟨rfl, hb⟩
 replace r0 := r0.after hb
 replace hB := hB.trans (hb.mono hB.size)
 clear hb
 go_wp2_with fail
 refine (whole_num n _).mono ?_
 rintro e w2 ⟨rfl, hb⟩
 replace r0 := r0.after hb
 replace hB := hB.trans (hb.mono hB.size)
 clear hb
 go_wp2_with (first | (refine wpList_store_R rfl _ _ _ rfl _ (ratA n 1) rfl rfl _ r0 rfl agg_rat (ratA_one n 1) ?_; intro w3 r3 o3))
 exact bodyPost_ret (results_R1 (cs := ratA n 1) rfl rfl r3 agg_rat) rfl ⟨rfl, below_on hB o3 (Nat.le_refl _)⟩
end Go.Proofs.YtdfmmkidknginaaGreatDoor

namespace Go.Proofs.YtdfmmkidknginaaGreatDoor
open Go.RowKit Go.Sort
theorem one_num2 (w : World) : Calls Tryz.prog 89 #[.int .i64 1] w fun e w' => e = .returned (iv false 1 0 0 0) ∧ Below w.heap.size w w' := of_any 1 w
theorem Row.fst {w : World} {b : Nat} {x y : Array Value} (h : Row w b (x ++ y).toList) : w.rangeAt b 0 x.toList := h.range 0 _ (fun j v hv => by
 rw [Nat.zero_add, Array.toList_append, List.getElem?_append_left (List.getElem?_eq_some_iff.1 hv).1]; exact hv)
theorem Row.snd {w : World} {b : Nat} {x y : Array Value} (k : Nat) (hk : x.size = k) (h : Row w b (x ++ y).toList) : w.rangeAt b k y.toList := h.range k _ (fun j v hv => by
 have hl : x.toList.length = k := by simpa using hk
 rw [Array.toList_append, List.getElem?_append_right (by omega), hl, show k + j - k = j by omega]; exact hv)
end Go.Proofs.YtdfmmkidknginaaGreatDoor

namespace Go.Proofs.YtdfmmkidknginaaGreatDoor
open Go.RowKit Go.Sort
def oS : Option Int → Bool
 | some z => decide (z < 0)
 | none => true
def oM : Option Int → Nat
 | some z => z.natAbs
 | none => 0
def oA (o : Option Int) : Array Value := #[.bool (oS o), .int .u64 (W64 (oM o) 0 : Nat), .int .u64 (W64 (oM o) 1 : Nat), .int .u64 (W64 (oM o) 2 : Nat), .int .u64 (W64 (oM o) 3 : Nat)]
theorem words_small {m : Nat} (hm : m < T256) : (((W64 m 1 : Nat) : Int) = 0 ∧ ((W64 m 2 : Nat) : Int) = 0 ∧ ((W64 m 3 : Nat) : Int) = 0) ↔ m < 18446744073709551616 := by
 constructor
 ·rintro ⟨h1, h2, h3⟩
  have h := valW_W64 m 4
  simp only [valW] at h
  have h0 := W64_bd m 0
  rw [Nat.mod_eq_of_lt (Nat.lt_of_lt_of_le hm (by decide))] at h
  have e1 : W64 m 1 = 0 := by omega
  have e2 : W64 m 2 = 0 := by omega
  have e3 : W64 m 3 = 0 := by omega
  rw [e1, e2, e3] at h
  omega
 ·intro h
  obtain ⟨_, h1, h2, h3⟩ := W64_small m h
  rw [h1, h2, h3]
  exact ⟨rfl, rfl, rfl⟩
def smB : Option Int → Bool
 | some z => decide (-9223372036854775808 ≤ z ∧ z < 9223372036854775808)
 | none => false
def smZ : Option Int → Int
 | some z => if -9223372036854775808 ≤ z ∧ z < 9223372036854775808 then z else 0
 | none => 0
theorem small_pure (z q0 q1 q2 q3 : Int) (hr : rightB (decide (z < 0)) q0 q1 q2 q3 = true) (hw : (q1 = 0 ∧ q2 = 0 ∧ q3 = 0) ↔ z.natAbs < 18446744073709551616) (hq : z.natAbs < 18446744073709551616 → q0 = (z.natAbs : Int))
 (hs : smallB (decide (z < 0)) q0 q1 q2 q3 = (rightB (decide (z < 0)) q0 q1 q2 q3 && (decide (q1 = 0 ∧ q2 = 0 ∧ q3 = 0) && (decide (q0 < 9223372036854775808) || (decide (z < 0) && decide (q0 = 9223372036854775808)))))) :
 smallB (decide (z < 0)) q0 q1 q2 q3 = smB (some z) ∧ (smB (some z) = true → smallN (decide (z < 0)) q0 = smZ (some z)) ∧ (smB (some z) = false → smZ (some z) = 0) := by
 have e1 : smB (some z) = decide (-9223372036854775808 ≤ z ∧ z < 9223372036854775808) := rfl
 have e2 : smZ (some z) = if -9223372036854775808 ≤ z ∧ z < 9223372036854775808 then z else 0 := rfl
 rw [e1, e2, hs, hr]
 clear e1 e2 hs hr
 by_cases hz : z.natAbs < 18446744073709551616
 ·have h0 := hq hz
  obtain ⟨h1, h2, h3⟩ := hw.2 hz
  refine ⟨?_, fun h => ?_, fun h => ?_⟩
  ·rw [Bool.eq_iff_iff]
   simp only [Bool.and_eq_true, Bool.or_eq_true, decide_eq_true_eq, true_and]
   omega
  ·have h := of_decide_eq_true h
   rw [if_pos h]
   unfold smallN
   simp only [IntKind.wrap_i64]
   by_cases hn : z < 0
   ·rw [decide_eq_true hn]
    simp only [if_true]
    omega
   ·rw [decide_eq_false hn]
    simp only [Bool.false_eq_true, if_false]
    omega
  ·rw [if_neg (of_decide_eq_false h)]
 ·have h2 : ¬ (q1 = 0 ∧ q2 = 0 ∧ q3 = 0) := fun q => hz (hw.1 q)
  have h3 : ¬ (-9223372036854775808 ≤ z ∧ z < 9223372036854775808) := by omega
  rw [if_neg h3]
  simp only [h2, h3, decide_false, Bool.false_and, Bool.and_false]
  exact ⟨trivial, fun h => (by cases h), fun _ => trivial⟩
theorem small_O (o : Option Int) (ho : oM o < T256) (w : World) : Calls Tryz.prog 118 #[.agg (oA o)] w fun e w' => e = .returned (.tuple #[.int .i64 (smZ o), .bool (smB o)]) ∧ Below w.heap.size w w' := by
 have h := small_any (oS o) (W64 (oM o) 0 : Nat) (W64 (oM o) 1 : Nat) (W64 (oM o) 2 : Nat) (W64 (oM o) 3 : Nat) w
 have hs := smallB_says (oS o) (W64 (oM o) 0 : Nat) (W64 (oM o) 1 : Nat) (W64 (oM o) 2 : Nat) (W64 (oM o) 3 : Nat) (W64_bd _ 0)
 have e : smallB (oS o) (W64 (oM o) 0 : Nat) (W64 (oM o) 1 : Nat) (W64 (oM o) 2 : Nat) (W64 (oM o) 3 : Nat) = smB o ∧ (smB o = true → smallN (oS o) (W64 (oM o) 0 : Nat) = smZ o) ∧ (smB o = false → smZ o = 0) := by
  cases o with
  | none => exact ⟨by rw [hs]; simp [oS, oM, W64, rightB, zeroB, smB], fun h => (by cases h), fun _ => rfl⟩
  | some z =>
    exact small_pure z _ _ _ _ (right_num z ho) (words_small ho) (fun hz => congrArg (fun q : Nat => (q : Int)) (W64_small z.natAbs hz).1) hs
 rw [e.1] at h
 refine h.mono ?_
 rintro e' w' ⟨rfl, hb⟩
 refine ⟨?_, hb⟩
 cases hB : smB o with
 | true => rw [if_pos rfl, e.2.1 hB]
 | false => rw [if_neg (by simp), e.2.2 hB]
def gcO : Option Int → Option Int → Int × Int
 | some x, some y => ((Int.gcd x y : Nat), 0)
 | _, _ => (0, 2)
theorem gcd_O (a b : Option Int) (ha : oM a < T256) (hb : oM b < T256) (w : World) (ht : TabTz w) (hw0 : 3 < w.heap.size) :
 Calls Tryz.prog 138 #[.agg (oA a), .agg (oA b)] w fun e w' => e = .returned (.tuple #[.agg (intA (gcO a b).1), .int .i64 (gcO a b).2]) ∧ Below w.heap.size w w' := by
 have hz : Value.agg (intA 0) = iv false 0 0 0 0 := by simp [iv, W64]
 have hbad : ∀ s t a0 a1 a2 a3 b0 b1 b2 b3, (errArg s a0 a1 a2 a3 = 2 ∨ (errArg s a0 a1 a2 a3 = 0 ∧ errArg t b0 b1 b2 b3 = 2)) → Calls Tryz.prog 138 #[iv s a0 a1 a2 a3, iv t b0 b1 b2 b3] w fun e w' => e = .returned (.tuple #[.agg (intA 0), .int .i64 2]) ∧ Below w.heap.size w w' := by
  intro s t a0 a1 a2 a3 b0 b1 b2 b3 h
  rw [hz]
  refine gcd_wrong s t a0 a1 a2 a3 b0 b1 b2 b3 w ?_
  rw [errAll_two]
  rcases h with h | ⟨h, h'⟩
  ·rw [h]; rfl
  ·rw [h, if_pos rfl, h']
 have e0 : errArg true 0 0 0 0 = 2 := rfl
 cases a with
 | none =>
   cases b with
   | none => exact hbad true true 0 0 0 0 0 0 0 0 (.inl e0)
   | some y => exact hbad true _ 0 0 0 0 _ _ _ _ (.inl e0)
 | some x =>
   cases b with
   | none => exact hbad _ true _ _ _ _ 0 0 0 0 (.inr ⟨errArg_ok (ivz_right x ha), e0⟩)
   | some y => exact gcd_num x y w ha hb ht hw0
def sgO' : Option Int → Int
 | some z => sgnZ z
 | none => 0
theorem sign_O (o : Option Int) (ho : oM o < T256) (w : World) : Calls Tryz.prog 139 #[.agg (oA o)] w fun e w' => e = .returned (.int .i64 (sgO' o)) ∧ Below w.heap.size w w' := by
 cases o with
 | none => exact sign_any true 0 0 0 0 w
 | some z => exact sign_num z w ho
theorem cmp_num (x y : Int) (w : World) (hx : x.natAbs < T256) (hy : y.natAbs < T256) : Calls Tryz.prog 92 #[.agg (intA x), .agg (intA y)] w fun e w' => e = .returned (.tuple #[.int .i64 (cmpI x y), .int .i64 0]) ∧ Below w.heap.size w w' := by
 have h := cmp_any (decide (x < 0)) (decide (y < 0)) (W64 x.natAbs 0 : Nat) (W64 x.natAbs 1 : Nat) (W64 x.natAbs 2 : Nat) (W64 x.natAbs 3 : Nat) (W64 y.natAbs 0 : Nat) (W64 y.natAbs 1 : Nat) (W64 y.natAbs 2 : Nat) (W64 y.natAbs 3 : Nat) w
 unfold cmpE at h
 rw [ivz_right x hx, ivz_right y hy] at h
 have e : cmpS (decide (x < 0)) (decide (y < 0)) (W64 x.natAbs 0 : Nat) (W64 x.natAbs 1 : Nat) (W64 x.natAbs 2 : Nat) (W64 x.natAbs 3 : Nat) (W64 y.natAbs 0 : Nat) (W64 y.natAbs 1 : Nat) (W64 y.natAbs 2 : Nat) (W64 y.natAbs 3 : Nat) = cmpI x y := by
  unfold cmpS
  rw [ordW_num hx hy, ordW_num hy hx]
  unfold cmpI
  by_cases h1 : x < 0 <;> by_cases h2 : y < 0 <;> simp only [h1, h2, decide_true, decide_false] <;> (repeat' split) <;> omega
 rw [e] at h
 exact h
end Go.Proofs.YtdfmmkidknginaaGreatDoor

namespace Go.Proofs.YtdfmmkidknginaaGreatDoor
open Go.RowKit Go.Sort
theorem ors_zero (a b c : Int) (ha : 0 ≤ a ∧ a < 18446744073709551616) (hb : 0 ≤ b ∧ b < 18446744073709551616) (hc : 0 ≤ c ∧ c < 18446744073709551616) :
 bits BinOp.or IntKind.u64 (bits BinOp.or IntKind.u64 a b) c = 0 ↔ (a = 0 ∧ b = 0 ∧ c = 0) := by
 obtain ⟨x, rfl⟩ := Int.eq_ofNat_of_zero_le ha.1
 obtain ⟨y, rfl⟩ := Int.eq_ofNat_of_zero_le hb.1
 obtain ⟨z, rfl⟩ := Int.eq_ofNat_of_zero_le hc.1
 have hxy : (x ||| y) < 18446744073709551616 := Nat.or_lt_two_pow (n := 64) (by omega) (by omega)
 rw [bits_or_u64_nat _ _ (by omega) (by omega), bits_or_u64_nat _ _ hxy (by omega)]
 simp only [Int.natCast_eq_zero, Nat.or_eq_zero_iff, and_assoc]
set_option maxRecDepth 100000 in
set_option maxHeartbeats 1600000 in
theorem great_any (s t : Bool) (n0 n1 n2 n3 d0 d1 d2 d3 : Int) (g : Bool) (w : World)
 (hg : (¬ bits BinOp.or IntKind.u64 (bits BinOp.or IntKind.u64 n3 n2) (n1 / 4294967296) = 0 ∧ g = true) ∨ (bits BinOp.or IntKind.u64 (bits BinOp.or IntKind.u64 n3 n2) (n1 / 4294967296) = 0 ∧ g = (bits BinOp.or IntKind.u64 (bits BinOp.or IntKind.u64 d3 d2) d1 != 0))) :
 Calls Tryz.prog 120 #[.agg #[.bool s, .int .u64 n0, .int .u64 n1, .int .u64 n2, .int .u64 n3, .bool t, .int .u64 d0, .int .u64 d1, .int .u64 d2, .int .u64 d3]] w fun e w' => e = .returned (.bool g) ∧ Below w.heap.size w w' := by
 go_enter Tryz.func120, Tryz.ntmps120
 go_upto_region 1 with fail
 generalize hW : World.alloc _ _ = W0
 have hR : Row W0 w.heap.size [.bool s, .int .u64 n0, .int .u64 n1, .int .u64 n2, .int .u64 n3, .bool t, .int .u64 d0, .int .u64 d1, .int .u64 d2, .int .u64 d3] := by rw [← hW]; exact Row.at rfl _ _
 have hB : Below w.heap.size w W0 := by rw [← hW]; exact (Below.refl _ _).alloc (Nat.le_refl _) _
 clear hW
 have hl := hR.lt
 have x0 := hR.c 1 rfl
 have x1 := hR.c 2 rfl
 have x2 := hR.c 3 rfl
 have x3 := hR.c 4 rfl
 have y0 := hR.c 6 rfl
 have y1 := hR.c 7 rfl
 have y2 := hR.c 8 rfl
 have y3 := hR.c 9 rfl
 generalize hP : bits BinOp.or IntKind.u64 (bits BinOp.or IntKind.u64 n3 n2) (n1 / 4294967296) = P at *
 generalize hQ : bits BinOp.or IntKind.u64 (bits BinOp.or IntKind.u64 d3 d2) d1 = Q at *
 have hB2 : Hid (∀ o1 o2, Below w.heap.size w ((W0.alloc o1).alloc o2).drew) := Lib.hid (fun o1 o2 => ((hB.alloc (by omega) _).alloc (by simp; omega) _).drew)
 clear hR hB
 rcases hg with ⟨h, rfl⟩ | ⟨h, rfl⟩
 ·have h1 : (P != 0) = true := by simpa using h
  clear h
  go_region
  all_goals
   go_wp2_with fail
   go_ret
   exact ⟨rfl, hB2.out _ _⟩
 ·have h1 : (P != 0) = false := by simpa using h
  clear h
  go_region
  all_goals
   go_wp2_with fail
   go_ret
   exact ⟨rfl, hB2.out _ _⟩
def rO (a b : Option Int) : Array Value := #[.bool (oS a), .int .u64 (W64 (oM a) 0 : Nat), .int .u64 (W64 (oM a) 1 : Nat), .int .u64 (W64 (oM a) 2 : Nat), .int .u64 (W64 (oM a) 3 : Nat), .bool (oS b), .int .u64 (W64 (oM b) 0 : Nat), .int .u64 (W64 (oM b) 1 : Nat), .int .u64 (W64 (oM b) 2 : Nat), .int .u64 (W64 (oM b) 3 : Nat)]
def grB (a b : Option Int) : Bool := decide (79228162514264337593543950336 ≤ oM a) || decide (18446744073709551616 ≤ oM b)
theorem words_lt (m : Nat) (hm : m < T256) : (((W64 m 3 : Nat) : Int) = 0 ∧ ((W64 m 2 : Nat) : Int) = 0 ∧ ((W64 m 1 : Nat) : Int) / 4294967296 = 0) ↔ m < 79228162514264337593543950336 := by
 have h := valW_W64 m 4
 simp only [valW] at h
 have h0 := W64_bd m 0
 have h1 := W64_bd m 1
 have h2 := W64_bd m 2
 have h3 := W64_bd m 3
 rw [Nat.mod_eq_of_lt (Nat.lt_of_lt_of_le hm (by decide))] at h
 generalize W64 m 0 = q0 at *
 generalize W64 m 1 = q1 at *
 generalize W64 m 2 = q2 at *
 generalize W64 m 3 = q3 at *
 clear hm
 omega
theorem great_O (a b : Option Int) (ha : oM a < T256) (hb : oM b < T256) (w : World) : Calls Tryz.prog 120 #[.agg (rO a b)] w fun e w' => e = .returned (.bool (grB a b)) ∧ Below w.heap.size w w' := by
 refine great_any (oS a) (oS b) _ _ _ _ _ _ _ _ (grB a b) w ?_
 have h1 := words_lt (oM a) ha
 have h2 := words_small hb
 have e1 := ors_zero (W64 (oM a) 3 : Nat) (W64 (oM a) 2 : Nat) (((W64 (oM a) 1 : Nat) : Int) / 4294967296) (W64_bd _ 3) (W64_bd _ 2) (by have := W64_bd (oM a) 1; omega)
 have e2 := ors_zero (W64 (oM b) 3 : Nat) (W64 (oM b) 2 : Nat) (W64 (oM b) 1 : Nat) (W64_bd _ 3) (W64_bd _ 2) (W64_bd _ 1)
 rw [h1] at e1
 generalize bits BinOp.or IntKind.u64 (bits BinOp.or IntKind.u64 ((W64 (oM a) 3 : Nat) : Int) ((W64 (oM a) 2 : Nat) : Int)) (((W64 (oM a) 1 : Nat) : Int) / 4294967296) = P at *
 generalize bits BinOp.or IntKind.u64 (bits BinOp.or IntKind.u64 ((W64 (oM b) 3 : Nat) : Int) ((W64 (oM b) 2 : Nat) : Int)) ((W64 (oM b) 1 : Nat) : Int) = Q at *
 have e2' : Q = 0 ↔ oM b < 18446744073709551616 := by
  rw [e2, ← h2]
  constructor
  ·rintro ⟨x, y, z⟩; exact ⟨z, y, x⟩
  ·rintro ⟨x, y, z⟩; exact ⟨z, y, x⟩
 unfold grB
 by_cases hP : P = 0
 ·right
  refine ⟨hP, ?_⟩
  rw [decide_eq_false (by have := e1.1 hP; omega), Bool.false_or]
  by_cases hQ : Q = 0
  ·rw [decide_eq_false (by have := e2'.1 hQ; omega)]; subst hQ; rfl
  ·rw [decide_eq_true (by have := fun q => hQ (e2'.2 q); omega)]; simpa using hQ
 ·left
  refine ⟨hP, ?_⟩
  rw [decide_eq_true (by have := fun q => hP (e1.2 q); omega), Bool.true_or]
end Go.Proofs.YtdfmmkidknginaaGreatDoor

namespace Go.Proofs.YtdfmmkidknginaaGreatDoor
open Go.RowKit Go.Sort
set_option maxRecDepth 100000 in
set_option maxHeartbeats 3200000 in
theorem check_core (s t gs : Bool) (n0 n1 n2 n3 d0 d1 d2 d3 g0 g1 g2 g3 er sg v : Int) (nb : Bool) (w : World)
 (HG : Hid (∀ W, Below w.heap.size w W → Calls Tryz.prog 138 #[iv s n0 n1 n2 n3, iv t d0 d1 d2 d3] W fun e w' => e = .returned (.tuple #[iv gs g0 g1 g2 g3, .int .i64 er]) ∧ Below W.heap.size W w'))
 (HS : Hid (∀ W, Calls Tryz.prog 139 #[iv t d0 d1 d2 d3] W fun e w' => e = .returned (.int .i64 sg) ∧ Below W.heap.size W w'))
 (e3 : ∀ w, (binOp .neq 42 (iv gs g0 g1 g2 g3) (iv false 1 0 0 0)).run Tryz.prog w = .ok (.bool nb) w)
 (hway : ((er != 0) = true ∧ v = 2) ∨ ((er != 0) = false ∧ decide (sg < 1) = true ∧ v = 2) ∨ ((er != 0) = false ∧ decide (sg < 1) = false ∧ nb = true ∧ v = 2) ∨ ((er != 0) = false ∧ decide (sg < 1) = false ∧ nb = false ∧ v = 0)) :
 Calls Tryz.prog 121 #[.agg #[.bool s, .int .u64 n0, .int .u64 n1, .int .u64 n2, .int .u64 n3, .bool t, .int .u64 d0, .int .u64 d1, .int .u64 d2, .int .u64 d3]] w fun e w' => e = .returned (.int .i64 v) ∧ Below w.heap.size w w' := by
 go_enter Tryz.func121, Tryz.ntmps121
 go_upto_region 1 with fail
 generalize hW : World.alloc _ _ = W0
 have hR : Row W0 w.heap.size [.bool s, .int .u64 n0, .int .u64 n1, .int .u64 n2, .int .u64 n3, .bool t, .int .u64 d0, .int .u64 d1, .int .u64 d2, .int .u64 d3] := by rw [← hW]; exact Row.at rfl _ _
 have hB : Below w.heap.size w W0 := by rw [← hW]; exact (Below.refl _ _).alloc (Nat.le_refl _) _
 clear hW
 have x0 := hR.c 0 rfl
 have x1 := hR.c 1 rfl
 have x2 := hR.c 2 rfl
 have x3 := hR.c 3 rfl
 have x4 := hR.c 4 rfl
 have x5 := hR.c 5 rfl
 have x6 := hR.c 6 rfl
 have x7 := hR.c 7 rfl
 have x8 := hR.c 8 rfl
 have x9 := hR.c 9 rfl
 go_wp2_with fail
 refine (HG.out _ hB).mono ?_
 rintro e w1 ⟨rfl, hb⟩
 have r1 := hR.after hb
 replace hB := hB.trans (hb.mono hB.size)
 have hlt := hR.lt
 have hlt1 := hb.size
 clear hb hR x0 x1 x2 x3 x4 x5 x6 x7 x8 x9
 go_upto_region 2 with fail
 generalize hW : World.alloc _ _ = W2
 have rS : Row W2 w1.heap.size [.bool gs, .int .u64 g0, .int .u64 g1, .int .u64 g2, .int .u64 g3] := by rw [← hW]; exact Row.at rfl _ _
 have r2 : Row W2 w.heap.size [.bool s, .int .u64 n0, .int .u64 n1, .int .u64 n2, .int .u64 n3, .bool t, .int .u64 d0, .int .u64 d1, .int .u64 d2, .int .u64 d3] := by rw [← hW]; exact r1.alloc _
 replace hB : Below w.heap.size w W2 := by rw [← hW]; exact hB.alloc (by omega) _
 clear hW r1
 have d0' := cell_regrown (r2.c 5 rfl)
 have d1' := cell_regrown (r2.c 6 rfl)
 have d2' := cell_regrown (r2.c 7 rfl)
 have d3' := cell_regrown (r2.c 8 rfl)
 have d4' := cell_regrown (r2.c 9 rfl)
 have s0 := cell_regrown (rS.c 0 rfl)
 have s1 := cell_regrown (rS.c 1 rfl)
 have s2 := cell_regrown (rS.c 2 rfl)
 have s3 := cell_regrown (rS.c 3 rfl)
 have s4 := cell_regrown (rS.c 4 rfl)
 have C1 := Lib.hid (fun d os => Calls.regrown_of (one_num2 (grow (redrawn W2 d) os)))
 have C2 := Lib.hid (fun d os => Calls.regrown_of (HS.out (grow (redrawn W2 d) os)))
 clear rS r2 HS HG
 rcases hway with ⟨q1, rfl⟩ | ⟨q1, q2, rfl⟩ | ⟨q1, q2, rfl, rfl⟩ | ⟨q1, q2, rfl, rfl⟩
 all_goals
  refine wp_region_quiet_below (by kernel_rfl) (by kernel_rfl) ?_
  repeat (first | go_big_quiet_step ((first | with_reducible exact C1.out _ _ | with_reducible exact C2.out _ _)) | quiet_step ((first | with_reducible exact C1.out _ _ | with_reducible exact C2.out _ _)))
  refine wpQuiet_nil ?_
  intro _ hw'
  obtain ⟨⟨dq, osq⟩, hw''⟩ := hw'
  subst hw''
  go_wp2
  go_ret
  exact ⟨rfl, hB.trans ((below_regrown W2 dq osq).mono hB.size)⟩
def riB : Option Int → Option Int → Bool
 | some n, some d => decide (0 < d ∧ Int.gcd n d = 1)
 | _, _ => false
theorem words_one (g : Nat) (hg : g < T256) : (!(false == false && (((W64 g 0 : Nat) : Int) == 1 && (((W64 g 1 : Nat) : Int) == 0 && (((W64 g 2 : Nat) : Int) == 0 && ((W64 g 3 : Nat) : Int) == 0))))) = decide (g ≠ 1) := by
 have h := valW_W64 g 4
 simp only [valW] at h
 rw [Nat.mod_eq_of_lt (Nat.lt_of_lt_of_le hg (by decide))] at h
 have h0 := W64_bd g 0
 generalize hq0 : W64 g 0 = q0 at *
 generalize hq1 : W64 g 1 = q1 at *
 generalize hq2 : W64 g 2 = q2 at *
 generalize hq3 : W64 g 3 = q3 at *
 have he : g = 1 ↔ (q0 = 1 ∧ q1 = 0 ∧ q2 = 0 ∧ q3 = 0) := by
  constructor
  ·intro e
   subst e
   rw [← hq0, ← hq1, ← hq2, ← hq3]
   decide
  ·rintro ⟨rfl, rfl, rfl, rfl⟩
   omega
 clear hg h hq0 hq1 hq2 hq3 h0
 rw [Bool.eq_iff_iff]
 simp only [Bool.not_eq_true', decide_eq_true_eq, Bool.and_eq_false_iff, beq_eq_false_iff_ne, ne_eq, he]
 simp
 omega
theorem check_O (a b : Option Int) (ha : oM a < T256) (hb : oM b < T256) (w : World) (ht : TabTz w) (hw0 : 3 < w.heap.size) :
 Calls Tryz.prog 121 #[.agg (rO a b)] w fun e w' => e = .returned (.int .i64 (if riB a b = true then 0 else 2)) ∧ Below w.heap.size w w' := by
 have hg1 : (gcO a b).1.natAbs < T256 := by
  cases a with
  | none => exact Nat.lt_of_lt_of_le (Nat.zero_lt_one) (by decide)
  | some x =>
    cases b with
    | none => exact Nat.lt_of_lt_of_le (Nat.zero_lt_one) (by decide)
    | some y =>
      show (((Int.gcd x y : Nat) : Int)).natAbs < T256
      rw [Int.natAbs_natCast]
      by_cases hx : x = 0
      ·subst hx; rw [Int.gcd_zero_left]; exact hb
      ·exact Nat.lt_of_le_of_lt (Nat.le_of_dvd (by omega) (Int.gcd_dvd_natAbs_left x y)) ha
 have hg0 : ¬ (gcO a b).1 < 0 := by
  cases a <;> cases b <;> simp only [gcO] <;> omega
 refine check_core _ _ (decide ((gcO a b).1 < 0)) _ _ _ _ _ _ _ _ (W64 (gcO a b).1.natAbs 0 : Nat) (W64 (gcO a b).1.natAbs 1 : Nat) (W64 (gcO a b).1.natAbs 2 : Nat) (W64 (gcO a b).1.natAbs 3 : Nat) (gcO a b).2 (sgO' b) _ (decide ((gcO a b).1.natAbs ≠ 1)) w
  (Lib.hid (fun W hW => gcd_O a b ha hb W (ht.below hw0 hW) (Nat.lt_of_lt_of_le hw0 hW.size))) (Lib.hid (fun W => sign_O b hb W)) (fun W => ?_) ?_
 ·rw [neqInt, decide_eq_false hg0, words_one _ hg1]
 ·cases a with
  | none => exact .inl ⟨rfl, rfl⟩
  | some x =>
    cases b with
    | none => exact .inl ⟨rfl, rfl⟩
    | some y =>
      right
      show (((0 : Int) != 0) = false ∧ decide (sgnZ y < 1) = true ∧ (if riB (some x) (some y) = true then (0 : Int) else 2) = 2) ∨ _ ∨ _
      have e1 : riB (some x) (some y) = decide (0 < y ∧ Int.gcd x y = 1) := rfl
      have e2 : (gcO (some x) (some y)).1.natAbs = Int.gcd x y := Int.natAbs_natCast _
      have e4 : sgO' (some y) = sgnZ y := rfl
      have e5 : ((gcO (some x) (some y)).2 != 0) = false := rfl
      rw [e2, e1, e4, e5]
      by_cases hy : 0 < y
      ·have hs : decide (sgnZ y < 1) = false := by unfold sgnZ; rw [if_neg (by omega), if_neg (by omega)]; rfl
       by_cases h1 : Int.gcd x y = 1
       ·exact .inr (.inr ⟨rfl, hs, by simp [h1], by rw [decide_eq_true ⟨hy, h1⟩]; rfl⟩)
       ·exact .inr (.inl ⟨rfl, hs, by simp [h1], by rw [decide_eq_false (fun q => h1 q.2)]; rfl⟩)
      ·have hs : decide (sgnZ y < 1) = true := by
        unfold sgnZ
        by_cases h0 : y = 0
        ·rw [if_pos h0]; rfl
        ·rw [if_neg h0, if_pos (by omega)]; rfl
       exact .inl ⟨rfl, hs, by rw [decide_eq_false (fun q => hy q.1)]; rfl⟩
end Go.Proofs.YtdfmmkidknginaaGreatDoor

namespace Go.Proofs.YtdfmmkidknginaaGreatDoor
open Go.RowKit Go.Sort
theorem at_rat0 (s1 t1 s2 t2 : Bool) (n10 d10 n20 d20 n11 d11 n21 d21 n12 d12 n22 d22 n13 d13 n23 d23 : Int) (W : World) : (Instr.index 172 (.agg #[.bool s1, .int .u64 n10, .int .u64 n11, .int .u64 n12, .int .u64 n13, .bool t1, .int .u64 d10, .int .u64 d11, .int .u64 d12, .int .u64 d13, .bool s2, .int .u64 n20, .int .u64 n21, .int .u64 n22, .int .u64 n23, .bool t2, .int .u64 d20, .int .u64 d21, .int .u64 d22, .int .u64 d23]) (.int .i64 0)).run Tryz.prog W = .ok (.agg #[.bool s1, .int .u64 n10, .int .u64 n11, .int .u64 n12, .int .u64 n13, .bool t1, .int .u64 d10, .int .u64 d11, .int .u64 d12, .int .u64 d13]) W := by kernel_rfl
theorem at_rat1 (s1 t1 s2 t2 : Bool) (n10 d10 n20 d20 n11 d11 n21 d21 n12 d12 n22 d22 n13 d13 n23 d23 : Int) (W : World) : (Instr.index 172 (.agg #[.bool s1, .int .u64 n10, .int .u64 n11, .int .u64 n12, .int .u64 n13, .bool t1, .int .u64 d10, .int .u64 d11, .int .u64 d12, .int .u64 d13, .bool s2, .int .u64 n20, .int .u64 n21, .int .u64 n22, .int .u64 n23, .bool t2, .int .u64 d20, .int .u64 d21, .int .u64 d22, .int .u64 d23]) (.int .i64 1)).run Tryz.prog W = .ok (.agg #[.bool s2, .int .u64 n20, .int .u64 n21, .int .u64 n22, .int .u64 n23, .bool t2, .int .u64 d20, .int .u64 d21, .int .u64 d22, .int .u64 d23]) W := by kernel_rfl
set_option maxRecDepth 100000 in
set_option maxHeartbeats 3200000 in
theorem prightO_core (s1 t1 s2 t2 : Bool) (n10 d10 n20 d20 n11 d11 n21 d21 n12 d12 n22 d22 n13 d13 n23 d23 : Int) (g1 g2 : Bool) (c1 c2 v : Int) (w : World)
 (H1 : Hid (∀ W, Calls Tryz.prog 120 #[.agg #[.bool s1, .int .u64 n10, .int .u64 n11, .int .u64 n12, .int .u64 n13, .bool t1, .int .u64 d10, .int .u64 d11, .int .u64 d12, .int .u64 d13]] W fun e w' => e = .returned (.bool g1) ∧ Below W.heap.size W w'))
 (H2 : Hid (∀ W, Calls Tryz.prog 120 #[.agg #[.bool s2, .int .u64 n20, .int .u64 n21, .int .u64 n22, .int .u64 n23, .bool t2, .int .u64 d20, .int .u64 d21, .int .u64 d22, .int .u64 d23]] W fun e w' => e = .returned (.bool g2) ∧ Below W.heap.size W w'))
 (K1 : Hid (∀ W, Below w.heap.size w W → Calls Tryz.prog 121 #[.agg #[.bool s1, .int .u64 n10, .int .u64 n11, .int .u64 n12, .int .u64 n13, .bool t1, .int .u64 d10, .int .u64 d11, .int .u64 d12, .int .u64 d13]] W fun e w' => e = .returned (.int .i64 c1) ∧ Below W.heap.size W w'))
 (K2 : Hid (∀ W, Below w.heap.size w W → Calls Tryz.prog 121 #[.agg #[.bool s2, .int .u64 n20, .int .u64 n21, .int .u64 n22, .int .u64 n23, .bool t2, .int .u64 d20, .int .u64 d21, .int .u64 d22, .int .u64 d23]] W fun e w' => e = .returned (.int .i64 c2) ∧ Below W.heap.size W w'))
 (hway : (g1 = true ∧ v = 2) ∨ (g1 = false ∧ (c1 != 0) = true ∧ v = 2) ∨ (g1 = false ∧ (c1 != 0) = false ∧ g2 = true ∧ v = 2) ∨ (g1 = false ∧ (c1 != 0) = false ∧ g2 = false ∧ (c2 != 0) = true ∧ v = 2) ∨ (g1 = false ∧ (c1 != 0) = false ∧ g2 = false ∧ (c2 != 0) = false ∧ v = 0)) :
 Calls Tryz.prog 86 #[.agg #[.bool s1, .int .u64 n10, .int .u64 n11, .int .u64 n12, .int .u64 n13, .bool t1, .int .u64 d10, .int .u64 d11, .int .u64 d12, .int .u64 d13, .bool s2, .int .u64 n20, .int .u64 n21, .int .u64 n22, .int .u64 n23, .bool t2, .int .u64 d20, .int .u64 d21, .int .u64 d22, .int .u64 d23]] w fun e w' => e = .returned (.int .i64 v) ∧ Below w.heap.size w w' := by
 have ix0 := at_rat0 s1 t1 s2 t2 n10 d10 n20 d20 n11 d11 n21 d21 n12 d12 n22 d22 n13 d13 n23 d23
 have ix1 := at_rat1 s1 t1 s2 t2 n10 d10 n20 d20 n11 d11 n21 d21 n12 d12 n22 d22 n13 d13 n23 d23
 have HW := Lib.hid hway
 clear hway
 go_enter Tryz.func86, Tryz.ntmps86
 go_wp2_with fail
 generalize hW : World.alloc _ _ = W0
 have hB : Below w.heap.size w W0 := by rw [← hW]; exact (Below.refl _ _).alloc (Nat.le_refl _) _
 clear hW
 refine wp_loop_rounds 3 ?_
 rw [rounds_succ]
 go_wp2_with fail
 generalize hW : World.alloc _ _ = W1
 have hR : Row W1 W0.heap.size [.bool s1, .int .u64 n10, .int .u64 n11, .int .u64 n12, .int .u64 n13, .bool t1, .int .u64 d10, .int .u64 d11, .int .u64 d12, .int .u64 d13] := by rw [← hW]; exact Row.at rfl _ _
 replace hB : Below w.heap.size w W1 := by rw [← hW]; exact hB.alloc hB.size _
 clear hW
 have HX := Lib.hid (And.intro hR hB)
 have x0 := HX.out.1.c 0 rfl
 have x1 := HX.out.1.c 1 rfl
 have x2 := HX.out.1.c 2 rfl
 have x3 := HX.out.1.c 3 rfl
 have x4 := HX.out.1.c 4 rfl
 have x5 := HX.out.1.c 5 rfl
 have x6 := HX.out.1.c 6 rfl
 have x7 := HX.out.1.c 7 rfl
 have x8 := HX.out.1.c 8 rfl
 have x9 := HX.out.1.c 9 rfl
 clear hR hB ix0
 generalize W0.heap.size = k0 at *
 go_wp2_with fail
 refine (H1.out _).mono ?_
 rintro e W2 ⟨rfl, hb⟩
 replace HX := Lib.hid (And.intro (HX.out.1.after hb) (HX.out.2.trans (hb.mono HX.out.2.size)))
 clear hb x0 x1 x2 x3 x4 x5 x6 x7 x8 x9
 have hway := HW.out
 by_cases hg1 : g1 = true
 ·obtain rfl : v = 2 := by
   rcases hway with ⟨_, h⟩ | ⟨q, _⟩ | ⟨q, _⟩ | ⟨q, _⟩ | ⟨q, _⟩
   ·exact h
   all_goals (rw [hg1] at q; cases q)
  subst hg1
  clear hway HW
  go_wp2_with fail
  go_ret
  exact ⟨rfl, HX.out.2⟩
 have hg1' : g1 = false := by simpa using hg1
 clear hg1
 subst hg1'
 have x0 := HX.out.1.c 0 rfl
 have x1 := HX.out.1.c 1 rfl
 have x2 := HX.out.1.c 2 rfl
 have x3 := HX.out.1.c 3 rfl
 have x4 := HX.out.1.c 4 rfl
 have x5 := HX.out.1.c 5 rfl
 have x6 := HX.out.1.c 6 rfl
 have x7 := HX.out.1.c 7 rfl
 have x8 := HX.out.1.c 8 rfl
 have x9 := HX.out.1.c 9 rfl
 go_wp2_with fail
 refine (K1.out _ HX.out.2).mono ?_
 rintro e W3 ⟨rfl, hb⟩
 replace HX := Lib.hid (And.intro (HX.out.1.after hb) (HX.out.2.trans (hb.mono HX.out.2.size)))
 clear hb x0 x1 x2 x3 x4 x5 x6 x7 x8 x9
 cases hc1 : (c1 != 0) with
 | true =>
   obtain rfl : v = 2 := by
    rcases hway with ⟨h, _⟩ | ⟨_, _, h⟩ | ⟨_, q, _⟩ | ⟨_, q, _⟩ | ⟨_, q, _⟩
    ·cases h
    ·exact h
    all_goals (rw [hc1] at q; cases q)
   clear hway HW
   go_wp2_with fail
   go_ret
   exact ⟨rfl, HX.out.2⟩
 | false =>
 go_wp2_with fail
 rw [rounds_succ]
 go_wp2_with fail
 generalize hW : World.alloc _ _ = W4
 have hR : Row W4 W3.heap.size [.bool s2, .int .u64 n20, .int .u64 n21, .int .u64 n22, .int .u64 n23, .bool t2, .int .u64 d20, .int .u64 d21, .int .u64 d22, .int .u64 d23] := by rw [← hW]; exact Row.at rfl _ _
 have hB : Below w.heap.size w W4 := by rw [← hW]; exact HX.out.2.alloc HX.out.2.size _
 clear hW HX
 have HX := Lib.hid (And.intro hR hB)
 have x0 := HX.out.1.c 0 rfl
 have x1 := HX.out.1.c 1 rfl
 have x2 := HX.out.1.c 2 rfl
 have x3 := HX.out.1.c 3 rfl
 have x4 := HX.out.1.c 4 rfl
 have x5 := HX.out.1.c 5 rfl
 have x6 := HX.out.1.c 6 rfl
 have x7 := HX.out.1.c 7 rfl
 have x8 := HX.out.1.c 8 rfl
 have x9 := HX.out.1.c 9 rfl
 clear hR hB ix1
 generalize W3.heap.size = k3 at *
 go_wp2_with fail
 refine (H2.out _).mono ?_
 rintro e W5 ⟨rfl, hb⟩
 replace HX := Lib.hid (And.intro (HX.out.1.after hb) (HX.out.2.trans (hb.mono HX.out.2.size)))
 clear hb x0 x1 x2 x3 x4 x5 x6 x7 x8 x9
 by_cases hg2 : g2 = true
 ·obtain rfl : v = 2 := by
   rcases hway with ⟨h, _⟩ | ⟨_, q, _⟩ | ⟨_, _, _, h⟩ | ⟨_, _, q, _⟩ | ⟨_, _, q, _⟩
   ·cases h
   ·rw [hc1] at q; cases q
   ·exact h
   all_goals (rw [hg2] at q; cases q)
  subst hg2
  clear hway HW
  go_wp2_with fail
  go_ret
  exact ⟨rfl, HX.out.2⟩
 have hg2' : g2 = false := by simpa using hg2
 clear hg2
 subst hg2'
 have x0 := HX.out.1.c 0 rfl
 have x1 := HX.out.1.c 1 rfl
 have x2 := HX.out.1.c 2 rfl
 have x3 := HX.out.1.c 3 rfl
 have x4 := HX.out.1.c 4 rfl
 have x5 := HX.out.1.c 5 rfl
 have x6 := HX.out.1.c 6 rfl
 have x7 := HX.out.1.c 7 rfl
 have x8 := HX.out.1.c 8 rfl
 have x9 := HX.out.1.c 9 rfl
 go_wp2_with fail
 refine (K2.out _ HX.out.2).mono ?_
 rintro e W6 ⟨rfl, hb⟩
 replace HX := Lib.hid (And.intro (HX.out.1.after hb) (HX.out.2.trans (hb.mono HX.out.2.size)))
 clear hb x0 x1 x2 x3 x4 x5 x6 x7 x8 x9
 cases hc2 : (c2 != 0) with
 | true =>
   obtain rfl : v = 2 := by
    rcases hway with ⟨h, _⟩ | ⟨_, q, _⟩ | ⟨_, _, h, _⟩ | ⟨_, _, _, _, h⟩ | ⟨_, _, _, q, _⟩
    ·cases h
    ·rw [hc1] at q; cases q
    ·cases h
    ·exact h
    ·rw [hc2] at q; cases q
   clear hway HW
   go_wp2_with fail
   go_ret
   exact ⟨rfl, HX.out.2⟩
 | false =>
   obtain rfl : v = 0 := by
    rcases hway with ⟨h, _⟩ | ⟨_, q, _⟩ | ⟨_, _, h, _⟩ | ⟨_, _, _, q, _⟩ | ⟨_, _, _, _, h⟩
    ·cases h
    ·rw [hc1] at q; cases q
    ·cases h
    ·rw [hc2] at q; cases q
    ·exact h
   clear hway HW
   go_wp2_with fail
   rw [rounds_succ]
   go_wp2_with fail
   go_ret
   exact ⟨rfl, HX.out.2⟩
def pO (a b c d : Option Int) : Array Value := #[.bool (oS a), .int .u64 (W64 (oM a) 0 : Nat), .int .u64 (W64 (oM a) 1 : Nat), .int .u64 (W64 (oM a) 2 : Nat), .int .u64 (W64 (oM a) 3 : Nat), .bool (oS b), .int .u64 (W64 (oM b) 0 : Nat), .int .u64 (W64 (oM b) 1 : Nat), .int .u64 (W64 (oM b) 2 : Nat), .int .u64 (W64 (oM b) 3 : Nat), .bool (oS c), .int .u64 (W64 (oM c) 0 : Nat), .int .u64 (W64 (oM c) 1 : Nat), .int .u64 (W64 (oM c) 2 : Nat), .int .u64 (W64 (oM c) 3 : Nat), .bool (oS d), .int .u64 (W64 (oM d) 0 : Nat), .int .u64 (W64 (oM d) 1 : Nat), .int .u64 (W64 (oM d) 2 : Nat), .int .u64 (W64 (oM d) 3 : Nat)]
theorem pO_one (a b c d : Option Int) : OneC (pO a b c d) := by simp [OneC, pO, Value.oneCell']
def okB (a b : Option Int) : Bool := !grB a b && riB a b
theorem pright_O (a b c d : Option Int) (ha : oM a < T256) (hb : oM b < T256) (hc : oM c < T256) (hd : oM d < T256) (w : World) (ht : TabTz w) (hw0 : 3 < w.heap.size) :
 Calls Tryz.prog 86 #[.agg (pO a b c d)] w fun e w' => e = .returned (.int .i64 (if (okB a b && okB c d) = true then 0 else 2)) ∧ Below w.heap.size w w' := by
 refine prightO_core _ _ _ _ _ _ _ _ _ _ _ _ _ _ _ _ _ _ _ _ (grB a b) (grB c d) (if riB a b = true then 0 else 2) (if riB c d = true then 0 else 2) _ w (Lib.hid (fun W => great_O a b ha hb W)) (Lib.hid (fun W => great_O c d hc hd W))
  (Lib.hid (fun W hW => check_O a b ha hb W (ht.below hw0 hW) (Nat.lt_of_lt_of_le hw0 hW.size))) (Lib.hid (fun W hW => check_O c d hc hd W (ht.below hw0 hW) (Nat.lt_of_lt_of_le hw0 hW.size))) ?_
 unfold okB
 cases grB a b <;> cases riB a b <;> cases grB c d <;> cases riB c d <;> decide
end Go.Proofs.YtdfmmkidknginaaGreatDoor

namespace Go.Proofs.YtdfmmkidknginaaGreatDoor
open Go.RowKit
theorem arr10 (a : Array Value) (h : a.size = 10) : ∃ x0 x1 x2 x3 x4 x5 x6 x7 x8 x9, a = #[x0, x1, x2, x3, x4, x5, x6, x7, x8, x9] := by
 refine ⟨a[0], a[1], a[2], a[3], a[4], a[5], a[6], a[7], a[8], a[9], ?_⟩
 refine Array.ext (by simp [h]) (fun i h1 h2 => ?_)
 match i, h2 with
 | 0, _ | 1, _ | 2, _ | 3, _ | 4, _ | 5, _ | 6, _ | 7, _ | 8, _ | 9, _ => rfl
 | i + 10, h2 => simp at h2; omega
theorem arr20 (a : Array Value) (h : a.size = 20) : ∃ x0 x1 x2 x3 x4 x5 x6 x7 x8 x9 x10 x11 x12 x13 x14 x15 x16 x17 x18 x19, a = #[x0, x1, x2, x3, x4, x5, x6, x7, x8, x9, x10, x11, x12, x13, x14, x15, x16, x17, x18, x19] := by
 refine ⟨a[0], a[1], a[2], a[3], a[4], a[5], a[6], a[7], a[8], a[9], a[10], a[11], a[12], a[13], a[14], a[15], a[16], a[17], a[18], a[19], ?_⟩
 refine Array.ext (by simp [h]) (fun i h1 h2 => ?_)
 match i, h2 with
 | 0, _ | 1, _ | 2, _ | 3, _ | 4, _ | 5, _ | 6, _ | 7, _ | 8, _ | 9, _ | 10, _ | 11, _ | 12, _ | 13, _ | 14, _ | 15, _ | 16, _ | 17, _ | 18, _ | 19, _ => rfl
 | i + 20, h2 => simp at h2; omega
theorem two_size (p : Array Value) (hp : p.size = 10) : (Array.foldl (fun cs x => cs.setIfInBounds x.snd x.fst) #[.bool false, .int .u64 0, .int .u64 0, .int .u64 0, .int .u64 0, .bool false, .int .u64 0, .int .u64 0, .int .u64 0, .int .u64 0, .bool false, .int .u64 0, .int .u64 0, .int .u64 0, .int .u64 0, .bool false, .int .u64 0, .int .u64 0, .int .u64 0, .int .u64 0] p.zipIdx 0 10).size = 20 := by
 obtain ⟨p0, p1, p2, p3, p4, p5, p6, p7, p8, p9, rfl⟩ := arr10 p hp
 kernel_rfl
theorem two_made (p q : Array Value) (hp : p.size = 10) (hq : q.size = 10) : Array.foldl (fun cs x => cs.setIfInBounds (10 + x.snd) x.fst) (Array.foldl (fun cs x => cs.setIfInBounds x.snd x.fst) #[.bool false, .int .u64 0, .int .u64 0, .int .u64 0, .int .u64 0, .bool false, .int .u64 0, .int .u64 0, .int .u64 0, .int .u64 0, .bool false, .int .u64 0, .int .u64 0, .int .u64 0, .int .u64 0, .bool false, .int .u64 0, .int .u64 0, .int .u64 0, .int .u64 0] p.zipIdx 0 10) q.zipIdx 0 10 = p ++ q := by
 obtain ⟨p0, p1, p2, p3, p4, p5, p6, p7, p8, p9, rfl⟩ := arr10 p hp
 obtain ⟨q0, q1, q2, q3, q4, q5, q6, q7, q8, q9, rfl⟩ := arr10 q hq
 kernel_rfl
theorem agg_point : AggTy Tryz.prog 46 20 := .of _ Tryz.underlying46 rfl (by kernel_rfl)
theorem OneC.append {a b : Array Value} (ha : OneC a) (hb : OneC b) : OneC (a ++ b) := by
 unfold OneC at *
 simp only [Array.all_append, ha, hb, Bool.and_self]
def dotA (x y : Int) : Array Value := ratA x 1 ++ ratA y 1
theorem dotA_size (x y : Int) : (dotA x y).size = 20 := rfl
theorem dotA_one (x y : Int) : OneC (dotA x y) := (ratA_one _ _).append (ratA_one _ _)
abbrev nodeA (x y : Int) : Array Value := #[.int .i64 x, .int .i64 y]
theorem in_i64 {x : Int} (h : Bd x) : -9223372036854775808 ≤ x ∧ x ≤ 9223372036854775807 := by unfold Bd at h; omega
set_option maxRecDepth 100000 in
set_option maxHeartbeats 1600000 in
theorem pointof_num (x y : Int) (w : World) (hx : Bd x) (hy : Bd y) :
 Calls Tryz.prog 119 #[nodeV x y] w fun e w' => e = .returned (.tuple #[.agg (dotA x y), .int .i64 0]) ∧ Below w.heap.size w w' := by
 have HX := Lib.hid (fun W => ratof_num x (in_i64 hx).1 (in_i64 hx).2 W)
 have HY := Lib.hid (fun W => ratof_num y (in_i64 hy).1 (in_i64 hy).2 W)
 have HC : Hid (∀ W, Calls Tryz.prog 37 #[nodeV x y] W fun e w' => e = .returned (.int .i64 0) ∧ Below W.heap.size W w') := Lib.hid (fun W => by
  have h := nodes_any x y W
  rw [(inB_iff x).2 hx, (inB_iff y).2 hy] at h
  exact h)
 clear hx hy
 unfold nodeV at *
 go_enter Tryz.func119, Tryz.ntmps119
 go_wp2_with fail
 refine (HC.out _).mono ?_
 rintro e w1 ⟨rfl, hb⟩
 have hK : KT w ([] ++ [(w.heap.size, nodeA x y)]) ([] ++ [(w.heap.size + 1, 20)]) w1 := ((KT.of ((KS.nil w).boxed rfl _ 23)).made (by simp) zero_point 46 rfl).after hb
 clear hb HC
 generalize hL : [] ++ [(w.heap.size, nodeA x y)] = L at hK
 generalize hM : [] ++ [(w.heap.size + 1, 20)] = M at hK
 have HL := Lib.hid hL; clear hL
 have HM := Lib.hid (show (w.heap.size + 1, 20) ∈ M by rw [← hM]; simp); clear hM
 go_wp2_with fail
 have l0 : ∀ W, KT w L M W → W.cell? ⟨w.heap.size, 0, none⟩ = some (.int .i64 x) := fun W h => h.c 0 (by rw [← HL.out]; rfl) 0 rfl
 have l1 : ∀ W, KT w L M W → W.cell? ⟨w.heap.size, 1, none⟩ = some (.int .i64 y) := fun W h => h.c 0 (by rw [← HL.out]; rfl) 1 rfl
 have s1 : ∀ W, KT w L M W → (storeCells ⟨w.heap.size + 1, 0, none⟩ (dotA x y).toList).run Tryz.prog W = .ok () (W.setCells (w.heap.size + 1) 0 (dotA x y).toList) := fun W h => (h.2 _ HM.out).1.store _ rfl (dotA_one x y)
 have hs := dotA_size x y
 have hs1 := ratA_size x 1
 have hs2 := ratA_size y 1
 have hz1 := two_size (ratA x 1) rfl
 have hz2 : Array.foldl (fun cs x => cs.setIfInBounds (10 + x.snd) x.fst) (Array.foldl (fun cs x => cs.setIfInBounds x.snd x.fst) #[.bool false, .int .u64 0, .int .u64 0, .int .u64 0, .int .u64 0, .bool false, .int .u64 0, .int .u64 0, .int .u64 0, .int .u64 0, .bool false, .int .u64 0, .int .u64 0, .int .u64 0, .int .u64 0, .bool false, .int .u64 0, .int .u64 0, .int .u64 0, .int .u64 0] (ratA x 1).zipIdx 0 10) (ratA y 1).zipIdx 0 10 = dotA x y := two_made (ratA x 1) (ratA y 1) rfl rfl
 go_region_held3 (fun w' : World => KT w L M w')
  (first
    | (with_reducible refine KT.drew ?_; with_reducible assumption)
    | (with_reducible refine KT.put ?_ HM.out _; with_reducible assumption)
    | (with_reducible refine KT.alloc ?_ _; with_reducible assumption)
    | (with_reducible refine KT.after ?_ hb; with_reducible assumption))
  (first
    | (go_at_call 137; (with_reducible refine (HX.out _).mono ?_); rintro e w' ⟨rfl, hb⟩)
    | (go_at_call 137; (with_reducible refine (HY.out _).mono ?_); rintro e w' ⟨rfl, hb⟩))
 all_goals
  have hq := ‹KT w L M _›
  have hr := hq.put_row HM.out (by simpa using hs)
  go_wp2
  exact bodyPost_ret (results_R2 (cs := dotA x y) rfl rfl hr agg_point) rfl ⟨rfl, hq.1.2⟩
end Go.Proofs.YtdfmmkidknginaaGreatDoor

namespace Go.Proofs.YtdfmmkidknginaaGreatDoor
open Go.RowKit
theorem DS.on {W W' : World} {m X : Nat} {A : Option Addr} {s : Bool} (h : DS W m A) (ho : On W W' X) (hX : W.cell? ⟨X, 0, none⟩ = some (.bool s)) : DS W' m A := fun hm => by
 obtain ⟨b, rfl, hl, hx⟩ := h hm
 have hne : b ≠ X := fun e => by
  subst e
  have := hx 0 hm
  rw [hX] at this
  cases this
 exact ⟨b, rfl, by rw [ho.size]; exact hl, fun i hi => (ho.cell (p := ⟨b, i, none⟩) hne).trans (hx i hi)⟩
theorem agg_rrat : AggTy Tryz.prog 55 4 := .of _ Tryz.underlying55 rfl (by kernel_rfl)
theorem agg_rpoint : AggTy Tryz.prog 57 8 := .of _ Tryz.underlying57 rfl (by kernel_rfl)
def RatPost (w : World) (s : Bool) (m k j : Nat) (e : Ending) (w' : World) : Prop := ∃ A c B d, e = .returned (.agg #[.bool s, .slice A k c, .bool false, .slice B j d]) ∧ DS w' m A ∧ DS w' 1 B ∧ Below w.heap.size w w'
theorem one_z (w : World) : Calls Tryz.prog 80 #[.int .i64 1] w fun e w' => ∃ A c, e = .returned (.agg #[.bool false, .slice A (L16 1) c]) ∧ DS w' 1 A ∧ Below w.heap.size w w' := by
 refine (num_z 1 w (by decide) (by decide)).mono ?_
 rintro e w' ⟨A, c, rfl, _, hd, hb⟩
 exact ⟨A, c, rfl, hd, hb⟩
set_option maxRecDepth 100000 in
set_option maxHeartbeats 1600000 in
theorem rnum_any (n : Int) (w : World) (h1 : -9223372036854775808 ≤ n) (h2 : n ≤ 9223372036854775807) :
 Calls Tryz.prog 45 #[.int .i64 n] w (RatPost w (decide (n < 0)) n.natAbs (L16 n.natAbs) (L16 1)) := by
 have H1 : Hid (∀ W, Calls Tryz.prog 80 #[.int .i64 n] W fun e w' => ∃ A c, e = .returned (.agg #[.bool (decide (n < 0)), .slice A (L16 n.natAbs) c]) ∧ DS w' n.natAbs A ∧ Below W.heap.size W w') := Lib.hid (fun W => by
  refine (num_z n W h1 h2).mono ?_
  rintro e w' ⟨A, c, rfl, _, hd, hb⟩
  exact ⟨A, c, rfl, hd, hb⟩)
 have H2 := Lib.hid one_z
 clear h1 h2
 generalize decide (n < 0) = s at *
 generalize n.natAbs = m at *
 generalize L16 m = k at *
 generalize L16 1 = j at *
 go_enter Tryz.func45, Tryz.ntmps45
 go_wp2_with fail
 generalize hW : World.alloc _ _ = W0
 have r0 : Row W0 w.heap.size [.bool false, .slice none 0 0, .bool false, .slice none 0 0] := by rw [← hW]; exact Row.at rfl _ _
 have hB : Below w.heap.size w W0 := by rw [← hW]; exact (Below.refl w.heap.size w).alloc (Nat.le_refl _) _
 clear hW
 refine (H1.out _).mono ?_
 rintro e w1 ⟨A, c, rfl, hd, hb⟩
 replace r0 := r0.after hb
 replace hB := hB.trans (hb.mono hB.size)
 clear hb
 have hd1 := Lib.hid hd
 clear hd
 go_wp2_with fail
 refine (H2.out _).mono ?_
 rintro e w2 ⟨B, d, rfl, hd2, hb⟩
 replace r0 := r0.after hb
 replace hB := hB.trans (hb.mono hB.size)
 have HD := Lib.hid (And.intro (hd1.out.below hb) hd2)
 clear hb hd1 hd2
 have hX := Lib.hid (r0.c 0 rfl)
 have HB := Lib.hid hB
 clear hB
 go_wp2_with (refine wpList_store_R rfl _ _ _ rfl _ #[.bool s, .slice A k c, .bool false, .slice B j d] rfl rfl _ r0 (by rfl) agg_rrat (by simp [OneC, Value.oneCell']) ?_; intro w3 r3 o3)
 exact bodyPost_ret (results_R1 (cs := #[.bool s, .slice A k c, .bool false, .slice B j d]) rfl rfl r3 agg_rrat) rfl ⟨A, c, B, d, rfl, HD.out.1.on o3 hX.out, HD.out.2.on o3 hX.out, below_on HB.out o3 (Nat.le_refl _)⟩
set_option maxRecDepth 100000 in
set_option maxHeartbeats 1600000 in
theorem rout_core (s t p q : Bool) (a0 a1 a2 a3 b0 b1 b2 b3 : Int) (A B : Option Addr) (k c j d : Nat) (w : World)
 (h1 : ∀ W, Below w.heap.size w W → Calls Tryz.prog 77 #[.agg #[.bool p, .slice A k c]] W fun e w' => e = .returned (.tuple #[.agg #[.bool s, .int .u64 a0, .int .u64 a1, .int .u64 a2, .int .u64 a3], .int .i64 0]) ∧ Below W.heap.size W w')
 (h2 : ∀ W, Below w.heap.size w W → Calls Tryz.prog 77 #[.agg #[.bool q, .slice B j d]] W fun e w' => e = .returned (.tuple #[.agg #[.bool t, .int .u64 b0, .int .u64 b1, .int .u64 b2, .int .u64 b3], .int .i64 0]) ∧ Below W.heap.size W w') :
 Calls Tryz.prog 43 #[.agg #[.bool p, .slice A k c, .bool q, .slice B j d]] w fun e w' => e = .returned (.tuple #[.agg #[.bool s, .int .u64 a0, .int .u64 a1, .int .u64 a2, .int .u64 a3, .bool t, .int .u64 b0, .int .u64 b1, .int .u64 b2, .int .u64 b3], .int .i64 0]) ∧ Below w.heap.size w w' := by
 have H1 := Lib.hid h1; clear h1
 have H2 := Lib.hid h2; clear h2
 have oA : OneC #[.bool s, .int .u64 a0, .int .u64 a1, .int .u64 a2, .int .u64 a3] := by simp [OneC, Value.oneCell']
 have oB : OneC #[.bool t, .int .u64 b0, .int .u64 b1, .int .u64 b2, .int .u64 b3] := by simp [OneC, Value.oneCell']
 have oR : OneC #[.bool s, .int .u64 a0, .int .u64 a1, .int .u64 a2, .int .u64 a3, .bool t, .int .u64 b0, .int .u64 b1, .int .u64 b2, .int .u64 b3] := by simp [OneC, Value.oneCell']
 go_enter Tryz.func43, Tryz.ntmps43
 go_wp2_with fail
 generalize hW : World.alloc _ _ = W0
 have rX : Row W0 w.heap.size [.bool p, .slice A k c, .bool q, .slice B j d] := by rw [← hW]; exact (Row.at rfl _ _).alloc _
 have rZ : Row W0 (w.heap.size + 1) zero_rat.toList := by rw [← hW]; exact Row.at (by simp) _ _
 have hB : Below w.heap.size w W0 := by rw [← hW]; exact ((Below.refl w.heap.size w).alloc (Nat.le_refl _) _).alloc (by simp) _
 clear hW
 have x0 := rX.c 0 rfl
 have x1 := rX.c 1 rfl
 go_wp2_with fail
 clear x0 x1
 refine (H1.out _ hB).mono ?_
 rintro e w1 ⟨rfl, hb⟩
 replace rX := rX.after hb
 replace rZ := rZ.after hb
 replace hB := hB.trans (hb.mono hB.size)
 clear hb
 go_upto_region 2 with (refine wpList_store_R rfl _ _ _ rfl _ #[.bool s, .int .u64 a0, .int .u64 a1, .int .u64 a2, .int .u64 a3] rfl rfl _ (Row.at rfl zero_int.toList _) (by rfl) agg_int oA ?_; intro w2 r2 o2)
 have l1 : w.heap.size + 1 < w1.heap.size := rZ.lt
 replace rX := o2.row (by omega) (rX.alloc _)
 replace rZ := o2.row (by omega) (rZ.alloc _)
 replace hB := below_on (hB.alloc hB.size _) o2 hB.size
 clear o2
 generalize w1.heap.size = C at *
 have x2 := rX.c 2 rfl
 have x3 := rX.c 3 rfl
 go_wp2_with fail
 clear x2 x3
 refine (H2.out _ hB).mono ?_
 rintro e w3 ⟨rfl, hb⟩
 replace rX := rX.after hb
 replace rZ := rZ.after hb
 replace r2 := r2.after hb
 replace hB := hB.trans (hb.mono hB.size)
 clear hb
 go_upto_region 3 with (refine wpList_store_R rfl _ _ _ rfl _ #[.bool t, .int .u64 b0, .int .u64 b1, .int .u64 b2, .int .u64 b3] rfl rfl _ (Row.at rfl zero_int.toList _) (by rfl) agg_int oB ?_; intro w4 r4 o4)
 have l3 : C < w3.heap.size := r2.lt
 have l4 : w.heap.size + 1 < w3.heap.size := rZ.lt
 replace rZ := o4.row (by omega) (rZ.alloc _)
 replace r2 := o4.row (by omega) (r2.alloc _)
 replace hB := below_on (hB.alloc hB.size _) o4 hB.size
 clear o4 rX
 generalize w3.heap.size = D at *
 have y0 := r2.c 0 rfl
 have y1 := r2.c 1 rfl
 have y2 := r2.c 2 rfl
 have y3 := r2.c 3 rfl
 have y4 := r2.c 4 rfl
 have z0 := r4.c 0 rfl
 have z1 := r4.c 1 rfl
 have z2 := r4.c 2 rfl
 have z3 := r4.c 3 rfl
 have z4 := r4.c 4 rfl
 have HB := Lib.hid hB
 clear hB l1 l3 l4
 go_wp2_with (refine wpList_store_R rfl _ _ _ rfl _ #[.bool s, .int .u64 a0, .int .u64 a1, .int .u64 a2, .int .u64 a3, .bool t, .int .u64 b0, .int .u64 b1, .int .u64 b2, .int .u64 b3] rfl rfl _ rZ (by rfl) agg_rat oR ?_; intro w5 r5 o5)
 exact bodyPost_ret (results_R2 (cs := #[.bool s, .int .u64 a0, .int .u64 a1, .int .u64 a2, .int .u64 a3, .bool t, .int .u64 b0, .int .u64 b1, .int .u64 b2, .int .u64 b3]) rfl rfl r5 agg_rat) rfl ⟨rfl, below_on HB.out o5 (by omega)⟩
theorem fits_any (p q : Bool) (A B : Option Addr) (k c j d : Nat) (w : World) (hk : k ≤ 6) (hj : j ≤ 4) :
 Calls Tryz.prog 55 #[.agg #[.bool p, .slice A k c, .bool q, .slice B j d]] w fun e w' => e = .returned (.bool true) ∧ Below w.heap.size w w' := by
 have h1 : (k : Int) ≤ 6 := by omega
 have h2 : (j : Int) ≤ 4 := by omega
 have HB := Lib.hid ((Below.refl w.heap.size w).alloc (Nat.le_refl _) (.cells #[.bool p, .slice A k c, .bool q, .slice B j d] 55))
 go_enter Tryz.func55, Tryz.ntmps55
 have r0 := Row.at (w := w) rfl [.bool p, .slice A k c, .bool q, .slice B j d] 55
 have x0 := r0.c 0 rfl
 have x1 := r0.c 1 rfl
 have x2 := r0.c 2 rfl
 have x3 := r0.c 3 rfl
 clear r0
 go_upto_region 1 with fail
 go_quiet (fail)
 go_wp2
 go_ret
 exact ⟨rfl, below_drewN HB.out _⟩
theorem KT.put8 {w W : World} {L : List (Nat × Array Value)} {M : List (Nat × Nat)} {b n : Nat} (h : KT w L M W) (hm : (b, n) ∈ M) (y0 y1 y2 y3 y4 y5 y6 y7 : Value) :
 KT w L M ((((((((W.setCell ⟨b, 0, none⟩ y0).setCell ⟨b, 1, none⟩ y1).setCell ⟨b, 2, none⟩ y2).setCell ⟨b, 3, none⟩ y3).setCell ⟨b, 4, none⟩ y4).setCell ⟨b, 5, none⟩ y5).setCell ⟨b, 6, none⟩ y6).setCell ⟨b, 7, none⟩ y7) := h.put hm [y0, y1, y2, y3, y4, y5, y6, y7]
theorem DS.put8 {W : World} {m b : Nat} {A : Option Addr} {s : Bool} (h : DS W m A) (hX : W.cell? ⟨b, 0, none⟩ = some (.bool s)) (y0 y1 y2 y3 y4 y5 y6 y7 : Value) :
 DS ((((((((W.setCell ⟨b, 0, none⟩ y0).setCell ⟨b, 1, none⟩ y1).setCell ⟨b, 2, none⟩ y2).setCell ⟨b, 3, none⟩ y3).setCell ⟨b, 4, none⟩ y4).setCell ⟨b, 5, none⟩ y5).setCell ⟨b, 6, none⟩ y6).setCell ⟨b, 7, none⟩ y7) m A := h.on (On.setCells W b [y0, y1, y2, y3, y4, y5, y6, y7] 0 W (On.refl W b)) hX
def PtPost (w : World) (s t : Bool) (m n k i j : Nat) (e : Ending) (w' : World) : Prop := ∃ A c B d E f G h, e = .returned (.agg #[.bool s, .slice A k c, .bool false, .slice B j d, .bool t, .slice E i f, .bool false, .slice G j h]) ∧ (DS w' m A ∧ DS w' 1 B ∧ DS w' n E ∧ DS w' 1 G) ∧ Below w.heap.size w w'
set_option maxRecDepth 100000 in
set_option maxHeartbeats 3200000 in
theorem ptof_core (x y : Int) (s t : Bool) (m n k i j : Nat) (w : World)
 (h1 : ∀ W, Calls Tryz.prog 45 #[.int .i64 x] W (RatPost W s m k j)) (h2 : ∀ W, Calls Tryz.prog 45 #[.int .i64 y] W (RatPost W t n i j)) :
 Calls Tryz.prog 61 #[.agg (nodeA x y)] w (PtPost w s t m n k i j) := by
 have H1 := Lib.hid h1; clear h1
 have H2 := Lib.hid h2; clear h2
 go_enter Tryz.func61, Tryz.ntmps61
 go_upto_region 1 with fail
 generalize hW : World.alloc _ _ = W0
 have hK : KT w ([] ++ [(w.heap.size, nodeA x y)]) ([] ++ [(w.heap.size + 1, 8)]) W0 := by
  rw [← hW]
  exact (KT.of ((KS.nil w).boxed rfl _ _)).made (by simp) _ _ rfl
 have z0 : W0.cell? ⟨w.heap.size + 1, 0, none⟩ = some (.bool false) := by rw [← hW]; exact (Row.at (by simp) [.bool false, .slice none 0 0, .bool false, .slice none 0 0, .bool false, .slice none 0 0, .bool false, .slice none 0 0] _).c 0 rfl
 have hz : w.heap.size + 1 < W0.heap.size := by rw [← hW]; simp
 clear hW
 generalize hL : [] ++ [(w.heap.size, nodeA x y)] = L at hK
 have HL := Lib.hid hL; clear hL
 have HM : Hid ((w.heap.size + 1, 8) ∈ ([] ++ [(w.heap.size + 1, 8)] : List (Nat × Nat))) := Lib.hid (by simp)
 generalize [] ++ [(w.heap.size + 1, 8)] = M at hK HM
 have l0 : ∀ W, KT w L M W → W.cell? ⟨w.heap.size, 0, none⟩ = some (.int .i64 x) := fun W h => h.c 0 (by rw [← HL.out]; rfl) 0 rfl
 have l1 : ∀ W, KT w L M W → W.cell? ⟨w.heap.size, 1, none⟩ = some (.int .i64 y) := fun W h => h.c 0 (by rw [← HL.out]; rfl) 1 rfl
 have xc0 : ∀ W, KT w L M W → W.cell? ⟨w.heap.size + 1, 0, none⟩ = some (cellAt W (w.heap.size + 1) 0) := fun W h => h.here HM.out 0 (by omega)
 have xf0 : ∀ W, KT w L M W → W.frozen? ⟨w.heap.size + 1, 0, none⟩ = false := fun W h => h.free HM.out 0 (by omega)
 have xc1 : ∀ W, KT w L M W → W.cell? ⟨w.heap.size + 1, 1, none⟩ = some (cellAt W (w.heap.size + 1) 1) := fun W h => h.here HM.out 1 (by omega)
 have xf1 : ∀ W, KT w L M W → W.frozen? ⟨w.heap.size + 1, 1, none⟩ = false := fun W h => h.free HM.out 1 (by omega)
 have xc2 : ∀ W, KT w L M W → W.cell? ⟨w.heap.size + 1, 2, none⟩ = some (cellAt W (w.heap.size + 1) 2) := fun W h => h.here HM.out 2 (by omega)
 have xf2 : ∀ W, KT w L M W → W.frozen? ⟨w.heap.size + 1, 2, none⟩ = false := fun W h => h.free HM.out 2 (by omega)
 have xc3 : ∀ W, KT w L M W → W.cell? ⟨w.heap.size + 1, 3, none⟩ = some (cellAt W (w.heap.size + 1) 3) := fun W h => h.here HM.out 3 (by omega)
 have xf3 : ∀ W, KT w L M W → W.frozen? ⟨w.heap.size + 1, 3, none⟩ = false := fun W h => h.free HM.out 3 (by omega)
 have xc4 : ∀ W, KT w L M W → W.cell? ⟨w.heap.size + 1, 4, none⟩ = some (cellAt W (w.heap.size + 1) 4) := fun W h => h.here HM.out 4 (by omega)
 have xf4 : ∀ W, KT w L M W → W.frozen? ⟨w.heap.size + 1, 4, none⟩ = false := fun W h => h.free HM.out 4 (by omega)
 have xc5 : ∀ W, KT w L M W → W.cell? ⟨w.heap.size + 1, 5, none⟩ = some (cellAt W (w.heap.size + 1) 5) := fun W h => h.here HM.out 5 (by omega)
 have xf5 : ∀ W, KT w L M W → W.frozen? ⟨w.heap.size + 1, 5, none⟩ = false := fun W h => h.free HM.out 5 (by omega)
 have xc6 : ∀ W, KT w L M W → W.cell? ⟨w.heap.size + 1, 6, none⟩ = some (cellAt W (w.heap.size + 1) 6) := fun W h => h.here HM.out 6 (by omega)
 have xf6 : ∀ W, KT w L M W → W.frozen? ⟨w.heap.size + 1, 6, none⟩ = false := fun W h => h.free HM.out 6 (by omega)
 have xc7 : ∀ W, KT w L M W → W.cell? ⟨w.heap.size + 1, 7, none⟩ = some (cellAt W (w.heap.size + 1) 7) := fun W h => h.here HM.out 7 (by omega)
 have xf7 : ∀ W, KT w L M W → W.frozen? ⟨w.heap.size + 1, 7, none⟩ = false := fun W h => h.free HM.out 7 (by omega)
 have hk0 := hK.drew
 have z0 : W0.drew.cell? ⟨w.heap.size + 1, 0, none⟩ = some (.bool false) := z0
 have hz : w.heap.size + 1 < W0.drew.heap.size := hz
 go_region_held3 (fun w' : World => KT w L M w')
  (repeat (first
    | (with_reducible assumption)
    | (with_reducible refine KT.put8 ?_ HM.out _ _ _ _ _ _ _ _)
    | (with_reducible refine KT.drew ?_)
    | (with_reducible refine KT.after ?_ hb)))
  (first
    | (go_at_call 45; (with_reducible refine (H1.out _).mono ?_); rintro e w' ⟨A, c, B, d, rfl, da, db, hb⟩; (replace z0 := (hb.cell (p := ⟨w.heap.size + 1, 0, none⟩) hz).trans z0); (replace hz := Nat.lt_of_lt_of_le hz hb.size))
    | (go_at_call 45; (with_reducible refine (H2.out _).mono ?_); rintro e w' ⟨E, f, G, h, rfl, de, dg, hb⟩; (replace da := da.below hb); (replace db := db.below hb); (replace z0 := (hb.cell (p := ⟨w.heap.size + 1, 0, none⟩) hz).trans z0); (replace hz := Nat.lt_of_lt_of_le hz hb.size)))
 have hq := ‹KT w L M _›
 have hr := hq.put_row (cs := [.bool s, .slice A k c, .bool false, .slice B j d, .bool t, .slice E i f, .bool false, .slice G j h]) HM.out rfl
 have D1 := da.put8 z0 (.bool s) (.slice A k c) (.bool false) (.slice B j d) (.bool t) (.slice E i f) (.bool false) (.slice G j h)
 have D2 := db.put8 z0 (.bool s) (.slice A k c) (.bool false) (.slice B j d) (.bool t) (.slice E i f) (.bool false) (.slice G j h)
 have D3 := de.put8 z0 (.bool s) (.slice A k c) (.bool false) (.slice B j d) (.bool t) (.slice E i f) (.bool false) (.slice G j h)
 have D4 := dg.put8 z0 (.bool s) (.slice A k c) (.bool false) (.slice B j d) (.bool t) (.slice E i f) (.bool false) (.slice G j h)
 have hB := hq.1.2
 go_wp2_with fail
 exact bodyPost_ret (results_R1 (cs := #[.bool s, .slice A k c, .bool false, .slice B j d, .bool t, .slice E i f, .bool false, .slice G j h]) rfl rfl hr agg_rpoint) rfl ⟨A, c, B, d, E, f, G, h, rfl, ⟨D1, D2, D3, D4⟩, hB⟩
set_option maxRecDepth 100000 in
set_option maxHeartbeats 3200000 in
theorem ptout_core (s t p q : Bool) (A B E G : Option Addr) (k c j d i f l h : Nat) (R S : Array Value) (hR : R.size = 10) (hS : S.size = 10) (oR : OneC R) (oS : OneC S) (w : World)
 (h1 : ∀ W, Below w.heap.size w W → Calls Tryz.prog 43 #[.agg #[.bool s, .slice A k c, .bool p, .slice B j d]] W fun e w' => e = .returned (.tuple #[.agg R, .int .i64 0]) ∧ Below W.heap.size W w')
 (h2 : ∀ W, Below w.heap.size w W → Calls Tryz.prog 43 #[.agg #[.bool t, .slice E i f, .bool q, .slice G l h]] W fun e w' => e = .returned (.tuple #[.agg S, .int .i64 0]) ∧ Below W.heap.size W w')
 (h3 : ∀ W, Calls Tryz.prog 55 #[.agg #[.bool s, .slice A k c, .bool p, .slice B j d]] W fun e w' => e = .returned (.bool true) ∧ Below W.heap.size W w')
 (h4 : ∀ W, Calls Tryz.prog 55 #[.agg #[.bool t, .slice E i f, .bool q, .slice G l h]] W fun e w' => e = .returned (.bool true) ∧ Below W.heap.size W w') :
 Calls Tryz.prog 71 #[.agg #[.bool s, .slice A k c, .bool p, .slice B j d, .bool t, .slice E i f, .bool q, .slice G l h]] w fun e w' => e = .returned (.tuple #[.agg (R ++ S), .int .i64 0]) ∧ Below w.heap.size w w' := by
 have H1 := Lib.hid h1; clear h1
 have H2 := Lib.hid h2; clear h2
 have H3 := Lib.hid h3; clear h3
 have H4 := Lib.hid h4; clear h4
 have hz2 := two_made R S hR hS
 have hz1 := two_size R hR
 have tR : AggTy Tryz.prog 44 R.size := by rw [hR]; exact aggRat
 have tS : AggTy Tryz.prog 44 S.size := by rw [hS]; exact aggRat
 have tP : AggTy Tryz.prog 46 (R ++ S).size := by rw [show (R ++ S).size = 20 by simp [hR, hS]]; exact agg_point
 have oRS := Lib.hid (oR.append oS)
 have HRS : Hid ((R ++ S).size = 20) := Lib.hid (by simp [hR, hS])
 have OR := Lib.hid oR
 have OS := Lib.hid oS
 have HR := Lib.hid hR
 have HS := Lib.hid hS
 clear oR oS
 go_enter Tryz.func71, Tryz.ntmps71
 go_upto_region 1 with fail
 generalize hW : World.alloc _ _ = W0
 have rX : Row W0 w.heap.size [.bool s, .slice A k c, .bool p, .slice B j d, .bool t, .slice E i f, .bool q, .slice G l h] := by rw [← hW]; exact (Row.at rfl _ _).alloc _
 have rZ : Row W0 (w.heap.size + 1) zero_point.toList := by rw [← hW]; exact Row.at (by simp) _ _
 have hB : Below w.heap.size w W0 := by rw [← hW]; exact ((Below.refl w.heap.size w).alloc (Nat.le_refl _) _).alloc (by simp) _
 clear hW
 have x0 := rX.c 0 rfl
 have x1 := rX.c 1 rfl
 have x2 := rX.c 2 rfl
 have x3 := rX.c 3 rfl
 go_wp2_with fail
 clear x0 x1 x2 x3
 refine (H1.out _ hB).mono ?_
 rintro e w1 ⟨rfl, hb⟩
 replace rX := rX.after hb
 replace rZ := rZ.after hb
 replace hB := hB.trans (hb.mono hB.size)
 clear hb
 go_upto_region 2 with (refine wpList_store_R rfl _ _ _ rfl _ R rfl rfl _ (Row.at rfl zero_rat.toList _) (by rw [HR.out]; rfl) tR OR.out ?_; intro w2 r2 o2)
 have l1 : w.heap.size + 1 < w1.heap.size := rZ.lt
 replace rX := o2.row (by omega) (rX.alloc _)
 replace rZ := o2.row (by omega) (rZ.alloc _)
 replace hB := below_on (hB.alloc hB.size _) o2 hB.size
 clear o2
 generalize w1.heap.size = C at *
 have x4 := rX.c 4 rfl
 have x5 := rX.c 5 rfl
 have x6 := rX.c 6 rfl
 have x7 := rX.c 7 rfl
 go_wp2_with fail
 clear x4 x5 x6 x7
 refine (H2.out _ hB).mono ?_
 rintro e w3 ⟨rfl, hb⟩
 replace rX := rX.after hb
 replace rZ := rZ.after hb
 replace r2 := r2.after hb
 replace hB := hB.trans (hb.mono hB.size)
 clear hb
 go_upto_region 3 with (refine wpList_store_R rfl _ _ _ rfl _ S rfl rfl _ (Row.at rfl zero_rat.toList _) (by rw [HS.out]; rfl) tS OS.out ?_; intro w4 r4 o4)
 have l3 : C < w3.heap.size := r2.lt
 have l4 : w.heap.size + 1 < w3.heap.size := rZ.lt
 replace rX := o4.row (by omega) (rX.alloc _)
 replace rZ := o4.row (by omega) (rZ.alloc _)
 replace r2 := o4.row (by omega) (r2.alloc _)
 replace hB := below_on (hB.alloc hB.size _) o4 hB.size
 clear o4 l3 l4 l1
 generalize w3.heap.size = D at *
 have x0 := rX.c 0 rfl
 have x1 := rX.c 1 rfl
 have x2 := rX.c 2 rfl
 have x3 := rX.c 3 rfl
 go_wp2_with fail
 clear x0 x1 x2 x3
 refine (H3.out _).mono ?_
 rintro e w5 ⟨rfl, hb⟩
 replace rX := rX.after hb
 replace rZ := rZ.after hb
 replace r2 := r2.after hb
 replace r4 := r4.after hb
 replace hB := hB.trans (hb.mono hB.size)
 clear hb
 have x4 := rX.c 4 rfl
 have x5 := rX.c 5 rfl
 have x6 := rX.c 6 rfl
 have x7 := rX.c 7 rfl
 go_wp2_with fail
 clear x4 x5 x6 x7
 refine (H4.out _).mono ?_
 rintro e w6 ⟨rfl, hb⟩
 replace rZ := rZ.after hb
 replace r2 := r2.after hb
 replace r4 := r4.after hb
 replace hB := hB.trans (hb.mono hB.size)
 have HB := Lib.hid hB
 clear hb rX hB
 go_wp2_with (first
  | (refine wpList_load_R rfl _ _ rfl C rfl R r2 tR ?_)
  | (refine wpList_load_R rfl _ _ rfl D rfl S r4 tS ?_)
  | (refine wpList_store_R rfl _ _ _ rfl _ (R ++ S) rfl rfl _ rZ (by rw [HRS.out]; rfl) tP oRS.out ?_; intro w7 r7 o7))
 exact bodyPost_ret (results_R2 (cs := R ++ S) rfl rfl r7 tP) rfl ⟨rfl, below_on HB.out o7 (by omega)⟩
theorem ptof_any (x y : Int) (w : World) (hx : Bd x) (hy : Bd y) : Calls Tryz.prog 61 #[.agg (nodeA x y)] w (PtPost w (decide (x < 0)) (decide (y < 0)) x.natAbs y.natAbs (L16 x.natAbs) (L16 y.natAbs) (L16 1)) :=
 ptof_core x y _ _ _ _ _ _ _ w (fun W => rnum_any x W (in_i64 hx).1 (in_i64 hx).2) (fun W => rnum_any y W (in_i64 hy).1 (in_i64 hy).2)
end Go.Proofs.YtdfmmkidknginaaGreatDoor

namespace Go.Proofs.YtdfmmkidknginaaGreatDoor
open Go.RowKit
def BgPost (w : World) (s : Bool) (m k : Nat) (e : Ending) (w' : World) : Prop := ∃ A c, e = .returned (.agg #[.bool s, .slice A k c]) ∧ k ≤ c ∧ DS w' m A ∧ Below w.heap.size w w'
def RqPost (w : World) (s t : Bool) (m p k j : Nat) (e : Ending) (w' : World) : Prop := ∃ A c B d, e = .returned (.agg #[.bool s, .slice A k c, .bool t, .slice B j d]) ∧ (k ≤ c ∧ j ≤ d) ∧ (DS w' m A ∧ DS w' p B) ∧ Below w.heap.size w w'
theorem KT.put4q {w W : World} {L : List (Nat × Array Value)} {M : List (Nat × Nat)} {b n : Nat} (h : KT w L M W) (hm : (b, n) ∈ M) (y0 y1 y2 y3 : Value) :
 KT w L M ((((W.setCell ⟨b, 0, none⟩ y0).setCell ⟨b, 1, none⟩ y1).setCell ⟨b, 2, none⟩ y2).setCell ⟨b, 3, none⟩ y3) := h.put hm [y0, y1, y2, y3]
theorem DS.fill4 {W : World} {m b : Nat} {A : Option Addr} {s : Bool} (h : DS W m A) (hX : W.cell? ⟨b, 0, none⟩ = some (.bool s)) (y0 y1 y2 y3 : Value) :
 DS ((((W.setCell ⟨b, 0, none⟩ y0).setCell ⟨b, 1, none⟩ y1).setCell ⟨b, 2, none⟩ y2).setCell ⟨b, 3, none⟩ y3) m A := h.on (On.setCells W b [y0, y1, y2, y3] 0 W (On.refl W b)) hX
set_option maxRecDepth 100000 in
set_option maxHeartbeats 3200000 in
theorem rfrom_core (s t u v : Bool) (a0 a1 a2 a3 b0 b1 b2 b3 : Int) (m p k j : Nat) (w : World)
 (h1 : ∀ W, Calls Tryz.prog 97 #[.agg #[.bool s, .int .u64 a0, .int .u64 a1, .int .u64 a2, .int .u64 a3]] W (BgPost W u m k)) (h2 : ∀ W, Calls Tryz.prog 97 #[.agg #[.bool t, .int .u64 b0, .int .u64 b1, .int .u64 b2, .int .u64 b3]] W (BgPost W v p j)) :
 Calls Tryz.prog 56 #[.agg #[.bool s, .int .u64 a0, .int .u64 a1, .int .u64 a2, .int .u64 a3, .bool t, .int .u64 b0, .int .u64 b1, .int .u64 b2, .int .u64 b3]] w (RqPost w u v m p k j) := by
 have H1 := Lib.hid h1; clear h1
 have H2 := Lib.hid h2; clear h2
 go_enter Tryz.func56, Tryz.ntmps56
 go_upto_region 1 with fail
 generalize hW : World.alloc _ _ = W0
 have hK : KT w ([] ++ [(w.heap.size, #[.bool s, .int .u64 a0, .int .u64 a1, .int .u64 a2, .int .u64 a3, .bool t, .int .u64 b0, .int .u64 b1, .int .u64 b2, .int .u64 b3])]) ([] ++ [(w.heap.size + 1, 4)]) W0 := by
  rw [← hW]
  exact (KT.of ((KS.nil w).boxed rfl _ _)).made (by simp) _ _ rfl
 have z0 : W0.cell? ⟨w.heap.size + 1, 0, none⟩ = some (.bool false) := by rw [← hW]; exact (Row.at (by simp) [.bool false, .slice none 0 0, .bool false, .slice none 0 0] _).c 0 rfl
 have hz : w.heap.size + 1 < W0.heap.size := by rw [← hW]; simp
 clear hW
 generalize hL : ([] ++ [(w.heap.size, #[.bool s, .int .u64 a0, .int .u64 a1, .int .u64 a2, .int .u64 a3, .bool t, .int .u64 b0, .int .u64 b1, .int .u64 b2, .int .u64 b3])] : List (Nat × Array Value)) = L at hK
 have HL := Lib.hid hL; clear hL
 have HM : Hid ((w.heap.size + 1, 4) ∈ ([] ++ [(w.heap.size + 1, 4)] : List (Nat × Nat))) := Lib.hid (by simp)
 generalize [] ++ [(w.heap.size + 1, 4)] = M at hK HM
 have l0 : ∀ W, KT w L M W → W.cell? ⟨w.heap.size, 0, none⟩ = some (.bool s) := fun W h => h.c 0 (by rw [← HL.out]; rfl) 0 rfl
 have l1 : ∀ W, KT w L M W → W.cell? ⟨w.heap.size, 1, none⟩ = some (.int .u64 a0) := fun W h => h.c 0 (by rw [← HL.out]; rfl) 1 rfl
 have l2 : ∀ W, KT w L M W → W.cell? ⟨w.heap.size, 2, none⟩ = some (.int .u64 a1) := fun W h => h.c 0 (by rw [← HL.out]; rfl) 2 rfl
 have l3 : ∀ W, KT w L M W → W.cell? ⟨w.heap.size, 3, none⟩ = some (.int .u64 a2) := fun W h => h.c 0 (by rw [← HL.out]; rfl) 3 rfl
 have l4 : ∀ W, KT w L M W → W.cell? ⟨w.heap.size, 4, none⟩ = some (.int .u64 a3) := fun W h => h.c 0 (by rw [← HL.out]; rfl) 4 rfl
 have l5 : ∀ W, KT w L M W → W.cell? ⟨w.heap.size, 5, none⟩ = some (.bool t) := fun W h => h.c 0 (by rw [← HL.out]; rfl) 5 rfl
 have l6 : ∀ W, KT w L M W → W.cell? ⟨w.heap.size, 6, none⟩ = some (.int .u64 b0) := fun W h => h.c 0 (by rw [← HL.out]; rfl) 6 rfl
 have l7 : ∀ W, KT w L M W → W.cell? ⟨w.heap.size, 7, none⟩ = some (.int .u64 b1) := fun W h => h.c 0 (by rw [← HL.out]; rfl) 7 rfl
 have l8 : ∀ W, KT w L M W → W.cell? ⟨w.heap.size, 8, none⟩ = some (.int .u64 b2) := fun W h => h.c 0 (by rw [← HL.out]; rfl) 8 rfl
 have l9 : ∀ W, KT w L M W → W.cell? ⟨w.heap.size, 9, none⟩ = some (.int .u64 b3) := fun W h => h.c 0 (by rw [← HL.out]; rfl) 9 rfl
 have xc0 : ∀ W, KT w L M W → W.cell? ⟨w.heap.size + 1, 0, none⟩ = some (cellAt W (w.heap.size + 1) 0) := fun W h => h.here HM.out 0 (by omega)
 have xf0 : ∀ W, KT w L M W → W.frozen? ⟨w.heap.size + 1, 0, none⟩ = false := fun W h => h.free HM.out 0 (by omega)
 have xc1 : ∀ W, KT w L M W → W.cell? ⟨w.heap.size + 1, 1, none⟩ = some (cellAt W (w.heap.size + 1) 1) := fun W h => h.here HM.out 1 (by omega)
 have xf1 : ∀ W, KT w L M W → W.frozen? ⟨w.heap.size + 1, 1, none⟩ = false := fun W h => h.free HM.out 1 (by omega)
 have xc2 : ∀ W, KT w L M W → W.cell? ⟨w.heap.size + 1, 2, none⟩ = some (cellAt W (w.heap.size + 1) 2) := fun W h => h.here HM.out 2 (by omega)
 have xf2 : ∀ W, KT w L M W → W.frozen? ⟨w.heap.size + 1, 2, none⟩ = false := fun W h => h.free HM.out 2 (by omega)
 have xc3 : ∀ W, KT w L M W → W.cell? ⟨w.heap.size + 1, 3, none⟩ = some (cellAt W (w.heap.size + 1) 3) := fun W h => h.here HM.out 3 (by omega)
 have xf3 : ∀ W, KT w L M W → W.frozen? ⟨w.heap.size + 1, 3, none⟩ = false := fun W h => h.free HM.out 3 (by omega)
 have hk0 := hK.drew
 have z0 : W0.drew.cell? ⟨w.heap.size + 1, 0, none⟩ = some (.bool false) := z0
 have hz : w.heap.size + 1 < W0.drew.heap.size := hz
 go_region_held3 (fun w' : World => KT w L M w')
  (repeat (first
    | (with_reducible assumption)
    | (with_reducible refine KT.put4q ?_ HM.out _ _ _ _)
    | (with_reducible refine KT.drew ?_)
    | (with_reducible refine KT.after ?_ hb)))
  (first
    | (go_at_call 97; (with_reducible refine (H1.out _).mono ?_); rintro e w' ⟨A, c, rfl, ca, da, hb⟩; (replace z0 := (hb.cell (p := ⟨w.heap.size + 1, 0, none⟩) hz).trans z0); (replace hz := Nat.lt_of_lt_of_le hz hb.size))
    | (go_at_call 97; (with_reducible refine (H2.out _).mono ?_); rintro e w' ⟨B, d, rfl, cb, db, hb⟩; (replace da := da.below hb); (replace z0 := (hb.cell (p := ⟨w.heap.size + 1, 0, none⟩) hz).trans z0); (replace hz := Nat.lt_of_lt_of_le hz hb.size)))
 have hq := ‹KT w L M _›
 have hr := hq.put_row (cs := [.bool u, .slice A k c, .bool v, .slice B j d]) HM.out rfl
 have D1 := da.fill4 z0 (.bool u) (.slice A k c) (.bool v) (.slice B j d)
 have D2 := db.fill4 z0 (.bool u) (.slice A k c) (.bool v) (.slice B j d)
 have hB := hq.1.2
 go_wp2_with fail
 exact bodyPost_ret (results_R1 (cs := #[.bool u, .slice A k c, .bool v, .slice B j d]) rfl rfl hr agg_rrat) rfl ⟨A, c, B, d, rfl, ⟨ca, cb⟩, ⟨D1, D2⟩, hB⟩
theorem rfrom_any (n d : Int) (w : World) (hn : n.natAbs < T256) (hd : d.natAbs < T256) : Calls Tryz.prog 56 #[.agg (ratA n d)] w (RqPost w (decide (n < 0)) (decide (d < 0)) n.natAbs d.natAbs (L16 n.natAbs) (L16 d.natAbs)) :=
 rfrom_core _ _ _ _ _ _ _ _ _ _ _ _ _ _ _ _ w (fun W => from_z n W hn) (fun W => from_z d W hd)
end Go.Proofs.YtdfmmkidknginaaGreatDoor

namespace Go.Proofs.YtdfmmkidknginaaGreatDoor
open Go.RowKit
theorem agg_big : AggTy Tryz.prog 53 2 := .of _ Tryz.underlying53 rfl (by kernel_rfl)
theorem KS.wroteK {w W W1 : World} {L : List (Nat × Array Value)} (h : KS w L W) {o : Obj} (ho : On (W.alloc o) W1 W.heap.size) {cs : Array Value} (hr : Row W1 W.heap.size cs.toList) : KS w (L ++ [(W.heap.size, cs)]) W1 :=
 KS.more ⟨fun p hp => ho.row (Nat.ne_of_lt (h.1 p hp).lt) ((h.alloc o).1 p hp), below_on (h.alloc o).2 ho h.2.size⟩ hr
theorem DS.drew' {W : World} {m : Nat} {A : Option Addr} (h : DS W m A) : DS W.drew m A := h
theorem two_wrote {w w3 w4 w5 : World} {L : List (Nat × Array Value)} (hK : KS w L w3) {cs : Array Value} {t : TypeId} (r4 : Row w4 w3.heap.size cs.toList) (o4 : On ((w3.alloc (.cells #[.bool false, .slice none 0 0] t)).alloc (.cells #[.bool false, .slice none 0 0] t)) w4 w3.heap.size) (o5 : On w4 w5 (w3.heap.size + 1)) :
 KS w (L ++ [(w3.heap.size, cs)]) w5 ∧ ∀ m A, DS w3 m A → DS w5 m A := by
 have h2 := (hK.alloc (.cells #[.bool false, .slice none 0 0] t)).alloc (.cells #[.bool false, .slice none 0 0] t)
 have rA : Row ((w3.alloc (.cells #[.bool false, .slice none 0 0] t)).alloc (.cells #[.bool false, .slice none 0 0] t)) w3.heap.size [.bool false, .slice none 0 0] := (Row.at rfl _ _).alloc _
 have rB : Row ((w3.alloc (.cells #[.bool false, .slice none 0 0] t)).alloc (.cells #[.bool false, .slice none 0 0] t)) (w3.heap.size + 1) [.bool false, .slice none 0 0] := Row.at (by simp) _ _
 refine ⟨KS.more ⟨fun p hp => ?_, ?_⟩ (o5.row (by omega) r4), fun m A hd => ?_⟩
 ·have hlt := (hK.1 p hp).lt
  exact o5.row (by omega) (o4.row (by omega) (h2.1 p hp))
 ·exact below_on (below_on h2.2 o4 hK.2.size) o5 (Nat.le_succ_of_le hK.2.size)
 ·have hb := ((Below.refl w3.heap.size w3).alloc (Nat.le_refl _) (.cells #[.bool false, .slice none 0 0] t)).alloc (by simp) (.cells #[.bool false, .slice none 0 0] t)
  exact ((hd.below hb).on o4 (rA.c 0 rfl)).on o5 ((o4.row (by omega) rB).c 0 rfl)
set_option maxRecDepth 100000 in
set_option maxHeartbeats 3200000 in
theorem make_one (s : Bool) (A B : Option Addr) (m p k j c d k1 : Nat) (w : World) (dA : DS w m A) (dB : DS w p B) (ck : k ≤ c) (cj : j ≤ d)
 (hNum : ∀ W, Calls Tryz.prog 80 #[.int .i64 1] W (BgPost W false 1 k1))
 (hCmp : ∀ E h W, DS W p B → DS W 1 E → Calls Tryz.prog 79 #[.agg #[.bool false, .slice B j d], .agg #[.bool false, .slice E k1 h]] W fun e w' => e = .returned (.int .i64 0) ∧ Below W.heap.size W w')
 :
  Calls Tryz.prog 44 #[.agg #[.bool s, .slice A k c], .agg #[.bool false, .slice B j d]] w (RqPost w s false m p k j) := by
  have HNum := Lib.hid hNum; clear hNum
  have HCmp := Lib.hid hCmp; clear hCmp
  have HC := Lib.hid (And.intro ck cj); clear ck cj
  go_enter Tryz.func44, Tryz.ntmps44
  go_upto_region 1 with fail
  generalize hW : World.alloc _ _ = W0
  have hb0 : Below w.heap.size w W0 := by rw [← hW]; exact (((Below.refl w.heap.size w).alloc (Nat.le_refl _) _).alloc (by simp) _).alloc (by simp; omega) _
  have rN : Row W0 w.heap.size [.bool s, .slice A k c] := by rw [← hW]; exact ((Row.at rfl _ _).alloc _).alloc _
  have rD : Row W0 (w.heap.size + 1) [.bool false, .slice B j d] := by rw [← hW]; exact (Row.at (by simp) _ _).alloc _
  have rZ : Row W0 (w.heap.size + 1 + 1) [.bool false, .slice none 0 0, .bool false, .slice none 0 0] := by rw [← hW]; exact Row.at (by simp) _ _
  replace dA := dA.below hb0
  replace dB := dB.below hb0
  clear hW
  have x0 := rN.c 0 rfl
  have x1 := rN.c 1 rfl
  have y0 := rD.c 0 rfl
  have y1 := rD.c 1 rfl
  have HD := Lib.hid (And.intro dA dB)
  have HR := Lib.hid (And.intro rN (And.intro rD (And.intro rZ hb0)))
  clear dA dB rN rD rZ hb0
  go_upto_region 3 with fail
  have hk0 : KS w [(w.heap.size, #[.bool s, .slice A k c]), ((w.heap.size + 1), #[.bool false, .slice B j d]), ((w.heap.size + 1 + 1), #[.bool false, .slice none 0 0, .bool false, .slice none 0 0])] W0 := ⟨fun q hq => by
   simp only [List.mem_cons, List.not_mem_nil, or_false] at hq
   rcases hq with rfl | rfl | rfl
   ·exact HR.out.1
   ·exact HR.out.2.1
   ·exact HR.out.2.2.1, HR.out.2.2.2⟩
  clear x0 x1 y0 y1 HR
  generalize hL : [(w.heap.size, #[.bool s, .slice A k c]), ((w.heap.size + 1), #[.bool false, .slice B j d]), ((w.heap.size + 1 + 1), (#[.bool false, .slice none 0 0, .bool false, .slice none 0 0] : Array Value))] = L at hk0
  have HL := Lib.hid hL; clear hL
  have l0 : ∀ W, KS w L W → W.cell? ⟨(w.heap.size + 1), 0, none⟩ = some (.bool false) := fun W h => h.c 1 (by rw [← HL.out]; rfl) 0 rfl
  have l1 : ∀ W, KS w L W → W.cell? ⟨(w.heap.size + 1), 1, none⟩ = some (.slice B j d) := fun W h => h.c 1 (by rw [← HL.out]; rfl) 1 rfl
  have dA := HD.out.1.drew'
  have dB := HD.out.2.drew'
  clear HD
  have hk := hk0.drew
  clear hk0
  go_region_held3 (fun W : World => KS w L W)
   (repeat (first | (with_reducible assumption) | (with_reducible refine KS.drew ?_) | (with_reducible refine KS.after ?_ hb)))
   (first
     | (go_at_call 80; (with_reducible refine (HNum.out _).mono ?_); rintro e w' ⟨E, h, rfl, _, dE, hb⟩; (replace dA := dA.below hb); (replace dB := dB.below hb))
     | (go_at_call 79; (with_reducible refine (HCmp.out _ _ _ dB dE).mono ?_); rintro e w' ⟨rfl, hb⟩; (replace dA := dA.below hb); (replace dB := dB.below hb)))
  have hK := ‹KS w L _›
  have HD := Lib.hid (And.intro dA dB)
  clear dA dB dE l0 l1
  have x0 := hK.c 0 (b := w.heap.size) (cs := #[.bool s, .slice A k c]) (by rw [← HL.out]; rfl) 0 rfl
  have x1 := hK.c 0 (b := w.heap.size) (cs := #[.bool s, .slice A k c]) (by rw [← HL.out]; rfl) 1 rfl
  have y0 := hK.c 1 (b := w.heap.size + 1) (cs := #[.bool false, .slice B j d]) (by rw [← HL.out]; rfl) 0 rfl
  have y1 := hK.c 1 (b := w.heap.size + 1) (cs := #[.bool false, .slice B j d]) (by rw [← HL.out]; rfl) 1 rfl
  have rZ := hK.row 2 (b := w.heap.size + 1 + 1) (cs := #[.bool false, .slice none 0 0, .bool false, .slice none 0 0]) (by rw [← HL.out]; rfl)
  have hB := Lib.hid hK.2
  clear hK HL hk
  go_wp2_with (refine wpList_store_R rfl _ _ _ rfl _ #[.bool s, .slice A k c, .bool false, .slice B j d] rfl rfl _ rZ (by rfl) agg_rrat (by simp [OneC, Value.oneCell']) ?_; intro w3 r3 o3)
  exact bodyPost_ret (results_R1 (cs := #[.bool s, .slice A k c, .bool false, .slice B j d]) rfl rfl r3 agg_rrat) rfl ⟨A, c, B, d, rfl, HC.out, ⟨HD.out.1.on o3 (rZ.c 0 rfl), HD.out.2.on o3 (rZ.c 0 rfl)⟩, below_on hB.out o3 (by omega)⟩
set_option maxRecDepth 100000 in
set_option maxHeartbeats 3200000 in
theorem make_gen (s u v : Bool) (A B : Option Addr) (m p k j c d k1 gm gk xm xk ym yk : Nat) (r : Int) (w : World) (dA : DS w m A) (dB : DS w p B) (ck : k ≤ c) (cj : j ≤ d)
 (hNum : ∀ W, Calls Tryz.prog 80 #[.int .i64 1] W (BgPost W false 1 k1))
 (hCmp : ∀ E h W, DS W p B → DS W 1 E → Calls Tryz.prog 79 #[.agg #[.bool false, .slice B j d], .agg #[.bool false, .slice E k1 h]] W fun e w' => e = .returned (.int .i64 r) ∧ Below W.heap.size W w')
 (hGcd : ∀ W, DS W m A → DS W p B → Calls Tryz.prog 81 #[.agg #[.bool s, .slice A k c], .agg #[.bool false, .slice B j d]] W (BgPost W false gm gk))
 (hQ1 : ∀ E h W, DS W m A → DS W gm E → gk ≤ h → Calls Tryz.prog 82 #[.agg #[.bool s, .slice A k c], .agg #[.bool false, .slice E gk h]] W fun e w' => ∃ X x Y y rs rk, e = .returned (.tuple #[.agg #[.bool u, .slice X xk x], .agg #[.bool rs, .slice Y rk y]]) ∧ xk ≤ x ∧ DS w' xm X ∧ Below W.heap.size W w')
 (hQ2 : ∀ E h W, DS W p B → DS W gm E → gk ≤ h → Calls Tryz.prog 82 #[.agg #[.bool false, .slice B j d], .agg #[.bool false, .slice E gk h]] W fun e w' => ∃ X x Y y rs rk, e = .returned (.tuple #[.agg #[.bool v, .slice X yk x], .agg #[.bool rs, .slice Y rk y]]) ∧ yk ≤ x ∧ DS w' ym X ∧ Below W.heap.size W w') (hr : r ≠ 0) :
 Calls Tryz.prog 44 #[.agg #[.bool s, .slice A k c], .agg #[.bool false, .slice B j d]] w (RqPost w u v xm ym xk yk) := by
 have HNum := Lib.hid hNum; clear hNum
 have HCmp := Lib.hid hCmp; clear hCmp
 have HGcd := Lib.hid hGcd; clear hGcd
 have HQ1 := Lib.hid hQ1; clear hQ1
 have HQ2 := Lib.hid hQ2; clear hQ2
 have hr0 : (r == 0) = false := by simpa using hr
 clear hr
 have HC := Lib.hid (And.intro ck cj); clear ck cj
 go_enter Tryz.func44, Tryz.ntmps44
 go_upto_region 1 with fail
 generalize hW : World.alloc _ _ = W0
 have hb0 : Below w.heap.size w W0 := by rw [← hW]; exact (((Below.refl w.heap.size w).alloc (Nat.le_refl _) _).alloc (by simp) _).alloc (by simp; omega) _
 have rN : Row W0 w.heap.size [.bool s, .slice A k c] := by rw [← hW]; exact ((Row.at rfl _ _).alloc _).alloc _
 have rD : Row W0 (w.heap.size + 1) [.bool false, .slice B j d] := by rw [← hW]; exact (Row.at (by simp) _ _).alloc _
 have rZ : Row W0 (w.heap.size + 1 + 1) [.bool false, .slice none 0 0, .bool false, .slice none 0 0] := by rw [← hW]; exact Row.at (by simp) _ _
 replace dA := dA.below hb0
 replace dB := dB.below hb0
 clear hW
 have x0 := rN.c 0 rfl
 have x1 := rN.c 1 rfl
 have y0 := rD.c 0 rfl
 have y1 := rD.c 1 rfl
 have HD := Lib.hid (And.intro dA dB)
 have HR := Lib.hid (And.intro rN (And.intro rD (And.intro rZ hb0)))
 clear dA dB rN rD rZ hb0
 go_upto_region 3 with fail
 have hk0 : KS w [(w.heap.size, #[.bool s, .slice A k c]), ((w.heap.size + 1), #[.bool false, .slice B j d]), ((w.heap.size + 1 + 1), #[.bool false, .slice none 0 0, .bool false, .slice none 0 0])] W0 := ⟨fun q hq => by
  simp only [List.mem_cons, List.not_mem_nil, or_false] at hq
  rcases hq with rfl | rfl | rfl
  ·exact HR.out.1
  ·exact HR.out.2.1
  ·exact HR.out.2.2.1, HR.out.2.2.2⟩
 clear x0 x1 y0 y1 HR
 generalize hL : [(w.heap.size, #[.bool s, .slice A k c]), ((w.heap.size + 1), #[.bool false, .slice B j d]), ((w.heap.size + 1 + 1), (#[.bool false, .slice none 0 0, .bool false, .slice none 0 0] : Array Value))] = L at hk0
 have HL := Lib.hid hL; clear hL
 have l0 : ∀ W, KS w L W → W.cell? ⟨(w.heap.size + 1), 0, none⟩ = some (.bool false) := fun W h => h.c 1 (by rw [← HL.out]; rfl) 0 rfl
 have l1 : ∀ W, KS w L W → W.cell? ⟨(w.heap.size + 1), 1, none⟩ = some (.slice B j d) := fun W h => h.c 1 (by rw [← HL.out]; rfl) 1 rfl
 have dA := HD.out.1.drew'
 have dB := HD.out.2.drew'
 clear HD
 have hk := hk0.drew
 clear hk0
 go_region_held3 (fun W : World => KS w L W)
  (repeat (first | (with_reducible assumption) | (with_reducible refine KS.drew ?_) | (with_reducible refine KS.after ?_ hb)))
  (first
    | (go_at_call 80; (with_reducible refine (HNum.out _).mono ?_); rintro e w' ⟨E, h, rfl, _, dE, hb⟩; (replace dA := dA.below hb); (replace dB := dB.below hb))
    | (go_at_call 79; (with_reducible refine (HCmp.out _ _ _ dB dE).mono ?_); rintro e w' ⟨rfl, hb⟩; (replace dA := dA.below hb); (replace dB := dB.below hb)))
 have hK := ‹KS w L _›
 have HD := Lib.hid (And.intro dA dB)
 clear dA dB dE l0 l1
 have x0 := hK.c 0 (b := w.heap.size) (cs := #[.bool s, .slice A k c]) (by rw [← HL.out]; rfl) 0 rfl
 have x1 := hK.c 0 (b := w.heap.size) (cs := #[.bool s, .slice A k c]) (by rw [← HL.out]; rfl) 1 rfl
 have y0 := hK.c 1 (b := w.heap.size + 1) (cs := #[.bool false, .slice B j d]) (by rw [← HL.out]; rfl) 0 rfl
 have y1 := hK.c 1 (b := w.heap.size + 1) (cs := #[.bool false, .slice B j d]) (by rw [← HL.out]; rfl) 1 rfl
 clear hk
 go_wp2_with fail
 refine (HGcd.out _ HD.out.1 HD.out.2).mono ?_
 rintro e w1 ⟨G, g, rfl, cg, dG, hb⟩
 replace hK := hK.after hb
 have HD1 := Lib.hid (And.intro (HD.out.1.below hb) (And.intro (HD.out.2.below hb) dG))
 have CG := Lib.hid cg
 clear hb HD dG cg x0 x1 y0 y1
 go_upto_region 6 with (refine wpList_store_R rfl _ _ _ rfl _ #[.bool false, .slice G gk g] rfl rfl _ (Row.at rfl [.bool false, .slice none 0 0] _) (by rfl) agg_big (by simp [OneC, Value.oneCell']) ?_; intro w2 r2 o2)
 have HD2 : Hid (DS w2 m A ∧ DS w2 p B ∧ DS w2 gm G) := by
  have zz := (Row.at (w := w1) rfl [.bool false, .slice none 0 0] 53).c 0 rfl
  have hb1 := (Below.refl w1.heap.size w1).alloc (Nat.le_refl _) (.cells #[.bool false, .slice none 0 0] 53)
  exact Lib.hid ⟨(HD1.out.1.below hb1).on o2 zz, (HD1.out.2.1.below hb1).on o2 zz, (HD1.out.2.2.below hb1).on o2 zz⟩
 have hK2 := KS.wroteK hK o2 r2
 clear hK o2 r2 HD1
 generalize w1.heap.size = C at *
 rw [← HL.out] at hK2
 clear HL
 have x0 := hK2.c 0 (b := w.heap.size) (cs := #[.bool s, .slice A k c]) rfl 0 rfl
 have x1 := hK2.c 0 (b := w.heap.size) (cs := #[.bool s, .slice A k c]) rfl 1 rfl
 have g0 := hK2.c 3 (b := C) (cs := #[.bool false, .slice G gk g]) rfl 0 rfl
 have g1 := hK2.c 3 (b := C) (cs := #[.bool false, .slice G gk g]) rfl 1 rfl
 have HK2 := Lib.hid hK2
 clear hK2
 go_wp2_with fail
 refine (HQ1.out _ _ _ HD2.out.1 HD2.out.2.2 CG.out).mono ?_
 rintro e w3 ⟨X, x, X', x', rs, rk, rfl, cx, dX, hb⟩
 have hK := HK2.out.after hb
 have HD3 := Lib.hid (And.intro (HD2.out.2.1.below hb) (And.intro (HD2.out.2.2.below hb) dX))
 have CX := Lib.hid cx
 clear hb HK2 HD2 dX cx x0 x1 g0 g1
 go_upto_region 7 with (first
  | (refine wpList_store_R rfl _ _ _ rfl w3.heap.size #[.bool u, .slice X xk x] rfl rfl _ ((Row.at rfl [.bool false, .slice none 0 0] _).alloc _) (by rfl) agg_big (by simp [OneC, Value.oneCell']) ?_; intro w4 r4 o4)
  | (refine wpList_store_R rfl _ _ _ rfl (w3.heap.size + 1) #[.bool rs, .slice X' rk x'] rfl rfl _ (o4.row (by omega) (Row.at (by simp) [.bool false, .slice none 0 0] _)) (by rfl) agg_big (by simp [OneC, Value.oneCell']) ?_; intro w5 r5 o5))
 have hT := two_wrote hK r4 o4 o5
 have HD4 := Lib.hid (And.intro (hT.2 _ _ HD3.out.1) (And.intro (hT.2 _ _ HD3.out.2.1) (hT.2 _ _ HD3.out.2.2)))
 have HK4 := Lib.hid hT.1
 have y0 := hT.1.c 1 (b := w.heap.size + 1) (cs := #[.bool false, .slice B j d]) rfl 0 rfl
 have y1 := hT.1.c 1 (b := w.heap.size + 1) (cs := #[.bool false, .slice B j d]) rfl 1 rfl
 have g0 := hT.1.c 3 (b := C) (cs := #[.bool false, .slice G gk g]) rfl 0 rfl
 have g1 := hT.1.c 3 (b := C) (cs := #[.bool false, .slice G gk g]) rfl 1 rfl
 clear hT hK r4 o4 r5 o5 HD3
 generalize w3.heap.size = D at *
 go_wp2_with fail
 refine (HQ2.out _ _ _ HD4.out.1 HD4.out.2.1 CG.out).mono ?_
 rintro e w6 ⟨Y, y, Y', y', rs', rk', rfl, cy, dY, hb⟩
 have hK := HK4.out.after hb
 have HD5 := Lib.hid (And.intro (HD4.out.2.2.below hb) dY)
 have CY := Lib.hid cy
 clear hb HK4 HD4 dY cy y0 y1 g0 g1
 go_upto_region 8 with (first
  | (refine wpList_store_R rfl _ _ _ rfl w6.heap.size #[.bool v, .slice Y yk y] rfl rfl _ ((Row.at rfl [.bool false, .slice none 0 0] _).alloc _) (by rfl) agg_big (by simp [OneC, Value.oneCell']) ?_; intro w7 r7 o7)
  | (refine wpList_store_R rfl _ _ _ rfl (w6.heap.size + 1) #[.bool rs', .slice Y' rk' y'] rfl rfl _ (o7.row (by omega) (Row.at (by simp) [.bool false, .slice none 0 0] _)) (by rfl) agg_big (by simp [OneC, Value.oneCell']) ?_; intro w8 r8 o8))
 have hT := two_wrote hK r7 o7 o8
 have HD6 := Lib.hid (And.intro (hT.2 _ _ HD5.out.1) (hT.2 _ _ HD5.out.2))
 have x0 := hT.1.c 4 (b := D) (cs := #[.bool u, .slice X xk x]) rfl 0 rfl
 have x1 := hT.1.c 4 (b := D) (cs := #[.bool u, .slice X xk x]) rfl 1 rfl
 have y0 := hT.1.c 5 (b := w6.heap.size) (cs := #[.bool v, .slice Y yk y]) rfl 0 rfl
 have y1 := hT.1.c 5 (b := w6.heap.size) (cs := #[.bool v, .slice Y yk y]) rfl 1 rfl
 have rZ := hT.1.row 2 (b := w.heap.size + 1 + 1) (cs := #[.bool false, .slice none 0 0, .bool false, .slice none 0 0]) rfl
 have hB := Lib.hid hT.1.2
 clear hT hK r7 o7 r8 o8 HD5
 generalize w6.heap.size = F at *
 go_wp2_with (refine wpList_store_R rfl _ _ _ rfl _ #[.bool u, .slice X xk x, .bool v, .slice Y yk y] rfl rfl _ rZ (by rfl) agg_rrat (by simp [OneC, Value.oneCell']) ?_; intro w9 r9 o9)
 exact bodyPost_ret (results_R1 (cs := #[.bool u, .slice X xk x, .bool v, .slice Y yk y]) rfl rfl r9 agg_rrat) rfl ⟨X, x, Y, y, rfl, ⟨CX.out, CY.out⟩, ⟨HD6.out.1.on o9 (rZ.c 0 rfl), HD6.out.2.on o9 (rZ.c 0 rfl)⟩, below_on hB.out o9 (by omega)⟩
end Go.Proofs.YtdfmmkidknginaaGreatDoor

namespace Go.Proofs.YtdfmmkidknginaaGreatDoor
open Go.RowKit
set_option maxRecDepth 100000 in
set_option maxHeartbeats 6400000 in
theorem radd_core (s q t l s1 s2 s3 s4 u v : Bool) (A B E G : Option Addr) (k c j d i f h g mA mB mE mG m1 k1 m2 k2 m3 k3 m4 k4 xm ym xk yk : Nat) (w : World) (dA : DS w mA A) (dB : DS w mB B) (dE : DS w mE E) (dG : DS w mG G)
 (h1 : ∀ W, DS W mA A → DS W mG G → Calls Tryz.prog 99 #[.agg #[.bool s, .slice A k c], .agg #[.bool l, .slice G h g]] W (BgPost W s1 m1 k1))
 (h2 : ∀ W, DS W mE E → DS W mB B → Calls Tryz.prog 99 #[.agg #[.bool t, .slice E i f], .agg #[.bool q, .slice B j d]] W (BgPost W s2 m2 k2))
 (h3 : ∀ X x Y y W, DS W m1 X → DS W m2 Y → k1 ≤ x → k2 ≤ y → Calls Tryz.prog 109 #[.agg #[.bool s1, .slice X k1 x], .agg #[.bool s2, .slice Y k2 y]] W (BgPost W s3 m3 k3))
 (h4 : ∀ W, DS W mB B → DS W mG G → Calls Tryz.prog 99 #[.agg #[.bool q, .slice B j d], .agg #[.bool l, .slice G h g]] W (BgPost W s4 m4 k4))
 (h5 : ∀ X x Y y W, DS W m3 X → DS W m4 Y → k3 ≤ x → k4 ≤ y → Calls Tryz.prog 44 #[.agg #[.bool s3, .slice X k3 x], .agg #[.bool s4, .slice Y k4 y]] W (RqPost W u v xm ym xk yk)) :
 Calls Tryz.prog 72 #[.agg #[.bool s, .slice A k c, .bool q, .slice B j d], .agg #[.bool t, .slice E i f, .bool l, .slice G h g]] w (RqPost w u v xm ym xk yk) := by
 have H1 := Lib.hid h1; clear h1
 have H2 := Lib.hid h2; clear h2
 have H3 := Lib.hid h3; clear h3
 have H4 := Lib.hid h4; clear h4
 have H5 := Lib.hid h5; clear h5
 go_enter Tryz.func72, Tryz.ntmps72
 go_upto_region 1 with fail
 generalize hW : World.alloc _ _ = W0
 have hb0 : Below w.heap.size w W0 := by rw [← hW]; exact (((Below.refl w.heap.size w).alloc (Nat.le_refl _) _).alloc (by simp) _).alloc (by simp; omega) _
 have hK : KT w ([] ++ [(w.heap.size, #[.bool s, .slice A k c, .bool q, .slice B j d])] ++ [(w.heap.size + 1, #[.bool t, .slice E i f, .bool l, .slice G h g])]) ([] ++ [(w.heap.size + 1 + 1, 4)]) W0 := by
  rw [← hW]
  exact (KT.of (((KS.nil w).boxed rfl _ _).boxed (by simp) _ _)).made (by simp) _ _ rfl
 have z0 : W0.drew.cell? ⟨w.heap.size + 1 + 1, 0, none⟩ = some (.bool false) := by rw [← hW]; exact (Row.at (by simp) [.bool false, .slice none 0 0, .bool false, .slice none 0 0] _).c 0 rfl
 have hz : w.heap.size + 1 + 1 < W0.drew.heap.size := by rw [← hW]; show _ < (World.alloc _ _).heap.size; simp
 replace dA := (dA.below hb0).drew'
 replace dB := (dB.below hb0).drew'
 replace dE := (dE.below hb0).drew'
 replace dG := (dG.below hb0).drew'
 clear hW hb0
 generalize hL : ([] ++ [(w.heap.size, #[.bool s, .slice A k c, .bool q, .slice B j d])] ++ [(w.heap.size + 1, #[.bool t, .slice E i f, .bool l, .slice G h g])] : List (Nat × Array Value)) = L at hK
 have HL := Lib.hid hL; clear hL
 have HM : Hid ((w.heap.size + 1 + 1, 4) ∈ ([] ++ [(w.heap.size + 1 + 1, 4)] : List (Nat × Nat))) := Lib.hid (by simp)
 generalize [] ++ [(w.heap.size + 1 + 1, 4)] = M at hK HM
 have l0 : ∀ W, KT w L M W → W.cell? ⟨w.heap.size, 0, none⟩ = some (.bool s) := fun W h => h.c 0 (by rw [← HL.out]; rfl) 0 rfl
 have l1 : ∀ W, KT w L M W → W.cell? ⟨w.heap.size, 1, none⟩ = some (.slice A k c) := fun W h => h.c 0 (by rw [← HL.out]; rfl) 1 rfl
 have l2 : ∀ W, KT w L M W → W.cell? ⟨w.heap.size, 2, none⟩ = some (.bool q) := fun W h => h.c 0 (by rw [← HL.out]; rfl) 2 rfl
 have l3 : ∀ W, KT w L M W → W.cell? ⟨w.heap.size, 3, none⟩ = some (.slice B j d) := fun W h => h.c 0 (by rw [← HL.out]; rfl) 3 rfl
 have n0 : ∀ W, KT w L M W → W.cell? ⟨w.heap.size + 1, 0, none⟩ = some (.bool t) := fun W h => h.c 1 (by rw [← HL.out]; rfl) 0 rfl
 have n1 : ∀ W, KT w L M W → W.cell? ⟨w.heap.size + 1, 1, none⟩ = some (.slice E i f) := fun W h => h.c 1 (by rw [← HL.out]; rfl) 1 rfl
 have n2 : ∀ W, KT w L M W → W.cell? ⟨w.heap.size + 1, 2, none⟩ = some (.bool l) := fun W h => h.c 1 (by rw [← HL.out]; rfl) 2 rfl
 have n3 : ∀ W, KT w L M W → W.cell? ⟨w.heap.size + 1, 3, none⟩ = some (.slice G h g) := fun W h => h.c 1 (by rw [← HL.out]; rfl) 3 rfl
 have xc0 : ∀ W, KT w L M W → W.cell? ⟨w.heap.size + 1 + 1, 0, none⟩ = some (cellAt W (w.heap.size + 1 + 1) 0) := fun W h => h.here HM.out 0 (by omega)
 have xf0 : ∀ W, KT w L M W → W.frozen? ⟨w.heap.size + 1 + 1, 0, none⟩ = false := fun W h => h.free HM.out 0 (by omega)
 have xc1 : ∀ W, KT w L M W → W.cell? ⟨w.heap.size + 1 + 1, 1, none⟩ = some (cellAt W (w.heap.size + 1 + 1) 1) := fun W h => h.here HM.out 1 (by omega)
 have xf1 : ∀ W, KT w L M W → W.frozen? ⟨w.heap.size + 1 + 1, 1, none⟩ = false := fun W h => h.free HM.out 1 (by omega)
 have xc2 : ∀ W, KT w L M W → W.cell? ⟨w.heap.size + 1 + 1, 2, none⟩ = some (cellAt W (w.heap.size + 1 + 1) 2) := fun W h => h.here HM.out 2 (by omega)
 have xf2 : ∀ W, KT w L M W → W.frozen? ⟨w.heap.size + 1 + 1, 2, none⟩ = false := fun W h => h.free HM.out 2 (by omega)
 have xc3 : ∀ W, KT w L M W → W.cell? ⟨w.heap.size + 1 + 1, 3, none⟩ = some (cellAt W (w.heap.size + 1 + 1) 3) := fun W h => h.here HM.out 3 (by omega)
 have xf3 : ∀ W, KT w L M W → W.frozen? ⟨w.heap.size + 1 + 1, 3, none⟩ = false := fun W h => h.free HM.out 3 (by omega)
 have hk0 := hK.drew
 clear hK
 go_region_held3 (fun w' : World => KT w L M w')
  (repeat (first
    | (with_reducible assumption)
    | (with_reducible refine KT.put4q ?_ HM.out _ _ _ _)
    | (with_reducible refine KT.drew ?_)
    | (with_reducible refine KT.after ?_ hb)))
  (first
    | (go_at_call 99; (with_reducible refine (H1.out _ dA dG).mono ?_); rintro e w' ⟨X1, x1, rfl, c1, e1, hb⟩; (replace dB := dB.below hb); (replace dE := dE.below hb); (replace dG := dG.below hb); (replace z0 := (hb.cell (p := ⟨w.heap.size + 1 + 1, 0, none⟩) hz).trans z0); (replace hz := Nat.lt_of_lt_of_le hz hb.size))
    | (go_at_call 99; (with_reducible refine (H2.out _ dE dB).mono ?_); rintro e w' ⟨X2, x2, rfl, c2, e2, hb⟩; (replace dB := dB.below hb); (replace dG := dG.below hb); (replace e1 := e1.below hb); (replace z0 := (hb.cell (p := ⟨w.heap.size + 1 + 1, 0, none⟩) hz).trans z0); (replace hz := Nat.lt_of_lt_of_le hz hb.size))
    | (go_at_call 109; (with_reducible refine (H3.out _ _ _ _ _ e1 e2 c1 c2).mono ?_); rintro e w' ⟨X3, x3, rfl, c3, e3, hb⟩; (replace dB := dB.below hb); (replace dG := dG.below hb); (replace z0 := (hb.cell (p := ⟨w.heap.size + 1 + 1, 0, none⟩) hz).trans z0); (replace hz := Nat.lt_of_lt_of_le hz hb.size))
    | (go_at_call 99; (with_reducible refine (H4.out _ dB dG).mono ?_); rintro e w' ⟨X4, x4, rfl, c4, e4, hb⟩; (replace e3 := e3.below hb); (replace z0 := (hb.cell (p := ⟨w.heap.size + 1 + 1, 0, none⟩) hz).trans z0); (replace hz := Nat.lt_of_lt_of_le hz hb.size))
    | (go_at_call 44; (with_reducible refine (H5.out _ _ _ _ _ e3 e4 c3 c4).mono ?_); rintro e w' ⟨X, x, Y, y, rfl, hc, ⟨dX, dY⟩, hb⟩; (replace z0 := (hb.cell (p := ⟨w.heap.size + 1 + 1, 0, none⟩) hz).trans z0); (replace hz := Nat.lt_of_lt_of_le hz hb.size)))
 have hq := ‹KT w L M _›
 have hr := hq.put_row (cs := [.bool u, .slice X xk x, .bool v, .slice Y yk y]) HM.out rfl
 have D1 := dX.fill4 z0 (.bool u) (.slice X xk x) (.bool v) (.slice Y yk y)
 have D2 := dY.fill4 z0 (.bool u) (.slice X xk x) (.bool v) (.slice Y yk y)
 have hB := hq.1.2
 go_wp2_with fail
 exact bodyPost_ret (results_R1 (cs := #[.bool u, .slice X xk x, .bool v, .slice Y yk y]) rfl rfl hr agg_rrat) rfl ⟨X, x, Y, y, rfl, hc, ⟨D1, D2⟩, hB⟩
end Go.Proofs.YtdfmmkidknginaaGreatDoor
