/- Contracts of package ratio's small functions by numbers; no condition but that numbers are Ints. -/
import Derived.Test.YthmobcpdbgmbeaaGreatDoorSC
import Derived.Test.YthmobcpdbgmbeaaGreatDoorEN
import Derived.Test.YthmobcpdbgmbeaaGreatDoorBC
import Derived.Deep.RegionHeld3
import Derived.Lib.QuietBelow
namespace Go.Proofs.YthmobcpdbgmbeaaGreatDoor
open Go.RowKit

/-- The cells of an Int, of a Rat, by their numbers. -/
abbrev intA (z : Int) : Array Value := #[.bool (decide (z < 0)), .int .u64 (W64 z.natAbs 0 : Nat), .int .u64 (W64 z.natAbs 1 : Nat), .int .u64 (W64 z.natAbs 2 : Nat), .int .u64 (W64 z.natAbs 3 : Nat)]
theorem ivz_int (z : Int) : ivz z = .agg (intA z) := rfl
theorem intA_one (z : Int) : OneC (intA z) := by simp [OneC, Value.oneCell']
def ratA (n d : Int) : Array Value := #[.bool (decide (n < 0)), .int .u64 (W64 n.natAbs 0 : Nat), .int .u64 (W64 n.natAbs 1 : Nat), .int .u64 (W64 n.natAbs 2 : Nat), .int .u64 (W64 n.natAbs 3 : Nat),
  .bool (decide (d < 0)), .int .u64 (W64 d.natAbs 0 : Nat), .int .u64 (W64 d.natAbs 1 : Nat), .int .u64 (W64 d.natAbs 2 : Nat), .int .u64 (W64 d.natAbs 3 : Nat)]
theorem ratA_size (n d : Int) : (ratA n d).size = 10 := rfl
theorem ratA_one (n d : Int) : OneC (ratA n d) := by simp [OneC, ratA, Value.oneCell']
theorem agg_int : AggTy Tryz.prog 30 5 := .of _ Tryz.underlying30 rfl (by kernel_rfl)
theorem agg_rat : AggTy Tryz.prog 32 10 := .of _ Tryz.underlying32 rfl (by kernel_rfl)
theorem of_num (n : Int) (h1 : -9223372036854775808 ≤ n) (h2 : n ≤ 9223372036854775807) (w : World) : Calls Tryz.prog 78 #[.int .i64 n] w fun e w' => e = .returned (.agg (intA n)) ∧ Below w.heap.size w w' := by
  have h := of_any n w
  rw [← ivz_small n h1 h2] at h
  exact h
theorem KT.put10 {w W : World} {L : List (Nat × Array Value)} {M : List (Nat × Nat)} {b n : Nat} (h : KT w L M W) (hm : (b, n) ∈ M) (y0 y1 y2 y3 y4 y5 y6 y7 y8 y9 : Value) :
    KT w L M ((((((((((W.setCell ⟨b, 0, none⟩ y0).setCell ⟨b, 1, none⟩ y1).setCell ⟨b, 2, none⟩ y2).setCell ⟨b, 3, none⟩ y3).setCell ⟨b, 4, none⟩ y4).setCell ⟨b, 5, none⟩ y5).setCell ⟨b, 6, none⟩ y6).setCell ⟨b, 7, none⟩ y7).setCell ⟨b, 8, none⟩ y8).setCell ⟨b, 9, none⟩ y9) :=
  h.put hm [y0, y1, y2, y3, y4, y5, y6, y7, y8, y9]
theorem KT.put5 {w W : World} {L : List (Nat × Array Value)} {M : List (Nat × Nat)} {b n : Nat} (h : KT w L M W) (hm : (b, n) ∈ M) (y0 y1 y2 y3 y4 : Value) :
    KT w L M (((((W.setCell ⟨b, 0, none⟩ y0).setCell ⟨b, 1, none⟩ y1).setCell ⟨b, 2, none⟩ y2).setCell ⟨b, 3, none⟩ y3).setCell ⟨b, 4, none⟩ y4) :=
  h.put hm [y0, y1, y2, y3, y4]
/-- A cell that is there. -/
def cellAt (w : World) (b i : Nat) : Value := (w.cell? ⟨b, i, none⟩).getD undef
theorem KT.here {w W : World} {L : List (Nat × Array Value)} {M : List (Nat × Nat)} {b n : Nat} (h : KT w L M W) (hm : (b, n) ∈ M) (i : Nat) (hi : i < n) : W.cell? ⟨b, i, none⟩ = some (cellAt W b i) := by
  obtain ⟨v, hv⟩ := Option.isSome_iff_exists.1 ((h.2 _ hm).1.2 i hi).1
  rw [cellAt, hv]; rfl
theorem KT.free {w W : World} {L : List (Nat × Array Value)} {M : List (Nat × Nat)} {b n : Nat} (h : KT w L M W) (hm : (b, n) ∈ M) (i : Nat) (hi : i < n) : W.frozen? ⟨b, i, none⟩ = false := ((h.2 _ hm).1.2 i hi).2
set_option maxRecDepth 100000 in
set_option maxHeartbeats 1600000 in
theorem whole_num (n : Int) (w : World) : Calls Tryz.prog 121 #[.agg (intA n)] w fun e w' => e = .returned (.agg (ratA n 1)) ∧ Below w.heap.size w w' := by
  have H1 := Lib.hid (of_num 1 (by decide) (by decide))
  go_enter Tryz.func121, Tryz.ntmps121
  go_wp2_with fail
  generalize hW : World.alloc _ _ = W0
  have hK : KT w ([] ++ [(w.heap.size, intA n)]) ([] ++ [(w.heap.size + 1, 10)]) W0 := by rw [← hW]; exact (KT.of ((KS.nil w).boxed rfl _ _)).made (by simp) zero_rat _ rfl
  clear hW
  generalize hL : [] ++ [(w.heap.size, intA n)] = L at hK
  generalize hM : [] ++ [(w.heap.size + 1, 10)] = M at hK
  have HL := Lib.hid hL; clear hL
  have HM := Lib.hid (show (w.heap.size + 1, 10) ∈ M by rw [← hM]; simp); clear hM
  have l0 : ∀ W, KT w L M W → W.cell? ⟨w.heap.size, 0, none⟩ = some (.bool (decide (n < 0))) := fun W h => h.c 0 (by rw [← HL.out]; rfl) 0 rfl
  have l1 : ∀ W, KT w L M W → W.cell? ⟨w.heap.size, 1, none⟩ = some (.int .u64 (W64 (n).natAbs 0 : Nat)) := fun W h => h.c 0 (by rw [← HL.out]; rfl) 1 rfl
  have l2 : ∀ W, KT w L M W → W.cell? ⟨w.heap.size, 2, none⟩ = some (.int .u64 (W64 (n).natAbs 1 : Nat)) := fun W h => h.c 0 (by rw [← HL.out]; rfl) 2 rfl
  have l3 : ∀ W, KT w L M W → W.cell? ⟨w.heap.size, 3, none⟩ = some (.int .u64 (W64 (n).natAbs 2 : Nat)) := fun W h => h.c 0 (by rw [← HL.out]; rfl) 3 rfl
  have l4 : ∀ W, KT w L M W → W.cell? ⟨w.heap.size, 4, none⟩ = some (.int .u64 (W64 (n).natAbs 3 : Nat)) := fun W h => h.c 0 (by rw [← HL.out]; rfl) 4 rfl
  have qc0 : ∀ W, KT w L M W → W.cell? ⟨w.heap.size + 1, 0, none⟩ = some (cellAt W (w.heap.size + 1) 0) := fun W h => h.here HM.out 0 (by decide)
  have qf0 : ∀ W, KT w L M W → W.frozen? ⟨w.heap.size + 1, 0, none⟩ = false := fun W h => h.free HM.out 0 (by decide)
  have qc1 : ∀ W, KT w L M W → W.cell? ⟨w.heap.size + 1, 1, none⟩ = some (cellAt W (w.heap.size + 1) 1) := fun W h => h.here HM.out 1 (by decide)
  have qf1 : ∀ W, KT w L M W → W.frozen? ⟨w.heap.size + 1, 1, none⟩ = false := fun W h => h.free HM.out 1 (by decide)
  have qc2 : ∀ W, KT w L M W → W.cell? ⟨w.heap.size + 1, 2, none⟩ = some (cellAt W (w.heap.size + 1) 2) := fun W h => h.here HM.out 2 (by decide)
  have qf2 : ∀ W, KT w L M W → W.frozen? ⟨w.heap.size + 1, 2, none⟩ = false := fun W h => h.free HM.out 2 (by decide)
  have qc3 : ∀ W, KT w L M W → W.cell? ⟨w.heap.size + 1, 3, none⟩ = some (cellAt W (w.heap.size + 1) 3) := fun W h => h.here HM.out 3 (by decide)
  have qf3 : ∀ W, KT w L M W → W.frozen? ⟨w.heap.size + 1, 3, none⟩ = false := fun W h => h.free HM.out 3 (by decide)
  have qc4 : ∀ W, KT w L M W → W.cell? ⟨w.heap.size + 1, 4, none⟩ = some (cellAt W (w.heap.size + 1) 4) := fun W h => h.here HM.out 4 (by decide)
  have qf4 : ∀ W, KT w L M W → W.frozen? ⟨w.heap.size + 1, 4, none⟩ = false := fun W h => h.free HM.out 4 (by decide)
  have qc5 : ∀ W, KT w L M W → W.cell? ⟨w.heap.size + 1, 5, none⟩ = some (cellAt W (w.heap.size + 1) 5) := fun W h => h.here HM.out 5 (by decide)
  have qf5 : ∀ W, KT w L M W → W.frozen? ⟨w.heap.size + 1, 5, none⟩ = false := fun W h => h.free HM.out 5 (by decide)
  have qc6 : ∀ W, KT w L M W → W.cell? ⟨w.heap.size + 1, 6, none⟩ = some (cellAt W (w.heap.size + 1) 6) := fun W h => h.here HM.out 6 (by decide)
  have qf6 : ∀ W, KT w L M W → W.frozen? ⟨w.heap.size + 1, 6, none⟩ = false := fun W h => h.free HM.out 6 (by decide)
  have qc7 : ∀ W, KT w L M W → W.cell? ⟨w.heap.size + 1, 7, none⟩ = some (cellAt W (w.heap.size + 1) 7) := fun W h => h.here HM.out 7 (by decide)
  have qf7 : ∀ W, KT w L M W → W.frozen? ⟨w.heap.size + 1, 7, none⟩ = false := fun W h => h.free HM.out 7 (by decide)
  have qc8 : ∀ W, KT w L M W → W.cell? ⟨w.heap.size + 1, 8, none⟩ = some (cellAt W (w.heap.size + 1) 8) := fun W h => h.here HM.out 8 (by decide)
  have qf8 : ∀ W, KT w L M W → W.frozen? ⟨w.heap.size + 1, 8, none⟩ = false := fun W h => h.free HM.out 8 (by decide)
  have qc9 : ∀ W, KT w L M W → W.cell? ⟨w.heap.size + 1, 9, none⟩ = some (cellAt W (w.heap.size + 1) 9) := fun W h => h.here HM.out 9 (by decide)
  have qf9 : ∀ W, KT w L M W → W.frozen? ⟨w.heap.size + 1, 9, none⟩ = false := fun W h => h.free HM.out 9 (by decide)
  go_region_held3 (fun w' : World => KT w L M w')
    (first
      | (with_reducible refine KT.drew ?_; with_reducible assumption)
      | (with_reducible refine KT.put10 ?_ HM.out _ _ _ _ _ _ _ _ _ _; with_reducible assumption)
      | (with_reducible refine KT.alloc ?_ _; with_reducible assumption)
      | (with_reducible refine KT.after ?_ hb; with_reducible assumption))
    (first
      | (go_at_call 78; refine (H1.out _).mono ?_; rintro e w' ⟨rfl, hb⟩))
  clear l0 l1 l2 l3 l4 qc0 qc1 qc2 qc3 qc4 qc5 qc6 qc7 qc8 qc9 qf0 qf1 qf2 qf3 qf4 qf5 qf6 qf7 qf8 qf9
  have hq := ‹KT w L M _›
  have hr := hq.put_row (cs := [_, _, _, _, _, _, _, _, _, _]) HM.out rfl
  go_wp2
  exact bodyPost_ret (results_R1 (cs := ratA n 1) rfl rfl hr agg_rat) rfl ⟨rfl, hq.1.2⟩
end Go.Proofs.YthmobcpdbgmbeaaGreatDoor
