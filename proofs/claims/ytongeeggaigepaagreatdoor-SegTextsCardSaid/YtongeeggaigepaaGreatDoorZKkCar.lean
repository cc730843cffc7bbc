import Derived.Test.YtongeeggaigepaaGreatDoorZKkBase
import Derived.Shelf.Spec.BitsCarry
namespace Go.Proofs.YtongeeggaigepaaGreatDoor
open Go.RowKit
theorem add64 (x y c : Nat) (hc : c ≤ 1) (w : World) :
 (callFunc 189 #[.int .u64 x, .int .u64 y, .int .u64 c]).run Tryz.prog w =
   .ok (.value (.tuple #[.int .u64 (((x + y + c) % 18446744073709551616 : Nat) : Int), .int .u64 (((x + y + c) / 18446744073709551616 : Nat) : Int)])) w := by
 rw [run_callFunc_extern Tryz.func189 (by kernel_rfl) (by kernel_rfl) (by kernel_rfl) (e := add64Entry) (by kernel_rfl), run_add64 x y c (by omega) (by omega) (by omega) (by omega)]
 simp only [Result.andThen]
 congr 5 <;> omega
theorem sub64 (x y b : Nat) (hb : b ≤ 1) (w : World) :
 (callFunc 202 #[.int .u64 x, .int .u64 y, .int .u64 b]).run Tryz.prog w =
   .ok (.value (.tuple #[.int .u64 (((x + 18446744073709551616 - y - b) % 18446744073709551616 : Nat) : Int), .int .u64 ((if x < y + b then 1 else 0 : Nat) : Int)])) w := by
 rw [run_callFunc_extern Tryz.func202 (by kernel_rfl) (by kernel_rfl) (by kernel_rfl) (e := sub64Entry) (by kernel_rfl), run_sub64 x y b hb]
 rfl
theorem add64I (x y c : Int) (hx : 0 ≤ x) (hy : 0 ≤ y) (hc0 : 0 ≤ c) (hc : c ≤ 1) (w : World) :
 (callFunc 189 #[.int .u64 x, .int .u64 y, .int .u64 c]).run Tryz.prog w =
   .ok (.value (.tuple #[.int .u64 ((x + y + c) % 18446744073709551616), .int .u64 ((x + y + c) / 18446744073709551616)])) w := by
 rw [run_callFunc_extern Tryz.func189 (by kernel_rfl) (by kernel_rfl) (by kernel_rfl) (e := add64Entry) (by kernel_rfl), run_add64 x y c hx hy hc0 hc]
 rfl
theorem sub64I (x y b : Int) (hx : 0 ≤ x) (hx2 : x < 18446744073709551616) (hy : 0 ≤ y) (hy2 : y < 18446744073709551616) (hb0 : 0 ≤ b) (hb : b ≤ 1) (w : World) :
 (callFunc 202 #[.int .u64 x, .int .u64 y, .int .u64 b]).run Tryz.prog w =
   .ok (.value (.tuple #[.int .u64 ((x - y - b) % 18446744073709551616), .int .u64 (if x < y + b then 1 else 0)])) w := by
 obtain ⟨x, rfl⟩ := Int.eq_ofNat_of_zero_le hx
 obtain ⟨y, rfl⟩ := Int.eq_ofNat_of_zero_le hy
 obtain ⟨b, rfl⟩ := Int.eq_ofNat_of_zero_le hb0
 rw [sub64 x y b (by omega)]
 have e1 : (((x + 18446744073709551616 - y - b) % 18446744073709551616 : Nat) : Int) = ((x : Int) - y - b) % 18446744073709551616 := by omega
 have e2 : ((if x < y + b then 1 else 0 : Nat) : Int) = if (x : Int) < y + b then 1 else 0 := by split <;> split <;> omega
 rw [e1, e2]
end Go.Proofs.YtongeeggaigepaaGreatDoor
namespace Go.Proofs.YtongeeggaigepaaGreatDoor
open Go.RowKit
structure On (w w' : World) (b : Nat) : Prop where
 os : w'.os = w.os
 tape : w'.tape = w.tape
 output : w'.output = w.output
 size : w'.heap.size = w.heap.size
 block : ∀ k, k ≠ b → w'.heap[k]? = w.heap[k]?
 frozen : ∀ p, w'.frozen? p = w.frozen? p
theorem On.refl (w : World) (b : Nat) : On w w b := ⟨rfl, rfl, rfl, rfl, fun _ _ => rfl, fun _ => rfl⟩
theorem On.put {w w' : World} {b : Nat} (h : On w w' b) (i : Nat) (v : Value) : On w (w'.setCell ⟨b, i, none⟩ v) b :=
 ⟨h.os, h.tape, h.output, by simp [World.setCell, h.size], fun k hk => (Below.heap_setCell _ _ _ _ hk).trans (h.block k hk), fun p => (World.frozen?_setCell _ _ _ _).trans (h.frozen p)⟩
theorem On.drew {w w' : World} {b : Nat} (h : On w w' b) : On w w'.drew b := ⟨h.os, h.tape, h.output, h.size, h.block, h.frozen⟩
theorem On.cell {w w' : World} {b : Nat} (h : On w w' b) {p : Addr} (hp : p.block ≠ b) : w'.cell? p = w.cell? p := World.cell?_of_block (w := w) (h.block p.block hp)
theorem On.below {w w' : World} {b B : Nat} (h : On w w' b) (hB : B ≤ b) : Below B w w' := ⟨h.os, h.tape, h.output, by rw [h.size]; exact Nat.le_refl _, fun k hk => h.block k (by omega)⟩
theorem On.row {w w' : World} {b c : Nat} {vs : List Value} (h : On w w' b) (hc : c ≠ b) (hr : Row w c vs) : Row w' c vs :=
 ⟨by rw [h.size]; exact hr.lt, fun i _ hv => ⟨(h.cell hc).trans (hr.c i hv), (h.frozen _).trans (hr.f i hv)⟩⟩
def B64 : Int := 18446744073709551616
def carF (x y : Nat → Int) : Nat → Int
 | 0 => 0
 | k + 1 => (x k + y k + carF x y k) / B64
def sumF (x y : Nat → Int) (k : Nat) : Int := (x k + y k + carF x y k) % B64
theorem carF_bd {x y : Nat → Int} (hx : ∀ i, 0 ≤ x i ∧ x i < B64) (hy : ∀ i, 0 ≤ y i ∧ y i < B64) (k : Nat) : 0 ≤ carF x y k ∧ carF x y k ≤ 1 := by
 induction k with
 | zero => simp [carF]
 | succ k ih =>
   have a := hx k
   have b := hy k
   rw [carF]
   unfold B64 at *
   omega
theorem add_step {x y : Nat → Int} (hx : ∀ i, 0 ≤ x i ∧ x i < B64) (hy : ∀ i, 0 ≤ y i ∧ y i < B64) (k : Nat) (w : World) :
 (callFunc 189 #[.int .u64 (x k), .int .u64 (y k), .int .u64 (carF x y k)]).run Tryz.prog w = .ok (.value (.tuple #[.int .u64 (sumF x y k), .int .u64 (carF x y (k + 1))])) w :=
 add64I _ _ _ (hx k).1 (hy k).1 (carF_bd hx hy k).1 (carF_bd hx hy k).2 w
set_option maxHeartbeats 400000 in
theorem addTo_any (x y : Nat → Int) (n k bm om bn on' cm cn : Nat) (w : World) (hn : n ≤ 1000) (hne : bn ≠ bm)
 (hx : ∀ i, i < n → w.cell? ⟨bm, om + i, none⟩ = some (.int .u64 (x i)) ∧ w.frozen? ⟨bm, om + i, none⟩ = false) (hy : ∀ i, i < k → w.cell? ⟨bn, on' + i, none⟩ = some (.int .u64 (y i)))
 (hy0 : ∀ i, k ≤ i → i < n → y i = 0) (hbx : ∀ i, 0 ≤ x i ∧ x i < B64) (hby : ∀ i, 0 ≤ y i ∧ y i < B64) :
 Calls Tryz.prog 190 #[.slice (some ⟨bm, om, none⟩) n cm, .slice (some ⟨bn, on', none⟩) k cn] w fun e w' =>
  e = .returned (.int .u64 (carF x y n)) ∧ On w w' bm ∧ (∀ i, i < n → w'.cell? ⟨bm, om + i, none⟩ = some (.int .u64 (sumF x y i))) ∧ (∀ i, i < om ∨ om + n ≤ i → w'.cell? ⟨bm, i, none⟩ = w.cell? ⟨bm, i, none⟩) := by
 go_enter Tryz.func190, Tryz.ntmps190
 have Hx := Lib.hid hx; clear hx
 have Hy := Lib.hid hy; clear hy
 have Hy0 := Lib.hid hy0; clear hy0
 have Hbx := Lib.hid hbx; clear hbx
 have Hby := Lib.hid hby; clear hby
 go_wp2
 go_loopw [4, 9] (fun c i wr => ∃ j : Nat, j ≤ n ∧ i = .int .i64 j ∧ c = .int .u64 (carF x y j) ∧ On w wr bm ∧ Hid (∀ i, i < j → wr.cell? ⟨bm, om + i, none⟩ = some (.int .u64 (sumF x y i))) ∧
  Hid (∀ i, i < om ∨ om + j ≤ i → wr.cell? ⟨bm, i, none⟩ = w.cell? ⟨bm, i, none⟩)) (fun _ i _ => n - (intOf i).toNat)
 case atStart => exact ⟨0, Nat.zero_le _, rfl, rfl, On.refl _ _, Lib.hid (fun i hi => by omega), Lib.hid (fun _ _ => rfl)⟩
 case round =>
  obtain ⟨j, hj, rfl, rfl, hO, H1, H2⟩ := hrel
  by_cases hjn : j < n
  ·have cx : wr.cell? ⟨bm, om + j, none⟩ = some (.int .u64 (x j)) := (H2.out _ (by omega)).trans (Hx.out j hjn).1
   have fx : wr.frozen? ⟨bm, om + j, none⟩ = false := (hO.frozen _).trans (Hx.out j hjn).2
   have hk1 : (j : Int) < n := by omega
   have ha := add_step Hbx.out Hby.out j wr
   have HR : Hid (∃ jj : Nat, jj ≤ n ∧ Value.int .i64 ((j : Int) + 1) = .int .i64 jj ∧ Value.int .u64 (carF x y (j + 1)) = .int .u64 (carF x y jj) ∧ On w (wr.setCell ⟨bm, om + j, none⟩ (.int .u64 (sumF x y j))) bm ∧
    Hid (∀ i, i < jj → (wr.setCell ⟨bm, om + j, none⟩ (.int .u64 (sumF x y j))).cell? ⟨bm, om + i, none⟩ = some (.int .u64 (sumF x y i))) ∧
    Hid (∀ i, i < om ∨ om + jj ≤ i → (wr.setCell ⟨bm, om + j, none⟩ (.int .u64 (sumF x y j))).cell? ⟨bm, i, none⟩ = w.cell? ⟨bm, i, none⟩)) := by
    refine Lib.hid ⟨j + 1, by omega, by go_num, rfl, hO.put _ _, Lib.hid (fun i hi => ?_), Lib.hid (fun i hi => ?_)⟩
    ·by_cases e : i = j
     ·subst e; exact World.cell?_setCell_same' _ _ _ (by rw [cx]; rfl)
     ·rw [World.cell?_setCell_other _ _ _ _ (fun h => e (by have := congrArg Addr.off h; simp at this; omega))]; exact H1.out i (by omega)
    ·rw [World.cell?_setCell_other _ _ _ _ (fun h => by have := congrArg Addr.off h; simp at this; omega)]; exact H2.out i (by omega)
   by_cases hjk : j < k
   ·have cy : wr.cell? ⟨bn, on' + j, none⟩ = some (.int .u64 (y j)) := (hO.cell hne).trans (Hy.out j hjk)
    have hk2 : (j : Int) < k := by omega
    go_wp2
    go_roundw
    case rel => exact HR.out
    case measure => simp [intOf]; omega
   ·have hk2 : ¬ (j : Int) < k := by omega
    rw [Hy0.out j (by omega) hjn] at ha
    go_wp2
    go_roundw
    case rel => exact HR.out
    case measure => simp [intOf]; omega
  ·obtain rfl : j = n := by omega
   go_wp2
   go_ret
   exact ⟨rfl, hO, H1.out, H2.out⟩
end Go.Proofs.YtongeeggaigepaaGreatDoor
namespace Go.Proofs.YtongeeggaigepaaGreatDoor
open Go.RowKit
def borF (x y : Nat → Int) : Nat → Int
 | 0 => 0
 | k + 1 => if x k < y k + borF x y k then 1 else 0
def difF (x y : Nat → Int) (k : Nat) : Int := (x k - y k - borF x y k) % B64
theorem borF_bd (x y : Nat → Int) (k : Nat) : 0 ≤ borF x y k ∧ borF x y k ≤ 1 := by
 cases k with
 | zero => simp [borF]
 | succ k => rw [borF]; split <;> omega
theorem sub_step {x y : Nat → Int} (hx : ∀ i, 0 ≤ x i ∧ x i < B64) (hy : ∀ i, 0 ≤ y i ∧ y i < B64) (k : Nat) (w : World) :
 (callFunc 202 #[.int .u64 (x k), .int .u64 (y k), .int .u64 (borF x y k)]).run Tryz.prog w = .ok (.value (.tuple #[.int .u64 (difF x y k), .int .u64 (borF x y (k + 1))])) w :=
 sub64I _ _ _ (hx k).1 (hx k).2 (hy k).1 (hy k).2 (borF_bd x y k).1 (borF_bd x y k).2 w
set_option maxHeartbeats 800000 in
theorem takeFrom_any (x y : Nat → Int) (n bm om bn on' cm cn : Nat) (w : World) (hn : n ≤ 1000) (hne : bn ≠ bm)
 (hx : ∀ i, i < n → w.cell? ⟨bm, om + i, none⟩ = some (.int .u64 (x i)) ∧ w.frozen? ⟨bm, om + i, none⟩ = false) (hy : ∀ i, i < n → w.cell? ⟨bn, on' + i, none⟩ = some (.int .u64 (y i)))
 (hbx : ∀ i, 0 ≤ x i ∧ x i < B64) (hby : ∀ i, 0 ≤ y i ∧ y i < B64) :
 Calls Tryz.prog 186 #[.slice (some ⟨bm, om, none⟩) n cm, .slice (some ⟨bn, on', none⟩) n cn] w fun e w' =>
  e = .returned (.tuple #[]) ∧ On w w' bm ∧ (∀ i, i < n → w'.cell? ⟨bm, om + i, none⟩ = some (.int .u64 (difF x y i))) ∧ (∀ i, i < om ∨ om + n ≤ i → w'.cell? ⟨bm, i, none⟩ = w.cell? ⟨bm, i, none⟩) := by
 go_enter Tryz.func186, Tryz.ntmps186
 have Hx := Lib.hid hx; clear hx
 have Hy := Lib.hid hy; clear hy
 have Hbx := Lib.hid hbx; clear hbx
 have Hby := Lib.hid hby; clear hby
 go_wp2
 go_loopw [4, 8] (fun c i wr => ∃ j : Nat, j ≤ n ∧ i = .int .i64 j ∧ c = .int .u64 (borF x y j) ∧ On w wr bm ∧ Hid (∀ i, i < j → wr.cell? ⟨bm, om + i, none⟩ = some (.int .u64 (difF x y i))) ∧
  Hid (∀ i, i < om ∨ om + j ≤ i → wr.cell? ⟨bm, i, none⟩ = w.cell? ⟨bm, i, none⟩)) (fun _ i _ => n - (intOf i).toNat)
 case atStart => exact ⟨0, Nat.zero_le _, rfl, rfl, On.refl _ _, Lib.hid (fun i hi => by omega), Lib.hid (fun _ _ => rfl)⟩
 case round =>
  obtain ⟨j, hj, rfl, rfl, hO, H1, H2⟩ := hrel
  by_cases hjn : j < n
  ·have cx : wr.cell? ⟨bm, om + j, none⟩ = some (.int .u64 (x j)) := (H2.out _ (by omega)).trans (Hx.out j hjn).1
   have fx : wr.frozen? ⟨bm, om + j, none⟩ = false := (hO.frozen _).trans (Hx.out j hjn).2
   have cy : wr.cell? ⟨bn, on' + j, none⟩ = some (.int .u64 (y j)) := (hO.cell hne).trans (Hy.out j hjn)
   have hk0 : (0 : Int) ≤ j := by omega
   have hk1 : (j : Int) < n := by omega
   have ha := fun w => sub_step Hbx.out Hby.out j w
   have HR : Hid (∀ W : World, (∀ b i, W.cell? ⟨b, i, none⟩ = (wr.setCell ⟨bm, om + j, none⟩ (.int .u64 (difF x y j))).cell? ⟨b, i, none⟩) → On w W bm → ∃ jj : Nat, jj ≤ n ∧ Value.int .i64 ((j : Int) + 1) = .int .i64 jj ∧ Value.int .u64 (borF x y (j + 1)) = .int .u64 (borF x y jj) ∧ On w W bm ∧
    Hid (∀ i, i < jj → W.cell? ⟨bm, om + i, none⟩ = some (.int .u64 (difF x y i))) ∧
    Hid (∀ i, i < om ∨ om + jj ≤ i → W.cell? ⟨bm, i, none⟩ = w.cell? ⟨bm, i, none⟩)) := by
    refine Lib.hid (fun W hW hOW => ⟨j + 1, by omega, by go_num, rfl, hOW, Lib.hid (fun i hi => ?_), Lib.hid (fun i hi => ?_)⟩)
    ·rw [hW]
     by_cases e : i = j
     ·subst e; exact World.cell?_setCell_same' _ _ _ (by rw [cx]; rfl)
     ·rw [World.cell?_setCell_other _ _ _ _ (fun h => e (by have := congrArg Addr.off h; simp at this; omega))]; exact H1.out i (by omega)
    ·rw [hW, World.cell?_setCell_other _ _ _ _ (fun h => by have := congrArg Addr.off h; simp at this; omega)]; exact H2.out i (by omega)
   go_wp2
   go_region
   go_wp2
   go_roundw
   case rel => exact HR.out _ (fun _ _ => rfl) (hO.put _ _).drew
   case measure => simp [intOf]; omega
  ·obtain rfl : j = n := by omega
   go_wp2
   go_end0
   exact ⟨rfl, hO, H1.out, H2.out⟩
end Go.Proofs.YtongeeggaigepaaGreatDoor
