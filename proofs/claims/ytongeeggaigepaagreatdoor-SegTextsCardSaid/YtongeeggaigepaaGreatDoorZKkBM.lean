import Derived.Test.YtongeeggaigepaaGreatDoorZKkCar
import Derived.Test.YtongeeggaigepaaGreatDoorZKkBase
import Derived.Test.YtongeeggaigepaaGreatDoorKkShelf
import Derived.Test.YtongeeggaigepaaGreatDoorZKkP
import Derived.Deep.RegionHeld3
import Derived.BigRegion
import Derived.Laws.Bits64b
import Derived.IntWalk
namespace Go.Proofs.YtongeeggaigepaaGreatDoor
open Go.RowKit
def atC (X Y : Nat → Nat) (v : Nat) : Nat → Nat
 | 0 => 0
 | k + 1 => (Y k * v + atC X Y v k + X k) / 18446744073709551616
def atD (X Y : Nat → Nat) (v k : Nat) : Nat := (Y k * v + atC X Y v k + X k) % 18446744073709551616
theorem mul_word {a b : Nat} (ha : a < 18446744073709551616) (hb : b < 18446744073709551616) : a * b ≤ 340282366920938463426481119284349108225 := by
 have h1 : a * b ≤ 18446744073709551615 * b := Nat.mul_le_mul_right b (by omega)
 have h2 : 18446744073709551615 * b ≤ 18446744073709551615 * 18446744073709551615 := Nat.mul_le_mul_left _ (by omega)
 omega
theorem atC_lt {X Y : Nat → Nat} {v : Nat} (hX : ∀ i, X i < 18446744073709551616) (hY : ∀ i, Y i < 18446744073709551616) (hv : v < 18446744073709551616) (k : Nat) : atC X Y v k < 18446744073709551616 := by
 induction k with
 | zero => rw [atC]; decide
 | succ k ih =>
   rw [atC]
   have := mul_word (hY k) hv
   have := hX k
   generalize Y k * v = t at *
   omega
theorem at_val {X Y : Nat → Nat} {v : Nat} (n : Nat) : valW (atD X Y v) n + atC X Y v n * 18446744073709551616 ^ n = valW X n + v * valW Y n := by
 induction n with
 | zero => simp [valW, atC]
 | succ n ih =>
   rw [valW, valW, valW, atC, Nat.pow_succ]
   have e : atD X Y v n + (Y n * v + atC X Y v n + X n) / 18446744073709551616 * 18446744073709551616 = Y n * v + atC X Y v n + X n := by
    unfold atD; omega
   generalize (Y n * v + atC X Y v n + X n) / 18446744073709551616 = q at *
   generalize atD X Y v n = d at *
   generalize 18446744073709551616 ^ n = p at *
   have e2 : (d + q * 18446744073709551616) * p = (Y n * v + atC X Y v n + X n) * p := by rw [e]
   rw [Nat.add_mul, Nat.add_mul, Nat.add_mul, Nat.mul_assoc] at e2
   rw [Nat.mul_comm p, Nat.mul_add]
   have e3 : v * (Y n * p) = Y n * v * p := by rw [← Nat.mul_assoc, Nat.mul_comm v]
   rw [e3]
   generalize q * (18446744073709551616 * p) = z at *
   generalize Y n * v * p = y at *
   generalize X n * p = x at *
   generalize d * p = dd at *
   generalize atC X Y v n * p = c at *
   omega
theorem at_step (a b c x : Nat) (ha : a < 18446744073709551616) (hb : b < 18446744073709551616) :
 (x + (a * b % 18446744073709551616 + c) % 18446744073709551616) % 18446744073709551616 = (a * b + c + x) % 18446744073709551616 ∧
 a * b / 18446744073709551616 + (a * b % 18446744073709551616 + c) / 18446744073709551616 + (x + (a * b % 18446744073709551616 + c) % 18446744073709551616) / 18446744073709551616 = (a * b + c + x) / 18446744073709551616 ∧
 a * b / 18446744073709551616 < 18446744073709551615 := by
 have := mul_word ha hb
 generalize a * b = t at *
 omega
theorem at_words (X Y : Nat → Nat) (v j : Nat) (hX : ∀ i, X i < 18446744073709551616) (hY : ∀ i, Y i < 18446744073709551616) (hv : v < 18446744073709551616) (w : World) :
 ∃ hi lo lo1 c1 m1 d1 : Nat,
  Hid (∀ W, Calls Tryz.prog 188 #[.int .u64 (Y j : Nat), .int .u64 (v : Nat)] W fun e W' => e = .returned (.tuple #[.int .u64 (hi : Nat), .int .u64 (lo : Nat)]) ∧ W = W') ∧
  ((callFunc 189 #[.int .u64 (lo : Nat), .int .u64 (atC X Y v j : Nat), .int .u64 0]).run Tryz.prog w = .ok (.value (.tuple #[.int .u64 (lo1 : Nat), .int .u64 (c1 : Nat)])) w) ∧
  ((callFunc 189 #[.int .u64 (X j : Nat), .int .u64 (lo1 : Nat), .int .u64 0]).run Tryz.prog w = .ok (.value (.tuple #[.int .u64 (m1 : Nat), .int .u64 (d1 : Nat)])) w) ∧
  Hid (m1 = atD X Y v j) ∧ Hid (hi + c1 + d1 = atC X Y v (j + 1)) ∧ Hid (IntKind.u64.wrap (IntKind.u64.wrap ((hi : Int) + (c1 : Nat)) + (d1 : Nat)) = ((hi + c1 + d1 : Nat) : Int)) := by
 obtain ⟨e1, e2, e3⟩ := at_step (Y j) v (atC X Y v j) (X j) (hY j) hv
 have hc := atC_lt hX hY hv (j + 1)
 have h1 := fun W => Tryz.bits_Mul64 (Y j) v (hY j) hv W
 have h2 := add64 (Y j * v % 18446744073709551616) (atC X Y v j) 0 (by omega) w
 have h3 := add64 (X j) ((Y j * v % 18446744073709551616 + atC X Y v j) % 18446744073709551616) 0 (by omega) w
 simp only [Nat.add_zero] at h2 h3
 refine ⟨_, _, _, _, _, _, Lib.hid (fun W => (h1 W).mono fun _ _ ⟨a, b⟩ => ⟨a, b.symm⟩), h2, h3, Lib.hid e1, Lib.hid (by rw [atC]; exact e2), Lib.hid ?_⟩
 rw [atC, ← e2] at hc
 rw [IntKind.wrap_u64, IntKind.wrap_u64]; omega
set_option maxHeartbeats 800000 in
theorem addTimes_any (X Y : Nat → Nat) (v n bm om bn on' cm cn : Nat) (w : World) (hn : n ≤ 1000) (hne : bn ≠ bm)
 (hx : ∀ i, i < n → w.cell? ⟨bm, om + i, none⟩ = some (.int .u64 (X i : Nat)) ∧ w.frozen? ⟨bm, om + i, none⟩ = false) (hy : ∀ i, i < n → w.cell? ⟨bn, on' + i, none⟩ = some (.int .u64 (Y i : Nat)))
 (hX : ∀ i, X i < 18446744073709551616) (hY : ∀ i, Y i < 18446744073709551616) (hv : v < 18446744073709551616) :
 Calls Tryz.prog 163 #[.slice (some ⟨bm, om, none⟩) n cm, .slice (some ⟨bn, on', none⟩) n cn, .int .u64 (v : Nat)] w fun e w' =>
  e = .returned (.int .u64 (atC X Y v n : Nat)) ∧ On w w' bm ∧ (∀ i, i < n → w'.cell? ⟨bm, om + i, none⟩ = some (.int .u64 (atD X Y v i : Nat))) ∧ (∀ i, i < om ∨ om + n ≤ i → w'.cell? ⟨bm, i, none⟩ = w.cell? ⟨bm, i, none⟩) := by
 have Hx := Lib.hid hx; clear hx
 have Hy := Lib.hid hy; clear hy
 have HX := Lib.hid hX; clear hX
 have HY := Lib.hid hY; clear hY
 have HV := Lib.hid hv; clear hv
 go_enter Tryz.func163, Tryz.ntmps163
 go_wp2_with fail
 go_loopw [6, 14] (fun c i wr => ∃ j : Nat, j ≤ n ∧ i = .int .i64 j ∧ c = .int .u64 (atC X Y v j : Nat) ∧ On w wr bm ∧ Hid (∀ i, i < j → wr.cell? ⟨bm, om + i, none⟩ = some (.int .u64 (atD X Y v i : Nat))) ∧
  Hid (∀ i, i < om ∨ om + j ≤ i → wr.cell? ⟨bm, i, none⟩ = w.cell? ⟨bm, i, none⟩)) (fun _ i _ => n - (intOf i).toNat)
 case atStart => exact ⟨0, Nat.zero_le _, rfl, rfl, On.refl _ _, Lib.hid (fun i hi => by omega), Lib.hid (fun _ _ => rfl)⟩
 case round =>
  obtain ⟨j, hj, rfl, rfl, hO, H1, H2⟩ := hrel
  by_cases hjn : j < n
  ·have cx : wr.cell? ⟨bm, om + j, none⟩ = some (.int .u64 (X j : Nat)) := (H2.out _ (by omega)).trans (Hx.out j hjn).1
   have fx : wr.frozen? ⟨bm, om + j, none⟩ = false := (hO.frozen _).trans (Hx.out j hjn).2
   have cy : wr.cell? ⟨bn, on' + j, none⟩ = some (.int .u64 (Y j : Nat)) := (hO.cell hne).trans (Hy.out j hjn)
   have hk1 : (j : Int) < n := by omega
   obtain ⟨hi, lo, lo1, c1, m1, d1, HM, ha1, ha2, HD, HC, HS⟩ := at_words X Y v j HX.out HY.out HV.out wr
   have HR : Hid (∃ jj : Nat, jj ≤ n ∧ Value.int .i64 ((j : Int) + 1) = .int .i64 jj ∧ Value.int .u64 (IntKind.u64.wrap (IntKind.u64.wrap ((hi : Int) + (c1 : Nat)) + (d1 : Nat))) = .int .u64 (atC X Y v jj : Nat) ∧ On w (wr.setCell ⟨bm, om + j, none⟩ (.int .u64 (m1 : Nat))) bm ∧
    Hid (∀ i, i < jj → (wr.setCell ⟨bm, om + j, none⟩ (.int .u64 (m1 : Nat))).cell? ⟨bm, om + i, none⟩ = some (.int .u64 (atD X Y v i : Nat))) ∧
    Hid (∀ i, i < om ∨ om + jj ≤ i → (wr.setCell ⟨bm, om + j, none⟩ (.int .u64 (m1 : Nat))).cell? ⟨bm, i, none⟩ = w.cell? ⟨bm, i, none⟩)) := by
    refine Lib.hid ⟨j + 1, by omega, by go_num, by rw [HS.out, HC.out], hO.put _ _, Lib.hid (fun i hi => ?_), Lib.hid (fun i hi => ?_)⟩
    ·by_cases e : i = j
     ·subst e; rw [World.cell?_setCell_same' _ _ _ (by rw [cx]; rfl), HD.out]
     ·rw [World.cell?_setCell_other _ _ _ _ (fun h => e (by have := congrArg Addr.off h; simp at this; omega))]; exact H1.out i (by omega)
    ·rw [World.cell?_setCell_other _ _ _ _ (fun h => by have := congrArg Addr.off h; simp at this; omega)]; exact H2.out i (by omega)
   generalize atC X Y v j = cc at ha1 ⊢
   generalize X j = xx at cx ha2
   generalize Y j = yy at cy HM
   clear HD HC H1 H2 HS
   go_wp2_with fail
   refine (HM.out _).mono ?_
   rintro e w1 ⟨rfl, rfl⟩
   go_wp2_with fail
   exact ⟨HR.out, by simp [intOf]; omega⟩
  ·obtain rfl : j = n := by omega
   go_wp2
   go_ret
   exact ⟨rfl, hO, H1.out, H2.out⟩
end Go.Proofs.YtongeeggaigepaaGreatDoor
namespace Go.Proofs.YtongeeggaigepaaGreatDoor
open Go.RowKit
theorem valW_succ (x : Nat → Nat) (k : Nat) : valW x (k + 1) = valW x k + x k * 18446744073709551616 ^ k := rfl
theorem valW_split (X : Nat → Nat) (i k : Nat) : valW X (i + k) = valW X i + valW (fun j => X (i + j)) k * 18446744073709551616 ^ i := by
 induction k with
 | zero => simp [valW]
 | succ k ih =>
   rw [← Nat.add_assoc, valW, ih, valW, Nat.add_mul, Nat.pow_add, Nat.mul_assoc, Nat.mul_comm (18446744073709551616 ^ k), Nat.add_assoc]
theorem valW_zero {X : Nat → Nat} (k : Nat) (h : ∀ j, j < k → X j = 0) : valW X k = 0 := by
 induction k with
 | zero => rfl
 | succ k ih => rw [valW, ih (fun j hj => h j (by omega)), h k (by omega)]; simp
def prR (A Y : Nat → Nat) (v i j : Nat) : Nat :=
 if j < i then A j else if j < i + 4 then atD (fun k => A (i + k)) Y v (j - i) else if j = i + 4 then atC (fun k => A (i + k)) Y v 4 else A j
theorem prR_val (A Y : Nat → Nat) (v i : Nat) : valW (prR A Y v i) (i + (4 + 1)) = valW A (i + 4) + v * valW Y 4 * 18446744073709551616 ^ i := by
 rw [valW_split, valW_split A i 4]
 have e1 : valW (prR A Y v i) i = valW A i := valW_congr i (fun j hj => by unfold prR; rw [if_pos hj])
 have e3 : prR A Y v i (i + 4) = atC (fun k => A (i + k)) Y v 4 := by unfold prR; rw [if_neg (by omega), if_neg (by omega), if_pos rfl]
 have e4 : valW (fun j => prR A Y v i (i + j)) 4 = valW (atD (fun k => A (i + k)) Y v) 4 := valW_congr 4 (fun j hj => by unfold prR; rw [if_neg (by omega), if_pos (by omega), Nat.add_sub_cancel_left])
 have e2 : valW (fun j => prR A Y v i (i + j)) (4 + 1) = valW (atD (fun k => A (i + k)) Y v) 4 + atC (fun k => A (i + k)) Y v 4 * 18446744073709551616 ^ 4 := by
  rw [valW_succ, e3, e4]
 rw [e1, e2, at_val, Nat.add_mul, Nat.add_assoc]
theorem prR_lt {A Y : Nat → Nat} {v : Nat} (i : Nat) (hA : ∀ j, A j < 18446744073709551616) (hY : ∀ j, Y j < 18446744073709551616) (hv : v < 18446744073709551616) : ∀ j, prR A Y v i j < 18446744073709551616 := by
 intro j
 unfold prR
 split
 ·exact hA j
 ·split
  ·exact Nat.mod_lt _ (by decide)
  ·split
   ·exact atC_lt (fun k => hA _) hY hv 4
   ·exact hA j
def PrV (M N : Nat → Nat) (k : Nat) (A : Nat → Nat) : Prop := (∀ j, A j < 18446744073709551616) ∧ valW A (k + 4) = valW M k * valW N 4 ∧ ∀ j, k + 4 ≤ j → A j = 0
theorem PrV.start (M N : Nat → Nat) : PrV M N 0 (fun _ => 0) :=
 ⟨fun _ => show (0 : Nat) < _ by decide, by rw [valW_zero (0 + 4) (fun _ _ => rfl), show valW M 0 = 0 from rfl, Nat.zero_mul], fun _ _ => rfl⟩
theorem PrV.skip {M N A : Nat → Nat} {k : Nat} (h : PrV M N k A) (hz : M k = 0) : PrV M N (k + 1) A := by
 obtain ⟨h1, h2, h3⟩ := h
 refine ⟨h1, ?_, fun j hj => h3 j (by omega)⟩
 have e := valW_succ A (k + 4)
 rw [show k + 1 + 4 = (k + 4) + 1 by omega, e, valW_succ M k, h3 (k + 4) (Nat.le_refl _), h2, hz, Nat.zero_mul, Nat.zero_mul, Nat.add_zero, Nat.add_zero]
theorem PrV.step {M N A : Nat → Nat} {k : Nat} (h : PrV M N k A) (hN : ∀ j, N j < 18446744073709551616) (hM : ∀ j, M j < 18446744073709551616) : PrV M N (k + 1) (prR A N (M k) k) := by
 obtain ⟨h1, h2, h3⟩ := h
 refine ⟨prR_lt k h1 hN (hM k), ?_, fun j hj => ?_⟩
 ·have e := prR_val A N (M k) k
  rw [show k + 1 + 4 = k + (4 + 1) by omega, e, h2, valW_succ M k, Nat.add_mul, Nat.mul_right_comm]
 ·unfold prR
  rw [if_neg (by omega), if_neg (by omega), if_neg (by omega)]
  exact h3 j (by omega)
def row8 (A : Nat → Nat) : List Value := (List.range 8).map fun j => Value.int .u64 (A j : Nat)
theorem row8_at (A : Nat → Nat) {j : Nat} (h : j < 8) : (row8 A)[j]? = some (.int .u64 (A j : Nat)) := by
 unfold row8
 simp [h]
def PrS (w : World) (_M N : Nat → Nat) (A : Nat → Nat) (wr : World) : Prop :=
 Row wr (w.heap.size + 1) [.int .u64 (N 0 : Nat), .int .u64 (N 1 : Nat), .int .u64 (N 2 : Nat), .int .u64 (N 3 : Nat)] ∧ Row wr (w.heap.size + 2) [.int .u64 0, .int .u64 0, .int .u64 0, .int .u64 0] ∧ Row wr (w.heap.size + 3) (row8 A) ∧ Below w.heap.size w wr
theorem PrS.step {w wr w1 : World} {M N A : Nat → Nat} {v i : Nat} (h : PrS w M N A wr) (_hi : i < 4) (ho : On wr w1 (w.heap.size + 3)) (h1 : ∀ j, j < 4 → w1.cell? ⟨w.heap.size + 3, i + j, none⟩ = some (.int .u64 (atD (fun k => A (i + k)) N v j : Nat)))
 (h2 : ∀ j, j < i ∨ i + 4 ≤ j → w1.cell? ⟨w.heap.size + 3, j, none⟩ = wr.cell? ⟨w.heap.size + 3, j, none⟩) :
 PrS w M N (prR A N v i) (w1.setCell ⟨w.heap.size + 3, i + 4, none⟩ (.int .u64 (atC (fun k => A (i + k)) N v 4 : Nat))) := by
 obtain ⟨r1, r2, r3, hB⟩ := h
 refine ⟨(ho.row (by omega) r1).other (p := ⟨w.heap.size + 3, i + 4, none⟩) (by simp) _, (ho.row (by omega) r2).other (p := ⟨w.heap.size + 3, i + 4, none⟩) (by simp) _, ?_, below_put1 (hB.trans (ho.below (by omega))) (by omega) _ _⟩
 have hc : ∀ j, j < 8 → (w1.setCell ⟨w.heap.size + 3, i + 4, none⟩ (.int .u64 (atC (fun k => A (i + k)) N v 4 : Nat))).cell? ⟨w.heap.size + 3, j, none⟩ = some (.int .u64 (prR A N v i j : Nat)) := fun j hj => by
  unfold prR
  by_cases e : j = i + 4
  ·subst e
   rw [if_neg (by omega), if_neg (by omega), if_pos rfl]
   exact World.cell?_setCell_same' _ _ _ (by rw [h2 _ (by omega), r3.c (i + 4) (row8_at A hj)]; rfl)
  ·rw [World.cell?_setCell_other _ _ _ _ (fun h => e (by have := congrArg Addr.off h; simp at this; omega))]
   by_cases a : j < i
   ·rw [if_pos a, h2 _ (by omega)]; exact r3.c j (row8_at A hj)
   ·rw [if_neg a]
    by_cases b : j < i + 4
    ·rw [if_pos b]
     have := h1 (j - i) (by omega)
     rw [show i + (j - i) = j by omega] at this
     exact this
    ·rw [if_neg b, if_neg e, h2 _ (by omega)]; exact r3.c j (row8_at A hj)
 refine ⟨by rw [World.setCell]; simp; rw [ho.size]; exact r3.lt, fun j u hu => ?_⟩
 have hj : j < 8 := by
  rcases Nat.lt_or_ge j 8 with h | h
  ·exact h
  ·simp [row8, h] at hu
 rw [row8_at _ hj] at hu
 cases hu
 exact ⟨hc j hj, by rw [World.frozen?_setCell, ho.frozen]; exact r3.f j (row8_at A hj)⟩
def PrM (w : World) (M N A : Nat → Nat) (v k : Nat) (w1 : World) : Prop := PrS w M N (prR A N v k) (w1.setCell ⟨w.heap.size + 3, k + 4, none⟩ (.int .u64 (atC (fun j => A (k + j)) N v 4 : Nat)))
theorem PrS.call {w wr : World} {M N A : Nat → Nat} {v k c c' : Nat} (h : PrS w M N A wr) (hk : k < 4) (hA : ∀ j, A j < 18446744073709551616) (hN : ∀ j, N j < 18446744073709551616) (hv : v < 18446744073709551616) :
 Calls Tryz.prog 163 #[.slice (some ⟨w.heap.size + 3, k, none⟩) 4 c, .slice (some ⟨w.heap.size + 1, 0, none⟩) 4 c', .int .u64 (v : Nat)] wr.drew fun e w1 =>
  e = .returned (.int .u64 (atC (fun j => A (k + j)) N v 4 : Nat)) ∧ w1.cell? ⟨w.heap.size + 3, k + 4, none⟩ = some (.int .u64 (A (k + 4) : Nat)) ∧ w1.frozen? ⟨w.heap.size + 3, k + 4, none⟩ = false ∧ PrM w M N A v k w1 := by
 obtain ⟨r1, r2, r3, hB⟩ := h
 refine (addTimes_any (fun j => A (k + j)) N v 4 (w.heap.size + 3) k (w.heap.size + 1) 0 _ _ _ (by omega) (by omega) (fun i hi => ⟨(Row.drew r3).c (k + i) (row8_at A (by omega)), (Row.drew r3).f (k + i) (row8_at A (by omega))⟩)
  (fun i hi => by rw [Nat.zero_add]; exact (match i, hi with | 0, _ => (Row.drew r1).c 0 rfl | 1, _ => (Row.drew r1).c 1 rfl | 2, _ => (Row.drew r1).c 2 rfl | 3, _ => (Row.drew r1).c 3 rfl)) (fun j => hA _) hN hv).mono ?_
 rintro e w1 ⟨rfl, ho, h1, h2⟩
 exact ⟨rfl, (h2 (k + 4) (by omega)).trans ((Row.drew r3).c (k + 4) (row8_at A (by omega))), (ho.frozen ⟨w.heap.size + 3, k + 4, none⟩).trans ((Row.drew r3).f (k + 4) (row8_at A (by omega))), PrS.step ⟨r1.drew, r2.drew, r3.drew, hB.drew⟩ hk ho h1 h2⟩
theorem or4 (a b c d : Nat) (ha : a < 18446744073709551616) (hb : b < 18446744073709551616) (hc : c < 18446744073709551616) (hd : d < 18446744073709551616) :
 bits BinOp.or IntKind.u64 (bits BinOp.or IntKind.u64 (bits BinOp.or IntKind.u64 (a : Nat) (b : Nat)) (c : Nat)) (d : Nat) = ((a ||| b ||| c ||| d : Nat) : Int) := by
 have h1 : a ||| b < 2 ^ 64 := Nat.or_lt_two_pow (by omega) (by omega)
 have h2 : a ||| b ||| c < 2 ^ 64 := Nat.or_lt_two_pow h1 (by omega)
 rw [bits_or_u64_nat _ _ (by omega) (by omega), bits_or_u64_nat _ _ (by omega) (by omega), bits_or_u64_nat _ _ (by omega) (by omega)]
theorem four_zero (X : Nat → Nat) : valW X 4 = 0 ↔ X 0 = 0 ∧ X 1 = 0 ∧ X 2 = 0 ∧ X 3 = 0 := by
 constructor
 ·intro h
  simp only [valW] at h
  omega
 ·rintro ⟨h0, h1, h2, h3⟩
  exact valW_zero 4 (fun j hj => by match j, hj with | 0, _ => exact h0 | 1, _ => exact h1 | 2, _ => exact h2 | 3, _ => exact h3)
theorem split_zero (a b p : Nat) (ha : a < p) : b = 0 ↔ a + b * p < p := by
 constructor
 ·intro h; subst h; omega
 ·intro h
  rcases Nat.eq_zero_or_pos b with h0 | h0
  ·exact h0
  ·have := Nat.le_mul_of_pos_left p h0
   omega
theorem upper_zero {A : Nat → Nat} (h : ∀ j, A j < 18446744073709551616) : (A 4 ||| A 5 ||| A 6 ||| A 7 = 0) ↔ valW A (4 + 4) < 18446744073709551616 ^ 4 := by
 rw [valW_split A 4 4, ← split_zero _ _ _ (valW_lt (x := A) 4 (fun j _ => h j)), four_zero, Nat.or_eq_zero_iff, Nat.or_eq_zero_iff, Nat.or_eq_zero_iff, and_assoc, and_assoc]
def ProdV (P : Nat) (v : Value) : Prop := ∃ o : Nat, v = .tuple #[wv (W64 P 0 : Nat) (W64 P 1 : Nat) (W64 P 2 : Nat) (W64 P 3 : Nat), .int .u64 (o : Nat)] ∧ (o = 0 ↔ P < 18446744073709551616 ^ 4)
theorem PrV.done {M N A : Nat → Nat} (h : PrV M N 4 A) :
 ProdV (valW M 4 * valW N 4) (.tuple #[wv (A 0 : Nat) (A 1 : Nat) (A 2 : Nat) (A 3 : Nat), .int .u64 (bits BinOp.or IntKind.u64 (bits BinOp.or IntKind.u64 (bits BinOp.or IntKind.u64 (A 4 : Nat) (A 5 : Nat)) (A 6 : Nat)) (A 7 : Nat))]) := by
 obtain ⟨h1, h2, _⟩ := h
 have hw := W64_val (x := A) (4 + 4) (fun j _ => h1 j)
 refine ⟨A 4 ||| A 5 ||| A 6 ||| A 7, ?_, ?_⟩
 ·rw [or4 _ _ _ _ (h1 4) (h1 5) (h1 6) (h1 7), ← h2, hw 0 (by omega), hw 1 (by omega), hw 2 (by omega), hw 3 (by omega)]
 ·rw [← h2]; exact upper_zero h1
theorem arr_at (b : Nat) (W : World) : (Instr.arrayAt 179 (.slice (some ⟨b, 0, none⟩) 4 8)).run Tryz.prog W = .ok (.pointer (some ⟨b, 0, none⟩)) W := by kernel_rfl
set_option maxRecDepth 100000 in
set_option maxHeartbeats 1600000 in
theorem product_any (M N : Nat → Nat) (w : World) (hM : ∀ i, M i < 18446744073709551616) (hN : ∀ i, N i < 18446744073709551616) :
 Calls Tryz.prog 142 #[wv (M 0 : Nat) (M 1 : Nat) (M 2 : Nat) (M 3 : Nat), wv (N 0 : Nat) (N 1 : Nat) (N 2 : Nat) (N 3 : Nat)] w fun e w' =>
  (∃ v, e = .returned v ∧ ProdV (valW M 4 * valW N 4) v) ∧ Below w.heap.size w w' := by
 have HM := Lib.hid hM; clear hM
 have HN := Lib.hid hN; clear hN
 go_enter Tryz.func142, Tryz.ntmps142
 go_wp2_with fail
 generalize hW : World.alloc _ _ = W0
 have hS : PrS w M N (fun _ => 0) W0 := by
  rw [← hW]
  exact ⟨((Row.at (by simp) _ _).alloc _).alloc _, (Row.at (by simp) _ _).alloc _, Row.at (by simp) _ _, ((((Below.refl w.heap.size w).alloc (Nat.le_refl _) _).alloc (by simp) _).alloc (by simp; omega) _).alloc (by simp; omega) _⟩
 clear hW
 have HS := Lib.hid hS
 clear hS
 go_loopw [10] (fun i wr => ∃ (k : Nat) (A : Nat → Nat), k ≤ 4 ∧ i = .int .i64 k ∧ Hid (PrS w M N A wr) ∧ Hid (PrV M N k A)) (fun i _ => 4 - (intOf i).toNat)
 case atStart => exact ⟨0, fun _ => 0, by omega, rfl, HS, Lib.hid (PrV.start M N)⟩
 case round =>
  obtain ⟨k, A, hk, rfl, HK, HV⟩ := hrel
  by_cases hk4 : k < 4
  ·have hix : ∀ w, (Instr.index 179 (.agg #[.int .u64 (M 0), .int .u64 (M 1), .int .u64 (M 2), .int .u64 (M 3)]) (.int .i64 (k : Int))).run Tryz.prog w = .ok (.int .u64 (M k)) w := by
    intro w
    match k, hk4 with
    | 0, _ => exact index0 _ _ _ _ _
    | 1, _ => exact index1 _ _ _ _ _
    | 2, _ => exact index2 _ _ _ _ _
    | 3, _ => exact index3 _ _ _ _ _
   have hk1 : (k : Int) < 4 := by omega
   by_cases hz : M k = 0
   ·have hb : (((M k : Nat) : Int) != 0) = false := by rw [hz]; rfl
    have HZ := Lib.hid hz
    clear hz
    go_wp2_with fail
    go_roundw
    case rel => exact ⟨k + 1, A, by omega, by go_num, HK, Lib.hid (HV.out.skip HZ.out)⟩
    case measure => simp [intOf]; omega
   ·have hb : (((M k : Nat) : Int) != 0) = true := by simp; exact hz
    clear hz
    go_wp2_with fail
    clear hix
    have CT := Lib.hid (fun c c' => HK.out.call (v := M k) (c := c) (c' := c') hk4 HV.out.1 HN.out (HM.out k))
    rw [show w.heap.size + 3 = w.heap.size + 1 + 1 + 1 from rfl] at CT
    have HV2 := Lib.hid (HV.out.step HN.out HM.out)
    have s1 : IntKind.i64.wrap ((k : Int) + 4) = (k : Int) + 4 := IntWalk.i64_in _ (by omega)
    have s2 : (0 : Int) ≤ (k : Int) + 4 := by omega
    have s3 : ((k : Int) + 4).toNat = k + 4 := by omega
    have s4 : (k : Int) + 4 ≤ 8 := by omega
    have s5 : (k : Int) ≤ (k : Int) + 4 := by omega
    have s6 : (k : Int) + 4 < 8 := by omega
    have HK4 := Lib.hid hk4
    clear HK HV hk4 hk1
    go_region_with ((go_at_call 163; with_reducible refine (CT.out _ _).mono ?_; rintro e w1 ⟨rfl, c5, f5, hM⟩))
    clear s1 s2 s3 s4 s5 s6 c5 f5
    have hM2 : PrS w M N (prR A N (M k) k) (w1.setCell ⟨w.heap.size + 1 + 1 + 1, k + 4, none⟩ (.int .u64 (atC (fun j => A (k + j)) N (M k) 4 : Nat))) := hM
    have HM2 := Lib.hid hM2
    clear hM hM2
    generalize World.setCell _ _ _ = W5 at HM2 ⊢
    have hk4 := HK4.out
    go_wp2_with fail
    go_roundw
    case rel => exact ⟨k + 1, _, by omega, by go_num, HM2, HV2⟩
    case measure => simp [intOf]; omega
  ·obtain rfl : k = 4 := by omega
   obtain ⟨r1, r2, r3, hB⟩ := HK.out
   have a0 := r3.c 0 (row8_at A (by omega))
   have a1 := r3.c 1 (row8_at A (by omega))
   have a2 := r3.c 2 (row8_at A (by omega))
   have a3 := r3.c 3 (row8_at A (by omega))
   have a4 := r3.c 4 (row8_at A (by omega))
   have a5 := r3.c 5 (row8_at A (by omega))
   have a6 := r3.c 6 (row8_at A (by omega))
   have a7 := r3.c 7 (row8_at A (by omega))
   have b0 := r2.c 0 rfl
   have b1 := r2.c 1 rfl
   have b2 := r2.c 2 rfl
   have b3 := r2.c 3 rfl
   have f0 := r2.f 0 rfl
   have f1 := r2.f 1 rfl
   have f2 := r2.f 2 rfl
   have f3 := r2.f 3 rfl
   have hat : ∀ W : World, (Instr.arrayAt 179 (.slice (some ⟨w.heap.size + 1 + 1 + 1, 0, none⟩) 4 8)).run Tryz.prog W = .ok (.pointer (some ⟨w.heap.size + 1 + 1 + 1, 0, none⟩)) W := fun W => arr_at _ W
   clear HK HS r1 r3
   go_wp2_with fail
   go_region
   clear a0 a1 a2 a3 a4 a5 a6 a7 b0 b1 b2 b3 f0 f1 f2 f3 hat
   have hR := r2.put4 (.int .u64 (A 0 : Nat)) (.int .u64 (A 1 : Nat)) (.int .u64 (A 2 : Nat)) (.int .u64 (A 3 : Nat))
   have hB2 : Below w.heap.size w _ := below_put4 hB (show w.heap.size ≤ w.heap.size + 1 + 1 by omega) (.int .u64 (A 0 : Nat)) (.int .u64 (A 1 : Nat)) (.int .u64 (A 2 : Nat)) (.int .u64 (A 3 : Nat))
   rw [show w.heap.size + 2 = w.heap.size + 1 + 1 from rfl] at hR
   have HD := HV.out.done
   generalize World.setCell _ _ _ = W5 at hR hB2 ⊢
   generalize bits BinOp.or IntKind.u64 _ _ = o at HD ⊢
   have HDD := Lib.hid HD
   clear HD
   go_wp2_with fail
   exact bodyPost_ret (v := .tuple #[wv (A 0 : Nat) (A 1 : Nat) (A 2 : Nat) (A 3 : Nat), .int .u64 o]) (by simp [results, Tryz.results142, go_sem, hR.c 0 rfl, hR.c 1 rfl, hR.c 2 rfl, hR.c 3 rfl]) rfl ⟨⟨_, rfl, HDD.out⟩, hB2.drew⟩
end Go.Proofs.YtongeeggaigepaaGreatDoor
