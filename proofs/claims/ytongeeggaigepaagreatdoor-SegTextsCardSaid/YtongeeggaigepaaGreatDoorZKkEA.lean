import Derived.Test.YtongeeggaigepaaGreatDoorZKkBM
import Derived.Test.YtongeeggaigepaaGreatDoorZKkBX
import Derived.Test.YtongeeggaigepaaGreatDoorZKkDA
import Derived.Deep.QuietTactic
import Derived.BigQuiet
import Derived.Deep.LoopGhost
import Derived.Laws.BitsAllLaws
import Derived.Laws.CopyOwn
import Derived.Deep.RegionLaw
namespace Go.Proofs.YtongeeggaigepaaGreatDoor
open Go.RowKit
end Go.Proofs.YtongeeggaigepaaGreatDoor
namespace Go.Proofs.YtongeeggaigepaaGreatDoor
open Go.RowKit
theorem valI_cast (R : Nat → Nat) : ∀ n, valI (fun i => (R i : Int)) n = ((valW R n : Nat) : Int)
 | 0 => rfl
 | n + 1 => by rw [valI, valI_cast R n, valW]; simp [B64]
theorem cast_bd {R : Nat → Nat} (h : ∀ i, R i < 18446744073709551616) : BdF (fun i => (R i : Int)) := fun i => by
 have := h i
 show 0 ≤ ((R i : Nat) : Int) ∧ ((R i : Nat) : Int) < B64
 unfold B64
 omega
end Go.Proofs.YtongeeggaigepaaGreatDoor
namespace Go.Proofs.YtongeeggaigepaaGreatDoor
open Go.RowKit
theorem shl_gen {B P m r A : Nat} (hB : B = P * A) (hP : P = 2 ^ r) (hA : 0 < A) (j : Nat) :
 m * P / B ^ (j + 1) % B = (m / B ^ (j + 1) % B) * P % B + m / B ^ j % B / A := by
 have hPp : 0 < P := by rw [hP]; exact Nat.pow_pos (by decide)
 have hBp : 0 < B := by rw [hB]; exact Nat.mul_pos hPp hA
 have hBj : 0 < B ^ j := Nat.pow_pos hBp
 have e1 : m * P / B ^ j = m / B ^ j * P + m % B ^ j * P / B ^ j := by
  have h := Nat.div_add_mod m (B ^ j)
  have e : m * P = m % B ^ j * P + B ^ j * (m / B ^ j * P) := by
   rw [← Nat.mul_assoc, ← Nat.add_mul, Nat.add_comm, h]
  rw [e, Nat.add_mul_div_left _ _ hBj, Nat.add_comm]
 have e2 : m % B ^ j * P / B ^ j < P := by
  rw [Nat.div_lt_iff_lt_mul hBj, Nat.mul_comm P]
  exact Nat.mul_lt_mul_of_pos_right (Nat.mod_lt _ hBj) hPp
 rw [Nat.pow_succ, ← Nat.div_div_eq_div_mul, ← Nat.div_div_eq_div_mul, e1]
 generalize m % B ^ j * P / B ^ j = e at *
 generalize m / B ^ j = h
 have d := Nat.div_add_mod h B
 have l := Nat.mod_lt h hBp
 generalize h / B = h1 at *
 generalize h % B = h0 at *
 subst d
 have e3 : ((B * h1 + h0) * P + e) / B = h1 * P + h0 / A := by
  have e4 : (h0 * P + e) / B = h0 / A := by
   rw [hB, ← Nat.div_div_eq_div_mul, Nat.add_comm, Nat.add_mul_div_right _ _ hPp, Nat.div_eq_of_lt e2, Nat.zero_add]
  rw [Nat.add_mul, Nat.add_assoc, show B * h1 * P = B * (h1 * P) by rw [Nat.mul_assoc], Nat.add_comm, Nat.add_mul_div_left _ _ hBp, e4, Nat.add_comm]
 rw [e3]
 have h0A : h0 / A < P := by rw [Nat.div_lt_iff_lt_mul hA, ← hB]; exact l
 have e5 : h1 % B * P % B = h1 * P % B := by rw [Nat.mod_mul_mod]
 rw [e5]
 have e6 : h1 * P % B = P * (h1 % A) := by rw [hB, Nat.mul_comm h1, Nat.mul_mod_mul_left]
 have hA2 : h1 % A < A := Nat.mod_lt _ hA
 have e7 : h1 * P % B + h0 / A < B := by
  rw [e6, hB]
  have : P * (h1 % A + 1) ≤ P * A := Nat.mul_le_mul_left _ hA2
  rw [Nat.mul_add, Nat.mul_one] at this
  omega
 rw [Nat.add_mod, Nat.mod_eq_of_lt (Nat.lt_of_le_of_lt (Nat.le_add_left _ _) e7), Nat.mod_eq_of_lt e7]
theorem pow_halves {r : Nat} (h : r ≤ 64) : 18446744073709551616 = 2 ^ r * 2 ^ (64 - r) := by
 rw [← Nat.pow_add, show r + (64 - r) = 64 by omega]
theorem shl_word {r : Nat} (h : r ≤ 64) (m j : Nat) : W64 (m * 2 ^ r) (j + 1) = W64 m (j + 1) * 2 ^ r % 18446744073709551616 + W64 m j / 2 ^ (64 - r) :=
 shl_gen (pow_halves h) rfl (Nat.pow_pos (by decide)) j
theorem shl_low (m r : Nat) : W64 (m * 2 ^ r) 0 = W64 m 0 * 2 ^ r % 18446744073709551616 := by
 unfold W64; rw [Nat.pow_zero, Nat.div_one, Nat.div_one, Nat.mod_mul_mod]
theorem shr_gen {B P m A : Nat} (hB : B = P * A) (hP : 0 < P) (hA : 0 < A) (j : Nat) :
 m / P / B ^ j % B = m / B ^ j % B / P + (m / B ^ (j + 1) % B) * A % B := by
 have hBp : 0 < B := by rw [hB]; exact Nat.mul_pos hP hA
 rw [Nat.pow_succ, ← Nat.div_div_eq_div_mul, Nat.div_div_eq_div_mul m P, Nat.mul_comm P, ← Nat.div_div_eq_div_mul]
 generalize m / B ^ j = h
 have d := Nat.div_add_mod h B
 have l := Nat.mod_lt h hBp
 generalize h / B = h1 at *
 generalize h % B = h0 at *
 subst d
 have e3 : (B * h1 + h0) / P = A * h1 + h0 / P := by
  rw [hB, Nat.mul_assoc, Nat.add_comm, Nat.add_mul_div_left _ _ hP, Nat.add_comm]
 have h0P : h0 / P < A := by rw [Nat.div_lt_iff_lt_mul hP, Nat.mul_comm, ← hB]; exact l
 have e5 : h1 % B * A % B = A * h1 % B := by rw [Nat.mod_mul_mod, Nat.mul_comm]
 have e6 : A * h1 % B = A * (h1 % P) := by rw [hB, Nat.mul_comm P, Nat.mul_mod_mul_left]
 have hP2 : h1 % P < P := Nat.mod_lt _ hP
 have e7 : A * h1 % B + h0 / P < B := by
  rw [e6, hB, Nat.mul_comm P]
  have : A * (h1 % P + 1) ≤ A * P := Nat.mul_le_mul_left _ hP2
  rw [Nat.mul_add, Nat.mul_one] at this
  omega
 rw [e3, e5, Nat.add_mod, Nat.mod_eq_of_lt (Nat.lt_of_le_of_lt (Nat.le_add_left _ _) e7), Nat.mod_eq_of_lt e7, Nat.add_comm]
theorem shr_word {r : Nat} (h : r ≤ 64) (m j : Nat) : W64 (m / 2 ^ r) j = W64 m j / 2 ^ r + W64 m (j + 1) * 2 ^ (64 - r) % 18446744073709551616 :=
 shr_gen (pow_halves h) (Nat.pow_pos (by decide)) (Nat.pow_pos (by decide)) j
theorem or_plus {r x y : Nat} (hy : y < 2 ^ r) : x * 2 ^ r ||| y = x * 2 ^ r + y := by
 rw [← Nat.shiftLeft_eq, Nat.shiftLeft_add_eq_or_of_lt hy]
theorem or_shl {r x y : Nat} (h : r ≤ 64) (hy : y < 18446744073709551616) : x * 2 ^ r % 18446744073709551616 ||| y / 2 ^ (64 - r) = x * 2 ^ r % 18446744073709551616 + y / 2 ^ (64 - r) := by
 have e : x * 2 ^ r % 18446744073709551616 = x % 2 ^ (64 - r) * 2 ^ r := by
  rw [pow_halves h, Nat.mul_comm x, Nat.mul_mod_mul_left, Nat.mul_comm]
 rw [e]
 apply or_plus
 rw [Nat.div_lt_iff_lt_mul (Nat.pow_pos (by decide)), ← pow_halves h]
 exact hy
theorem or_shr {r x y : Nat} (h : r ≤ 64) (hx : x < 18446744073709551616) : x / 2 ^ r ||| y * 2 ^ (64 - r) % 18446744073709551616 = x / 2 ^ r + y * 2 ^ (64 - r) % 18446744073709551616 := by
 have h2 := or_shl (r := 64 - r) (x := y) (y := x) (by omega) hx
 rw [show 64 - (64 - r) = r by omega] at h2
 rw [Nat.or_comm, h2, Nat.add_comm]
def R4 (w : World) (b : Nat) (x : Nat → Nat) : Prop := b < w.heap.size ∧ ∀ i, i < 4 → w.cell? ⟨b, i, none⟩ = some (.int .u64 (x i : Nat)) ∧ w.frozen? ⟨b, i, none⟩ = false
theorem R4.of_row {w : World} {b : Nat} {x : Nat → Nat} (h : Row w b [.int .u64 (x 0 : Nat), .int .u64 (x 1 : Nat), .int .u64 (x 2 : Nat), .int .u64 (x 3 : Nat)]) : R4 w b x := ⟨h.lt, fun i hi => by
 match i, hi with
 | 0, _ => exact ⟨h.c 0 rfl, h.f 0 rfl⟩
 | 1, _ => exact ⟨h.c 1 rfl, h.f 1 rfl⟩
 | 2, _ => exact ⟨h.c 2 rfl, h.f 2 rfl⟩
 | 3, _ => exact ⟨h.c 3 rfl, h.f 3 rfl⟩⟩
theorem R4.put {w : World} {b : Nat} {x : Nat → Nat} (h : R4 w b x) (j v : Nat) (hj : j < 4) : R4 (w.setCell ⟨b, j, none⟩ (.int .u64 (v : Nat))) b (fun i => if i = j then v else x i) := by
 refine ⟨by simpa [World.setCell] using h.1, fun i hi => ⟨?_, by rw [World.frozen?_setCell]; exact (h.2 i hi).2⟩⟩
 by_cases e : i = j
 ·subst e
  rw [World.cell?_setCell_same' _ _ _ (by rw [(h.2 i hi).1]; rfl)]
  simp
 ·rw [World.cell?_setCell_other _ _ _ _ (fun h => e (congrArg Addr.off h).symm), (h.2 i hi).1]
  simp only [if_neg e]
theorem R4.other {w : World} {b : Nat} {x : Nat → Nat} (h : R4 w b x) {p : Addr} (hp : p.block ≠ b) (v : Value) : R4 (w.setCell p v) b x :=
 ⟨by simpa [World.setCell] using h.1, fun i hi => ⟨by rw [World.cell?_setCell_other _ _ _ _ (fun e => hp (by rw [e]))]; exact (h.2 i hi).1, by rw [World.frozen?_setCell]; exact (h.2 i hi).2⟩⟩
theorem R4.drewN {w : World} {b : Nat} {x : Nat → Nat} (h : R4 w b x) (k : Nat) : R4 (w.drewN k) b x := h
theorem R4.congr {w : World} {b : Nat} {x y : Nat → Nat} (h : R4 w b x) (hxy : ∀ i, i < 4 → x i = y i) : R4 w b y := ⟨h.1, fun i hi => by rw [← hxy i hi]; exact h.2 i hi⟩
theorem up_word (q r m d : Nat) : W64 (m * 2 ^ (64 * q + r)) (q + d) = W64 (m * 2 ^ r) d ∧ (d < q → W64 (m * 2 ^ (64 * q + r)) d = 0) := by
 have e : m * 2 ^ (64 * q + r) = m * 2 ^ r * 18446744073709551616 ^ q := by
  rw [Nat.pow_add, Nat.pow_mul, show (2 : Nat) ^ 64 = 18446744073709551616 by decide, Nat.mul_assoc, Nat.mul_comm (2 ^ r)]
 rw [e]
 generalize m * 2 ^ r = x
 have hB : ∀ k, 0 < 18446744073709551616 ^ k := fun k => Nat.pow_pos (by decide)
 unfold W64
 refine ⟨?_, fun h => ?_⟩
 ·rw [Nat.pow_add, ← Nat.div_div_eq_div_mul, Nat.mul_div_cancel _ (hB q)]
 ·obtain ⟨k, rfl⟩ : ∃ k, q = d + (k + 1) := ⟨q - d - 1, by omega⟩
  rw [Nat.pow_add, ← Nat.mul_assoc, Nat.mul_right_comm, Nat.mul_div_cancel _ (hB d), Nat.pow_succ, ← Nat.mul_assoc]
  exact Nat.mul_mod_left _ _
def UpS (w : World) (x y : Nat → Nat) (W : World) : Prop := R4 W w.heap.size x ∧ R4 W (w.heap.size + 1) y ∧ Below w.heap.size w W
theorem UpS.put {w W : World} {x y : Nat → Nat} (h : UpS w x y W) (j v : Nat) (hj : j < 4) : UpS w x (fun i => if i = j then v else y i) (W.setCell ⟨w.heap.size + 1, j, none⟩ (.int .u64 (v : Nat))) :=
 ⟨h.1.other (p := ⟨w.heap.size + 1, j, none⟩) (by show w.heap.size + 1 ≠ w.heap.size; omega) _, h.2.1.put j v hj, below_put1 h.2.2 (by omega) _ _⟩
theorem UpS.drewN {w W : World} {x y : Nat → Nat} (h : UpS w x y W) (k : Nat) : UpS w x y (W.drewN k) := ⟨h.1.drewN k, h.2.1.drewN k, below_drewN h.2.2 k⟩
theorem UpS.congr {w W : World} {x y z : Nat → Nat} (h : UpS w x y W) (hy : ∀ i, i < 4 → y i = z i) : UpS w x z W := ⟨h.1, h.2.1.congr hy, h.2.2⟩
set_option maxRecDepth 100000 in
set_option maxHeartbeats 2000000 in
theorem up_any (m q r : Nat) (w : World) (hq : q < 4) (hr : r < 64) :
 Calls Tryz.prog 187 #[wv (W64 m 0 : Nat) (W64 m 1 : Nat) (W64 m 2 : Nat) (W64 m 3 : Nat), .int .i64 ((64 * q + r : Nat) : Int)] w fun e w' =>
  e = .returned (wv (W64 (m * 2 ^ (64 * q + r)) 0 : Nat) (W64 (m * 2 ^ (64 * q + r)) 1 : Nat) (W64 (m * 2 ^ (64 * q + r)) 2 : Nat) (W64 (m * 2 ^ (64 * q + r)) 3 : Nat)) ∧ Below w.heap.size w w' := by
 have hS : UpS w (W64 m) (fun i => if i < q then W64 (m * 2 ^ (64 * q + r)) i else 0) ((w.alloc (.cells #[.int .u64 (W64 m 0 : Nat), .int .u64 (W64 m 1 : Nat), .int .u64 (W64 m 2 : Nat), .int .u64 (W64 m 3 : Nat)] 179)).alloc (.cells #[.int .u64 0, .int .u64 0, .int .u64 0, .int .u64 0] 179)) := by
  refine ⟨R4.of_row ((Row.at rfl _ _).alloc _), (R4.of_row (x := fun _ => 0) (Row.at (by simp) _ _)).congr (fun i _ => ?_), ((Below.refl w.heap.size w).alloc (Nat.le_refl _) _).alloc (by simp) _⟩
  show 0 = if i < q then W64 (m * 2 ^ (64 * q + r)) i else 0
  split
  ·rw [(up_word q r m i).2 (by assumption)]
  ·rfl
 have HS := Lib.hid hS
 clear hS
 have e1 : ((64 * q + r : Nat) : Int).tdiv 64 = (q : Int) := by rw [Int.tdiv_eq_ediv_of_nonneg (by omega)]; omega
 have e2 : ((64 * q + r : Nat) : Int).tmod 64 = (r : Int) := by rw [Int.tmod_eq_emod_of_nonneg (by omega)]; omega
 have e3 : ((64 * q + r : Nat) : Int) / 64 = (q : Int) := by omega
 have e4 : ((64 * q + r : Nat) : Int) % 64 = (r : Int) := by omega
 have h0 : (0 : Int) ≤ ((64 * q + r : Nat) : Int) := by omega
 have h1 : ((64 * q + r : Nat) : Int) < 256 := by omega
 obtain ⟨K, HK⟩ : ∃ K : Nat, Hid (64 * q + r = K) := ⟨_, Lib.hid rfl⟩
 rw [HK.out] at HS e1 e2 e3 e4 h0 h1 ⊢
 go_enter Tryz.func187, Tryz.ntmps187
 go_wp2_with fail
 generalize World.alloc _ _ = W0 at HS ⊢
 have HU := Lib.hid (fun d => (up_word q r m d).1)
 rw [HK.out] at HU
 clear e1 e2 e3 e4 h0 h1
 go_loopw [7] (fun i wr => ∃ d i' : Nat, Hid (i' = q + d) ∧ i' ≤ 4 ∧ i = .int .i64 (i' : Nat) ∧ Hid (UpS w (W64 m) (fun i => if i < i' then W64 (m * 2 ^ K) i else 0) wr)) (fun i _ => 4 - (intOf i).toNat)
 case atStart => exact ⟨0, q, Lib.hid rfl, by omega, rfl, HS⟩
 case round =>
  obtain ⟨d, i, HI, hi4, rfl, HK2⟩ := hrel
  clear HS
  by_cases hlt : i < 4
  ·have hi1 : (i : Int) < 4 := by omega
   have hi2 : (0 : Int) ≤ (i : Int) := by omega
   have hq4 : (q : Int) < 4 := by omega
   have e5 : (i : Int) - (q : Int) = (d : Int) := by have := HI.out; omega
   have hd4 : (d : Int) < 4 := by have := HI.out; omega
   have cx := (HK2.out.1.2 d (by have := HI.out; omega)).1
   have cn : wr.cell? ⟨w.heap.size + 1, i, none⟩ = some (.int .u64 ((0 : Nat) : Int)) := by
    have h := (HK2.out.2.1.2 i hlt).1
    simpa using h
   have fn := (HK2.out.2.1.2 i hlt).2
   have hr0 : (r : Int) < 64 := by omega
   rcases Nat.eq_zero_or_pos d with rfl | hdp
   ·have hn : ¬ (q : Int) < (i : Int) := by have := HI.out; omega
    have hsh : IntKind.u64.wrap (((W64 m 0 : Nat) : Int) * 2 ^ r) = ((W64 m 0 * 2 ^ r % 18446744073709551616 : Nat) : Int) := by
     rw [IntKind.wrap_u64]
     simp
    obtain ⟨S1, HS1⟩ : ∃ S1, Hid (W64 m 0 * 2 ^ r % 18446744073709551616 = S1) := ⟨_, Lib.hid rfl⟩
    rw [HS1.out] at hsh
    go_wp2_with fail
    refine ⟨⟨1, i + 1, Lib.hid (by have := HI.out; omega), by omega, rfl, Lib.hid ((HK2.out.put i S1 hlt).congr (fun j hj => ?_))⟩, by simp [intOf]; omega⟩
    show (if j = i then S1 else if j < i then W64 (m * 2 ^ K) j else 0) = if j < i + 1 then W64 (m * 2 ^ K) j else 0
    by_cases e : j = i
    ·have h1 := HU.out 0
     rw [← HI.out, shl_low, HS1.out] at h1
     rw [if_pos e, if_pos (by omega), e, h1]
    ·by_cases e2 : j < i
     ·rw [if_neg e, if_pos e2, if_pos (by omega)]
     ·rw [if_neg e, if_neg e2, if_neg (by omega)]
   ·obtain ⟨e, rfl⟩ : ∃ e, d = e + 1 := ⟨d - 1, by omega⟩
    have hn : (q : Int) < (i : Int) := by have := HI.out; omega
    obtain ⟨S1, HS1⟩ : ∃ S1, Hid (W64 m (e + 1) * 2 ^ r % 18446744073709551616 = S1) := ⟨_, Lib.hid rfl⟩
    have hsh : IntKind.u64.wrap (((W64 m (e + 1) : Nat) : Int) * 2 ^ r) = ((S1 : Nat) : Int) := by
     rw [← HS1.out, IntKind.wrap_u64]
     simp
    have HF := Lib.hid hsh
    go_upto_region 7 with fail
    have HK3 := Lib.hid (HK2.out.put i S1 hlt)
    clear cx cn fn hsh HK2
    generalize World.setCell _ _ _ = W1 at HK3 ⊢
    have cn : W1.cell? ⟨w.heap.size + 1, i, none⟩ = some (.int .u64 (S1 : Nat)) := by
     have h := (HK3.out.2.1.2 i hlt).1
     simpa using h
    have fn := (HK3.out.2.1.2 i hlt).2
    have cy := (HK3.out.1.2 e (by have := HI.out; omega)).1
    have w1 : IntKind.i64.wrap ((i : Int) - (q : Int)) = (e : Int) + 1 := by
     have h : (i : Int) - (q : Int) = (e : Int) + 1 := by have := HI.out; omega
     rw [h]; exact IntWalk.i64_in _ (by omega)
    have w2 : IntKind.i64.wrap ((e : Int) + 1 - 1) = (e : Int) := by rw [Int.add_sub_cancel]; exact IntWalk.i64_in _ (by omega)
    have w3 : IntKind.i64.wrap (64 - (r : Int)) = 64 - (r : Int) := IntWalk.i64_in _ (by omega)
    have w4 : (0 : Int) ≤ 64 - (r : Int) := by omega
    have w5 : (64 - (r : Int)).toNat = 64 - r := by omega
    have w6 : IntKind.i64.wrap (e : Int) = (e : Int) := IntWalk.i64_in _ (by omega)
    have w7 : (e : Int) < 4 := by omega
    have hor : bits BinOp.or IntKind.u64 (S1 : Int) (((W64 m e : Nat) : Int) / 2 ^ (64 - r)) = ((W64 (m * 2 ^ K) i : Nat) : Int) := by
     have h1 := HU.out (e + 1)
     rw [← HI.out, shl_word (by omega)] at h1
     have hb : W64 m e / 2 ^ (64 - r) < 18446744073709551616 := Nat.lt_of_le_of_lt (Nat.div_le_self _ _) (W64_lt m e)
     have h2 := u64_or_nat S1 (W64 m e / 2 ^ (64 - r)) (by rw [← HS1.out]; exact Nat.mod_lt _ (by decide)) hb
     rw [h1, ← or_shl (by omega) (W64_lt m e), HS1.out, ← h2]
     simp
    clear e5
    go_region
    all_goals
     go_wp2_with fail
     refine ⟨⟨e + 2, i + 1, Lib.hid (by have := HI.out; omega), by omega, rfl, Lib.hid ((((HK3.out.put i (W64 (m * 2 ^ K) i) hlt).drewN 1)).congr (fun j hj => ?_))⟩, by simp [intOf]; omega⟩
     show (if j = i then W64 (m * 2 ^ K) i else if j = i then S1 else if j < i then W64 (m * 2 ^ K) j else 0) = if j < i + 1 then W64 (m * 2 ^ K) j else 0
     by_cases e3 : j = i
     ·rw [if_pos e3, if_pos (by omega), e3]
     ·by_cases e2 : j < i
      ·rw [if_neg e3, if_neg e3, if_pos e2, if_pos (by omega)]
      ·rw [if_neg e3, if_neg e3, if_neg e2, if_neg (by omega)]
  ·obtain rfl : i = 4 := by omega
   have hR := HK2.out.2.1.congr (y := W64 (m * 2 ^ K)) (fun i hi => if_pos hi)
   have c0 := (hR.2 0 (by decide)).1
   have c1 := (hR.2 1 (by decide)).1
   have c2 := (hR.2 2 (by decide)).1
   have c3 := (hR.2 3 (by decide)).1
   have f0 := (hR.2 0 (by decide)).2
   have f1 := (hR.2 1 (by decide)).2
   have f2 := (hR.2 2 (by decide)).2
   have f3 := (hR.2 3 (by decide)).2
   have HB := Lib.hid HK2.out.2.2
   have hrow : Row wr (w.heap.size + 1) [.int .u64 (W64 (m * 2 ^ K) 0 : Nat), .int .u64 (W64 (m * 2 ^ K) 1 : Nat), .int .u64 (W64 (m * 2 ^ K) 2 : Nat), .int .u64 (W64 (m * 2 ^ K) 3 : Nat)] := ⟨hR.1, fun i v hv => by
    match i, hv with
    | 0, hv => exact ⟨c0.trans hv, f0⟩
    | 1, hv => exact ⟨c1.trans hv, f1⟩
    | 2, hv => exact ⟨c2.trans hv, f2⟩
    | 3, hv => exact ⟨c3.trans hv, f3⟩⟩
   have HRow := Lib.hid hrow
   clear hR hrow HK2
   go_wp2_with fail
   clear c0 c1 c2 c3 f0 f1 f2 f3
   have r9 := HRow.out.put4 (.int .u64 (W64 (m * 2 ^ K) 0 : Nat)) (.int .u64 (W64 (m * 2 ^ K) 1 : Nat)) (.int .u64 (W64 (m * 2 ^ K) 2 : Nat)) (.int .u64 (W64 (m * 2 ^ K) 3 : Nat))
   have hb9 := below_put4 HB.out (c := w.heap.size + 1) (by omega) (.int .u64 (W64 (m * 2 ^ K) 0 : Nat)) (.int .u64 (W64 (m * 2 ^ K) 1 : Nat)) (.int .u64 (W64 (m * 2 ^ K) 2 : Nat)) (.int .u64 (W64 (m * 2 ^ K) 3 : Nat))
   generalize World.setCell _ _ _ = W9 at r9 hb9 ⊢
   exact bodyPost_ret (v := wv (W64 (m * 2 ^ K) 0 : Nat) (W64 (m * 2 ^ K) 1 : Nat) (W64 (m * 2 ^ K) 2 : Nat) (W64 (m * 2 ^ K) 3 : Nat)) (by simp [results, Tryz.results187, go_sem, r9.c 0 rfl, r9.c 1 rfl, r9.c 2 rfl, r9.c 3 rfl]) rfl ⟨rfl, hb9⟩
end Go.Proofs.YtongeeggaigepaaGreatDoor
namespace Go.Proofs.YtongeeggaigepaaGreatDoor
open Go.RowKit
theorem down_word (q r m d : Nat) : W64 (m / 2 ^ (64 * q + r)) d = W64 (m / 2 ^ r) (q + d) := by
 have e : m / 2 ^ (64 * q + r) = m / 2 ^ r / 18446744073709551616 ^ q := by
  rw [Nat.pow_add, Nat.pow_mul, show (2 : Nat) ^ 64 = 18446744073709551616 by decide, Nat.mul_comm, ← Nat.div_div_eq_div_mul]
 rw [e]
 unfold W64
 rw [Nat.div_div_eq_div_mul (m / 2 ^ r), ← Nat.pow_add]
theorem W64_past {m : Nat} (hm : m < T256) (i : Nat) (hi : 4 ≤ i) : W64 m i = 0 := by
 unfold W64
 rw [T256_w] at hm
 rw [Nat.div_eq_of_lt (Nat.lt_of_lt_of_le hm (Nat.pow_le_pow_right (by decide) hi))]
set_option maxRecDepth 100000 in
set_option maxHeartbeats 2000000 in
theorem down_any (m q r : Nat) (w : World) (hm : m < T256) (hq : q < 4) (hr : r < 64) :
 Calls Tryz.prog 183 #[wv (W64 m 0 : Nat) (W64 m 1 : Nat) (W64 m 2 : Nat) (W64 m 3 : Nat), .int .i64 ((64 * q + r : Nat) : Int)] w fun e w' =>
  e = .returned (wv (W64 (m / 2 ^ (64 * q + r)) 0 : Nat) (W64 (m / 2 ^ (64 * q + r)) 1 : Nat) (W64 (m / 2 ^ (64 * q + r)) 2 : Nat) (W64 (m / 2 ^ (64 * q + r)) 3 : Nat)) ∧ Below w.heap.size w w' := by
 have hS : UpS w (W64 m) (fun i => if i < 0 then W64 (m / 2 ^ (64 * q + r)) i else 0) ((w.alloc (.cells #[.int .u64 (W64 m 0 : Nat), .int .u64 (W64 m 1 : Nat), .int .u64 (W64 m 2 : Nat), .int .u64 (W64 m 3 : Nat)] 179)).alloc (.cells #[.int .u64 0, .int .u64 0, .int .u64 0, .int .u64 0] 179)) := by
  refine ⟨R4.of_row ((Row.at rfl _ _).alloc _), (R4.of_row (x := fun _ => 0) (Row.at (by simp) _ _)).congr (fun i _ => ?_), ((Below.refl w.heap.size w).alloc (Nat.le_refl _) _).alloc (by simp) _⟩
  show 0 = if i < 0 then W64 (m / 2 ^ (64 * q + r)) i else 0
  rw [if_neg (by omega)]
 have HS := Lib.hid hS
 clear hS
 have HM := Lib.hid hm
 have HU := Lib.hid (fun d => down_word q r m d)
 have HTail : Hid (∀ j, 4 ≤ q + j → W64 (m / 2 ^ (64 * q + r)) j = 0) := Lib.hid (fun j hj => by
  rw [down_word]
  exact W64_past (Nat.lt_of_le_of_lt (Nat.div_le_self _ _) hm) _ hj)
 have e1 : ((64 * q + r : Nat) : Int).tdiv 64 = (q : Int) := by rw [Int.tdiv_eq_ediv_of_nonneg (by omega)]; omega
 have e2 : ((64 * q + r : Nat) : Int).tmod 64 = (r : Int) := by rw [Int.tmod_eq_emod_of_nonneg (by omega)]; omega
 have e3 : ((64 * q + r : Nat) : Int) / 64 = (q : Int) := by omega
 have e4 : ((64 * q + r : Nat) : Int) % 64 = (r : Int) := by omega
 have h0 : (0 : Int) ≤ ((64 * q + r : Nat) : Int) := by omega
 have h1 : ((64 * q + r : Nat) : Int) < 256 := by omega
 obtain ⟨K, HK⟩ : ∃ K : Nat, Hid (64 * q + r = K) := ⟨_, Lib.hid rfl⟩
 rw [HK.out] at HS HU HTail e1 e2 e3 e4 h0 h1 ⊢
 go_enter Tryz.func183, Tryz.ntmps183
 go_wp2_with fail
 generalize World.alloc _ _ = W0 at HS ⊢
 clear e1 e2 e3 e4 h0 h1 hm
 go_loopw [7] (fun i wr => ∃ d i' : Nat, Hid (i' = q + d) ∧ i' ≤ 4 ∧ i = .int .i64 (i' : Nat) ∧ Hid (UpS w (W64 m) (fun j => if j < d then W64 (m / 2 ^ K) j else 0) wr)) (fun i _ => 4 - (intOf i).toNat)
 case atStart => exact ⟨0, q, Lib.hid rfl, by omega, rfl, HS⟩
 case round =>
  obtain ⟨d, i, HI, hi4, rfl, HK2⟩ := hrel
  clear HS
  by_cases hlt : i < 4
  ·have hi1 : (i : Int) < 4 := by omega
   have hi2 : (0 : Int) ≤ (i : Int) := by omega
   have hq4 : (q : Int) < 4 := by omega
   have e5 : (i : Int) - (q : Int) = (d : Int) := by have := HI.out; omega
   have hd4 : (d : Int) < 4 := by have := HI.out; omega
   have hdl : d < 4 := by have := HI.out; omega
   have cx := (HK2.out.1.2 i hlt).1
   have cn : wr.cell? ⟨w.heap.size + 1, d, none⟩ = some (.int .u64 ((0 : Nat) : Int)) := by
    have h := (HK2.out.2.1.2 d hdl).1
    simpa using h
   have fn := (HK2.out.2.1.2 d hdl).2
   have hr0 : (r : Int) < 64 := by omega
   obtain ⟨S1, HS1⟩ : ∃ S1, Hid (W64 m i / 2 ^ r = S1) := ⟨_, Lib.hid rfl⟩
   have hsh : ((W64 m i : Nat) : Int) / 2 ^ r = ((S1 : Nat) : Int) := by rw [← HS1.out]; simp
   have HF := Lib.hid hsh
   by_cases hi3 : i = 3
   ·have hn : ¬ (i : Int) + 1 < 4 := by omega
    have HI3 := Lib.hid hi3
    clear hi3
    go_wp2_with fail
    refine ⟨⟨d + 1, i + 1, Lib.hid (by have := HI.out; omega), by omega, rfl, Lib.hid ((HK2.out.put d S1 hdl).congr (fun j hj => ?_))⟩, by simp [intOf]; omega⟩
    show (if j = d then S1 else if j < d then W64 (m / 2 ^ K) j else 0) = if j < d + 1 then W64 (m / 2 ^ K) j else 0
    by_cases e : j = d
    ·have h1 := HU.out d
     rw [← HI.out, shr_word (r := r) (by omega) m i, W64_past HM.out (i + 1) (by have := HI3.out; omega), Nat.zero_mul, Nat.zero_mod, Nat.add_zero, HS1.out] at h1
     rw [if_pos e, if_pos (by omega), e, h1]
    ·by_cases e2 : j < d
     ·rw [if_neg e, if_pos e2, if_pos (by omega)]
     ·rw [if_neg e, if_neg e2, if_neg (by omega)]
   ·have hn : (i : Int) + 1 < 4 := by omega
    have hn2 : (0 : Int) ≤ (i : Int) + 1 := by omega
    obtain ⟨S2, HS2⟩ : ∃ S2, Hid (W64 m (i + 1) * 2 ^ (64 - r) % 18446744073709551616 = S2) := ⟨_, Lib.hid rfl⟩
    go_upto_region 7 with fail
    have HK3 := Lib.hid (HK2.out.put d S1 hdl)
    clear cx cn fn hsh HK2
    generalize World.setCell _ _ _ = W1 at HK3 ⊢
    have cn : W1.cell? ⟨w.heap.size + 1, d, none⟩ = some (.int .u64 (S1 : Nat)) := by
     have h := (HK3.out.2.1.2 d hdl).1
     simpa using h
    have fn := (HK3.out.2.1.2 d hdl).2
    have cy := (HK3.out.1.2 (i + 1) (by omega)).1
    have hs2 : IntKind.u64.wrap (((W64 m (i + 1) : Nat) : Int) * 2 ^ (64 - r)) = ((S2 : Nat) : Int) := by
     rw [← HS2.out, IntKind.wrap_u64]
     simp
    have w1 : IntKind.i64.wrap ((i : Int) - (q : Int)) = (d : Int) := by rw [e5]; exact IntWalk.i64_in _ (by omega)
    have w2 : IntKind.i64.wrap ((i : Int) + 1) = (i : Int) + 1 := IntWalk.i64_in _ (by omega)
    have w3 : IntKind.i64.wrap (64 - (r : Int)) = 64 - (r : Int) := IntWalk.i64_in _ (by omega)
    have w4 : (0 : Int) ≤ 64 - (r : Int) := by omega
    have w5 : (64 - (r : Int)).toNat = 64 - r := by omega
    have w6 : IntKind.i64.wrap (d : Int) = (d : Int) := IntWalk.i64_in _ (by omega)
    have w7 : ((i : Int) + 1).toNat = i + 1 := by omega
    have hor : bits BinOp.or IntKind.u64 (S1 : Int) (S2 : Int) = ((W64 (m / 2 ^ K) d : Nat) : Int) := by
     have h1 := HU.out d
     rw [← HI.out, shr_word (r := r) (by omega) m i] at h1
     have hb : W64 m i / 2 ^ r < 18446744073709551616 := Nat.lt_of_le_of_lt (Nat.div_le_self _ _) (W64_lt m i)
     have h2 := u64_or_nat S1 S2 (by rw [← HS1.out]; exact hb) (by rw [← HS2.out]; exact Nat.mod_lt _ (by decide))
     rw [h1, ← or_shr (by omega) (W64_lt m i), HS1.out, HS2.out, ← h2]
    clear e5
    go_region
    all_goals
     go_wp2_with fail
     refine ⟨⟨d + 1, i + 1, Lib.hid (by have := HI.out; omega), by omega, rfl, Lib.hid ((((HK3.out.put d (W64 (m / 2 ^ K) d) hdl).drewN 1)).congr (fun j hj => ?_))⟩, by simp [intOf]; omega⟩
     show (if j = d then W64 (m / 2 ^ K) d else if j = d then S1 else if j < d then W64 (m / 2 ^ K) j else 0) = if j < d + 1 then W64 (m / 2 ^ K) j else 0
     by_cases e3 : j = d
     ·rw [if_pos e3, if_pos (by omega), e3]
     ·by_cases e2 : j < d
      ·rw [if_neg e3, if_neg e3, if_pos e2, if_pos (by omega)]
      ·rw [if_neg e3, if_neg e3, if_neg e2, if_neg (by omega)]
  ·obtain rfl : i = 4 := by omega
   have hR := HK2.out.2.1.congr (y := W64 (m / 2 ^ K)) (fun j hj => by
    show (if j < d then W64 (m / 2 ^ K) j else 0) = W64 (m / 2 ^ K) j
    by_cases e : j < d
    ·rw [if_pos e]
    ·rw [if_neg e, HTail.out j (by have := HI.out; omega)])
   have c0 := (hR.2 0 (by decide)).1
   have c1 := (hR.2 1 (by decide)).1
   have c2 := (hR.2 2 (by decide)).1
   have c3 := (hR.2 3 (by decide)).1
   have f0 := (hR.2 0 (by decide)).2
   have f1 := (hR.2 1 (by decide)).2
   have f2 := (hR.2 2 (by decide)).2
   have f3 := (hR.2 3 (by decide)).2
   have HB := Lib.hid HK2.out.2.2
   have hrow : Row wr (w.heap.size + 1) [.int .u64 (W64 (m / 2 ^ K) 0 : Nat), .int .u64 (W64 (m / 2 ^ K) 1 : Nat), .int .u64 (W64 (m / 2 ^ K) 2 : Nat), .int .u64 (W64 (m / 2 ^ K) 3 : Nat)] := ⟨hR.1, fun i v hv => by
    match i, hv with
    | 0, hv => exact ⟨c0.trans hv, f0⟩
    | 1, hv => exact ⟨c1.trans hv, f1⟩
    | 2, hv => exact ⟨c2.trans hv, f2⟩
    | 3, hv => exact ⟨c3.trans hv, f3⟩⟩
   have HRow := Lib.hid hrow
   clear hR hrow HK2
   go_wp2_with fail
   clear c0 c1 c2 c3 f0 f1 f2 f3
   have r9 := HRow.out.put4 (.int .u64 (W64 (m / 2 ^ K) 0 : Nat)) (.int .u64 (W64 (m / 2 ^ K) 1 : Nat)) (.int .u64 (W64 (m / 2 ^ K) 2 : Nat)) (.int .u64 (W64 (m / 2 ^ K) 3 : Nat))
   have hb9 := below_put4 HB.out (c := w.heap.size + 1) (by omega) (.int .u64 (W64 (m / 2 ^ K) 0 : Nat)) (.int .u64 (W64 (m / 2 ^ K) 1 : Nat)) (.int .u64 (W64 (m / 2 ^ K) 2 : Nat)) (.int .u64 (W64 (m / 2 ^ K) 3 : Nat))
   generalize World.setCell _ _ _ = W9 at r9 hb9 ⊢
   exact bodyPost_ret (v := wv (W64 (m / 2 ^ K) 0 : Nat) (W64 (m / 2 ^ K) 1 : Nat) (W64 (m / 2 ^ K) 2 : Nat) (W64 (m / 2 ^ K) 3 : Nat)) (by simp [results, Tryz.results183, go_sem, r9.c 0 rfl, r9.c 1 rfl, r9.c 2 rfl, r9.c 3 rfl]) rfl ⟨rfl, hb9⟩
end Go.Proofs.YtongeeggaigepaaGreatDoor
namespace Go.Proofs.YtongeeggaigepaaGreatDoor
open Go.RowKit
theorem W64_high {m n i : Nat} (h : m < 18446744073709551616 ^ n) (hi : n ≤ i) : W64 m i = 0 := by
 unfold W64
 rw [Nat.div_eq_of_lt (Nat.lt_of_lt_of_le h (Nat.pow_le_pow_right (by decide) hi))]
section
variable {w W W1 : World} {X m D : Nat} {qf rf qg rg : Nat → Nat}
theorem R4.below {w w1 : World} {b : Nat} {x : Nat → Nat} (h : R4 w b x) (hb : Below w.heap.size w w1) : R4 w1 b x :=
 ⟨Nat.lt_of_lt_of_le h.1 hb.size, fun i hi => ⟨(hb.cell (p := ⟨b, i, none⟩) h.1).trans (h.2 i hi).1, (hb.frozen (p := ⟨b, i, none⟩) h.1).trans (h.2 i hi).2⟩⟩
theorem R4.on {w w1 : World} {b c : Nat} {x : Nat → Nat} (h : R4 w b x) (ho : On w w1 c) (hc : b ≠ c) : R4 w1 b x :=
 ⟨by rw [ho.size]; exact h.1, fun i hi => ⟨(ho.cell hc).trans (h.2 i hi).1, (ho.frozen _).trans (h.2 i hi).2⟩⟩
end
end Go.Proofs.YtongeeggaigepaaGreatDoor

namespace Go.Proofs.YtongeeggaigepaaGreatDoor
open Go.RowKit
theorem ctz_split {x : Nat} (h0 : x ≠ 0) (h : x < 18446744073709551616) : ∃ m, x = 2 ^ Lib.ctz 64 x * (2 * m + 1) ∧ Lib.ctz 64 x < 64 := by
 have h1 := Lib.ctzFrom_spec 64 x (Nat.pos_of_ne_zero h0) h
 unfold Lib.ctz
 rw [if_neg h0]
 exact h1
theorem gcd_twos {a : Nat} (ha : a % 2 = 1) (k n : Nat) : a.gcd (2 ^ k * n) = a.gcd n := by
 apply Nat.Coprime.gcd_mul_left_cancel_right
 apply Nat.Coprime.pow_left
 rw [Nat.Coprime, Nat.gcd_rec, ha]
 rfl
theorem odd_step {a b : Nat} (ha : a % 2 = 1) (hb : b % 2 = 1) (hab : a < b) (hbl : b < 18446744073709551616) :
 ∃ k c, Lib.ctz 64 (b - a) = k ∧ k < 64 ∧ (b - a) / 2 ^ k = c ∧ c % 2 = 1 ∧ c < b ∧ a.gcd c = a.gcd b := by
 obtain ⟨m, e, hk⟩ := ctz_split (x := b - a) (by omega) (by omega)
 generalize Lib.ctz 64 (b - a) = k at *
 have hp : 0 < 2 ^ k := Nat.pow_pos (by decide)
 have hd : (b - a) / 2 ^ k = 2 * m + 1 := by rw [e, Nat.mul_div_cancel_left _ hp]
 refine ⟨k, 2 * m + 1, rfl, hk, hd, by omega, ?_, ?_⟩
 ·have h1 : (b - a) / 2 ^ k ≤ b - a := Nat.div_le_self _ _
  omega
 ·rw [← Nat.gcd_sub_self_right (Nat.le_of_lt hab), e, gcd_twos ha]
set_option maxRecDepth 100000 in
set_option maxHeartbeats 1600000 in
theorem odd_any (m n : Nat) (hm : m % 2 = 1) (hn : n % 2 = 1) (lm : m < 18446744073709551616) (ln : n < 18446744073709551616) (w : World) (ht : TabTz w) :
 Calls Tryz.prog 185 #[.int .u64 (m : Nat), .int .u64 (n : Nat)] w fun e w' => e = .returned (.int .u64 (Nat.gcd m n : Nat)) ∧ w = w' := by
 have Htz := Lib.hid (fun (x : Nat) (hx : x < 18446744073709551616) => (Tryz.bits_TrailingZeros64 x hx w (fun _ => ht)).mono fun _ _ (h : _ ∧ _) => (⟨h.1, h.2.symm⟩ : _ ∧ w = _))
 have HM := Lib.hid (show m % 2 = 1 ∧ m < 18446744073709551616 from ⟨hm, lm⟩)
 have HN := Lib.hid (show n % 2 = 1 ∧ n < 18446744073709551616 from ⟨hn, ln⟩)
 clear hm hn lm ln ht
 go_enter Tryz.func185, Tryz.ntmps185
 go_wp2_with fail
 go_loopw [0, 1] (fun v u wr => ∃ a b : Nat, v = .int .u64 (a : Nat) ∧ u = .int .u64 (b : Nat) ∧ Hid (a % 2 = 1 ∧ a < 18446744073709551616) ∧ Hid (b % 2 = 1 ∧ b < 18446744073709551616) ∧ Hid (a.gcd b = m.gcd n) ∧ wr = w) (fun v u _ => (intOf v + intOf u).toNat)
 case atStart => exact ⟨m, n, rfl, rfl, HM, HN, Lib.hid rfl, rfl⟩
 case round =>
  obtain ⟨a, b, rfl, rfl, HA, HB, HG, rfl⟩ := hrel
  clear HM HN
  rcases Nat.lt_trichotomy a b with h | h | h
  ·obtain ⟨k, c, e1, hk, e2, hc, hcb, hg⟩ := odd_step HA.out.1 HB.out.1 h HB.out.2
   have hbl := HB.out.2
   have HC := Lib.hid (show c % 2 = 1 ∧ c < 18446744073709551616 from ⟨hc, by omega⟩)
   have HG2 : Hid (a.gcd c = m.gcd n) := Lib.hid (hg.trans (HG.out))
   have hT := Htz.out (b - a) (by omega)
   rw [e1] at hT
   have HT := Lib.hid hT
   have hne : ¬ (a : Int) = b := by omega
   have hmin : min (a : Int) b = a := by omega
   have hmax : max (a : Int) b = b := by omega
   have hle : (a : Int) ≤ b := by omega
   have hsub : IntKind.u64.wrap ((b : Int) - a) = ((b - a : Nat) : Int) := by
    rw [show (b : Int) - a = ((b - a : Nat) : Int) by omega]
    simp [IntKind.wrap, IntKind.bits, IntKind.signed]; omega
   have hshr : ((b - a : Nat) : Int) / 2 ^ k = (c : Int) := by
    rw [← e2]; simp
   have hk0 : ¬ (k : Int) < 0 := by omega
   have hk1 : (k : Int) < 64 := by omega
   clear hT hc hg e1 HG e2
   go_wp2_with fail
   refine HT.out.mono ?_
   rintro e w2 ⟨rfl, rfl⟩
   go_wp2_with fail
   refine ⟨⟨a, c, rfl, rfl, HA, HC, HG2, trivial⟩, ?_⟩
   ·simp [intOf]; omega
  ·subst h
   rw [Nat.gcd_self] at HG
   have HR := HG
   clear HG HA HB
   go_wp2_with fail
   go_ret
   exact ⟨by show Ending.returned (.int .u64 (a : Nat)) = _; rw [HR.out], rfl⟩
  ·obtain ⟨k, c, e1, hk, e2, hc, hcb, hg⟩ := odd_step HB.out.1 HA.out.1 h HA.out.2
   have hbl := HA.out.2
   have HC := Lib.hid (show c % 2 = 1 ∧ c < 18446744073709551616 from ⟨hc, by omega⟩)
   have HG2 : Hid (b.gcd c = m.gcd n) := Lib.hid (hg.trans ((Nat.gcd_comm b a).trans HG.out))
   have hT := Htz.out (a - b) (by omega)
   rw [e1] at hT
   have HT := Lib.hid hT
   have hne : ¬ (a : Int) = b := by omega
   have hmin : min (a : Int) b = b := by omega
   have hmax : max (a : Int) b = a := by omega
   have hle : (b : Int) ≤ a := by omega
   have hsub : IntKind.u64.wrap ((a : Int) - b) = ((a - b : Nat) : Int) := by
    rw [show (a : Int) - b = ((a - b : Nat) : Int) by omega]
    simp [IntKind.wrap, IntKind.bits, IntKind.signed]; omega
   have hshr : ((a - b : Nat) : Int) / 2 ^ k = (c : Int) := by
    rw [← e2]; simp
   have hk0 : ¬ (k : Int) < 0 := by omega
   have hk1 : (k : Int) < 64 := by omega
   clear hT hc hg e1 HG e2
   go_wp2_with fail
   refine HT.out.mono ?_
   rintro e w2 ⟨rfl, rfl⟩
   go_wp2_with fail
   refine ⟨⟨b, c, rfl, rfl, HB, HC, HG2, trivial⟩, ?_⟩
   ·simp [intOf]; omega
end Go.Proofs.YtongeeggaigepaaGreatDoor
