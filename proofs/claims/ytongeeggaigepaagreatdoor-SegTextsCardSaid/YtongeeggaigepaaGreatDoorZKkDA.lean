import Derived.Test.YtongeeggaigepaaGreatDoorZKkBase
import Derived.Laws.Bits64b
import Derived.Deep.CutBlock
import Derived.Deep.DeepCutAuto
namespace Go.Proofs.YtongeeggaigepaaGreatDoor
def QInv (B v1 v0 U u q r : Nat) : Prop := q * v1 + r = U ∧ U * B + u < (q + 1) * (v1 * B + v0) ∧ q ≤ B + 1 ∧ r < B
section
variable {B v1 v0 U u q r : Nat}
theorem QInv.start (hp : 0 < v1) (h1 : B ≤ 2 * v1) (h2 : v1 < B) (h0 : v0 < B) (hU : U < v1 * B + v0) (hu : u < B) : QInv B v1 v0 U u (U / v1) (U % v1) := by
 have e := Nat.div_add_mod U v1
 have hr := Nat.mod_lt U hp
 refine ⟨by rw [Nat.mul_comm]; exact e, ?_, ?_, by omega⟩
 ·have h3 : U + 1 ≤ (U / v1 + 1) * v1 := by rw [Nat.add_mul, Nat.mul_comm (U / v1)]; omega
  have h4 : (U + 1) * B ≤ (U / v1 + 1) * v1 * B := Nat.mul_le_mul_right _ h3
  rw [Nat.add_mul] at h4
  rw [Nat.mul_add, ← Nat.mul_assoc]
  omega
 ·apply Nat.le_of_lt_succ
  rw [Nat.div_lt_iff_lt_mul hp, show (B + 1).succ = B + 2 from rfl, Nat.add_mul, Nat.mul_comm B v1]
  omega
theorem QInv.step (h : QInv B v1 v0 U u q r) (hU : U < v1 * B + v0) (hu : u < B) (hc : B ≤ q ∨ B * r + u < q * v0) :
 1 ≤ q ∧ (q - 1) * v1 + (r + v1) = U ∧ U * B + u < (q - 1 + 1) * (v1 * B + v0) ∧ q - 1 ≤ B := by
 obtain ⟨e, _, hq, hr⟩ := h
 have hlt : U * B + u < q * (v1 * B + v0) := by
  rcases hc with h | h
  ·refine Nat.lt_of_lt_of_le ?_ (Nat.mul_le_mul_right _ h)
   have h3 : (U + 1) * B ≤ (v1 * B + v0) * B := Nat.mul_le_mul_right _ hU
   rw [Nat.add_mul] at h3
   rw [Nat.mul_comm B]
   omega
  ·rw [Nat.mul_add, ← Nat.mul_assoc, ← e, Nat.add_mul, Nat.mul_comm r B]
   omega
 have hq1 : 1 ≤ q := by
  apply Nat.pos_of_ne_zero
  rintro rfl
  omega
 obtain ⟨k, rfl⟩ : ∃ k, q = k + 1 := ⟨q - 1, by omega⟩
 refine ⟨hq1, ?_, ?_, by omega⟩
 ·rw [Nat.add_sub_cancel]
  rw [Nat.add_mul] at e
  omega
 ·rw [Nat.add_sub_cancel]; exact hlt
theorem QInv.done (h : QInv B v1 v0 U u q r) (hc : q * v0 ≤ B * r + u) : q = (U * B + u) / (v1 * B + v0) := by
 obtain ⟨e, hl, _, _⟩ := h
 refine (Nat.div_eq_of_lt_le ?_ hl).symm
 rw [Nat.mul_add, ← Nat.mul_assoc, ← e, Nat.add_mul, Nat.mul_comm r B]
 omega
theorem quot_left (h0 : v0 < B) (e : q * v1 + r = U) (hl : U * B + u < (q + 1) * (v1 * B + v0)) (hq : q ≤ B) (hr : B ≤ r) : q = (U * B + u) / (v1 * B + v0) := by
 refine (Nat.div_eq_of_lt_le ?_ hl).symm
 rw [Nat.mul_add, ← Nat.mul_assoc, ← e, Nat.add_mul]
 have h2 : q * v0 ≤ B * B := Nat.mul_le_mul hq (Nat.le_of_lt h0)
 have h3 : B * B ≤ r * B := Nat.mul_le_mul_right _ hr
 omega
theorem halves {Y u1 : Nat} (u0 : Nat) (hU : U < Y) (h1 : u1 < B) :
 (U * B + u1) / Y < B ∧ (U * B + u1) % Y < Y ∧
   (U * (B * B) + (u1 * B + u0)) / Y = (U * B + u1) / Y * B + ((U * B + u1) % Y * B + u0) / Y ∧
   (U * (B * B) + (u1 * B + u0)) % Y = ((U * B + u1) % Y * B + u0) % Y := by
 have hY : 0 < Y := by omega
 have e := Nat.div_add_mod (U * B + u1) Y
 have hlt : (U * B + u1) / Y < B := (Nat.div_lt_iff_lt_mul hY).2 (by
  have : (U + 1) * B ≤ Y * B := Nat.mul_le_mul_right _ hU
  rw [Nat.add_mul] at this
  rw [Nat.mul_comm B]
  omega)
 refine ⟨hlt, Nat.mod_lt _ hY, ?_⟩
 have h3 : U * (B * B) + (u1 * B + u0) = ((U * B + u1) % Y * B + u0) + Y * ((U * B + u1) / Y * B) := by
  have h5 : (Y * ((U * B + u1) / Y) + (U * B + u1) % Y) * B = (U * B + u1) * B := by rw [e]
  generalize (U * B + u1) / Y = q at *
  generalize (U * B + u1) % Y = r at *
  rw [Nat.add_mul, Nat.add_mul] at h5
  rw [← Nat.mul_assoc, ← Nat.mul_assoc]
  omega
 rw [h3, Nat.add_mul_div_left _ _ hY, Nat.add_mul_mod_self_left, Nat.add_comm]
 exact ⟨rfl, rfl⟩
end
theorem halves32 {U Y u1 L : Nat} (u0 : Nat) (hU : U < Y) (h1 : u1 < 4294967296) (hL : L = u1 * 4294967296 + u0) :
 ∃ Q R : Nat, Q < 4294967296 ∧ R < Y ∧ U * 4294967296 + u1 = Q * Y + R ∧ Q = (U * 4294967296 + u1) / Y ∧
  (U * 18446744073709551616 + L) / Y = Q * 4294967296 + (R * 4294967296 + u0) / Y ∧ (U * 18446744073709551616 + L) % Y = (R * 4294967296 + u0) % Y := by
 obtain ⟨B, hB⟩ : ∃ B, B = 4294967296 := ⟨_, rfl⟩
 have hBB : 18446744073709551616 = B * B := by rw [hB]
 rw [hBB, hL]
 rw [← hB] at h1 ⊢
 clear hB hBB hL
 obtain ⟨a, b, c, d⟩ := halves u0 hU h1
 exact ⟨_, _, a, b, (Nat.div_add_mod' _ _).symm, rfl, c, d⟩
theorem quot32 {R Y u : Nat} (h : R < Y) (hu : u < 4294967296) : (R * 4294967296 + u) / Y < 4294967296 ∧ (R * 4294967296 + u) % Y < Y ∧ R * 4294967296 + u = (R * 4294967296 + u) / Y * Y + (R * 4294967296 + u) % Y := by
 obtain ⟨B, hB⟩ : ∃ B, B = 4294967296 := ⟨_, rfl⟩
 rw [← hB] at hu ⊢
 clear hB
 exact ⟨(halves 0 h hu).1, (halves 0 h hu).2.1, (Nat.div_add_mod' _ _).symm⟩
theorem norm_parts (hi lo y s W : Nat) (h1 : hi < y) (h2 : lo < W) (hp : 2 ^ (64 - s) * 2 ^ s = W) :
 hi * 2 ^ s + lo / 2 ^ (64 - s) < y * 2 ^ s ∧ (hi * W + lo) * 2 ^ s = (hi * 2 ^ s + lo / 2 ^ (64 - s)) * W + lo * 2 ^ s % W := by
 have hp0 : 0 < 2 ^ s := Nat.pow_pos (by decide)
 have hq0 : 0 < 2 ^ (64 - s) := Nat.pow_pos (by decide)
 have hlt : lo / 2 ^ (64 - s) < 2 ^ s := (Nat.div_lt_iff_lt_mul hq0).2 (by rw [Nat.mul_comm, hp]; exact h2)
 have hd : lo * 2 ^ s / W = lo / 2 ^ (64 - s) := by rw [← hp, Nat.mul_div_mul_right _ _ hp0]
 have he := Nat.div_add_mod (lo * 2 ^ s) W
 rw [hd] at he
 generalize lo / 2 ^ (64 - s) = c at *
 constructor
 ·have h3 : (hi + 1) * 2 ^ s ≤ y * 2 ^ s := Nat.mul_le_mul_right _ h1
  rw [Nat.add_mul] at h3
  generalize 2 ^ s = p at *
  omega
 ·rw [Nat.add_mul, Nat.add_mul, Nat.mul_right_comm hi W, ← he, Nat.mul_comm c W, he]
  omega
theorem wrap_mod (x : Int) : IntKind.u64.wrap x = x % 18446744073709551616 := by simp [IntKind.wrap, IntKind.bits, IntKind.signed]
end Go.Proofs.YtongeeggaigepaaGreatDoor
namespace Go.Proofs.YtongeeggaigepaaGreatDoor
open Go.RowKit
theorem and_low (Y : Nat) (h : Y < 18446744073709551616) : bits BinOp.and IntKind.u64 (Y : Int) 4294967295 = ((Y % 4294967296 : Nat) : Int) := by
 have e := bits_and_u64_nat Y 4294967295 h (by decide)
 have e2 : Y &&& 4294967295 = Y % 4294967296 := Nat.and_two_pow_sub_one_eq_mod Y 32
 rw [e2] at e
 exact e
theorem or_parts (hi s c : Nat) (hh : hi * 2 ^ s + c < 18446744073709551616) (hc : c < 2 ^ s) : bits BinOp.or IntKind.u64 ((hi * 2 ^ s : Nat) : Int) (c : Int) = ((hi * 2 ^ s + c : Nat) : Int) := by
 have e2 : hi * 2 ^ s ||| c = hi * 2 ^ s + c := by rw [Nat.mul_comm]; exact (Nat.two_pow_add_eq_or_of_lt hc hi).symm
 generalize hi * 2 ^ s = a at *
 rw [bits_or_u64_nat a c (by omega) (by omega), e2]
theorem div_parts (hi lo y s : Nat) (h1 : hi < y) (h2 : lo < 18446744073709551616) (hs : s < 64) (hn : 9223372036854775808 ≤ y * 2 ^ s) (hn2 : y * 2 ^ s < 18446744073709551616) :
 ∃ Hh C U Y L V1 V0 u1 u0 Q1 R1 Q0 R0 : Nat, IntKind.u64.wrap ((y : Int) * 2 ^ s) = (Y : Int) ∧ IntKind.u64.wrap ((hi : Int) * 2 ^ s) = (Hh : Int) ∧ IntKind.u64.wrap ((lo : Int) * 2 ^ s) = (L : Int) ∧ (lo : Int) / 2 ^ (64 - s) = (C : Int) ∧
  bits BinOp.or IntKind.u64 (Hh : Int) (C : Int) = (U : Int) ∧ (Y : Int) / 4294967296 = V1 ∧ bits BinOp.and IntKind.u64 (Y : Int) 4294967295 = V0 ∧ (L : Int) / 4294967296 = u1 ∧ bits BinOp.and IntKind.u64 (L : Int) 4294967295 = u0 ∧
  Y = V1 * 4294967296 + V0 ∧ 2147483648 ≤ V1 ∧ V1 < 4294967296 ∧ V0 < 4294967296 ∧ u1 < 4294967296 ∧ u0 < 4294967296 ∧ U < Y ∧ Q1 < 4294967296 ∧ R1 < Y ∧ U * 4294967296 + u1 = Q1 * Y + R1 ∧ Q1 = (U * 4294967296 + u1) / Y ∧
  Q0 < 4294967296 ∧ R0 < Y ∧ R1 * 4294967296 + u0 = Q0 * Y + R0 ∧ Q0 = (R1 * 4294967296 + u0) / Y ∧
  (hi * 18446744073709551616 + lo) / y = Q1 * 4294967296 + Q0 ∧ (hi * 18446744073709551616 + lo) % y = R0 / 2 ^ s := by
 have hp0 : 0 < 2 ^ s := Nat.pow_pos (by decide)
 have hp : 2 ^ (64 - s) * 2 ^ s = 18446744073709551616 := by rw [← Nat.pow_add, Nat.sub_add_cancel (by omega)]
 obtain ⟨hU, hE⟩ := norm_parts hi lo y s _ h1 h2 hp
 have hcl : lo / 2 ^ (64 - s) < 2 ^ s := (Nat.div_lt_iff_lt_mul (Nat.pow_pos (by decide))).2 (by rw [Nat.mul_comm, hp]; exact h2)
 have c2 : ∀ a : Nat, (a : Int) * 2 ^ s = ((a * 2 ^ s : Nat) : Int) := fun a => by simp
 have hhi : hi * 2 ^ s < 18446744073709551616 := Nat.lt_of_le_of_lt (Nat.le_add_right _ _) (Nat.lt_trans hU hn2)
 have eY : IntKind.u64.wrap ((y : Int) * 2 ^ s) = ((y * 2 ^ s : Nat) : Int) := by rw [c2, wrap_mod]; exact Int.emod_eq_of_lt (Int.natCast_nonneg _) (by exact Int.ofNat_lt.2 hn2)
 have eH : IntKind.u64.wrap ((hi : Int) * 2 ^ s) = ((hi * 2 ^ s : Nat) : Int) := by rw [c2, wrap_mod]; exact Int.emod_eq_of_lt (Int.natCast_nonneg _) (by exact Int.ofNat_lt.2 hhi)
 have eL : IntKind.u64.wrap ((lo : Int) * 2 ^ s) = ((lo * 2 ^ s % 18446744073709551616 : Nat) : Int) := by rw [c2, wrap_mod]; rfl
 have eC : (lo : Int) / 2 ^ (64 - s) = ((lo / 2 ^ (64 - s) : Nat) : Int) := by simp
 have eU := or_parts hi s (lo / 2 ^ (64 - s)) (Nat.lt_trans hU hn2) hcl
 obtain ⟨L, hLe⟩ : ∃ L, L = lo * 2 ^ s % 18446744073709551616 := ⟨_, rfl⟩
 have hL : L < 18446744073709551616 := by rw [hLe]; exact Nat.mod_lt _ (by decide)
 obtain ⟨u1, u0, hu, hu1, hu0⟩ : ∃ u1 u0 : Nat, L = u1 * 4294967296 + u0 ∧ u1 < 4294967296 ∧ u0 < 4294967296 := ⟨L / 4294967296, L % 4294967296, by omega, by omega, by omega⟩
 obtain ⟨Q1, R1, hq1, hr1, hE1, hQ1, hh1, hh2⟩ := halves32 u0 hU hu1 hu
 obtain ⟨Y, hYe⟩ : ∃ Y, Y = y * 2 ^ s := ⟨_, rfl⟩
 rw [← hYe] at hn hn2 hr1 eY
 obtain ⟨V1, V0, hV, hV1, hV2, hV0⟩ : ∃ V1 V0 : Nat, Y = V1 * 4294967296 + V0 ∧ 2147483648 ≤ V1 ∧ V1 < 4294967296 ∧ V0 < 4294967296 := ⟨Y / 4294967296, Y % 4294967296, by omega, by omega, by omega, by omega⟩
 have eV1 : (Y : Int) / 4294967296 = V1 := by omega
 have eV0 : bits BinOp.and IntKind.u64 (Y : Int) 4294967295 = V0 := by rw [and_low Y hn2]; omega
 have eu1 : (L : Int) / 4294967296 = u1 := by omega
 have eu0 : bits BinOp.and IntKind.u64 (L : Int) 4294967295 = u0 := by rw [and_low L hL]; omega
 have hQ : (hi * 18446744073709551616 + lo) / y = Q1 * 4294967296 + (R1 * 4294967296 + u0) / (y * 2 ^ s) := by
  refine Eq.trans ?_ hh1
  rw [← Nat.mul_div_mul_right (hi * 18446744073709551616 + lo) y hp0]
  exact congrArg (· / (y * 2 ^ s)) (hE.trans (by rw [hLe]))
 have hR : (hi * 18446744073709551616 + lo) % y = (R1 * 4294967296 + u0) % (y * 2 ^ s) / 2 ^ s := by
  refine Eq.trans ?_ (congrArg (· / 2 ^ s) hh2)
  rw [← Nat.mul_div_cancel ((hi * 18446744073709551616 + lo) % y) hp0, ← Nat.mul_mod_mul_right]
  exact congrArg (· % (y * 2 ^ s) / 2 ^ s) (hE.trans (by rw [hLe]))
 rw [← hYe] at hE1 hQ1 hQ hR hU
 rw [← hLe] at eL
 obtain ⟨hq0, hr0, hE0⟩ := quot32 hr1 hu0
 exact ⟨_, _, _, Y, L, V1, V0, u1, u0, Q1, R1, _, _, eY, eH, eL, eC, eU, eV1, eV0, eu1, eu0, hV, hV1, hV2, hV0, hu1, hu0, hU, hq1, hr1, hE1, hQ1, hq0, hr0, hE0, rfl, hQ, hR⟩
set_option maxRecDepth 100000 in
set_option maxHeartbeats 2000000 in
theorem div64_any (hi lo y s : Nat) (w : World) (h0 : 0 < hi) (h1 : hi < y) (h2 : lo < 18446744073709551616) (hs : s < 64) (hn : 9223372036854775808 ≤ y * 2 ^ s) (hn2 : y * 2 ^ s < 18446744073709551616)
 (hz : ∀ W, Calls Tryz.prog 230 #[.int .u64 (y : Nat)] W fun e w' => e = .returned (.int .i64 (s : Nat)) ∧ ∃ k, w' = W.drewN k) :
 Calls Tryz.prog 220 #[.int .u64 (hi : Nat), .int .u64 (lo : Nat), .int .u64 (y : Nat)] w fun e w' =>
  e = .returned (.tuple #[.int .u64 ((hi * 18446744073709551616 + lo) / y : Nat), .int .u64 ((hi * 18446744073709551616 + lo) % y : Nat)]) ∧ ∃ k, w' = w.drewN k := by
 have Hz := Lib.hid hz
 obtain ⟨Hh, C, U, Y, L, V1, V0, u1, u0, Q1, R1, Q0, R0, eY, eH, eL, eC, eU, eV1, eV0, eu1, eu0, hV, hV1, hV2, hV0, hu1, hu0, hU, hq1, hr1, hE1, hQ1, hq0, hr0, hE0, hQ0, hQ, hR⟩ := div_parts hi lo y s h1 h2 hs hn hn2
 obtain ⟨T, hT⟩ : ∃ T, T = R0 / 2 ^ s := ⟨_, rfl⟩
 rw [hQ, hR, ← hT]
 have HV := Lib.hid hV
 have HU := Lib.hid hU
 have HE := Lib.hid hE1
 have HQ1 := Lib.hid hQ1
 have hYb : Y < 18446744073709551616 := by omega
 have hv0 : 0 < V1 := by omega
 have hS := QInv.start (B := 4294967296) (U := U) (u := u1) hv0 (by omega) hV2 hV0 (by omega) hu1
 obtain ⟨Qs, hQs⟩ : ∃ Qs, Qs = U / V1 := ⟨_, rfl⟩
 obtain ⟨Rs, hRs⟩ : ∃ Rs, Rs = U % V1 := ⟨_, rfl⟩
 rw [← hQs, ← hRs] at hS
 have HS := Lib.hid hS
 have hP := hS.1
 obtain ⟨P, hPe⟩ : ∃ P, P = Qs * V1 := ⟨_, rfl⟩
 have eq1 : IntKind.u64.wrap ((U : Int) / (V1 : Int)) = (Qs : Int) := by
  rw [← Int.natCast_ediv, ← hQs, wrap_mod]
  have : Qs ≤ 4294967297 := hS.2.2.1
  omega
 rw [← hPe] at hP
 have eq2 : IntKind.u64.wrap ((Qs : Int) * (V1 : Int)) = (P : Int) := by
  rw [← Int.natCast_mul, ← hPe, wrap_mod]
  omega
 have eq3 : IntKind.u64.wrap ((U : Int) - (P : Int)) = (Rs : Int) := by
  rw [wrap_mod]
  omega
 have HQ0 := Lib.hid hQ0
 have hS2 := QInv.start (B := 4294967296) (U := R1) (u := u0) hv0 (by omega) hV2 hV0 (by omega) hu0
 obtain ⟨Qt, hQt⟩ : ∃ Qt, Qt = R1 / V1 := ⟨_, rfl⟩
 obtain ⟨Rt, hRt⟩ : ∃ Rt, Rt = R1 % V1 := ⟨_, rfl⟩
 rw [← hQt, ← hRt] at hS2
 have HS2 := Lib.hid hS2
 have hP2 := hS2.1
 obtain ⟨P2, hPe2⟩ : ∃ P2, P2 = Qt * V1 := ⟨_, rfl⟩
 have fq1 : IntKind.u64.wrap ((R1 : Int) / (V1 : Int)) = (Qt : Int) := by
  rw [← Int.natCast_ediv, ← hQt, wrap_mod]
  have : Qt ≤ 4294967297 := hS2.2.2.1
  omega
 rw [← hPe2] at hP2
 have fq2 : IntKind.u64.wrap ((Qt : Int) * (V1 : Int)) = (P2 : Int) := by
  rw [← Int.natCast_mul, ← hPe2, wrap_mod]
  omega
 have fq3 : IntKind.u64.wrap ((R1 : Int) - (P2 : Int)) = (Rt : Int) := by
  rw [wrap_mod]
  omega
 have eR : IntKind.u64.wrap (IntKind.u64.wrap (IntKind.u64.wrap ((U : Int) * 4294967296) + (u1 : Int)) - IntKind.u64.wrap ((Q1 : Int) * (Y : Int))) = (R1 : Int) := by
  have h := congrArg (Nat.cast (R := Int)) hE1
  rw [Int.natCast_add, Int.natCast_add, Int.natCast_mul, Int.natCast_mul] at h
  simp only [wrap_mod]
  generalize (Q1 : Int) * (Y : Int) = X at *
  omega
 have eR0 : IntKind.u64.wrap (IntKind.u64.wrap (IntKind.u64.wrap ((R1 : Int) * 4294967296) + (u0 : Int)) - IntKind.u64.wrap ((Q0 : Int) * (Y : Int))) = (R0 : Int) := by
  have h := congrArg (Nat.cast (R := Int)) hE0
  rw [Int.natCast_add, Int.natCast_add, Int.natCast_mul, Int.natCast_mul] at h
  simp only [wrap_mod]
  generalize (Q0 : Int) * (Y : Int) = X at *
  omega
 have eS : (R0 : Int) / 2 ^ s = (T : Int) := by rw [hT]; simp
 clear hT hz hn hn2 hQ hR hV hU hE1 hQ1 hS hQs hRs hPe hP hE0 hQ0 hS2 hQt hRt hPe2 hP2
 go_enter Tryz.func220, Tryz.ntmps220
 go_upto_block 0 with (go_at_call 230; refine (Hz.out _).mono ?_; rintro e w2 ⟨rfl, k, rfl⟩)
 go_cut [15] (fun q wx => q = .int .u64 (Q1 : Nat) ∧ ∃ k, wx = w.drewN k)
 case first =>
  go_wp2_with fail
  go_loopw [15, 16] (fun q r wr => ∃ Q R : Nat, q = .int .u64 Q ∧ r = .int .u64 R ∧ Hid (QInv 4294967296 V1 V0 U u1 Q R) ∧ ∃ k, wr = w.drewN k) (fun q _ _ => (intOf q).toNat)
  case atStart => exact ⟨Qs, Rs, rfl, rfl, HS, _, rfl⟩
  case round =>
   obtain ⟨Q, R, rfl, rfl, HI, k1, rfl⟩ := hrel
   clear HS HS2 eq1 eq2 eq3 fq1 fq2 fq3 eR eR0 eS
   have hR2 := HI.out.2.2.2
   have hQ2 := HI.out.2.2.1
   have bp : Q * V0 < 18446744073709551616 := by
    have := Nat.mul_le_mul hQ2 (show V0 ≤ 4294967295 by omega)
    omega
   obtain ⟨QV, hQV⟩ : ∃ QV, QV = Q * V0 := ⟨_, rfl⟩
   rw [← hQV] at bp
   have ep : IntKind.u64.wrap ((Q : Int) * (V0 : Int)) = (QV : Int) := by rw [← Int.natCast_mul, ← hQV, wrap_mod]; omega
   have HSt := Lib.hid (fun hc : 4294967296 ≤ Q ∨ 4294967296 * R + u1 < QV => HI.out.step (by have := HU.out; have := HV.out; omega) hu1 (by rw [← hQV]; exact hc))
   have HDn := Lib.hid (fun hc : QV ≤ 4294967296 * R + u1 => HI.out.done (by rw [← hQV]; exact hc))
   clear hQV
   by_cases hA : 4294967296 ≤ Q
   ·have hA1 : (4294967296 : Int) ≤ Q := by omega
    have hst := HSt.out (.inl hA)
    have HSx := Lib.hid hst
    have hq' : 1 ≤ Q := hst.1
    have hq'' : Q - 1 ≤ 4294967296 := hst.2.2.2
    clear hst HDn HSt
    by_cases hB : 4294967296 ≤ R + V1
    ·have hB1 : (4294967296 : Int) ≤ R + V1 := by omega
     go_wp2_with fail
     all_goals first | (exfalso; omega) | skip
     go_meet
     have e := quot_left hV0 HSx.out.2.1 HSx.out.2.2.1 HSx.out.2.2.2 hB
     rw [← HV.out, ← HQ1.out] at e
     exact ⟨congrArg (Value.int .u64) (by omega), _, rfl⟩
    ·have hB1 : ¬ (4294967296 : Int) ≤ R + V1 := by omega
     go_wp2_with fail
     all_goals first | (exfalso; omega) | skip
     all_goals exact ⟨⟨Q - 1, R + V1, congrArg (Value.int .u64) (by omega), congrArg (Value.int .u64) (by omega), Lib.hid ⟨HSx.out.2.1, HSx.out.2.2.1, by omega, by omega⟩, _, rfl⟩, by simp [intOf]; omega⟩
   ·have hA1 : ¬ (4294967296 : Int) ≤ Q := by omega
    by_cases hC : 4294967296 * R + u1 < QV
    ·have hC1 : (4294967296 : Int) * R + u1 < QV := by omega
     have hst := HSt.out (.inr hC)
     have HSx := Lib.hid hst
     have hq' : 1 ≤ Q := hst.1
     have hq'' : Q - 1 ≤ 4294967296 := hst.2.2.2
     clear hst HDn HSt
     by_cases hB : 4294967296 ≤ R + V1
     ·have hB1 : (4294967296 : Int) ≤ R + V1 := by omega
      go_wp2_with fail
      all_goals first | (exfalso; omega) | skip
      go_meet
      have e := quot_left hV0 HSx.out.2.1 HSx.out.2.2.1 HSx.out.2.2.2 hB
      rw [← HV.out, ← HQ1.out] at e
      exact ⟨congrArg (Value.int .u64) (by omega), _, rfl⟩
     ·have hB1 : ¬ (4294967296 : Int) ≤ R + V1 := by omega
      go_wp2_with fail
      all_goals first | (exfalso; omega) | skip
      all_goals exact ⟨⟨Q - 1, R + V1, congrArg (Value.int .u64) (by omega), congrArg (Value.int .u64) (by omega), Lib.hid ⟨HSx.out.2.1, HSx.out.2.2.1, by omega, by omega⟩, _, rfl⟩, by simp [intOf]; omega⟩
    ·have hC1 : ¬ (4294967296 : Int) * R + u1 < QV := by omega
     have e := HDn.out (by omega)
     rw [← HV.out, ← HQ1.out] at e
     have HEq := Lib.hid e
     clear HDn HSt e
     go_wp2_with fail
     all_goals first | (exfalso; omega) | skip
     go_meet
     exact ⟨congrArg (Value.int .u64) (congrArg Int.ofNat HEq.out), _, rfl⟩
 case rest =>
  obtain ⟨rfl, k2, rfl⟩ := hcut
  clear HS eq1 eq2 eq3 eY eH eL eC eU eV1 eV0 eu1 eu0
  go_upto_block 2 with fail
  clear fq1 fq2 fq3 eR
  go_cut [18] (fun q wx => q = .int .u64 (Q0 : Nat) ∧ ∃ k, wx = w.drewN k)
  case first =>
   go_wp2_with fail
   go_loopw [18, 16] (fun q r wr => ∃ Q R : Nat, q = .int .u64 Q ∧ r = .int .u64 R ∧ Hid (QInv 4294967296 V1 V0 R1 u0 Q R) ∧ ∃ k, wr = w.drewN k) (fun q _ _ => (intOf q).toNat)
   case atStart => exact ⟨Qt, Rt, rfl, rfl, HS2, _, rfl⟩
   case round =>
    obtain ⟨Q, R, rfl, rfl, HI, k3, rfl⟩ := hrel
    clear HS2 eR0 eS
    have hR2 := HI.out.2.2.2
    have hQ2 := HI.out.2.2.1
    have bp : Q * V0 < 18446744073709551616 := by
     have := Nat.mul_le_mul hQ2 (show V0 ≤ 4294967295 by omega)
     omega
    obtain ⟨QV, hQV⟩ : ∃ QV, QV = Q * V0 := ⟨_, rfl⟩
    rw [← hQV] at bp
    have ep : IntKind.u64.wrap ((Q : Int) * (V0 : Int)) = (QV : Int) := by rw [← Int.natCast_mul, ← hQV, wrap_mod]; omega
    have HSt := Lib.hid (fun hc : 4294967296 ≤ Q ∨ 4294967296 * R + u0 < QV => HI.out.step (by have := hr1; have := HV.out; omega) hu0 (by rw [← hQV]; exact hc))
    have HDn := Lib.hid (fun hc : QV ≤ 4294967296 * R + u0 => HI.out.done (by rw [← hQV]; exact hc))
    clear hQV
    by_cases hA : 4294967296 ≤ Q
    ·have hA1 : (4294967296 : Int) ≤ Q := by omega
     have hst := HSt.out (.inl hA)
     have HSx := Lib.hid hst
     have hq' : 1 ≤ Q := hst.1
     have hq'' : Q - 1 ≤ 4294967296 := hst.2.2.2
     clear hst HDn HSt
     by_cases hB : 4294967296 ≤ R + V1
     ·have hB1 : (4294967296 : Int) ≤ R + V1 := by omega
      go_wp2_with fail
      all_goals first | (exfalso; omega) | skip
      go_meet
      have e := quot_left hV0 HSx.out.2.1 HSx.out.2.2.1 HSx.out.2.2.2 hB
      rw [← HV.out, ← HQ0.out] at e
      exact ⟨congrArg (Value.int .u64) (by omega), _, rfl⟩
     ·have hB1 : ¬ (4294967296 : Int) ≤ R + V1 := by omega
      go_wp2_with fail
      all_goals first | (exfalso; omega) | skip
      all_goals exact ⟨⟨Q - 1, R + V1, congrArg (Value.int .u64) (by omega), congrArg (Value.int .u64) (by omega), Lib.hid ⟨HSx.out.2.1, HSx.out.2.2.1, by omega, by omega⟩, _, rfl⟩, by simp [intOf]; omega⟩
    ·have hA1 : ¬ (4294967296 : Int) ≤ Q := by omega
     by_cases hC : 4294967296 * R + u0 < QV
     ·have hC1 : (4294967296 : Int) * R + u0 < QV := by omega
      have hst := HSt.out (.inr hC)
      have HSx := Lib.hid hst
      have hq' : 1 ≤ Q := hst.1
      have hq'' : Q - 1 ≤ 4294967296 := hst.2.2.2
      clear hst HDn HSt
      by_cases hB : 4294967296 ≤ R + V1
      ·have hB1 : (4294967296 : Int) ≤ R + V1 := by omega
       go_wp2_with fail
       all_goals first | (exfalso; omega) | skip
       go_meet
       have e := quot_left hV0 HSx.out.2.1 HSx.out.2.2.1 HSx.out.2.2.2 hB
       rw [← HV.out, ← HQ0.out] at e
       exact ⟨congrArg (Value.int .u64) (by omega), _, rfl⟩
      ·have hB1 : ¬ (4294967296 : Int) ≤ R + V1 := by omega
       go_wp2_with fail
       all_goals first | (exfalso; omega) | skip
       all_goals exact ⟨⟨Q - 1, R + V1, congrArg (Value.int .u64) (by omega), congrArg (Value.int .u64) (by omega), Lib.hid ⟨HSx.out.2.1, HSx.out.2.2.1, by omega, by omega⟩, _, rfl⟩, by simp [intOf]; omega⟩
     ·have hC1 : ¬ (4294967296 : Int) * R + u0 < QV := by omega
      have e := HDn.out (by omega)
      rw [← HV.out, ← HQ0.out] at e
      have HEq := Lib.hid e
      clear HDn HSt e
      go_wp2_with fail
      all_goals first | (exfalso; omega) | skip
      go_meet
      exact ⟨congrArg (Value.int .u64) (congrArg Int.ofNat HEq.out), _, rfl⟩
  case rest =>
   obtain ⟨rfl, k4, rfl⟩ := hcut
   go_wp2
   go_ret2
   exact ⟨rfl, _, rfl⟩
end Go.Proofs.YtongeeggaigepaaGreatDoor
namespace Go.Proofs.YtongeeggaigepaaGreatDoor
open Go.RowKit
def upW (m i : Nat) : Nat := m / 18446744073709551616 ^ i
theorem upW_zero (m : Nat) : upW m 0 = m := by simp [upW]
theorem upW_step (m i : Nat) : upW m i = upW m (i + 1) * 18446744073709551616 + W64 m i := by
 unfold upW W64
 rw [Nat.pow_succ, ← Nat.div_div_eq_div_mul]
 exact (Nat.div_add_mod' _ _).symm
theorem upW_four {m : Nat} (h : m < T256) : upW m 4 = 0 := by
 unfold upW
 rw [T256_w] at h
 exact Nat.div_eq_of_lt h
theorem upW_part (m y i : Nat) : upW (m / y) i = upW m i / y := by
 unfold upW
 rw [Nat.div_div_eq_div_mul, Nat.div_div_eq_div_mul, Nat.mul_comm]
theorem part_gen {B y t r a : Nat} (hr : r < B) (hy : 0 < y) (ha : a = t * B + r) : a / y % B = (t % y * B + r) / y ∧ a % y = (t % y * B + r) % y := by
 obtain ⟨h1, _⟩ := halves 0 (Nat.mod_lt t hy) hr
 have e := Nat.div_add_mod t y
 have h3 : a = (t % y * B + r) + y * (t / y * B) := by
  have h5 : (y * (t / y) + t % y) * B = t * B := by rw [e]
  rw [ha, ← h5]
  generalize t / y = q at *
  generalize t % y = s at *
  rw [Nat.add_mul, Nat.mul_assoc]
  omega
 rw [h3, Nat.add_mul_div_left _ _ hy, Nat.add_mul_mod_self_left, Nat.add_mul_mod_self_right]
 exact ⟨Nat.mod_eq_of_lt h1, rfl⟩
theorem part_step (m y i : Nat) (hy : 0 < y) :
 (upW m (i + 1) % y * 18446744073709551616 + W64 m i) / y = W64 (m / y) i ∧ (upW m (i + 1) % y * 18446744073709551616 + W64 m i) % y = upW m i % y := by
 obtain ⟨h1, h2⟩ := part_gen (W64_lt m i) hy (upW_step m i)
 refine ⟨?_, h2.symm⟩
 rw [← h1, ← upW_part]
 rfl
theorem upW_less {m i : Nat} (h : upW m (i + 1) = 0) (hw : W64 m i = 0) : upW m i = 0 := by rw [upW_step, h, hw]
theorem W64_over {m i : Nat} (h : upW m i = 0) (j : Nat) (hj : i ≤ j) : W64 m j = 0 := by
 have h1 : upW m j = 0 := by
  obtain ⟨k, rfl⟩ : ∃ k, j = i + k := ⟨j - i, by omega⟩
  unfold upW at h ⊢
  rw [Nat.pow_add, ← Nat.div_div_eq_div_mul, h, Nat.zero_div]
 have h2 := upW_step m j
 omega
theorem size_up {m : Nat} (h : m < T256) : ∃ n : Nat, n ≤ 4 ∧ sizeF (W64 m 0 : Nat) (W64 m 1 : Nat) (W64 m 2 : Nat) (W64 m 3 : Nat) = (n : Int) ∧ upW m n = 0 := by
 have h4 := upW_four h
 unfold sizeF
 by_cases h3 : W64 m 3 = 0
 ·have h3' := upW_less h4 h3
  rw [if_pos (by omega)]
  by_cases h2 : W64 m 2 = 0
  ·have h2' := upW_less h3' h2
   rw [if_pos (by omega)]
   by_cases h1 : W64 m 1 = 0
   ·have h1' := upW_less h2' h1
    rw [if_pos (by omega)]
    by_cases h0 : W64 m 0 = 0
    ·rw [if_pos (by omega)]; exact ⟨0, by omega, rfl, upW_less h1' h0⟩
    ·rw [if_neg (by omega)]; exact ⟨1, by omega, rfl, h1'⟩
   ·rw [if_neg (by omega)]; exact ⟨2, by omega, rfl, h2'⟩
  ·rw [if_neg (by omega)]; exact ⟨3, by omega, rfl, h3'⟩
 ·rw [if_neg (by omega)]; exact ⟨4, by omega, rfl, h4⟩
theorem div64_full (hi lo y s : Nat) (w : World) (h1 : hi < y) (h2 : lo < 18446744073709551616) (hy : y < 18446744073709551616) (hs : s < 64) (hn : 9223372036854775808 ≤ y * 2 ^ s) (hn2 : y * 2 ^ s < 18446744073709551616)
 (hz : ∀ W, Calls Tryz.prog 230 #[.int .u64 (y : Nat)] W fun e w' => e = .returned (.int .i64 (s : Nat)) ∧ ∃ k, w' = W.drewN k) :
 Calls Tryz.prog 220 #[.int .u64 (hi : Nat), .int .u64 (lo : Nat), .int .u64 (y : Nat)] w fun e w' =>
  e = .returned (.tuple #[.int .u64 ((hi * 18446744073709551616 + lo) / y : Nat), .int .u64 ((hi * 18446744073709551616 + lo) % y : Nat)]) ∧ ∃ k, w' = w.drewN k := by
 rcases Nat.eq_zero_or_pos hi with rfl | h0
 ·have h := div64_small (lo : Nat) (y : Nat) w (by omega) (by omega) (by omega) (by omega)
  rw [Nat.zero_mul, Nat.zero_add, Int.natCast_ediv, Int.natCast_emod]
  exact h
 ·exact div64_any hi lo y s w h0 h1 h2 hs hn hn2 hz
def oq (m y i j : Nat) : Nat := if i ≤ j then W64 (m / y) j else 0
def PS (w : World) (m y i : Nat) (W : World) : Prop :=
 Row W w.heap.size [.int .u64 (W64 m 0 : Nat), .int .u64 (W64 m 1 : Nat), .int .u64 (W64 m 2 : Nat), .int .u64 (W64 m 3 : Nat)] ∧
 Row W (w.heap.size + 1) [.int .u64 (oq m y i 0 : Nat), .int .u64 (oq m y i 1 : Nat), .int .u64 (oq m y i 2 : Nat), .int .u64 (oq m y i 3 : Nat)] ∧ Below w.heap.size w W
theorem PS.after {w W W1 : World} {m y i : Nat} (h : PS w m y i W) (hb : Below W.heap.size W W1) : PS w m y i W1 := ⟨h.1.after hb, h.2.1.after hb, h.2.2.trans (hb.mono h.2.2.size)⟩
theorem PS.put {w W : World} {m y i : Nat} (h : PS w m y (i + 1) W) (hi : i < 4) : PS w m y i (W.setCell ⟨w.heap.size + 1, i, none⟩ (.int .u64 (W64 (m / y) i : Nat))) := by
 refine ⟨h.1.other (p := ⟨w.heap.size + 1, i, none⟩) (by show w.heap.size + 1 ≠ w.heap.size; omega) _, ?_, below_put1 h.2.2 (by omega) _ _⟩
 have hs := h.2.1.set i (by simp; omega) (.int .u64 (W64 (m / y) i : Nat))
 match i, hi with
 | 0, _ | 1, _ | 2, _ | 3, _ => simpa [oq] using hs
set_option maxRecDepth 100000 in
set_option maxHeartbeats 2000000 in
theorem partedByWord_any (m y s : Nat) (w : World) (hm : m < T256) (hy : y < 18446744073709551616) (hs : s < 64) (hn : 9223372036854775808 ≤ y * 2 ^ s) (hn2 : y * 2 ^ s < 18446744073709551616)
 (hz : ∀ W, Calls Tryz.prog 230 #[.int .u64 (y : Nat)] W fun e w' => e = .returned (.int .i64 (s : Nat)) ∧ ∃ k, w' = W.drewN k) :
 Calls Tryz.prog 206 #[wv (W64 m 0 : Nat) (W64 m 1 : Nat) (W64 m 2 : Nat) (W64 m 3 : Nat), .int .u64 (y : Nat)] w fun e w' =>
  e = .returned (.tuple #[wv (W64 (m / y) 0 : Nat) (W64 (m / y) 1 : Nat) (W64 (m / y) 2 : Nat) (W64 (m / y) 3 : Nat), .int .u64 (m % y : Nat)]) ∧ Below w.heap.size w w' := by
 have hy0 : 0 < y := Nat.pos_of_ne_zero (by rintro rfl; omega)
 obtain ⟨n, hn4, hsz, hup⟩ := size_up hm
 have HD := Lib.hid (fun i W => div64_full (upW m (i + 1) % y) (W64 m i) y s W (Nat.mod_lt _ hy0) (W64_lt m i) hy hs hn hn2 hz)
 have HSt := Lib.hid (fun i => part_step m y i hy0)
 have HSz := Lib.hid hsz
 have hoq : ∀ j, oq m y n j = 0 := fun j => by
  unfold oq
  by_cases h : n ≤ j
  ·rw [if_pos h]
   exact W64_over (by rw [upW_part, hup, Nat.zero_div]) j h
  ·rw [if_neg h]
 have HLt := Lib.hid (fun i => Nat.mod_lt (upW m i) hy0)
 have HO := Lib.hid hoq
 have HUp : Hid (upW m n % y = 0) := Lib.hid (by rw [hup, Nat.zero_mod])
 have HEnd : Hid (upW m 0 % y = m % y ∧ ∀ j, oq m y 0 j = W64 (m / y) j) := Lib.hid ⟨by rw [upW_zero], fun j => by simp [oq]⟩
 clear hz hn hn2 hsz hoq hup hm hs
 go_enter Tryz.func206, Tryz.ntmps206
 go_wp2_with (go_at_call 184; refine (size_any _ _ _ _ _).mono ?_; rintro e w1 ⟨rfl, hb1⟩; rw [HSz.out])
 have hS : PS w m y n w1 := by
  refine ⟨((Row.at rfl _ _).alloc _).after hb1, ?_, (((Below.refl w.heap.size w).alloc (Nat.le_refl _) _).alloc (by simp) _).trans (hb1.mono (by simp; omega))⟩
  rw [HO.out, HO.out, HO.out, HO.out]
  exact (Row.at (by simp) _ _).after hb1
 have HK := Lib.hid hS
 clear hS hb1
 go_loopw [5, 6] (fun l v wr => ∃ (i : Nat) (j : Int), i ≤ 4 ∧ l = .int .u64 (upW m i % y : Nat) ∧ v = .int .i64 j ∧ Hid (j = (i : Int) - 1) ∧ Hid (PS w m y i wr)) (fun _ v _ => (intOf v + 1).toNat)
 case atStart => exact ⟨n, _, hn4, by rw [HUp.out]; rfl, rfl, Lib.hid rfl, HK⟩
 case round =>
  obtain ⟨i, j, hi, rfl, rfl, HJ, HP⟩ := hrel
  clear HK
  rcases Nat.eq_zero_or_pos i with rfl | hip
  ·obtain rfl : j = -1 := by have := HJ.out; omega
   rw [HEnd.out.1]
   have r1 := HP.out.2.1
   rw [HEnd.out.2, HEnd.out.2, HEnd.out.2, HEnd.out.2] at r1
   have hB := HP.out.2.2
   clear HP HD HSt
   have e0 := r1.c 0 rfl
   have e1 := r1.c 1 rfl
   have e2 := r1.c 2 rfl
   have e3 := r1.c 3 rfl
   have f0 := r1.f 0 rfl
   have f1 := r1.f 1 rfl
   have f2 := r1.f 2 rfl
   have f3 := r1.f 3 rfl
   generalize hq0 : ((W64 (m / y) 0 : Nat) : Int) = q0 at *
   have HQ0 := Lib.hid hq0
   clear hq0
   generalize hq1 : ((W64 (m / y) 1 : Nat) : Int) = q1 at *
   have HQ1 := Lib.hid hq1
   clear hq1
   generalize hq2 : ((W64 (m / y) 2 : Nat) : Int) = q2 at *
   have HQ2 := Lib.hid hq2
   clear hq2
   generalize hq3 : ((W64 (m / y) 3 : Nat) : Int) = q3 at *
   have HQ3 := Lib.hid hq3
   clear hq3
   generalize hrr : ((m % y : Nat) : Int) = rr at *
   have HRR := Lib.hid hrr
   clear hrr
   go_wp2_with fail
   clear e0 e1 e2 e3 f0 f1 f2 f3
   generalize hW : World.setCell _ _ _ = W3
   have r3 : Row W3 (w.heap.size + 1) [.int .u64 q0, .int .u64 q1, .int .u64 q2, .int .u64 q3] := by rw [← hW]; exact r1.put4 _ _ _ _
   have hB3 : Below w.heap.size w W3 := by rw [← hW]; exact below_put4 hB (by omega) _ _ _ _
   clear hW
   exact bodyPost_ret (v := .tuple #[wv q0 q1 q2 q3, .int .u64 rr]) (by simp [results, Tryz.results206, go_sem, r3.c 0 rfl, r3.c 1 rfl, r3.c 2 rfl, r3.c 3 rfl]) rfl ⟨by rw [HQ0.out, HQ1.out, HQ2.out, HQ3.out, HRR.out], hB3⟩
  ·obtain ⟨k, rfl⟩ : ∃ k, i = k + 1 := ⟨i - 1, by omega⟩
   have HDk := Lib.hid (fun W => by have h := HD.out k W; rw [(HSt.out k).1, (HSt.out k).2] at h; exact h)
   have HPut := Lib.hid (fun W (h : PS w m y (k + 1) W) => h.put (by omega))
   have hj := HJ.out
   clear HD HSt HJ HEnd HO HUp HSz
   have c0 := HP.out.1.c 0 rfl
   have c1 := HP.out.1.c 1 rfl
   have c2 := HP.out.1.c 2 rfl
   have c3 := HP.out.1.c 3 rfl
   have f0 := HP.out.2.1.f 0 rfl
   have f1 := HP.out.2.1.f 1 rfl
   have f2 := HP.out.2.1.f 2 rfl
   have f3 := HP.out.2.1.f 3 rfl
   have d0 := HP.out.2.1.c 0 rfl
   have d1 := HP.out.2.1.c 1 rfl
   have d2 := HP.out.2.1.c 2 rfl
   have d3 := HP.out.2.1.c 3 rfl
   obtain ⟨lf, hlf⟩ : ∃ lf, lf = upW m (k + 1) % y := ⟨_, rfl⟩
   rw [← hlf] at HDk ⊢
   obtain ⟨lg, hlg⟩ : ∃ lg, lg = upW m k % y := ⟨_, rfl⟩
   rw [← hlg] at HDk
   have HLg := Lib.hid hlg
   clear hlf hlg
   obtain rfl | rfl | rfl | rfl : k = 0 ∨ k = 1 ∨ k = 2 ∨ k = 3 := by omega
   ·obtain rfl : j = 0 := by omega
    clear hj
    go_wp2_with (go_at_call 220; (with_reducible refine (HDk.out _).mono ?_); rintro e w2 ⟨rfl, kk, rfl⟩)
    exact ⟨⟨0, _, by omega, by rw [HLg.out], rfl, Lib.hid (by omega), Lib.hid (HPut.out _ (HP.out.after (below_drewN (Below.refl _ _) _)))⟩, by simp [intOf]⟩
   ·obtain rfl : j = 1 := by omega
    clear hj
    go_wp2_with (go_at_call 220; (with_reducible refine (HDk.out _).mono ?_); rintro e w2 ⟨rfl, kk, rfl⟩)
    exact ⟨⟨1, _, by omega, by rw [HLg.out], rfl, Lib.hid (by omega), Lib.hid (HPut.out _ (HP.out.after (below_drewN (Below.refl _ _) _)))⟩, by simp [intOf]⟩
   ·obtain rfl : j = 2 := by omega
    clear hj
    go_wp2_with (go_at_call 220; (with_reducible refine (HDk.out _).mono ?_); rintro e w2 ⟨rfl, kk, rfl⟩)
    exact ⟨⟨2, _, by omega, by rw [HLg.out], rfl, Lib.hid (by omega), Lib.hid (HPut.out _ (HP.out.after (below_drewN (Below.refl _ _) _)))⟩, by simp [intOf]⟩
   ·obtain rfl : j = 3 := by omega
    clear hj
    go_wp2_with (go_at_call 220; (with_reducible refine (HDk.out _).mono ?_); rintro e w2 ⟨rfl, kk, rfl⟩)
    exact ⟨⟨3, _, by omega, by rw [HLg.out], rfl, Lib.hid (by omega), Lib.hid (HPut.out _ (HP.out.after (below_drewN (Below.refl _ _) _)))⟩, by simp [intOf]⟩
end Go.Proofs.YtongeeggaigepaaGreatDoor
