/- Numbers of the document and Ints by their values: of, From, To's form; no condition but those of each lemma. -/
import Derived.Test.YtlbijchbngnmmaaDoorBA
namespace Go.Proofs.YtlbijchbngnmmaaDoor
open Go.RowKit

/-- The Int of a number, and the number of an Int. -/
def ivz (z : Int) : Value := iv (decide (z < 0)) (W64 z.natAbs 0 : Nat) (W64 z.natAbs 1 : Nat) (W64 z.natAbs 2 : Nat) (W64 z.natAbs 3 : Nat)
def T256 : Nat := 115792089237316195423570985008687907853269984665640564039457584007913129639936
theorem T256_w : T256 = 18446744073709551616 ^ 4 := by decide
theorem T256_d : T256 = 65536 ^ 16 := by decide
theorem L16_int {m : Nat} : m < T256 ↔ L16 m ≤ 16 := by
  rw [T256_d]
  exact ⟨L16_le, fun h => Nat.lt_of_lt_of_le (lt_L16 m) (Nat.pow_le_pow_right (by decide) h)⟩

def nat4 (a b c d : Nat) : Nat → Nat
  | 0 => a
  | 1 => b
  | 2 => c
  | _ => d
theorem row4_nat4 (a b c d : Nat) (i : Nat) : row4 (a : Int) (b : Int) (c : Int) (d : Int) i = (nat4 a b c d i : Nat) := by
  match i with
  | 0 => rfl
  | 1 => rfl
  | 2 => rfl
  | n + 3 => rfl
theorem zeroB_val (a b c d : Nat) : zeroB (a : Int) (b : Int) (c : Int) (d : Int) = true ↔ valW (nat4 a b c d) 4 = 0 := by
  rw [zeroB_iff]
  simp only [valW, nat4]
  omega
/-- An Int that may be is that of a number. -/
theorem iv_num (s : Bool) (a b c d : Int) (ha : 0 ≤ a ∧ a < 18446744073709551616) (hb : 0 ≤ b ∧ b < 18446744073709551616) (hc : 0 ≤ c ∧ c < 18446744073709551616) (hd : 0 ≤ d ∧ d < 18446744073709551616)
    (h : (s && zeroB a b c d) = false) : ∃ z : Int, z.natAbs < T256 ∧ iv s a b c d = ivz z ∧ s = decide (z < 0) ∧ a = (W64 z.natAbs 0 : Nat) ∧ b = (W64 z.natAbs 1 : Nat) ∧ c = (W64 z.natAbs 2 : Nat) ∧ d = (W64 z.natAbs 3 : Nat) := by
  obtain ⟨a, rfl⟩ := Int.eq_ofNat_of_zero_le ha.1
  obtain ⟨b, rfl⟩ := Int.eq_ofNat_of_zero_le hb.1
  obtain ⟨c, rfl⟩ := Int.eq_ofNat_of_zero_le hc.1
  obtain ⟨d, rfl⟩ := Int.eq_ofNat_of_zero_le hd.1
  have hx : ∀ i, i < 4 → nat4 a b c d i < 18446744073709551616 := fun i hi => by
    match i, hi with
    | 0, _ => show a < _; omega
    | 1, _ => show b < _; omega
    | 2, _ => show c < _; omega
    | 3, _ => show d < _; omega
  have hl := valW_lt 4 hx
  have w0 : W64 (valW (nat4 a b c d) 4) 0 = a := W64_val 4 hx 0 (by omega)
  have w1 : W64 (valW (nat4 a b c d) 4) 1 = b := W64_val 4 hx 1 (by omega)
  have w2 : W64 (valW (nat4 a b c d) 4) 2 = c := W64_val 4 hx 2 (by omega)
  have w3 : W64 (valW (nat4 a b c d) 4) 3 = d := W64_val 4 hx 3 (by omega)
  rw [← T256_w] at hl
  have hz : s = true → valW (nat4 a b c d) 4 ≠ 0 := fun hs h0 => by
    rw [hs, (zeroB_val a b c d).2 h0] at h; cases h
  generalize valW (nat4 a b c d) 4 = m at hl w0 w1 w2 w3 hz
  have hn : (if s then -(m : Int) else (m : Int)).natAbs = m := by split <;> omega
  refine ⟨if s then -(m : Int) else m, by rw [hn]; exact hl, ?_, ?_, by rw [hn, w0], by rw [hn, w1], by rw [hn, w2], by rw [hn, w3]⟩
  · have hs : decide ((if s then -(m : Int) else (m : Int)) < 0) = s := by
      cases s
      · simp
      · simp; exact Nat.pos_of_ne_zero (hz rfl)
    unfold ivz
    rw [hn, hs, w0, w1, w2, w3]
  · cases s
    · simp
    · simp; exact Nat.pos_of_ne_zero (hz rfl)
theorem ivz_right (z : Int) (hz : z.natAbs < T256) : (decide (z < 0) && zeroB (W64 z.natAbs 0 : Nat) (W64 z.natAbs 1 : Nat) (W64 z.natAbs 2 : Nat) (W64 z.natAbs 3 : Nat)) = false := by
  by_cases h : zeroB (W64 z.natAbs 0 : Nat) (W64 z.natAbs 1 : Nat) (W64 z.natAbs 2 : Nat) (W64 z.natAbs 3 : Nat) = true
  · rw [zeroB_val] at h
    have e : valW (nat4 (W64 z.natAbs 0) (W64 z.natAbs 1) (W64 z.natAbs 2) (W64 z.natAbs 3)) 4 = valW (W64 z.natAbs) 4 := rfl
    rw [e, valW_W64, ← T256_w, Nat.mod_eq_of_lt hz] at h
    have : z = 0 := by omega
    subst this
    simp
  · simp [h]
theorem W64_bd (m i : Nat) : 0 ≤ ((W64 m i : Nat) : Int) ∧ ((W64 m i : Nat) : Int) < 18446744073709551616 := by have := W64_lt m i; omega
theorem row4_W64_bd (m : Nat) : ∀ k, 0 ≤ row4 (W64 m 0 : Nat) (W64 m 1 : Nat) (W64 m 2 : Nat) (W64 m 3 : Nat) k ∧ row4 (W64 m 0 : Nat) (W64 m 1 : Nat) (W64 m 2 : Nat) (W64 m 3 : Nat) k < 18446744073709551616
  | 0 => W64_bd m 0
  | 1 => W64_bd m 1
  | 2 => W64_bd m 2
  | _ + 3 => W64_bd m 3
theorem dig_nat (x k : Nat) : dig (x : Int) k = (D16 x k : Nat) := by
  unfold dig D16
  rw [Int.natCast_emod, Int.natCast_ediv, Int.natCast_pow]
  rfl
theorem digF_W64 (m i : Nat) (h : i < 16) : digF (row4 (W64 m 0 : Nat) (W64 m 1 : Nat) (W64 m 2 : Nat) (W64 m 3 : Nat)) i = digR m i := by
  have hj : i / 4 < 4 := by omega
  have hr : row4 (W64 m 0 : Nat) (W64 m 1 : Nat) (W64 m 2 : Nat) (W64 m 3 : Nat) (i / 4) = ((W64 m (i / 4) : Nat) : Int) := by
    match i / 4, hj with
    | 0, _ => rfl
    | 1, _ => rfl
    | 2, _ => rfl
    | 3, _ => rfl
  unfold digF digR
  rw [hr, dig_nat, W64_D16 m (i / 4) (i % 4) (by omega), show 4 * (i / 4) + i % 4 = i by omega]
theorem cutN_congr {x y : Nat → Int} (n : Nat) (h : ∀ i, i < n → x i = y i) : cutN x n = cutN y n := by
  induction n with
  | zero => rfl
  | succ n ih => rw [cutN, cutN, h n (by omega), ih (fun i hi => h i (by omega))]

/-- Where a number's digits lie. -/
def DS (w : World) (m : Nat) (A : Option Addr) : Prop := 0 < L16 m → ∃ b, A = some ⟨b, 0, none⟩ ∧ b < w.heap.size ∧ ∀ i, i < L16 m → w.cell? ⟨b, i, none⟩ = some (.int .i64 (digR m i))
theorem DS.below {w w' : World} {m : Nat} {A : Option Addr} (h : DS w m A) (hb : Below w.heap.size w w') : DS w' m A := fun hm => by
  obtain ⟨b, e, hl, hc⟩ := h hm
  exact ⟨b, e, Nat.lt_of_lt_of_le hl hb.size, fun i hi => (hb.cell (p := ⟨b, i, none⟩) hl).trans (hc i hi)⟩
theorem DS.nought {w : World} (A : Option Addr) : DS w 0 A := fun h => by rw [L16_nought] at h; omega
/-- A number of the document. -/
def bigv (z : Int) (A : Option Addr) (c : Nat) : Value := .agg #[.bool (decide (z < 0)), .slice A (L16 z.natAbs) c]
/-- A call's answer is that number. -/
def BigPost (w : World) (z : Int) (e : Ending) (w' : World) : Prop := ∃ A c, e = .returned (bigv z A c) ∧ L16 z.natAbs ≤ c ∧ DS w' z.natAbs A ∧ Below w.heap.size w w'

theorem from_z (z : Int) (w : World) (hz : z.natAbs < T256) : Calls Tryd.prog 17 #[ivz z] w (BigPost w z) := by
  refine (from_any (decide (z < 0)) _ _ _ _ w (row4_W64_bd z.natAbs)).mono ?_
  rintro e w' ⟨⟨v, rfl, b, c, rfl, hl, hx, hc⟩, hb⟩
  have hk : cutN (digF (row4 (W64 z.natAbs 0 : Nat) (W64 z.natAbs 1 : Nat) (W64 z.natAbs 2 : Nat) (W64 z.natAbs 3 : Nat))) 16 = L16 z.natAbs := by
    rw [cutN_congr 16 (fun i hi => digF_W64 z.natAbs i hi), cut_digR (L16_int.1 hz)]
  have hs : (decide (z < 0) && decide (0 < L16 z.natAbs)) = decide (z < 0) := by
    by_cases h : z < 0
    · have : 0 < L16 z.natAbs := Nat.pos_of_ne_zero (fun h0 => by have := L16_zero h0; omega)
      simp [h, this]
    · simp [h]
  rw [hk, hs]
  refine ⟨some ⟨b, 0, none⟩, c, rfl, by have := L16_int.1 hz; omega, fun _ => ⟨b, rfl, hl, fun i hi => ?_⟩, hb⟩
  have := L16_int.1 hz
  rw [hx i (by omega), digF_W64 _ i (by omega)]
end Go.Proofs.YtlbijchbngnmmaaDoor
