/- The document's Quo: plain mathematics of dividing digit by digit by the divisor's doubles; contract of word. -/
import Derived.Test.YtpbdhhdmnnelhaaDoorBG
namespace Go.Proofs.YtpbdhhdmnnelhaaDoor
open Go.RowKit

/-- What is left of a's digits from i on, divided by b. -/
def rQ (a b i : Nat) : Nat := a / 65536 ^ i % b
/-- What is divided at digit i. -/
def mQ (a b i : Nat) : Nat := rQ a b (i + 1) * 65536 + D16 a i
/-- The quotient's digit i, so far as the doubles from k on were taken. -/
def dQ (m b k : Nat) : Nat := m / (b * 2 ^ k) * 2 ^ k
theorem top_step (a i : Nat) : a / 65536 ^ i = a / 65536 ^ (i + 1) * 65536 + D16 a i := by
  unfold D16
  rw [Nat.pow_succ, ← Nat.div_div_eq_div_mul]
  omega
theorem mQ_lt {a b : Nat} (i : Nat) (hb : 0 < b) : mQ a b i < b * 65536 := by
  have h1 : rQ a b (i + 1) < b := Nat.mod_lt _ hb
  have h2 : D16 a i < 65536 := Nat.mod_lt _ (by decide)
  unfold mQ
  have : (rQ a b (i + 1) + 1) * 65536 ≤ b * 65536 := Nat.mul_le_mul_right _ h1
  omega
theorem mQ_mod (a b i : Nat) : mQ a b i % b = rQ a b i := by
  unfold mQ rQ
  rw [top_step a i, Nat.add_mod, Nat.mul_mod, Nat.mod_mod, ← Nat.mul_mod, ← Nat.add_mod]
theorem mQ_div {a b : Nat} (i : Nat) (hb : 0 < b) : mQ a b i / b = D16 (a / b) i := by
  have h := mQ_lt (a := a) i hb
  have h1 : a / 65536 ^ i / b = a / 65536 ^ (i + 1) / b * 65536 + mQ a b i / b := by
    rw [top_step a i]
    have h2 := Nat.div_add_mod (a / 65536 ^ (i + 1)) b
    unfold mQ rQ
    generalize a / 65536 ^ (i + 1) = t at *
    generalize t / b = q at *
    generalize t % b = r at *
    rw [show t * 65536 + D16 a i = r * 65536 + D16 a i + b * (q * 65536) by rw [← h2, Nat.add_mul, Nat.mul_assoc]; omega, Nat.add_mul_div_left _ _ hb]
    omega
  unfold D16
  rw [Nat.div_div_eq_div_mul, Nat.mul_comm b, ← Nat.div_div_eq_div_mul, h1]
  have h3 : mQ a b i / b < 65536 := (Nat.div_lt_iff_lt_mul hb).2 (by rw [Nat.mul_comm]; exact h)
  rw [Nat.add_comm, Nat.add_mul_mod_self_right, Nat.mod_eq_of_lt h3]
theorem half_step (m c : Nat) (hc : 0 < c) : (c ≤ m % (2 * c) → m % c = m % (2 * c) - c ∧ m / c = 2 * (m / (2 * c)) + 1) ∧ (¬ c ≤ m % (2 * c) → m % c = m % (2 * c) ∧ m / c = 2 * (m / (2 * c))) := by
  have h1 := Nat.div_add_mod m (2 * c)
  have h2 := Nat.mod_lt m (show 0 < 2 * c by omega)
  generalize m / (2 * c) = q at *
  generalize m % (2 * c) = r at *
  constructor
  · intro h
    have e : m = (r - c) + c * (2 * q + 1) := by rw [Nat.mul_add, Nat.mul_one, ← Nat.mul_assoc, Nat.mul_comm c 2]; omega
    rw [e, Nat.add_mul_mod_self_left, Nat.add_mul_div_left _ _ hc, Nat.mod_eq_of_lt (by omega), Nat.div_eq_of_lt (by omega)]
    omega
  · intro h
    have e : m = r + c * (2 * q) := by rw [← Nat.mul_assoc, Nat.mul_comm c 2]; omega
    rw [e, Nat.add_mul_mod_self_left, Nat.add_mul_div_left _ _ hc, Nat.mod_eq_of_lt (by omega), Nat.div_eq_of_lt (by omega)]
    omega
theorem dQ_step (m b k : Nat) (hb : 0 < b) : (b * 2 ^ k ≤ m % (b * 2 ^ (k + 1)) → m % (b * 2 ^ k) = m % (b * 2 ^ (k + 1)) - b * 2 ^ k ∧ dQ m b k = dQ m b (k + 1) + 2 ^ k) ∧
    (¬ b * 2 ^ k ≤ m % (b * 2 ^ (k + 1)) → m % (b * 2 ^ k) = m % (b * 2 ^ (k + 1)) ∧ dQ m b k = dQ m b (k + 1)) := by
  have hp : 0 < 2 ^ k := Nat.pow_pos (by decide)
  have h := half_step m (b * 2 ^ k) (Nat.mul_pos hb hp)
  rw [show 2 * (b * 2 ^ k) = b * 2 ^ (k + 1) by rw [Nat.pow_succ, Nat.mul_comm, Nat.mul_assoc]] at h
  unfold dQ
  rw [Nat.pow_succ 2 k]
  rw [Nat.pow_succ 2 k] at h
  refine ⟨fun h1 => ?_, fun h1 => ?_⟩
  · obtain ⟨h2, h3⟩ := h.1 h1
    refine ⟨h2, ?_⟩
    rw [h3, Nat.add_mul, Nat.one_mul, Nat.mul_comm 2, Nat.mul_assoc, Nat.mul_comm 2]
  · obtain ⟨h2, h3⟩ := h.2 h1
    refine ⟨h2, ?_⟩
    rw [h3, Nat.mul_comm 2, Nat.mul_assoc, Nat.mul_comm 2]
theorem dQ_first {m b : Nat} (h : m < b * 65536) : m % (b * 2 ^ 16) = m ∧ dQ m b 16 = 0 := by
  have h1 : m < b * 2 ^ 16 := h
  exact ⟨Nat.mod_eq_of_lt h1, by unfold dQ; rw [Nat.div_eq_of_lt h1, Nat.zero_mul]⟩
theorem dQ_last (m b : Nat) : m % (b * 2 ^ 0) = m % b ∧ dQ m b 0 = m / b := by unfold dQ; simp
theorem dQ_lt {m b : Nat} (k : Nat) (hb : 0 < b) (h : m < b * 65536) : dQ m b k < 65536 := by
  have h1 : dQ m b k ≤ m / b := by
    unfold dQ
    rw [← Nat.div_div_eq_div_mul]
    exact Nat.div_mul_le_self _ _
  have h2 : m / b < 65536 := (Nat.div_lt_iff_lt_mul hb).2 (by rw [Nat.mul_comm]; exact h)
  omega

theorem L16_double {b k : Nat} (hk : k < 16) : L16 (b * 2 ^ k) ≤ L16 b + 1 := by
  apply L16_le
  rw [Nat.pow_succ]
  have h1 := lt_L16 b
  have h2 : 2 ^ k ≤ 65536 := Nat.le_trans (Nat.pow_le_pow_right (by decide) (show k ≤ 16 by omega)) (by decide)
  exact Nat.lt_of_lt_of_le (Nat.mul_lt_mul_of_pos_right h1 (Nat.pow_pos (by decide))) (Nat.mul_le_mul_left _ h2)
theorem L16_rest {m b : Nat} (h : m < b * 65536) : L16 m ≤ L16 b + 1 := by
  apply L16_le
  rw [Nat.pow_succ]
  exact Nat.lt_of_lt_of_le h (Nat.mul_le_mul_right _ (Nat.le_of_lt (lt_L16 b)))
theorem word_val {m : Nat} (h : L16 m ≤ 3) : D16 m 0 + 65536 * (D16 m 1 + 65536 * D16 m 2) = m ∧ m < 281474976710656 := by
  have h1 := valD_D16 m 3
  rw [mod_pow_all h] at h1
  have h2 := Nat.lt_of_lt_of_le (lt_L16 m) (Nat.pow_le_pow_right (n := 65536) (by decide) h)
  simp only [valD] at h1
  constructor
  · omega
  · exact h2
set_option maxRecDepth 100000 in
set_option maxHeartbeats 400000 in
theorem word_z (m : Nat) (A : Option Addr) (c : Nat) (w : World) (ha : DS w m A) (hm : L16 m ≤ 3) :
    Calls Tryd.prog 53 #[.slice A (L16 m) c] w fun e w' => e = .returned (.int .i64 (m : Nat)) ∧ w = w' := by
  have HA := Lib.hid (fun i => at_z m i A c w ha)
  obtain ⟨h1, h2⟩ := word_val hm
  have h10 := (digR_bd m 0).1
  have h11 := (digR_bd m 0).2
  have h20 := (digR_bd m 1).1
  have h21 := (digR_bd m 1).2
  have h30 := (digR_bd m 2).1
  have h31 := (digR_bd m 2).2
  have HV := Lib.hid (show digR m 0 + 65536 * (digR m 1 + 65536 * digR m 2) = (m : Int) by unfold digR; omega)
  clear h1 h2 ha hm
  have H0 := Lib.hid (HA.out 0)
  have H1 := Lib.hid (HA.out 1)
  have H2 := Lib.hid (HA.out 2)
  clear HA
  generalize digR m 0 = d0 at *
  generalize digR m 1 = d1 at *
  generalize digR m 2 = d2 at *
  generalize L16 m = n at *
  go_enter Tryd.func53, Tryd.ntmps53
  go_wp2_with fail
  refine H0.out.mono ?_
  rintro e w' ⟨rfl, rfl⟩
  go_wp2_with fail
  refine H1.out.mono ?_
  rintro e w' ⟨rfl, rfl⟩
  go_wp2_with fail
  refine H2.out.mono ?_
  rintro e w' ⟨rfl, rfl⟩
  go_wp2_with fail
  go_ret
  exact ⟨by show Ending.returned (.int .i64 (d0 + 65536 * (d1 + 65536 * d2))) = _; rw [HV.out], rfl⟩
end Go.Proofs.YtpbdhhdmnnelhaaDoor
