/- Plain mathematics of a magnitude's bits: what places goes over is the places below 256 whose bit is 1, rising. -/
import Derived.Test.YthmobcpdbgmbeaaGreatDoorP
namespace Go.Proofs.YthmobcpdbgmbeaaGreatDoor
theorem filter_low (p q : Nat → Bool) (k n : Nat) (hk : k < n) (hp : p k = true) (hlo : ∀ j, j < k → p j = false) (hq : ∀ j, q j = (p j && decide (j ≠ k))) :
    (List.range n).filter p = k :: (List.range n).filter q := by
  obtain ⟨r, rfl⟩ : ∃ r, n = k + (r + 1) := ⟨n - k - 1, by omega⟩
  rw [List.range_eq_range', ← List.range'_append_1, List.filter_append, List.filter_append, Nat.zero_add]
  have h1 : (List.range' 0 k).filter p = [] := by
    rw [List.filter_eq_nil_iff]
    intro j hj
    rw [List.mem_range'_1] at hj
    rw [hlo j (by omega)]; decide
  have h2 : (List.range' 0 k).filter q = [] := by
    rw [List.filter_eq_nil_iff]
    intro j hj
    rw [List.mem_range'_1] at hj
    rw [hq, hlo j (by omega)]; simp
  rw [h1, h2, List.range'_succ, List.filter_cons, List.filter_cons, hp, hq k]
  simp only [if_true, List.nil_append, ne_eq, not_true_eq_false, decide_false, Bool.and_false, Bool.false_eq_true, if_false]
  congr 1
  apply List.filter_congr
  intro j hj
  rw [List.mem_range'_1] at hj
  rw [hq, decide_eq_true (by omega), Bool.and_true]
theorem ctz_form {x n : Nat} (h0 : x ≠ 0) (h : x < 2 ^ n) : ∃ m, x = 2 ^ Lib.ctz n x * (2 * m + 1) ∧ Lib.ctz n x < n := by
  unfold Lib.ctz
  rw [if_neg h0]
  exact Lib.ctzFrom_spec n x (by omega) h
theorem low_off (k m : Nat) : (2 ^ k * (2 * m + 1)) &&& (2 ^ k * (2 * m + 1) - 1) = 2 ^ k * (2 * m) := by
  have e : 2 ^ k * (2 * m + 1) - 1 = 2 ^ k * (2 * m) + (2 ^ k - 1) := by
    have : 0 < 2 ^ k := Nat.pow_pos (by decide)
    rw [Nat.mul_add, Nat.mul_one]; omega
  rw [e]
  apply Nat.eq_of_testBit_eq
  intro i
  have hlt : 2 ^ k - 1 < 2 ^ k := by have : 0 < 2 ^ k := Nat.pow_pos (by decide); omega
  rw [Nat.testBit_and, Nat.testBit_two_pow_mul_add _ hlt, Nat.testBit_two_pow_mul, Nat.testBit_two_pow_mul]
  by_cases h : k ≤ i
  · obtain ⟨j, rfl⟩ : ∃ j, i = k + j := ⟨i - k, by omega⟩
    rw [if_neg (by omega), Nat.add_sub_cancel_left]
    cases j with
    | zero => simp
    | succ j =>
      rw [Nat.testBit_succ, Nat.testBit_succ, show (2 * m + 1) / 2 = m by omega, show 2 * m / 2 = m by omega]
      simp
  · rw [if_pos (by omega)]
    simp [h]
theorem wordBits_list (i : Nat) : ∀ (n w : Nat), w ≤ n → w < 2 ^ 64 → wordBits i w = ((List.range 64).filter w.testBit).map (64 * i + ·) := by
  intro n
  induction n with
  | zero =>
    intro w hw _
    obtain rfl : w = 0 := by omega
    rw [wordBits_zero]
    simp
  | succ n ih =>
    intro w hw h64
    by_cases h0 : w = 0
    · subst h0; rw [wordBits_zero]; simp
    · obtain ⟨m, hm, hk⟩ := ctz_form h0 h64
      have ha : w &&& (w - 1) = 2 ^ Lib.ctz 64 w * (2 * m) := by
        have := low_off (Lib.ctz 64 w) m
        rw [← hm] at this
        exact this
      have hlt : w &&& (w - 1) ≤ w - 1 := Nat.and_le_right
      rw [wordBits_step i w h0, ih _ (by omega) (by omega)]
      have hf := filter_low w.testBit (w &&& (w - 1)).testBit (Lib.ctz 64 w) 64 hk ?_ ?_ ?_
      · rw [hf]; rfl
      all_goals
        (try rw [ha])
        generalize Lib.ctz 64 w = k at *
        subst hm
      · rw [Nat.testBit_two_pow_mul]
        simp
      · intro j hj
        rw [Nat.testBit_two_pow_mul]
        simp; omega
      · intro j
        rw [Nat.testBit_two_pow_mul, Nat.testBit_two_pow_mul]
        by_cases h : k ≤ j
        · obtain ⟨r, rfl⟩ : ∃ r, j = k + r := ⟨j - k, by omega⟩
          rw [Nat.add_sub_cancel_left]
          cases r with
          | zero => simp
          | succ r =>
            rw [Nat.testBit_succ, Nat.testBit_succ, show (2 * m + 1) / 2 = m by omega, show 2 * m / 2 = m by omega]
            simp
        · simp [h]
/-- Is the bit at a place 1? -/
def bitB (m : Nat → Nat) (i : Nat) : Bool := (m (i / 64)).testBit (i % 64)
theorem bitsTo_list (m : Nat → Nat) (hm : ∀ i, m i < 18446744073709551616) (n : Nat) : bitsTo m n = (List.range (64 * n)).filter (bitB m) := by
  induction n with
  | zero => rfl
  | succ n ih =>
    rw [bitsTo, ih, wordBits_list n (m n) (m n) (Nat.le_refl _) (hm n), show 64 * (n + 1) = 64 * n + 64 by omega, List.range_add, List.filter_append]
    congr 1
    rw [List.filter_map]
    congr 1
    apply List.filter_congr
    intro j hj
    rw [List.mem_range] at hj
    show _ = (m ((64 * n + j) / 64)).testBit ((64 * n + j) % 64)
    rw [show (64 * n + j) / 64 = n by omega, show (64 * n + j) % 64 = j by omega]
end Go.Proofs.YthmobcpdbgmbeaaGreatDoor
