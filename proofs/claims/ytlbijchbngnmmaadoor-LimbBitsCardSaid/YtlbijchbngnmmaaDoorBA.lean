/- Plain mathematics of digits to the base 2^16 and of words to the base 2^64: no condition but those of each lemma. -/
import Derived.Test.YtlbijchbngnmmaaDoorAB
namespace Go.Proofs.YtlbijchbngnmmaaDoor

/-- Digit i of m to the base 2^16. -/
def D16 (m i : Nat) : Nat := m / 65536 ^ i % 65536
/-- How many digits m has. -/
def L16 (m : Nat) : Nat := if _h : m = 0 then 0 else L16 (m / 65536) + 1
termination_by m
decreasing_by omega
theorem D16_lt (m i : Nat) : D16 m i < 65536 := Nat.mod_lt _ (by decide)
theorem D16_nought (i : Nat) : D16 0 i = 0 := by simp [D16]
theorem D16_first (m : Nat) : D16 m 0 = m % 65536 := by simp [D16]
theorem D16_next (m i : Nat) : D16 m (i + 1) = D16 (m / 65536) i := by
  unfold D16; rw [Nat.pow_succ', Nat.div_div_eq_div_mul]
theorem L16_nought : L16 0 = 0 := by rw [L16]; simp
theorem L16_step {m : Nat} (h : m ≠ 0) : L16 m = L16 (m / 65536) + 1 := by rw [L16]; simp [h]
theorem L16_zero {m : Nat} (h : L16 m = 0) : m = 0 := by
  by_cases e : m = 0
  · exact e
  · rw [L16_step e] at h; omega
theorem lt_L16 (m : Nat) : m < 65536 ^ L16 m := by
  induction m using Nat.strongRecOn with
  | _ m ih =>
    by_cases h : m = 0
    · subst h; rw [L16_nought]; decide
    · have := ih (m / 65536) (by omega)
      rw [L16_step h, Nat.pow_succ]
      generalize 65536 ^ L16 (m / 65536) = p at *
      omega
theorem L16_le {m n : Nat} (h : m < 65536 ^ n) : L16 m ≤ n := by
  induction n generalizing m with
  | zero => have : m = 0 := by simpa using h
            rw [this, L16_nought]; exact Nat.le_refl _
  | succ n ih =>
    by_cases e : m = 0
    · rw [e, L16_nought]; omega
    · rw [L16_step e]
      have := ih (m := m / 65536) (by rw [Nat.pow_succ] at h; generalize 65536 ^ n = p at *; omega)
      omega
theorem L16_mono {m n : Nat} (h : m ≤ n) : L16 m ≤ L16 n := L16_le (Nat.lt_of_le_of_lt h (lt_L16 n))
theorem D16_over {m i : Nat} (h : L16 m ≤ i) : D16 m i = 0 := by
  have h1 := lt_L16 m
  have h2 : (65536 : Nat) ^ L16 m ≤ 65536 ^ i := Nat.pow_le_pow_right (by decide) h
  unfold D16
  rw [Nat.div_eq_of_lt (by omega)]
theorem D16_top {m : Nat} (h : 0 < L16 m) : D16 m (L16 m - 1) ≠ 0 := by
  induction m using Nat.strongRecOn with
  | _ m ih =>
    by_cases e : m = 0
    · subst e; rw [L16_nought] at h; omega
    · rw [L16_step e, Nat.add_sub_cancel]
      by_cases e2 : m / 65536 = 0
      · rw [e2, L16_nought, D16_first]; omega
      · have hp : 0 < L16 (m / 65536) := by rw [L16_step e2]; omega
        have := ih (m / 65536) (by omega) hp
        rw [show L16 (m / 65536) = (L16 (m / 65536) - 1) + 1 by omega, D16_next]
        exact this
/-- A number's digits as a row. -/
def digR (m : Nat) (i : Nat) : Int := (D16 m i : Nat)
theorem digR_bd (m i : Nat) : 0 ≤ digR m i ∧ digR m i < 65536 := by have := D16_lt m i; unfold digR; omega
theorem cut_digR {m n : Nat} (h : L16 m ≤ n) : cutN (digR m) n = L16 m := by
  induction n with
  | zero => rw [cutN]; omega
  | succ n ih =>
    rw [cutN]
    by_cases e : L16 m = n + 1
    · have h1 := D16_top (m := m) (by omega)
      rw [e, Nat.add_sub_cancel] at h1
      rw [if_neg (by unfold digR; omega), e]
    · rw [if_pos (by unfold digR; rw [D16_over (by omega)]; rfl), ih (by omega)]
theorem div_add_mod_pow (m i : Nat) : m % 65536 ^ (i + 1) = m % 65536 ^ i + D16 m i * 65536 ^ i := by
  unfold D16
  rw [Nat.pow_succ, Nat.mod_mul, Nat.mul_comm]
theorem mod_pow_all {m n : Nat} (h : L16 m ≤ n) : m % 65536 ^ n = m :=
  Nat.mod_eq_of_lt (Nat.lt_of_lt_of_le (lt_L16 m) (Nat.pow_le_pow_right (by decide) h))
/-- The value of a row's first n digits. -/
def valD (x : Nat → Nat) : Nat → Nat
  | 0 => 0
  | k + 1 => valD x k + x k * 65536 ^ k
theorem valD_lt {x : Nat → Nat} (n : Nat) (hx : ∀ i, i < n → x i < 65536) : valD x n < 65536 ^ n := by
  induction n with
  | zero => simp [valD]
  | succ n ih =>
    have h1 := ih (fun i hi => hx i (by omega))
    have h2 := hx n (by omega)
    rw [valD, Nat.pow_succ]
    generalize 65536 ^ n = p at *
    have : x n * p ≤ 65535 * p := Nat.mul_le_mul_right _ (by omega)
    omega
theorem D16_val {x : Nat → Nat} (n : Nat) (hx : ∀ i, i < n → x i < 65536) : ∀ i, i < n → D16 (valD x n) i = x i := by
  induction n with
  | zero => intro i hi; omega
  | succ n ih =>
    intro i hi
    have hl := valD_lt n (fun i hi => hx i (by omega))
    have hn := hx n (by omega)
    rw [valD]
    by_cases e : i = n
    · subst e
      unfold D16
      rw [Nat.add_mul_div_right _ _ (Nat.pow_pos (by decide)), Nat.div_eq_of_lt hl, Nat.zero_add, Nat.mod_eq_of_lt hn]
    · have h1 := ih (fun i hi => hx i (by omega)) i (by omega)
      rw [← h1]
      unfold D16
      obtain ⟨k, rfl⟩ : ∃ k, n = i + 1 + k := ⟨n - i - 1, by omega⟩
      rw [show x (i + 1 + k) * 65536 ^ (i + 1 + k) = (x (i + 1 + k) * 65536 ^ k * 65536) * 65536 ^ i by rw [Nat.pow_add, Nat.pow_add]; simp only [Nat.pow_one, Nat.mul_comm, Nat.mul_left_comm, Nat.mul_assoc],
        Nat.add_mul_div_right _ _ (Nat.pow_pos (by decide)), Nat.add_mul_mod_self_right]
theorem valD_congr {x y : Nat → Nat} (n : Nat) (h : ∀ i, i < n → x i = y i) : valD x n = valD y n := by
  induction n with
  | zero => rfl
  | succ n ih => rw [valD, valD, ih (fun i hi => h i (by omega)), h n (by omega)]
theorem valD_D16 (m n : Nat) : valD (D16 m) n = m % 65536 ^ n := by
  induction n with
  | zero => simp [valD, Nat.mod_one]
  | succ n ih => rw [valD, ih, div_add_mod_pow]
theorem D16_ext {a b : Nat} (h : ∀ i, D16 a i = D16 b i) : a = b := by
  have h1 := mod_pow_all (Nat.le_max_left (L16 a) (L16 b))
  have h2 := mod_pow_all (Nat.le_max_right (L16 a) (L16 b))
  rw [← valD_D16] at h1 h2
  exact h1.symm.trans ((valD_congr _ (fun i _ => h i)).trans h2)

/-- Word i of m to the base 2^64. -/
def W64 (m i : Nat) : Nat := m / 18446744073709551616 ^ i % 18446744073709551616
theorem W64_lt (m i : Nat) : W64 m i < 18446744073709551616 := Nat.mod_lt _ (by decide)
/-- The value of a row of words. -/
def valW (x : Nat → Nat) : Nat → Nat
  | 0 => 0
  | k + 1 => valW x k + x k * 18446744073709551616 ^ k
theorem valW_lt {x : Nat → Nat} (n : Nat) (hx : ∀ i, i < n → x i < 18446744073709551616) : valW x n < 18446744073709551616 ^ n := by
  induction n with
  | zero => simp [valW]
  | succ n ih =>
    have h1 := ih (fun i hi => hx i (by omega))
    have h2 := hx n (by omega)
    rw [valW, Nat.pow_succ]
    generalize 18446744073709551616 ^ n = p at *
    have : x n * p ≤ 18446744073709551615 * p := Nat.mul_le_mul_right _ (by omega)
    omega
theorem W64_val {x : Nat → Nat} (n : Nat) (hx : ∀ i, i < n → x i < 18446744073709551616) : ∀ i, i < n → W64 (valW x n) i = x i := by
  induction n with
  | zero => intro i hi; omega
  | succ n ih =>
    intro i hi
    have hl := valW_lt n (fun i hi => hx i (by omega))
    have hn := hx n (by omega)
    rw [valW]
    by_cases e : i = n
    · subst e
      unfold W64
      rw [Nat.add_mul_div_right _ _ (Nat.pow_pos (by decide)), Nat.div_eq_of_lt hl, Nat.zero_add, Nat.mod_eq_of_lt hn]
    · have h1 := ih (fun i hi => hx i (by omega)) i (by omega)
      rw [← h1]
      unfold W64
      obtain ⟨k, rfl⟩ : ∃ k, n = i + 1 + k := ⟨n - i - 1, by omega⟩
      rw [show x (i + 1 + k) * 18446744073709551616 ^ (i + 1 + k) = (x (i + 1 + k) * 18446744073709551616 ^ k * 18446744073709551616) * 18446744073709551616 ^ i by rw [Nat.pow_add, Nat.pow_add]; simp only [Nat.pow_one, Nat.mul_comm, Nat.mul_left_comm, Nat.mul_assoc],
        Nat.add_mul_div_right _ _ (Nat.pow_pos (by decide)), Nat.add_mul_mod_self_right]
theorem valW_congr {x y : Nat → Nat} (n : Nat) (h : ∀ i, i < n → x i = y i) : valW x n = valW y n := by
  induction n with
  | zero => rfl
  | succ n ih => rw [valW, valW, ih (fun i hi => h i (by omega)), h n (by omega)]
theorem W64_mod (m i : Nat) : m % 18446744073709551616 ^ (i + 1) = m % 18446744073709551616 ^ i + W64 m i * 18446744073709551616 ^ i := by
  unfold W64
  rw [Nat.pow_succ, Nat.mod_mul, Nat.mul_comm]
theorem valW_W64 (m n : Nat) : valW (W64 m) n = m % 18446744073709551616 ^ n := by
  induction n with
  | zero => simp [valW, Nat.mod_one]
  | succ n ih => rw [valW, ih, W64_mod]
/-- A word's digit is the number's. -/
theorem W64_D16 (m i k : Nat) (hk : k < 4) : D16 (W64 m i) k = D16 m (4 * i + k) := by
  unfold W64 D16
  rw [show (18446744073709551616 : Nat) = 65536 ^ 4 from rfl, ← Nat.pow_mul]
  rw [show (65536 : Nat) ^ 4 = 65536 ^ k * 65536 ^ (4 - k) by rw [← Nat.pow_add, Nat.add_sub_cancel' (by omega)]]
  rw [Nat.mod_mul_right_div_self, Nat.div_div_eq_div_mul, ← Nat.pow_add]
  obtain ⟨j, hj⟩ : ∃ j, 4 - k = j + 1 := ⟨3 - k, by omega⟩
  rw [hj, Nat.pow_succ, Nat.mod_mul_left_mod]
/-- The carry of a sum into digit i. -/
def carD (a b i : Nat) : Nat := (a % 65536 ^ i + b % 65536 ^ i) / 65536 ^ i
theorem carD_first (a b : Nat) : carD a b 0 = 0 := by simp [carD, Nat.mod_one]
theorem carD_le (a b i : Nat) : carD a b i ≤ 1 := by
  unfold carD
  have h1 := Nat.mod_lt a (Nat.pow_pos (n := i) (show 0 < 65536 by decide))
  have h2 := Nat.mod_lt b (Nat.pow_pos (n := i) (show 0 < 65536 by decide))
  have : (a % 65536 ^ i + b % 65536 ^ i) / 65536 ^ i < 2 := (Nat.div_lt_iff_lt_mul (Nat.pow_pos (by decide))).2 (by omega)
  omega
theorem carD_next (a b i : Nat) : carD a b (i + 1) = (D16 a i + D16 b i + carD a b i) / 65536 := by
  unfold carD
  rw [div_add_mod_pow, div_add_mod_pow, Nat.pow_succ, ← Nat.div_div_eq_div_mul]
  have hp : 0 < 65536 ^ i := Nat.pow_pos (by decide)
  rw [show a % 65536 ^ i + D16 a i * 65536 ^ i + (b % 65536 ^ i + D16 b i * 65536 ^ i) = (a % 65536 ^ i + b % 65536 ^ i) + (D16 a i + D16 b i) * 65536 ^ i by rw [Nat.add_mul]; omega,
    Nat.add_mul_div_right _ _ hp, Nat.add_comm]
theorem D16_add (a b i : Nat) : D16 (a + b) i = (D16 a i + D16 b i + carD a b i) % 65536 := by
  have hp : 0 < 65536 ^ i := Nat.pow_pos (by decide)
  have h : (a + b) / 65536 ^ i = a / 65536 ^ i + b / 65536 ^ i + carD a b i := by
    unfold carD
    have h1 := Nat.div_add_mod a (65536 ^ i)
    have h2 := Nat.div_add_mod b (65536 ^ i)
    rw [show a + b = (a % 65536 ^ i + b % 65536 ^ i) + (a / 65536 ^ i + b / 65536 ^ i) * 65536 ^ i by rw [Nat.add_mul, Nat.mul_comm (a / _), Nat.mul_comm (b / _)]; omega,
      Nat.add_mul_div_right _ _ hp]
    omega
  unfold D16
  rw [h]
  omega
/-- The borrow of a difference into digit i. -/
def borD (a b i : Nat) : Nat := if a % 65536 ^ i < b % 65536 ^ i then 1 else 0
theorem borD_first (a b : Nat) : borD a b 0 = 0 := by simp [borD, Nat.mod_one]
theorem borD_le (a b i : Nat) : borD a b i ≤ 1 := by unfold borD; split <;> omega
theorem borD_next (a b i : Nat) : borD a b (i + 1) = if D16 a i < D16 b i + borD a b i then 1 else 0 := by
  unfold borD
  rw [div_add_mod_pow, div_add_mod_pow]
  have h1 := Nat.mod_lt a (Nat.pow_pos (n := i) (show 0 < 65536 by decide))
  have h2 := Nat.mod_lt b (Nat.pow_pos (n := i) (show 0 < 65536 by decide))
  generalize a % 65536 ^ i = α at *
  generalize b % 65536 ^ i = β at *
  generalize 65536 ^ i = p at *
  generalize D16 a i = x
  generalize D16 b i = y
  have key : (α + x * p < β + y * p) ↔ x < y + (if α < β then 1 else 0) := by
    rcases Nat.lt_trichotomy x y with h | h | h
    · have : (x + 1) * p ≤ y * p := Nat.mul_le_mul_right _ h
      rw [Nat.add_mul] at this
      constructor <;> intro _ <;> (try split) <;> omega
    · subst h
      by_cases e : α < β
      · simp [e]
      · simp [e]
    · have : (y + 1) * p ≤ x * p := Nat.mul_le_mul_right _ h
      rw [Nat.add_mul] at this
      constructor <;> intro h3
      · omega
      · split at h3 <;> omega
  by_cases h : x < y + (if α < β then 1 else 0)
  · rw [if_pos h, if_pos (key.2 h)]
  · rw [if_neg h, if_neg (fun h' => h (key.1 h'))]
theorem D16_sub {a b : Nat} (h : b ≤ a) (i : Nat) : (D16 (a - b) i : Int) = if D16 a i < D16 b i + borD a b i then (D16 a i : Int) - D16 b i - borD a b i + 65536 else (D16 a i : Int) - D16 b i - borD a b i := by
  have hp : 0 < 65536 ^ i := Nat.pow_pos (by decide)
  have h1 := Nat.mod_lt a hp
  have h2 := Nat.mod_lt b hp
  have d : (a - b) / 65536 ^ i + b / 65536 ^ i + borD a b i = a / 65536 ^ i := by
    unfold borD
    have e1 := Nat.div_add_mod a (65536 ^ i)
    have e2 := Nat.div_add_mod b (65536 ^ i)
    generalize a / 65536 ^ i = qa at *
    generalize b / 65536 ^ i = qb at *
    generalize a % 65536 ^ i = α at *
    generalize b % 65536 ^ i = β at *
    generalize 65536 ^ i = p at *
    subst e1 e2
    by_cases e : α < β
    · have hlt : qb < qa := by
        apply Nat.lt_of_not_le
        intro hle
        have := Nat.mul_le_mul_left p hle
        omega
      obtain ⟨k, rfl⟩ : ∃ k, qa = qb + k + 1 := ⟨qa - qb - 1, by omega⟩
      rw [if_pos e, show p * (qb + k + 1) + α - (p * qb + β) = (p + α - β) + k * p by rw [Nat.mul_add, Nat.mul_add, Nat.mul_one, Nat.mul_comm p k]; omega, Nat.add_mul_div_right _ _ hp, Nat.div_eq_of_lt (by omega)]
      omega
    · have hle : qb ≤ qa := by
        apply Nat.le_of_not_lt
        intro hlt
        have := Nat.mul_le_mul_left p (show qa + 1 ≤ qb from hlt)
        rw [Nat.mul_add, Nat.mul_one] at this
        omega
      obtain ⟨k, rfl⟩ : ∃ k, qa = qb + k := ⟨qa - qb, by omega⟩
      rw [if_neg e, show p * (qb + k) + α - (p * qb + β) = (α - β) + k * p by rw [Nat.mul_add, Nat.mul_comm p k]; omega, Nat.add_mul_div_right _ _ hp, Nat.div_eq_of_lt (by omega)]
      omega
  have hb := borD_le a b i
  unfold D16
  rw [← d]
  generalize (a - b) / 65536 ^ i = u
  generalize b / 65536 ^ i = v
  generalize borD a b i = c at *
  split <;> omega
end Go.Proofs.YtlbijchbngnmmaaDoor
