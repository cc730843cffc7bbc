/- Plain mathematics of digits to the base 2^16 and of words to the base 2^64: no condition but those of each lemma. -/
import Derived.Test.YthmobcpdbgmbeaaGreatDoorY
import Derived.OwnWalk
import Derived.IntWalk
namespace Go.Proofs.YthmobcpdbgmbeaaGreatDoor
/-- Digit i of m to the base 2^16. -/
def D16 (m i : Nat) : Nat := m / 65536 ^ i % 65536
/-- How many digits m has. -/
def L16 (m : Nat) : Nat := if _h : m = 0 then 0 else L16 (m / 65536) + 1
termination_by m
decreasing_by omega
theorem D16_lt (m i : Nat) : D16 m i < 65536 := Nat.mod_lt _ (by decide)
theorem D16_first (m : Nat) : D16 m 0 = m % 65536 := by simp [D16]
theorem D16_next (m i : Nat) : D16 m (i + 1) = D16 (m / 65536) i := by
  unfold D16; rw [Nat.pow_succ', Nat.div_div_eq_div_mul]
theorem L16_nought : L16 0 = 0 := by rw [L16]; simp
theorem L16_step {m : Nat} (h : m ≠ 0) : L16 m = L16 (m / 65536) + 1 := by rw [L16]; simp [h]
theorem L16_zero {m : Nat} (h : L16 m = 0) : m = 0 := by
  by_cases e : m = 0
  · exact e
  · rw [L16_step e] at h; omega
theorem lt_L16 (m : Nat) : m < 65536 ^ L16 m := by
  induction m using Nat.strongRecOn with
  | _ m ih =>
    by_cases h : m = 0
    · subst h; rw [L16_nought]; decide
    · have := ih (m / 65536) (by omega)
      rw [L16_step h, Nat.pow_succ]
      generalize 65536 ^ L16 (m / 65536) = p at *
      omega
theorem L16_le {m n : Nat} (h : m < 65536 ^ n) : L16 m ≤ n := by
  induction n generalizing m with
  | zero => have : m = 0 := by simpa using h
            rw [this, L16_nought]; exact Nat.le_refl _
  | succ n ih =>
    by_cases e : m = 0
    · rw [e, L16_nought]; omega
    · rw [L16_step e]
      have := ih (m := m / 65536) (by rw [Nat.pow_succ] at h; generalize 65536 ^ n = p at *; omega)
      omega
theorem D16_over {m i : Nat} (h : L16 m ≤ i) : D16 m i = 0 := by
  have h1 := lt_L16 m
  have h2 : (65536 : Nat) ^ L16 m ≤ 65536 ^ i := Nat.pow_le_pow_right (by decide) h
  unfold D16
  rw [Nat.div_eq_of_lt (by omega)]
theorem D16_top {m : Nat} (h : 0 < L16 m) : D16 m (L16 m - 1) ≠ 0 := by
  induction m using Nat.strongRecOn with
  | _ m ih =>
    by_cases e : m = 0
    · subst e; rw [L16_nought] at h; omega
    · rw [L16_step e, Nat.add_sub_cancel]
      by_cases e2 : m / 65536 = 0
      · rw [e2, L16_nought, D16_first]; omega
      · have hp : 0 < L16 (m / 65536) := by rw [L16_step e2]; omega
        have := ih (m / 65536) (by omega) hp
        rw [show L16 (m / 65536) = (L16 (m / 65536) - 1) + 1 by omega, D16_next]
        exact this
/-- A number's digits as a row. -/
def digR (m : Nat) (i : Nat) : Int := (D16 m i : Nat)
theorem digR_bd (m i : Nat) : 0 ≤ digR m i ∧ digR m i < 65536 := by have := D16_lt m i; unfold digR; omega
theorem cut_digR {m n : Nat} (h : L16 m ≤ n) : cutN (digR m) n = L16 m := by
  induction n with
  | zero => rw [cutN]; omega
  | succ n ih =>
    rw [cutN]
    by_cases e : L16 m = n + 1
    · have h1 := D16_top (m := m) (by omega)
      rw [e, Nat.add_sub_cancel] at h1
      rw [if_neg (by unfold digR; omega), e]
    · rw [if_pos (by unfold digR; rw [D16_over (by omega)]; rfl), ih (by omega)]
theorem div_add_mod_pow (m i : Nat) : m % 65536 ^ (i + 1) = m % 65536 ^ i + D16 m i * 65536 ^ i := by
  unfold D16
  rw [Nat.pow_succ, Nat.mod_mul, Nat.mul_comm]
theorem mod_pow_all {m n : Nat} (h : L16 m ≤ n) : m % 65536 ^ n = m :=
  Nat.mod_eq_of_lt (Nat.lt_of_lt_of_le (lt_L16 m) (Nat.pow_le_pow_right (by decide) h))
/-- The value of a row's first n digits. -/
def valD (x : Nat → Nat) : Nat → Nat
  | 0 => 0
  | k + 1 => valD x k + x k * 65536 ^ k
theorem valD_lt {x : Nat → Nat} (n : Nat) (hx : ∀ i, i < n → x i < 65536) : valD x n < 65536 ^ n := by
  induction n with
  | zero => simp [valD]
  | succ n ih =>
    have h1 := ih (fun i hi => hx i (by omega))
    have h2 := hx n (by omega)
    rw [valD, Nat.pow_succ]
    generalize 65536 ^ n = p at *
    have : x n * p ≤ 65535 * p := Nat.mul_le_mul_right _ (by omega)
    omega
theorem D16_val {x : Nat → Nat} (n : Nat) (hx : ∀ i, i < n → x i < 65536) : ∀ i, i < n → D16 (valD x n) i = x i := by
  induction n with
  | zero => intro i hi; omega
  | succ n ih =>
    intro i hi
    have hl := valD_lt n (fun i hi => hx i (by omega))
    have hn := hx n (by omega)
    rw [valD]
    by_cases e : i = n
    · subst e
      unfold D16
      rw [Nat.add_mul_div_right _ _ (Nat.pow_pos (by decide)), Nat.div_eq_of_lt hl, Nat.zero_add, Nat.mod_eq_of_lt hn]
    · have h1 := ih (fun i hi => hx i (by omega)) i (by omega)
      rw [← h1]
      unfold D16
      obtain ⟨k, rfl⟩ : ∃ k, n = i + 1 + k := ⟨n - i - 1, by omega⟩
      rw [show x (i + 1 + k) * 65536 ^ (i + 1 + k) = (x (i + 1 + k) * 65536 ^ k * 65536) * 65536 ^ i by rw [Nat.pow_add, Nat.pow_add]; simp only [Nat.pow_one, Nat.mul_comm, Nat.mul_left_comm, Nat.mul_assoc],
        Nat.add_mul_div_right _ _ (Nat.pow_pos (by decide)), Nat.add_mul_mod_self_right]
theorem valD_congr {x y : Nat → Nat} (n : Nat) (h : ∀ i, i < n → x i = y i) : valD x n = valD y n := by
  induction n with
  | zero => rfl
  | succ n ih => rw [valD, valD, ih (fun i hi => h i (by omega)), h n (by omega)]
theorem valD_D16 (m n : Nat) : valD (D16 m) n = m % 65536 ^ n := by
  induction n with
  | zero => simp [valD, Nat.mod_one]
  | succ n ih => rw [valD, ih, div_add_mod_pow]
theorem D16_ext {a b : Nat} (h : ∀ i, D16 a i = D16 b i) : a = b := by
  have h1 := mod_pow_all (Nat.le_max_left (L16 a) (L16 b))
  have h2 := mod_pow_all (Nat.le_max_right (L16 a) (L16 b))
  rw [← valD_D16] at h1 h2
  exact h1.symm.trans ((valD_congr _ (fun i _ => h i)).trans h2)
/-- Word i of m to the base 2^64. -/
def W64 (m i : Nat) : Nat := m / 18446744073709551616 ^ i % 18446744073709551616
theorem W64_lt (m i : Nat) : W64 m i < 18446744073709551616 := Nat.mod_lt _ (by decide)
/-- The value of a row of words. -/
def valW (x : Nat → Nat) : Nat → Nat
  | 0 => 0
  | k + 1 => valW x k + x k * 18446744073709551616 ^ k
theorem valW_lt {x : Nat → Nat} (n : Nat) (hx : ∀ i, i < n → x i < 18446744073709551616) : valW x n < 18446744073709551616 ^ n := by
  induction n with
  | zero => simp [valW]
  | succ n ih =>
    have h1 := ih (fun i hi => hx i (by omega))
    have h2 := hx n (by omega)
    rw [valW, Nat.pow_succ]
    generalize 18446744073709551616 ^ n = p at *
    have : x n * p ≤ 18446744073709551615 * p := Nat.mul_le_mul_right _ (by omega)
    omega
theorem W64_val {x : Nat → Nat} (n : Nat) (hx : ∀ i, i < n → x i < 18446744073709551616) : ∀ i, i < n → W64 (valW x n) i = x i := by
  induction n with
  | zero => intro i hi; omega
  | succ n ih =>
    intro i hi
    have hl := valW_lt n (fun i hi => hx i (by omega))
    have hn := hx n (by omega)
    rw [valW]
    by_cases e : i = n
    · subst e
      unfold W64
      rw [Nat.add_mul_div_right _ _ (Nat.pow_pos (by decide)), Nat.div_eq_of_lt hl, Nat.zero_add, Nat.mod_eq_of_lt hn]
    · have h1 := ih (fun i hi => hx i (by omega)) i (by omega)
      rw [← h1]
      unfold W64
      obtain ⟨k, rfl⟩ : ∃ k, n = i + 1 + k := ⟨n - i - 1, by omega⟩
      rw [show x (i + 1 + k) * 18446744073709551616 ^ (i + 1 + k) = (x (i + 1 + k) * 18446744073709551616 ^ k * 18446744073709551616) * 18446744073709551616 ^ i by rw [Nat.pow_add, Nat.pow_add]; simp only [Nat.pow_one, Nat.mul_comm, Nat.mul_left_comm, Nat.mul_assoc],
        Nat.add_mul_div_right _ _ (Nat.pow_pos (by decide)), Nat.add_mul_mod_self_right]
theorem valW_congr {x y : Nat → Nat} (n : Nat) (h : ∀ i, i < n → x i = y i) : valW x n = valW y n := by
  induction n with
  | zero => rfl
  | succ n ih => rw [valW, valW, ih (fun i hi => h i (by omega)), h n (by omega)]
theorem W64_mod (m i : Nat) : m % 18446744073709551616 ^ (i + 1) = m % 18446744073709551616 ^ i + W64 m i * 18446744073709551616 ^ i := by
  unfold W64
  rw [Nat.pow_succ, Nat.mod_mul, Nat.mul_comm]
theorem valW_W64 (m n : Nat) : valW (W64 m) n = m % 18446744073709551616 ^ n := by
  induction n with
  | zero => simp [valW, Nat.mod_one]
  | succ n ih => rw [valW, ih, W64_mod]
/-- A word's digit is the number's. -/
theorem W64_D16 (m i k : Nat) (hk : k < 4) : D16 (W64 m i) k = D16 m (4 * i + k) := by
  unfold W64 D16
  rw [show (18446744073709551616 : Nat) = 65536 ^ 4 from rfl, ← Nat.pow_mul]
  rw [show (65536 : Nat) ^ 4 = 65536 ^ k * 65536 ^ (4 - k) by rw [← Nat.pow_add, Nat.add_sub_cancel' (by omega)]]
  rw [Nat.mod_mul_right_div_self, Nat.div_div_eq_div_mul, ← Nat.pow_add]
  obtain ⟨j, hj⟩ : ∃ j, 4 - k = j + 1 := ⟨3 - k, by omega⟩
  rw [hj, Nat.pow_succ, Nat.mod_mul_left_mod]
end Go.Proofs.YthmobcpdbgmbeaaGreatDoor
namespace Go.Proofs.YthmobcpdbgmbeaaGreatDoor
open Go.RowKit
/-- The Int of a number, and the number of an Int. -/
def ivz (z : Int) : Value := iv (decide (z < 0)) (W64 z.natAbs 0 : Nat) (W64 z.natAbs 1 : Nat) (W64 z.natAbs 2 : Nat) (W64 z.natAbs 3 : Nat)
def T256 : Nat := 115792089237316195423570985008687907853269984665640564039457584007913129639936
theorem T256_w : T256 = 18446744073709551616 ^ 4 := by decide
theorem T256_d : T256 = 65536 ^ 16 := by decide
theorem L16_int {m : Nat} : m < T256 ↔ L16 m ≤ 16 := by
  rw [T256_d]
  exact ⟨L16_le, fun h => Nat.lt_of_lt_of_le (lt_L16 m) (Nat.pow_le_pow_right (by decide) h)⟩
def nat4 (a b c d : Nat) : Nat → Nat
  | 0 => a
  | 1 => b
  | 2 => c
  | _ => d
theorem zeroB_val (a b c d : Nat) : zeroB (a : Int) (b : Int) (c : Int) (d : Int) = true ↔ valW (nat4 a b c d) 4 = 0 := by
  rw [zeroB_iff]
  simp only [valW, nat4]
  omega
theorem ivz_right (z : Int) (hz : z.natAbs < T256) : (decide (z < 0) && zeroB (W64 z.natAbs 0 : Nat) (W64 z.natAbs 1 : Nat) (W64 z.natAbs 2 : Nat) (W64 z.natAbs 3 : Nat)) = false := by
  by_cases h : zeroB (W64 z.natAbs 0 : Nat) (W64 z.natAbs 1 : Nat) (W64 z.natAbs 2 : Nat) (W64 z.natAbs 3 : Nat) = true
  · rw [zeroB_val] at h
    have e : valW (nat4 (W64 z.natAbs 0) (W64 z.natAbs 1) (W64 z.natAbs 2) (W64 z.natAbs 3)) 4 = valW (W64 z.natAbs) 4 := rfl
    rw [e, valW_W64, ← T256_w, Nat.mod_eq_of_lt hz] at h
    have : z = 0 := by omega
    subst this
    simp
  · simp [h]
theorem W64_bd (m i : Nat) : 0 ≤ ((W64 m i : Nat) : Int) ∧ ((W64 m i : Nat) : Int) < 18446744073709551616 := by have := W64_lt m i; omega
theorem row4_W64_bd (m : Nat) : ∀ k, 0 ≤ row4 (W64 m 0 : Nat) (W64 m 1 : Nat) (W64 m 2 : Nat) (W64 m 3 : Nat) k ∧ row4 (W64 m 0 : Nat) (W64 m 1 : Nat) (W64 m 2 : Nat) (W64 m 3 : Nat) k < 18446744073709551616
  | 0 => W64_bd m 0
  | 1 => W64_bd m 1
  | 2 => W64_bd m 2
  | _ + 3 => W64_bd m 3
/-- Where a number's digits lie. -/
def DS (w : World) (m : Nat) (A : Option Addr) : Prop := 0 < L16 m → ∃ b, A = some ⟨b, 0, none⟩ ∧ b < w.heap.size ∧ ∀ i, i < L16 m → w.cell? ⟨b, i, none⟩ = some (.int .i64 (digR m i))
theorem DS.below {w w' : World} {m : Nat} {A : Option Addr} (h : DS w m A) (hb : Below w.heap.size w w') : DS w' m A := fun hm => by
  obtain ⟨b, e, hl, hc⟩ := h hm
  exact ⟨b, e, Nat.lt_of_lt_of_le hl hb.size, fun i hi => (hb.cell (p := ⟨b, i, none⟩) hl).trans (hc i hi)⟩
theorem DS.nought {w : World} (A : Option Addr) : DS w 0 A := fun h => by rw [L16_nought] at h; omega
/-- A number of the document. -/
def bigv (z : Int) (A : Option Addr) (c : Nat) : Value := .agg #[.bool (decide (z < 0)), .slice A (L16 z.natAbs) c]
/-- A call's answer is that number. -/
def BigPost (w : World) (z : Int) (e : Ending) (w' : World) : Prop := ∃ A c, e = .returned (bigv z A c) ∧ L16 z.natAbs ≤ c ∧ DS w' z.natAbs A ∧ Below w.heap.size w w'
end Go.Proofs.YthmobcpdbgmbeaaGreatDoor
namespace Go.Proofs.YthmobcpdbgmbeaaGreatDoor
open Go.RowKit
set_option maxHeartbeats 400000 in
theorem cut_nought (A : Option Addr) (c : Nat) (w : World) : Calls Tryz.prog 101 #[.slice A 0 c] w fun e w' => e = .returned (.slice A 0 c) ∧ w = w' := by
  go_enter Tryz.func101, Tryz.ntmps101
  go_wp2
  refine wp_loop_rounds 1 ?_
  iterate 1 (rw [rounds_succ]; go_wp2)
  go_ret
  exact ⟨rfl, rfl⟩
set_option maxHeartbeats 400000 in
theorem of_nought (s : Bool) (A : Option Addr) (c : Nat) (w : World) :
    Calls Tryz.prog 63 #[.bool s, .slice A 0 c] w fun e w' => e = .returned (.agg #[.bool false, .slice A 0 c]) ∧ Below w.heap.size w w' := by
  go_enter Tryz.func63, Tryz.ntmps63
  go_wp2_with fail
  have hB : Below w.heap.size w (w.alloc (Obj.cells #[.bool false, .slice none 0 0] 47)) := (Below.refl w.heap.size w).alloc (Nat.le_refl _) _
  refine (cut_nought A c _).mono ?_
  rintro e w1 ⟨rfl, rfl⟩
  have rB : Row (w.alloc (Obj.cells #[.bool false, .slice none 0 0] 47)) w.heap.size [.bool false, .slice none 0 0] := Row.at rfl _ _
  generalize (w.alloc (Obj.cells #[.bool false, .slice none 0 0] 47)) = W1 at hB rB ⊢
  have c0 := rB.c 0 rfl
  have c1 := rB.c 1 rfl
  have f0 := rB.f 0 rfl
  have f1 := rB.f 1 rfl
  cases s
  all_goals
    go_wp2_with fail
    generalize hW2 : World.setCell _ _ _ = W2
    have rR : Row W2 w.heap.size [.bool false, .slice A 0 c] := by rw [← hW2]; exact (rB.set 0 (by simp) _).set 1 (by simp) _
    have hB2 : Below w.heap.size w W2 := by rw [← hW2]; exact below_put1 (below_put1 hB (Nat.le_refl _) 0 _) (Nat.le_refl _) 1 _
    exact bodyPost_ret (v := .agg #[.bool false, .slice A 0 c]) (by simp [results, Tryz.results63, go_sem, rR.c 0 rfl, rR.c 1 rfl]) rfl ⟨rfl, hB2⟩
/-- A row of n digits of m, wherever it lies. -/
def DR (w : World) (x : Nat → Int) (n : Nat) (A : Option Addr) : Prop := 0 < n → ∃ b, A = some ⟨b, 0, none⟩ ∧ b < w.heap.size ∧ ∀ i, i < n → w.cell? ⟨b, i, none⟩ = some (.int .i64 (x i))
theorem DS.set {w : World} {m : Nat} {A : Option Addr} (h : DS w m A) {q : Addr} (hq : ∀ p, A = some p → q.block ≠ p.block) (v : Value) : DS (w.setCell q v) m A := fun hm => by
  obtain ⟨b, e, hl, hc⟩ := h hm
  refine ⟨b, e, by simpa [World.setCell] using hl, fun i hi => ?_⟩
  rw [World.cell?_setCell_other _ _ _ _ (fun e2 => hq _ e (by rw [e2]))]
  exact hc i hi
theorem BigPost.mk {w w' : World} {z : Int} {A : Option Addr} {c : Nat} (hc : L16 z.natAbs ≤ c) (hd : DS w' z.natAbs A) (hb : Below w.heap.size w w') : BigPost w z (.returned (bigv z A c)) w' := ⟨A, c, rfl, hc, hd, hb⟩
/-- What of makes of a sign and of digits: the number. -/
theorem of_z (s : Bool) (m n : Nat) (A : Option Addr) (c : Nat) (z : Int) (w : World) (hz : z = if s then -(m : Int) else m) (hm : L16 m ≤ n) (hn : n ≤ 1000000) (hc : n ≤ c) (hd : DR w (digR m) n A) :
    Calls Tryz.prog 63 #[.bool s, .slice A n c] w fun e w' => e = .returned (bigv z A c) ∧ L16 z.natAbs ≤ c ∧ DS w' z.natAbs A ∧ Below w.heap.size w w' := by
  have ha : z.natAbs = m := by rw [hz]; split <;> omega
  rcases Nat.eq_zero_or_pos n with rfl | hp
  · have h0 : m = 0 := L16_zero (by omega)
    subst h0
    have : z = 0 := by omega
    subst this
    refine (of_nought s A c w).mono ?_
    rintro e w' ⟨rfl, hb⟩
    refine ⟨by rw [bigv]; simp [L16_nought], ?_, DS.nought A, hb⟩
    show L16 0 ≤ c
    rw [L16_nought]; omega
  · obtain ⟨b, rfl, hl, hx⟩ := hd hp
    refine (big_of s (digR m) n b 0 c w hn hc hl (fun i hi => by rw [Nat.zero_add]; exact hx i hi)).mono ?_
    rintro e w' ⟨rfl, hb⟩
    rw [cut_digR hm]
    refine ⟨?_, by rw [ha]; omega, ?_, hb⟩
    · rw [bigv, ha]
      congr 4
      rw [hz]
      cases s
      · simp
      · by_cases h0 : m = 0
        · subst h0; simp [L16_nought]
        · have : 0 < L16 m := Nat.pos_of_ne_zero (fun h => h0 (L16_zero h))
          simp [this]; omega
    · rw [ha]
      exact fun _ => ⟨b, rfl, Nat.lt_of_lt_of_le hl hb.size, fun i hi => (hb.cell (p := ⟨b, i, none⟩) hl).trans (hx i (by omega))⟩
end Go.Proofs.YthmobcpdbgmbeaaGreatDoor
namespace Go.Proofs.YthmobcpdbgmbeaaGreatDoor
open Go.RowKit
/-- The first k digits, as cells. -/
def digV (m : Nat) : Nat → List Value
  | 0 => []
  | k + 1 => digV m k ++ [.int .i64 (digR m k)]
theorem digV_len (m k : Nat) : (digV m k).length = k := by
  induction k with
  | zero => rfl
  | succ k ih => simp [digV, ih]
theorem digV_at (m : Nat) {k i : Nat} (h : i < k) : (digV m k)[i]? = some (.int .i64 (digR m i)) := by
  induction k with
  | zero => omega
  | succ k ih =>
    rw [digV]
    by_cases e : i = k
    · subst e; rw [List.getElem?_append_right (by rw [digV_len]; exact Nat.le_refl _), digV_len]; simp
    · rw [List.getElem?_append_left (by rw [digV_len]; omega)]; exact ih (by omega)
/-- What stands while digits are gathered; the first n₀ blocks are of no row, the one at the old top holds what is answered. -/
def NuS (w : World) (t : Nat) (vs : List Value) (n : Nat) (xs : List Value) (v : Value) (wr : World) : Prop :=
  wr.ownsRow (w.heap.size + t) 2 1 v n xs ∧ Row wr w.heap.size vs ∧ Below w.heap.size w wr ∧ w.heap.size + t ≤ wr.heap.size ∧ 0 < t
theorem NuS.step {w wr w1 : World} {t : Nat} {vs xs : List Value} {n : Nat} {v v' d : Value} {o : Obj} (h : NuS w t vs n xs v wr)
    (hown : w1.ownsRow (w.heap.size + t) 2 1 v' (n + 1) (xs ++ [d])) (hg : (wr.alloc o).grownBy w1 v.ownBlock) : NuS w t vs (n + 1) (xs ++ [d]) v' w1 := by
  obtain ⟨h1, h2, h4, h5, h6⟩ := h
  have hne : ∀ j, j < w.heap.size + t → some j ≠ v.ownBlock := fun j hj e => by have := h1.lt j e.symm; omega
  exact ⟨hown, (h2.alloc o).grown hg (hne _ (by omega)), (h4.alloc (by omega) o).grown hg (by simp; omega) (fun j hj => by have := (h1.lt j hj).1; omega),
    Nat.le_trans h5 (Nat.le_trans (by simp) hg.size), h6⟩
theorem NuS.own {w wr : World} {t : Nat} {vs xs : List Value} {n : Nat} {v : Value} (h : NuS w t vs n xs v wr) : wr.ownsRow (w.heap.size + t) 2 1 v n xs := h.1
theorem NuS.size {w wr : World} {t : Nat} {vs xs : List Value} {n : Nat} {v : Value} (h : NuS w t vs n xs v wr) : w.heap.size + t ≤ wr.heap.size := h.2.2.2.1
theorem NuS.row {w wr : World} {t : Nat} {vs xs : List Value} {n : Nat} {v : Value} (h : NuS w t vs n xs v wr) : Row wr w.heap.size vs := h.2.1
theorem NuS.below {w wr : World} {t : Nat} {vs xs : List Value} {n : Nat} {v : Value} (h : NuS w t vs n xs v wr) : Below w.heap.size w wr := h.2.2.1
theorem NuS.form {w wr : World} {t : Nat} {vs : List Value} {x : Nat → Int} {xs : List Value} {n : Nat} {v : Value} (h : NuS w t vs n xs v wr) (hx : ∀ i, i < n → xs[i]? = some (.int .i64 (x i))) :
    ∃ A c, v = .slice A n c ∧ n ≤ c ∧ DR wr x n A ∧ ∀ p, A = some p → w.heap.size + t ≤ p.block := by
  obtain ⟨hl, ho⟩ := h.1
  rcases ho with ⟨hv, h0⟩ | ⟨g, cap, cur, hv, hbs, hg, hn, _, hs, ht⟩
  · exact ⟨none, 0, by rw [hv, h0], by omega, fun hp => by omega, fun p hp => by cases hp⟩
  · refine ⟨some ⟨g, 0, none⟩, cap, hv, hn, fun _ => ⟨g, rfl, (Array.getElem?_eq_some_iff.mp hg).1, fun i hi => ?_⟩, fun p hp => by cases hp; exact hbs⟩
    have h1 := hx i hi
    rw [← ht, List.getElem?_take] at h1
    rw [if_pos (by omega)] at h1
    simp [World.cell?, hg]
    simpa using h1
theorem div_pos_lt {m k : Nat} (hm : m < 18446744073709551616) (h : m / 65536 ^ k ≠ 0) : k < 4 := by
  apply Nat.lt_of_not_le
  intro h4
  apply h
  exact Nat.div_eq_of_lt (Nat.lt_of_lt_of_le hm (Nat.le_trans (by decide) (Nat.pow_le_pow_right (n := 65536) (by decide) h4)))
set_option maxRecDepth 100000 in
set_option maxHeartbeats 800000 in
theorem num_z (n : Int) (w : World) (h1 : -9223372036854775808 ≤ n) (h2 : n ≤ 9223372036854775807) :
    Calls Tryz.prog 34 #[.int .i64 n] w (BigPost w n) := by
  obtain ⟨i0, hi, hz0, hz1, hz2⟩ := info_parts info64
  by_cases hmin : n = -9223372036854775808
  · subst hmin
    clear h1 h2
    go_enter Tryz.func34, Tryz.ntmps34
    go_wp2_with fail
    generalize hW : World.alloc _ _ = W0
    have rR : Row W0 w.heap.size [.bool true, .slice (some ⟨w.heap.size + 1, 0, none⟩) 4 4] := by rw [← hW]; exact (Row.at rfl _ _).alloc _
    have rD : Row W0 (w.heap.size + 1) [.int .i64 0, .int .i64 0, .int .i64 0, .int .i64 32768] := by rw [← hW]; exact Row.at (by simp) _ _
    have hB : Below w.heap.size w W0 := by rw [← hW]; exact ((Below.refl w.heap.size w).alloc (Nat.le_refl _) _).alloc (by simp) _
    have hL : L16 (-9223372036854775808 : Int).natAbs = 4 := by
      show L16 9223372036854775808 = 4
      rw [L16_step (by decide), L16_step (by decide), L16_step (by decide), L16_step (by decide), show 9223372036854775808 / 65536 / 65536 / 65536 / 65536 = 0 from rfl, L16_nought]
    refine bodyPost_ret (v := .agg #[.bool true, .slice (some ⟨w.heap.size + 1, 0, none⟩) 4 4]) (by simp [results, Tryz.results34, go_sem, rR.c 0 rfl, rR.c 1 rfl]) rfl ⟨some ⟨w.heap.size + 1, 0, none⟩, 4, by rw [bigv, hL]; rfl, by rw [hL]; exact Nat.le_refl _, fun _ => ⟨_, rfl, rD.lt, fun i hi => ?_⟩, hB⟩
    rw [hL] at hi
    match i, hi with
    | 0, _ => exact rD.c 0 rfl
    | 1, _ => exact rD.c 1 rfl
    | 2, _ => exact rD.c 2 rfl
    | 3, _ => exact rD.c 3 rfl
  · obtain ⟨m, s, hn, hms⟩ : ∃ (m : Nat) (s : Bool), n = (if s then -(m : Int) else m) ∧ (s = true → 0 < m) := by
      by_cases hneg : n < 0
      · exact ⟨n.natAbs, true, by rw [if_pos rfl]; omega, fun _ => by omega⟩
      · exact ⟨n.natAbs, false, by rw [if_neg (by decide)]; omega, fun h => by cases h⟩
    have hm63 : m ≤ 9223372036854775807 := by
      have : n.natAbs = m := by rw [hn]; split <;> omega
      omega
    have HZ := Lib.hid hn
    have hcase : (s = false ∧ n = m) ∨ (s = true ∧ 0 < m ∧ n = -(m : Int)) := by
      cases s
      · exact .inl ⟨rfl, by simpa using hn⟩
      · exact .inr ⟨rfl, hms rfl, by simpa using hn⟩
    clear hn hms
    rcases hcase with ⟨rfl, rfl⟩ | ⟨rfl, hmp, rfl⟩
    all_goals
      clear h1 h2 hmin
      first
        | (have hmi : ((m : Int) == -9223372036854775808) = false := by rw [beq_eq_false_iff_ne]; omega
           have hm0 : (0 : Int) ≤ m := by omega
           have hm1 : (m : Int) ≤ 9223372036854775807 := by omega
           have hm3 : decide ((m : Int) < 0) = false := by rw [decide_eq_false_iff_not]; omega
           go_enter Tryz.func34, Tryz.ntmps34
           go_wp2_with fail
           generalize hbb : ((m : Int) == -9223372036854775808) = bb
           generalize hsg : decide ((m : Int) < 0) = sg
           have HSG := Lib.hid (hsg.symm.trans hm3)
           clear hbb hsg
           clear hmi hm0 hm1 hm3)
        | (have hmi : (-(m : Int) == -9223372036854775808) = false := by rw [beq_eq_false_iff_ne]; omega
           have hm0 : -9223372036854775807 ≤ -(m : Int) := by omega
           have hm1 : -(m : Int) < 0 := by omega
           have hm3 : decide (-(m : Int) < 0) = true := by simpa using hm1
           have hm4 : wrap64 (- -(m : Int)) = m := by simp only [wrap64]; omega
           go_enter Tryz.func34, Tryz.ntmps34
           go_wp2_with fail
           clear hmi hm0 hm1 hm3 hm4)
      generalize hW : World.alloc _ _ = W0
      have hS : NuS w 1 [.bool false, .slice none 0 0] 0 (digV m 0) (.slice none 0 0) W0 := by
        rw [← hW]
        exact ⟨World.ownsRow_nil _ _ _ _, Row.at rfl _ _, (Below.refl w.heap.size w).alloc (Nat.le_refl _) _, by simp, by omega⟩
      clear hW
      have HS := Lib.hid hS
      clear hS
      go_loopw [0, 4] (fun nn d wr => ∃ k : Nat, k ≤ 4 ∧ nn = .int .i64 ((m / 65536 ^ k : Nat) : Int) ∧ Hid (NuS w 1 [.bool false, .slice none 0 0] k (digV m k) d wr)) (fun nn _ _ => (intOf nn).toNat)
      case atStart => exact ⟨0, by omega, by rw [Nat.pow_zero, Nat.div_one], HS⟩
      case round =>
        obtain ⟨k, hk, rfl, HK⟩ := hrel
        have Hq := Lib.hid (show m / 65536 ^ k = m / 65536 ^ k from rfl)
        have HD := Lib.hid (show D16 m k = m / 65536 ^ k % 65536 from rfl)
        have HN := Lib.hid (show m / 65536 ^ (k + 1) = m / 65536 ^ k / 65536 by rw [Nat.pow_succ, Nat.div_div_eq_div_mul])
        have HL := Lib.hid (fun h : m / 65536 ^ k ≠ 0 => div_pos_lt (by omega) h)
        have HE := Lib.hid (fun h : m / 65536 ^ k = 0 => L16_le (m := m) (n := k) ((Nat.div_eq_zero_iff_lt (Nat.pow_pos (by decide))).1 h))
        have hqm : m / 65536 ^ k ≤ m := Nat.div_le_self _ _
        generalize m / 65536 ^ k = q at *
        clear Hq
        by_cases hq : q = 0
        · subst hq
          obtain ⟨A, c, rfl, hc, hd, hA⟩ := HK.out.form (fun i hi => digV_at m hi)
          have hB := HK.out.below
          have rB := HK.out.row
          have hL := HE.out rfl
          clear HK HS HE HL HN HD
          go_wp2_with fail
          refine (of_z _ m k A c _ wr (by first | exact HZ.out | (have h1 := HZ.out; split <;> omega)) hL (by omega) hc hd).mono ?_
          rintro e w1 ⟨rfl, hcc, hds, hb1⟩
          have rB1 := rB.after hb1
          have hB1 := hB.trans (hb1.mono hB.size)
          clear rB hB hd hL
          have c0 := rB1.c 0 rfl
          have c1 := rB1.c 1 rfl
          have f0 := rB1.f 0 rfl
          have f1 := rB1.f 1 rfl
          have HP := Lib.hid (fun W' (h1 : DS W' _ A) h2 => BigPost.mk (w := w) hcc h1 h2)
          have HA := Lib.hid hA
          have HDS := Lib.hid hds
          clear hA hds hcc hb1 HZ
          rw [bigv] at HP ⊢
          generalize L16 _ = kk at HP ⊢
          generalize decide ((_ : Int) < _) = sg at HP ⊢
          go_wp2_with fail
          clear c0 c1 f0 f1
          generalize hW2 : World.setCell _ _ _ = W2
          have rR : Row W2 w.heap.size [.bool sg, .slice A kk c] := by rw [← hW2]; exact (rB1.set 0 (by simp) _).set 1 (by simp) _
          have hB2 : Below w.heap.size w W2 := by rw [← hW2]; exact below_put1 (below_put1 hB1 (Nat.le_refl _) 0 _) (Nat.le_refl _) 1 _
          have hD2 := Lib.hid ((HDS.out.set (q := ⟨w.heap.size, 0, none⟩) (fun p hp => by have := HA.out p hp; simp; omega) (.bool sg)).set (q := ⟨w.heap.size, 1, none⟩) (fun p hp => by have := HA.out p hp; simp; omega) (.slice A kk c))
          rw [hW2] at hD2
          exact bodyPost_ret (v := .agg #[.bool sg, .slice A kk c]) (by simp [results, Tryz.results34, go_sem, rR.c 0 rfl, rR.c 1 rfl]) rfl (HP.out W2 hD2.out hB2)
        · have hq0 : (0 : Int) < q := by omega
          have hq1 : (q : Int) ≤ 9223372036854775807 := by omega
          have hk4 := HL.out hq
          have hd0 : 0 ≤ digR m k := (digR_bd m k).1
          have hd1 : digR m k < 65536 := (digR_bd m k).2
          have t0 : ((q : Nat) : Int).tmod 65536 = digR m k := by unfold digR; rw [HD.out, Int.tmod_eq_emod_of_nonneg (by omega)]; rfl
          have t1 : ((q : Nat) : Int) % 65536 = digR m k := by unfold digR; rw [HD.out]; rfl
          have u0 : wrap64 (digR m k) = digR m k := by simp only [wrap64]; omega
          have hV := Lib.hid (show digV m (k + 1) = digV m k ++ [.int .i64 (digR m k)] from rfl)
          clear hq HL HE HD
          generalize digR m k = d at *
          go_wp2_with (first
            | (at_builtin; refine wpList_append_own_at _ rfl _ _ 45 rfl (w.heap.size + 1) 2 i0 (.int .i64 0) 1 8 Tryz.underlying45 hi hz0 hz1 hz2 rfl (by decide) _ _ _ rfl (HK.out.own.alloc _) ⟨wr.heap.size, 0, none⟩ 1 1 [.int .i64 d] rfl rfl ?c1 ?c2 ?c3 ?c4 ?c5 ?_)
            | go_in)
          case c1 => exact cell_one_new _ _ _
          case c2 => exact ints_oneCell .i64 [d]
          case c3 => unfold maxLen; omega
          case c4 => omega
          case c5 => have := HK.out.size; simp; omega
          intro v1 w1 hown1 hgrow1 _ _
          have H1 := Lib.hid (HK.out.step (v' := v1) (d := .int .i64 d) hown1 hgrow1)
          clear hgrow1 hown1 HK
          go_wp2
          exact ⟨⟨k + 1, by omega, congrArg (Value.int .i64) (by rw [HN.out]; omega), by rw [hV.out]; exact H1⟩, by simp [intOf]; omega⟩
end Go.Proofs.YthmobcpdbgmbeaaGreatDoor
namespace Go.Proofs.YthmobcpdbgmbeaaGreatDoor
/-- What i digits of a make with b. -/
def Pm (a b i : Nat) : Nat := a % 65536 ^ i * b
/-- What lies below digit i + k when digit i of a has gone over k digits of b, with what is carried. -/
def Qm (a b i k : Nat) : Nat := Pm a b i % 65536 ^ (i + k) + D16 a i * (b % 65536 ^ k) * 65536 ^ i
/-- Digit j of the row then. -/
def rM (a b i k j : Nat) : Nat := if j < i + k then D16 (Qm a b i k) j else D16 (Pm a b i) j
end Go.Proofs.YthmobcpdbgmbeaaGreatDoor
