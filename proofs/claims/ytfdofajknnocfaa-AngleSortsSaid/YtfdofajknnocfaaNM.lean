/- The mathematics of ways round a point: the order, between, opposite, the quarter, by rotated coordinates. -/
import Derived.Test.YtfdofajknnocfaaNF
namespace Go.Proofs.Ytfdofajknnocfaa
open Go.RowKit Go.Sort
namespace Rnd

theorem cmp_cases (a b : Int) : (cmpI a b = -1 ∧ a < b) ∨ (cmpI a b = 0 ∧ a = b) ∨ (cmpI a b = 1 ∧ b < a) := by
  unfold cmpI
  by_cases h : a < b
  · rw [if_pos h]; exact Or.inl ⟨rfl, h⟩
  · rw [if_neg h]
    by_cases h' : b < a
    · rw [if_pos h']; exact Or.inr (Or.inr ⟨rfl, h'⟩)
    · rw [if_neg h']; exact Or.inr (Or.inl ⟨rfl, by omega⟩)
theorem cmp_eq {a b c d : Int} (h1 : a < b ↔ c < d) (h2 : b < a ↔ d < c) : cmpI a b = cmpI c d := by
  rcases cmp_cases a b with h | h | h <;> rcases cmp_cases c d with h' | h' | h' <;> omega
/-- The rotated coordinates. -/
def rx (x y : Int) : Int := if quart x y = 0 then x else if quart x y = 1 then y else if quart x y = 2 then -x else -y
def ry (x y : Int) : Int := if quart x y = 0 then y else if quart x y = 1 then -x else if quart x y = 2 then -y else x
theorem quart_cases {x y : Int} (h : x ≠ 0 ∨ y ≠ 0) :
    (quart x y = 0 ∧ rx x y = x ∧ ry x y = y ∧ 0 < x ∧ 0 ≤ y) ∨ (quart x y = 1 ∧ rx x y = y ∧ ry x y = -x ∧ x ≤ 0 ∧ 0 < y) ∨
    (quart x y = 2 ∧ rx x y = -x ∧ ry x y = -y ∧ x < 0 ∧ y ≤ 0) ∨ (quart x y = 3 ∧ rx x y = -y ∧ ry x y = x ∧ 0 ≤ x ∧ y < 0) := by
  by_cases h3 : 0 ≤ x ∧ y < 0
  · have hq : quart x y = 3 := by rw [quart, if_pos h3]
    exact Or.inr (Or.inr (Or.inr ⟨hq, by simp [rx, hq], by simp [ry, hq], h3.1, h3.2⟩))
  · by_cases h2 : x < 0 ∧ y ≤ 0
    · have hq : quart x y = 2 := by rw [quart, if_neg h3, if_pos h2]
      exact Or.inr (Or.inr (Or.inl ⟨hq, by simp [rx, hq], by simp [ry, hq], h2.1, h2.2⟩))
    · by_cases h1 : x ≤ 0 ∧ 0 < y
      · have hq : quart x y = 1 := by rw [quart, if_neg h3, if_neg h2, if_pos h1]
        exact Or.inr (Or.inl ⟨hq, by simp [rx, hq], by simp [ry, hq], h1.1, h1.2⟩)
      · have hq : quart x y = 0 := by rw [quart, if_neg h3, if_neg h2, if_neg h1]
        exact Or.inl ⟨hq, by simp [rx, hq], by simp [ry, hq], by omega, by omega⟩
theorem rx_pos {x y : Int} (h : x ≠ 0 ∨ y ≠ 0) : 0 < rx x y := by
  rcases quart_cases h with h | h | h | h <;> omega
def Nz (x y : Int) : Prop := x ≠ 0 ∨ y ≠ 0
def Bd (x : Int) : Prop := -134217728 ≤ x ∧ x ≤ 134217728
theorem wrap_in {z : Int} (h0 : -9223372036854775808 ≤ z) (h1 : z ≤ 9223372036854775807) : wrap64 z = z := by unfold wrap64; omega
theorem mul_bd {a b : Int} (ha : Bd a) (hb : Bd b) : -18014398509481984 ≤ a * b ∧ a * b ≤ 18014398509481984 := by
  unfold Bd at ha hb
  have h1 : a.natAbs ≤ 134217728 := by omega
  have h2 : b.natAbs ≤ 134217728 := by omega
  have h3 : (a * b).natAbs ≤ 134217728 * 134217728 := by rw [Int.natAbs_mul]; exact Nat.mul_le_mul h1 h2
  have h4 : (134217728 * 134217728 : Nat) = 18014398509481984 := by decide
  rw [h4] at h3
  omega
theorem side_plain {x y u v : Int} (h1 : Bd x) (h2 : Bd y) (h3 : Bd u) (h4 : Bd v) : sideW x y u v = cmpI (y * u) (x * v) := by
  have p := mul_bd h2 h3
  have q := mul_bd h1 h4
  rw [sideW, wrap_in (by omega) (by omega), wrap_in (by omega) (by omega)]
theorem cross_plain {x y u v : Int} (h1 : Bd x) (h2 : Bd y) (h3 : Bd u) (h4 : Bd v) : crossW x y u v = x * v - y * u := by
  have p := mul_bd h2 h3
  have q := mul_bd h1 h4
  rw [crossW, wrap_in (z := x * v) (by omega) (by omega), wrap_in (z := y * u) (by omega) (by omega), wrap_in (by omega) (by omega)]
/-- Of two ways of one quarter the side is told by rotated coordinates. -/
theorem side_rot {x y u v : Int} (ha : Nz x y) (hb : Nz u v) (hq : quart x y = quart u v) : cmpI (y * u) (x * v) = cmpI (ry x y * rx u v) (rx x y * ry u v) := by
  rcases quart_cases ha with h | h | h | h <;> rcases quart_cases hb with h' | h' | h' | h'
  all_goals first | (exfalso; omega) | skip
  · rw [h.2.1, h.2.2.1, h'.2.1, h'.2.2.1]
  · rw [h.2.1, h.2.2.1, h'.2.1, h'.2.2.1, Int.neg_mul, Int.mul_neg]
    exact cmp_eq (by omega) (by omega)
  · rw [h.2.1, h.2.2.1, h'.2.1, h'.2.2.1, Int.neg_mul_neg, Int.neg_mul_neg]
  · rw [h.2.1, h.2.2.1, h'.2.1, h'.2.2.1, Int.neg_mul, Int.mul_neg]
    exact cmp_eq (by omega) (by omega)
/-- The order, told. -/
theorem ord_cases {x y u v : Int} (ha : Nz x y) (hb : Nz u v) (h1 : Bd x) (h2 : Bd y) (h3 : Bd u) (h4 : Bd v) :
    (ordA x y u v = -1 ∧ (quart x y < quart u v ∨ quart x y = quart u v ∧ ry x y * rx u v < rx x y * ry u v)) ∨
    (ordA x y u v = 0 ∧ quart x y = quart u v ∧ ry x y * rx u v = rx x y * ry u v) ∨
    (ordA x y u v = 1 ∧ (quart u v < quart x y ∨ quart x y = quart u v ∧ rx x y * ry u v < ry x y * rx u v)) := by
  unfold ordA
  rcases cmp_cases (quart x y) (quart u v) with ⟨h, hq⟩ | ⟨h, hq⟩ | ⟨h, hq⟩
  · exact Or.inl ⟨by rw [ordW, if_neg (by omega), h], Or.inl hq⟩
  · rw [ordW, if_pos h, side_plain h1 h2 h3 h4, side_rot ha hb hq]
    rcases cmp_cases (ry x y * rx u v) (rx x y * ry u v) with ⟨k, kq⟩ | ⟨k, kq⟩ | ⟨k, kq⟩
    · exact Or.inl ⟨k, Or.inr ⟨hq, kq⟩⟩
    · exact Or.inr (Or.inl ⟨k, hq, kq⟩)
    · exact Or.inr (Or.inr ⟨k, Or.inr ⟨hq, kq⟩⟩)
  · exact Or.inr (Or.inr ⟨by rw [ordW, if_neg (by omega), h], Or.inl hq⟩)
theorem sl_le {A B a b c d : Int} (hB : 0 < B) (h1 : 0 < A) (h3 : 0 < c) (p : a * B ≤ A * b) (r : b * c ≤ B * d) : a * c ≤ A * d := by
  have e1 : a * B * c ≤ A * b * c := Int.mul_le_mul_of_nonneg_right p (by omega)
  have e2 : A * (b * c) ≤ A * (B * d) := Int.mul_le_mul_of_nonneg_left r (by omega)
  refine Int.le_of_mul_le_mul_right (a := B) ?_ hB
  rw [Int.mul_right_comm a c B, Int.mul_assoc A d B, Int.mul_comm d B]
  rw [Int.mul_assoc A b c] at e1
  omega
theorem sl_lt1 {A B a b c d : Int} (hB : 0 < B) (h1 : 0 < A) (h3 : 0 < c) (p : a * B < A * b) (r : b * c ≤ B * d) : a * c < A * d := by
  have e1 : a * B * c < A * b * c := Int.mul_lt_mul_of_pos_right p h3
  have e2 : A * (b * c) ≤ A * (B * d) := Int.mul_le_mul_of_nonneg_left r (by omega)
  refine Int.lt_of_mul_lt_mul_right (a := B) ?_ (by omega)
  rw [Int.mul_right_comm a c B, Int.mul_assoc A d B, Int.mul_comm d B]
  rw [Int.mul_assoc A b c] at e1
  omega
theorem sl_lt2 {A B a b c d : Int} (hB : 0 < B) (h1 : 0 < A) (h3 : 0 < c) (p : a * B ≤ A * b) (r : b * c < B * d) : a * c < A * d := by
  have e1 : a * B * c ≤ A * b * c := Int.mul_le_mul_of_nonneg_right p (by omega)
  have e2 : A * (b * c) < A * (B * d) := Int.mul_lt_mul_of_pos_left r h1
  refine Int.lt_of_mul_lt_mul_right (a := B) ?_ (by omega)
  rw [Int.mul_right_comm a c B, Int.mul_assoc A d B, Int.mul_comm d B]
  rw [Int.mul_assoc A b c] at e1
  omega
/-- A way that may be. -/
def Ok (x y : Int) : Prop := Nz x y ∧ Bd x ∧ Bd y
theorem ord_range {x y u v : Int} (ha : Ok x y) (hb : Ok u v) : ordA x y u v = -1 ∨ ordA x y u v = 0 ∨ ordA x y u v = 1 := by
  rcases ord_cases ha.1 hb.1 ha.2.1 ha.2.2 hb.2.1 hb.2.2 with h | h | h
  · exact Or.inl h.1
  · exact Or.inr (Or.inl h.1)
  · exact Or.inr (Or.inr h.1)
theorem ord_flip {x y u v : Int} (ha : Ok x y) (hb : Ok u v) : ordA u v x y = -ordA x y u v := by
  have h := ord_cases ha.1 hb.1 ha.2.1 ha.2.2 hb.2.1 hb.2.2
  have h' := ord_cases hb.1 ha.1 hb.2.1 hb.2.2 ha.2.1 ha.2.2
  rw [Int.mul_comm (ry u v) (rx x y), Int.mul_comm (rx u v) (ry x y)] at h'
  generalize ry x y * rx u v = p at h h'
  generalize rx x y * ry u v = q at h h'
  omega
theorem ord_trans {x y u v s t : Int} (ha : Ok x y) (hb : Ok u v) (hc : Ok s t) :
    (ordA x y u v ≤ 0 → ordA u v s t ≤ 0 → ordA x y s t ≤ ordA x y u v ∧ ordA x y s t ≤ ordA u v s t ∧ (ordA x y s t = ordA x y u v ∨ ordA x y s t = ordA u v s t)) ∧
    (0 ≤ ordA x y u v → 0 ≤ ordA u v s t → ordA x y u v ≤ ordA x y s t ∧ ordA u v s t ≤ ordA x y s t ∧ (ordA x y s t = ordA x y u v ∨ ordA x y s t = ordA u v s t)) := by
  have h1 := ord_cases ha.1 hb.1 ha.2.1 ha.2.2 hb.2.1 hb.2.2
  have h2 := ord_cases hb.1 hc.1 hb.2.1 hb.2.2 hc.2.1 hc.2.2
  have h3 := ord_cases ha.1 hc.1 ha.2.1 ha.2.2 hc.2.1 hc.2.2
  have pa := rx_pos ha.1
  have pb := rx_pos hb.1
  have pc := rx_pos hc.1
  have k1 := sl_le (a := ry x y) (b := ry u v) (d := ry s t) pb pa pc
  have k2 := sl_lt1 (a := ry x y) (b := ry u v) (d := ry s t) pb pa pc
  have k3 := sl_lt2 (a := ry x y) (b := ry u v) (d := ry s t) pb pa pc
  have k4 := sl_le (a := ry s t) (b := ry u v) (d := ry x y) pb pc pa
  have k5 := sl_lt1 (a := ry s t) (b := ry u v) (d := ry x y) pb pc pa
  have k6 := sl_lt2 (a := ry s t) (b := ry u v) (d := ry x y) pb pc pa
  rw [Int.mul_comm (ry s t) (rx u v), Int.mul_comm (rx s t) (ry u v), Int.mul_comm (ry u v) (rx x y), Int.mul_comm (rx u v) (ry x y), Int.mul_comm (ry s t) (rx x y), Int.mul_comm (rx s t) (ry x y)] at k4 k5 k6
  generalize ry x y * rx u v = p at *
  generalize rx x y * ry u v = p' at *
  generalize ry u v * rx s t = r at *
  generalize rx u v * ry s t = r' at *
  generalize ry x y * rx s t = q at *
  generalize rx x y * ry s t = q' at *
  generalize ordA x y u v = o1 at *
  generalize ordA u v s t = o2 at *
  generalize ordA x y s t = o3 at *
  clear pa pb pc
  refine ⟨fun g1 g2 => ?_, fun g1 g2 => ?_⟩
  all_goals
    rcases h1 with h1 | h1 | h1 <;> rcases h2 with h2 | h2 | h2 <;> rcases h3 with h3 | h3 | h3 <;> omega
theorem may_ok {x y : Int} : mayB x y = true ↔ Ok x y := by
  unfold mayB Ok Nz Bd
  simp only [Bool.and_eq_true, decide_eq_true_eq, Bool.not_eq_true', Bool.and_eq_false_iff, decide_eq_false_iff_not]
  omega
theorem may_right (x y : Int) : rightB x y = mayB x y := by
  rw [Bool.eq_iff_iff, may_ok]
  unfold rightB Ok Nz Bd
  simp only [decide_eq_true_eq]
  omega
theorem half_quart {x y : Int} (h : Nz x y) : (halfI x y = 0 ∧ quart x y ≤ 1) ∨ (halfI x y = 1 ∧ 2 ≤ quart x y) := by
  unfold halfI
  rcases quart_cases h with k | k | k | k
  · by_cases e : 0 < y ∨ y = 0 ∧ 0 < x
    · rw [if_pos e]; exact Or.inl ⟨rfl, by omega⟩
    · exact absurd k (by omega)
  · rw [if_pos (by omega)]; exact Or.inl ⟨rfl, by omega⟩
  · rw [if_neg (by omega)]; exact Or.inr ⟨rfl, by omega⟩
  · rw [if_neg (by omega)]; exact Or.inr ⟨rfl, by omega⟩
theorem quart_bd {x y : Int} (h : Nz x y) : 0 ≤ quart x y ∧ quart x y ≤ 3 := by rcases quart_cases h with k | k | k | k <;> omega
theorem sgnD_pos {c : Int} (h : 0 < c) : sgnD c = -1 := by rw [sgnD, if_pos h]
theorem sgnD_neg {c : Int} (h : c < 0) : sgnD c = 1 := by rw [sgnD, if_neg (by omega), if_pos h]
theorem sgnD_zero {c : Int} (h : c = 0) : sgnD c = 0 := by rw [sgnD, if_neg (by omega), if_neg (by omega)]
/-- In one half the quarters' order is the sign of the product across. -/
theorem half_cross {x y u v : Int} (ha : Nz x y) (hb : Nz u v) (hh : halfI x y = halfI u v) (hq : quart x y < quart u v) : 0 < x * v - y * u := by
  rcases half_quart ha with h | h <;> rcases half_quart hb with h' | h'
  all_goals first | (exfalso; omega) | skip
  all_goals
    rcases quart_cases ha with k | k | k | k <;> rcases quart_cases hb with k' | k' | k' | k'
  all_goals first | (exfalso; omega) | skip
  · have p : 0 < x * v := Int.mul_pos (by omega) (by omega)
    have q : y * (-u) ≥ 0 := Int.mul_nonneg (by omega) (by omega)
    rw [Int.mul_neg] at q
    omega
  · have p : 0 < (-x) * (-v) := Int.mul_pos (by omega) (by omega)
    have q : (-y) * u ≥ 0 := Int.mul_nonneg (by omega) (by omega)
    rw [Int.neg_mul_neg] at p
    rw [Int.neg_mul] at q
    omega
theorem ord_ref {x y u v : Int} (ha : Ok x y) (hb : Ok u v) : ordA x y u v = refC x y u v := by
  have ho := ord_cases ha.1 hb.1 ha.2.1 ha.2.2 hb.2.1 hb.2.2
  have hc := cross_plain ha.2.1 ha.2.2 hb.2.1 hb.2.2
  have h1 := half_quart ha.1
  have h2 := half_quart hb.1
  unfold refC
  by_cases hh : halfI x y = halfI u v
  · rw [if_pos hh, hc]
    rcases Int.lt_trichotomy (quart x y) (quart u v) with hq | hq | hq
    · rw [sgnD_pos (half_cross ha.1 hb.1 hh hq)]; omega
    · have hs := side_rot ha.1 hb.1 hq
      rcases cmp_cases (y * u) (x * v) with k | k | k
      · rw [sgnD_pos (by omega)]
        rcases cmp_cases (ry x y * rx u v) (rx x y * ry u v) with k' | k' | k' <;> omega
      · rw [sgnD_zero (by omega)]
        rcases cmp_cases (ry x y * rx u v) (rx x y * ry u v) with k' | k' | k' <;> omega
      · rw [sgnD_neg (by omega)]
        rcases cmp_cases (ry x y * rx u v) (rx x y * ry u v) with k' | k' | k' <;> omega
    · have hg := half_cross hb.1 ha.1 hh.symm hq
      rw [Int.mul_comm u y, Int.mul_comm v x] at hg
      rw [sgnD_neg (by omega)]; omega
  · rw [if_neg hh]; omega
theorem opp_ref {x y u v : Int} (ha : Ok x y) (hb : Ok u v) : oppA x y u v = refO x y u v := by
  have hc := cross_plain ha.2.1 ha.2.2 hb.2.1 hb.2.2
  have h1 := half_quart ha.1
  have h2 := half_quart hb.1
  rw [Bool.eq_iff_iff]
  unfold oppA oppW refO
  rw [side_plain ha.2.1 ha.2.2 hb.2.1 hb.2.2, hc]
  simp only [Bool.and_eq_true, decide_eq_true_eq, Bool.not_eq_true', decide_eq_false_iff_not]
  have hs := cmp_cases (y * u) (x * v)
  by_cases hh : halfI x y = halfI u v
  · rcases Int.lt_trichotomy (quart x y) (quart u v) with hq | hq | hq
    · have := half_cross ha.1 hb.1 hh hq; omega
    · omega
    · have hg := half_cross hb.1 ha.1 hh.symm hq
      rw [Int.mul_comm u y, Int.mul_comm v x] at hg
      omega
  · omega
/-- Between, told by the orders: p of c and a, q of b and a, r of c and b. -/
theorem bet_told (x y u v s t : Int) : betA x y u v s t = aheadI (ordA s t x y) (ordA u v x y) (ordA s t u v) := by
  unfold betA
  rw [Bool.eq_iff_iff, decide_eq_true_iff]
  show (if aheadA x y (sel2 u s) (sel2 v t) 1 (firstI (aheadA x y (sel2 u s) (sel2 v t)) 1) = true then 1 else firstI (aheadA x y (sel2 u s) (sel2 v t)) 1) = 1 ↔ _
  have h0 : firstI (aheadA x y (sel2 u s) (sel2 v t)) 1 = 0 := by have := firstI_lt (aheadA x y (sel2 u s) (sel2 v t)) 1 (by omega); omega
  rw [h0]
  have h1 : aheadA x y (sel2 u s) (sel2 v t) 1 0 = aheadI (ordA s t x y) (ordA u v x y) (ordA s t u v) := rfl
  rw [h1]
  cases aheadI (ordA s t x y) (ordA u v x y) (ordA s t u v) <;> simp
theorem ahead_iff {p q r : Int} : aheadI p q r = true ↔ ((p ≤ 0 ∧ q ≤ 0 ∨ 0 < p ∧ 0 < q) ∧ r < 0) ∨ (0 < p ∧ q ≤ 0) := by
  unfold aheadI
  by_cases hp : p ≤ 0 <;> by_cases hq : q ≤ 0 <;> simp [hp, hq] <;> omega
theorem bet_ref {x y u v s t : Int} (ha : Ok x y) (hb : Ok u v) (hc : Ok s t) : betA x y u v s t = betI (refC x y s t) (refC s t u v) (refC x y u v) := by
  rw [bet_told, ← ord_ref ha hc, ← ord_ref hc hb, ← ord_ref ha hb, Bool.eq_iff_iff, ahead_iff, betI_iff, ord_flip ha hc, ord_flip ha hb]
  have t1 := ord_trans ha hc hb
  have t2 := ord_trans hc ha hb
  rw [ord_flip ha hc] at t2
  have r1 := ord_range ha hc
  have r2 := ord_range hc hb
  have r3 := ord_range ha hb
  generalize ordA x y s t = p at *
  generalize ordA s t u v = q at *
  generalize ordA x y u v = r at *
  omega
/-- Of three ways, no two of which are one. -/
theorem bet_one {x y u v s t : Int} (ha : Ok x y) (hb : Ok u v) (hc : Ok s t) (h1 : ordA x y u v ≠ 0) (h2 : ordA u v s t ≠ 0) (h3 : ordA x y s t ≠ 0) : betA x y u v s t ≠ betA u v x y s t := by
  intro h
  have h := Bool.eq_iff_iff.1 h
  rw [bet_told, bet_told, ahead_iff, ahead_iff, ord_flip ha hc, ord_flip ha hb, ord_flip hb hc] at h
  have t1 := ord_trans ha hb hc
  have r1 := ord_range ha hc
  have r2 := ord_range hb hc
  have r3 := ord_range ha hb
  generalize ordA x y s t = p at *
  generalize ordA u v s t = q at *
  generalize ordA x y u v = r at *
  omega
theorem quart_turn {x y : Int} (h : Nz x y) : quart (-y) x = (quart x y + 1) % 4 := by
  have h' : Nz (-y) x := by unfold Nz at *; omega
  rcases quart_cases h with k | k | k | k <;> rcases quart_cases h' with k' | k' | k' | k' <;> omega
theorem refq_quart {x y : Int} (h : Nz x y) : refQ x y = quart x y := by
  unfold refQ
  rcases quart_cases h with k | k | k | k
  · rw [if_pos (by omega)]; omega
  · rw [if_neg (by omega), if_pos (by omega)]; omega
  · rw [if_neg (by omega), if_neg (by omega), if_pos (by omega)]; omega
  · rw [if_neg (by omega), if_neg (by omega), if_neg (by omega)]; omega
/-- The way to the right. -/
def Zd (x y : Int) : Prop := y = 0 ∧ 0 < x
theorem Ok.neg {x y : Int} (h : Ok x y) : Ok x (-y) := by
  obtain ⟨h1, h2, h3⟩ := h
  unfold Nz at h1
  unfold Bd at h2 h3
  exact ⟨by unfold Nz; omega, h2, by unfold Bd; omega⟩
theorem half_told (x y : Int) : (halfI x y = 0 ∧ (0 < y ∨ y = 0 ∧ 0 < x)) ∨ (halfI x y = 1 ∧ ¬ (0 < y ∨ y = 0 ∧ 0 < x)) := by
  unfold halfI
  by_cases e : 0 < y ∨ y = 0 ∧ 0 < x
  · rw [if_pos e]; exact Or.inl ⟨rfl, e⟩
  · rw [if_neg e]; exact Or.inr ⟨rfl, e⟩
theorem sgnD_cases (c : Int) : (sgnD c = -1 ∧ 0 < c) ∨ (sgnD c = 0 ∧ c = 0) ∨ (sgnD c = 1 ∧ c < 0) := by
  rcases Int.lt_trichotomy c 0 with h | h | h
  · exact Or.inr (Or.inr ⟨sgnD_neg h, h⟩)
  · exact Or.inr (Or.inl ⟨sgnD_zero h, h⟩)
  · exact Or.inl ⟨sgnD_pos h, h⟩
theorem refC_cases (x y u v : Int) : (halfI x y = halfI u v ∧ refC x y u v = sgnD (crossW x y u v)) ∨ (halfI x y ≠ halfI u v ∧ refC x y u v = halfI x y - halfI u v) := by
  unfold refC
  by_cases h : halfI x y = halfI u v
  · rw [if_pos h]; exact Or.inl ⟨h, rfl⟩
  · rw [if_neg h]; exact Or.inr ⟨h, rfl⟩
theorem mul_sign {a b : Int} : (0 < a → 0 < b → 0 < a * b) ∧ (a < 0 → b < 0 → 0 < a * b) ∧ (0 < a → b < 0 → a * b < 0) ∧ (a < 0 → 0 < b → a * b < 0) := by
  refine ⟨Int.mul_pos, fun h1 h2 => Int.mul_pos_of_neg_of_neg h1 h2, fun h1 h2 => Int.mul_neg_of_pos_of_neg h1 h2, fun h1 h2 => Int.mul_neg_of_neg_of_pos h1 h2⟩
theorem half_flip {x y : Int} (h : y ≠ 0) : halfI x (-y) = 1 - halfI x y := by
  have h1 := half_told x y
  have h3 := half_told x (-y)
  omega
/-- Where neither has the height 0. -/
theorem ref_mir1 {x y u v : Int} (hc : crossW x (-y) u (-v) = -crossW x y u v) (hy : y ≠ 0) (hv : v ≠ 0) : refC x (-y) u (-v) = -refC x y u v := by
  have r1 := refC_cases x y u v
  have r2 := refC_cases x (-y) u (-v)
  rw [half_flip hy, half_flip hv, hc] at r2
  have s1 := sgnD_cases (crossW x y u v)
  have s2 := sgnD_cases (-crossW x y u v)
  omega
/-- Where the first one is to the right, or to the left, the second one not. -/
theorem ref_mir2 {x u v : Int} (hc : crossW x 0 u v = x * v) (hd : crossW x 0 u (-v) = -(x * v)) (hx : x ≠ 0) (hv : v ≠ 0) :
    (0 < x ∧ refC x 0 u v = -1 ∧ refC x 0 u (-v) = -1) ∨ (x < 0 ∧ refC x 0 u (-v) = -refC x 0 u v) := by
  have r1 := refC_cases x 0 u v
  have r2 := refC_cases x 0 u (-v)
  rw [half_flip hv, hd] at r2
  rw [hc] at r1
  have h1 := half_told x 0
  have h2 := half_told u v
  have s1 := sgnD_cases (x * v)
  have s2 := sgnD_cases (-(x * v))
  rcases Int.lt_trichotomy x 0 with h | h | h <;> rcases Int.lt_trichotomy v 0 with k | k | k
  all_goals first | (exfalso; omega) | skip
  · have m := (mul_sign (a := x) (b := v)).2.1 h k; omega
  · have m := (mul_sign (a := x) (b := v)).2.2.2 h k; omega
  · have m := (mul_sign (a := x) (b := v)).2.2.1 h k; omega
  · have m := (mul_sign (a := x) (b := v)).1 h k; omega
theorem ord_mir {x y u v : Int} (ha : Ok x y) (hb : Ok u v) :
    (Zd x y ∧ Zd u v ∧ ordA x y u v = 0 ∧ ordA x (-y) u (-v) = 0) ∨ (Zd x y ∧ ¬ Zd u v ∧ ordA x y u v = -1 ∧ ordA x (-y) u (-v) = -1) ∨
    (¬ Zd x y ∧ Zd u v ∧ ordA x y u v = 1 ∧ ordA x (-y) u (-v) = 1) ∨ (¬ Zd x y ∧ ¬ Zd u v ∧ ordA x (-y) u (-v) = -ordA x y u v) := by
  have c1 := cross_plain ha.2.1 ha.2.2 hb.2.1 hb.2.2
  have c2 := cross_plain ha.neg.2.1 ha.neg.2.2 hb.neg.2.1 hb.neg.2.2
  have c3 := cross_plain hb.2.1 hb.2.2 ha.2.1 ha.2.2
  have c4 := cross_plain hb.neg.2.1 hb.neg.2.2 ha.neg.2.1 ha.neg.2.2
  rw [Int.mul_neg, Int.neg_mul] at c2 c4
  have na := ha.1
  have nb := hb.1
  unfold Nz at na nb
  by_cases hy : y = 0
  · subst hy
    by_cases hv : v = 0
    · subst hv
      have r1 := refC_cases x 0 u 0
      rw [c1] at r1
      have h1 := half_told x 0
      have h2 := half_told u 0
      have s1 : sgnD (x * 0 - 0 * u) = 0 := sgnD_zero (by simp)
      have e : ordA x (-0) u (-0) = ordA x 0 u 0 := rfl
      rw [e, ord_ref ha hb]
      unfold Zd
      rw [s1] at r1
      omega
    · rw [Int.zero_mul, Int.sub_zero] at c1
      rw [Int.zero_mul] at c2
      have m := ref_mir2 (x := x) (u := u) (v := v) c1 (by rw [show (0 : Int) = -0 from rfl, c2]; omega) (by omega) hv
      have e : ordA x (-0) u (-v) = refC x 0 u (-v) := ord_ref ha.neg hb.neg
      rw [e, ord_ref ha hb]
      have rr := ord_range ha hb
      rw [ord_ref ha hb] at rr
      unfold Zd
      omega
  · by_cases hv : v = 0
    · subst hv
      rw [Int.zero_mul, Int.sub_zero] at c3
      rw [Int.zero_mul] at c4
      have m := ref_mir2 (x := u) (u := x) (v := y) c3 (by rw [show (0 : Int) = -0 from rfl, c4]; omega) (by omega) hy
      have e : ordA u (-0) x (-y) = refC u 0 x (-y) := ord_ref hb.neg ha.neg
      have f1 := ord_flip hb ha
      have f2 := ord_flip hb.neg ha.neg
      rw [e] at f2
      rw [ord_ref hb ha] at f1
      have rr := ord_range hb ha
      rw [ord_ref hb ha] at rr
      rw [f1, f2]
      unfold Zd
      omega
    · have m := ref_mir1 (x := x) (u := u) (by rw [c1, c2]; omega) hy hv
      rw [ord_ref ha hb, ord_ref ha.neg hb.neg]
      refine Or.inr (Or.inr (Or.inr ⟨fun h => hy h.1, fun h => hv h.1, m⟩))
set_option maxHeartbeats 8000000 in
theorem bet_mir {x y u v s t : Int} (ha : Ok x y) (hb : Ok u v) (hc : Ok s t) : betA x y u v s t = betA u (-v) x (-y) s (-t) := by
  rw [Bool.eq_iff_iff, bet_told, bet_told, ahead_iff, ahead_iff]
  have m1 := ord_mir hc ha
  have m2 := ord_mir hb ha
  have m3 := ord_mir hc hb
  have f1 := ord_flip hb.neg ha.neg
  have t1 := ord_trans hc hb ha
  have r1 := ord_range hc ha
  have r2 := ord_range hb ha
  have r3 := ord_range hc hb
  have t2 := ord_trans hb hc ha
  rw [ord_flip hc hb] at t2
  have t3 := ord_trans hc ha hb
  rw [ord_flip hb ha] at t3
  generalize Zd x y = za at *
  generalize Zd u v = zb at *
  generalize Zd s t = zc at *
  generalize ordA s t x y = o1 at *
  generalize ordA u v x y = o2 at *
  generalize ordA s t u v = o3 at *
  generalize ordA s (-t) x (-y) = n1 at *
  generalize ordA u (-v) x (-y) = n2 at *
  generalize ordA x (-y) u (-v) = n2' at *
  generalize ordA s (-t) u (-v) = n3 at *
  by_cases h1 : za <;> by_cases h2 : zb <;> by_cases h3 : zc <;> simp only [h1, h2, h3, true_and, false_and, not_true_eq_false, not_false_eq_true, or_false, false_or] at m1 m2 m3 <;> omega
theorem opp_mir {x y u v : Int} (ha : Ok x y) (hb : Ok u v) : oppA x y u v = oppA x (-y) u (-v) := by
  rw [opp_ref ha hb, opp_ref ha.neg hb.neg, Bool.eq_iff_iff]
  have c1 := cross_plain ha.2.1 ha.2.2 hb.2.1 hb.2.2
  have c2 := cross_plain ha.neg.2.1 ha.neg.2.2 hb.neg.2.1 hb.neg.2.2
  rw [Int.mul_neg, Int.neg_mul] at c2
  have hx : crossW x (-y) u (-v) = -crossW x y u v := by rw [c1, c2]; omega
  unfold refO
  rw [hx]
  simp only [Bool.and_eq_true, decide_eq_true_eq, Bool.not_eq_true', decide_eq_false_iff_not]
  have na := ha.1
  have nb := hb.1
  unfold Nz at na nb
  by_cases hy : y = 0
  · subst hy
    by_cases hv : v = 0
    · subst hv
      rw [show (-0 : Int) = 0 from rfl]
      omega
    · have h : crossW x 0 u v ≠ 0 := by
        rw [c1, Int.zero_mul, Int.sub_zero]
        exact Int.mul_ne_zero (by omega) hv
      omega
  · by_cases hv : v = 0
    · subst hv
      have h : crossW x y u 0 ≠ 0 := by
        rw [c1, Int.mul_zero]
        have := Int.mul_ne_zero hy (show u ≠ 0 by omega)
        omega
      omega
    · rw [half_flip hy, half_flip hv]
      omega
end Rnd
end Go.Proofs.Ytfdofajknnocfaa
