/- The order of words is the order of digits. -/
import Derived.Test.YtlbijchbngnmmaaDoorAA
namespace Go.Proofs.YtlbijchbngnmmaaDoor
open Go.RowKit

theorem cutN_le (x : Nat → Int) (n : Nat) : cutN x n ≤ n := by
  induction n with
  | zero => exact Nat.le_refl _
  | succ n ih => rw [cutN]; split <;> omega

theorem mags_cut (x y : Nat → Int) (hx : ∀ i, 0 ≤ x i) (hy : ∀ i, 0 ≤ y i) (n : Nat) : magsF x y (cutN x n) (cutN y n) = ordD x y n := by
  induction n with
  | zero => rfl
  | succ n ih =>
    have h1 := cutN_le x n
    have h2 := cutN_le y n
    have p := hx n
    have q := hy n
    by_cases a : x n = 0 <;> by_cases b : y n = 0
    · rw [cutN, if_pos a, cutN, if_pos b, ih, ordD, if_neg (by omega), if_neg (by omega)]
    · rw [cutN, if_pos a, cutN, if_neg b, ordD, if_pos (by omega), magsF, if_neg (by omega), if_pos (by omega)]
    · rw [cutN, if_neg a, cutN, if_pos b, ordD, if_neg (by omega), if_pos (by omega), magsF, if_neg (by omega), if_neg (by omega)]
    · rw [cutN, if_neg a, cutN, if_neg b, magsF, if_pos rfl]

theorem ordD_four (x y x' y' : Nat → Int) (k : Nat) (h : ∀ i, i < 4 → x (k + i) = x' i ∧ y (k + i) = y' i) :
    ordD x y (k + 4) = if ordD x' y' 4 = 0 then ordD x y k else ordD x' y' 4 := by
  obtain ⟨a0, b0⟩ := h 0 (by omega)
  obtain ⟨a1, b1⟩ := h 1 (by omega)
  obtain ⟨a2, b2⟩ := h 2 (by omega)
  obtain ⟨a3, b3⟩ := h 3 (by omega)
  simp only [ordD, a1, b1, a2, b2, a3, b3]
  rw [show x k = x' 0 from a0, show y k = y' 0 from b0]
  (repeat' split) <;> simp_all

theorem dig_nn (x : Int) (k : Nat) : 0 ≤ dig x k := Int.emod_nonneg _ (by decide)
theorem ord_word (a b : Int) (ha : 0 ≤ a) (ha' : a < 18446744073709551616) (hb : 0 ≤ b) (hb' : b < 18446744073709551616) : ordD (dig a) (dig b) 4 = cmpI a b := by
  have E0 : ∀ x : Int, dig x 0 = x % 65536 := fun x => by rw [dig, show (65536 : Int) ^ 0 = 1 from rfl, Int.ediv_one]
  have E1 : ∀ x : Int, dig x 1 = x / 65536 % 65536 := fun _ => rfl
  have E2 : ∀ x : Int, dig x 2 = x / 4294967296 % 65536 := fun x => by rw [dig, show (65536 : Int) ^ 2 = 4294967296 from rfl]
  have E3 : ∀ x : Int, dig x 3 = x / 281474976710656 % 65536 := fun x => by rw [dig, show (65536 : Int) ^ 3 = 281474976710656 from rfl]
  have a0 := E0 a; have a1 := E1 a; have a2 := E2 a; have a3 := E3 a
  have b0 := E0 b; have b1 := E1 b; have b2 := E2 b; have b3 := E3 b
  clear E0 E1 E2 E3
  simp only [ordD, cmpI]
  (repeat' split) <;> omega

theorem ord_digits (a b : Nat → Int) (ha : ∀ i, 0 ≤ a i ∧ a i < 18446744073709551616) (hb : ∀ i, 0 ≤ b i ∧ b i < 18446744073709551616) :
    ordD (digF a) (digF b) 16 = ordF a b 4 := by
  have W : ∀ k, ordD (dig (a k)) (dig (b k)) 4 = cmpI (a k) (b k) := fun k => ord_word _ _ (ha k).1 (ha k).2 (hb k).1 (hb k).2
  have S : ∀ (f : Nat → Int) k i, i < 4 → digF f (4 * k + i) = dig (f k) i := fun f k i hi => by
    unfold digF; rw [show (4 * k + i) / 4 = k by omega, show (4 * k + i) % 4 = i by omega]
  have F : ∀ k, ordD (digF a) (digF b) (4 * k) = ordF a b k := by
    intro k
    induction k with
    | zero => rfl
    | succ k ih => rw [show 4 * (k + 1) = 4 * k + 4 by omega, ordD_four _ _ (dig (a k)) (dig (b k)) (4 * k) (fun i hi => ⟨S a k i hi, S b k i hi⟩), W, ih, ordF]
  exact F 4
end Go.Proofs.YtlbijchbngnmmaaDoor
