namespace CrossMath
structure Sg where
 ax : Int
 ay : Int
 bx : Int
 bY : Int
deriving DecidableEq
structure Pt where
 xn : Int
 xd : Int
 yn : Int
 yd : Int
deriving DecidableEq
def flipS (s : Sg) : Sg := ⟨s.bx, s.bY, s.ax, s.ay⟩
def swS (s : Sg) : Sg := ⟨s.ay, s.ax, s.bY, s.bx⟩
def swP (p : Pt) : Pt := ⟨p.yn, p.yd, p.xn, p.xd⟩
def turned (s : Sg) : Bool := decide (s.bx - s.ax < 0) || (decide (s.bx - s.ax = 0) && decide (s.bY - s.ay < 0))
def laidS (s : Sg) : Sg := if turned s = true then flipS s else s
def frN (n d : Int) : Int := (n.tdiv (Int.gcd n d : Nat)) * (if d < 0 then -1 else 1)
def frD (n d : Int) : Int := ((d.natAbs : Int)).tdiv (Int.gcd n d : Nat)
def dotP (x y : Int) : Pt := ⟨x, 1, y, 1⟩
theorem frN_neg (n d : Int) (hd : d ≠ 0) : frN (-n) (-d) = frN n d := by
 unfold frN
 rw [Int.gcd_neg, Int.neg_gcd, Int.neg_tdiv]
 by_cases h : d < 0
 ·rw [if_pos h, if_neg (by omega)]; omega
 ·rw [if_neg h, if_pos (by omega)]; omega
theorem frD_neg (n d : Int) : frD (-n) (-d) = frD n d := by
 unfold frD
 rw [Int.gcd_neg, Int.neg_gcd, Int.natAbs_neg]
end CrossMath

namespace CrossMath
theorem frD_pos {n d : Int} (hd : d ≠ 0) : 0 < frD n d := by
 unfold frD
 have hg : (Int.gcd n d : Nat) ∣ d.natAbs := Int.natAbs_dvd_natAbs.2 (Int.gcd_dvd_right n d) |> fun h => by simpa using h
 obtain ⟨c, hc⟩ := hg
 have hg0 : 0 < Int.gcd n d := by
  rcases Nat.eq_zero_or_pos (Int.gcd n d) with h | h
  ·rw [h] at hc; omega
  ·exact h
 have hc0 : 0 < c := by
  rcases Nat.eq_zero_or_pos c with h | h
  ·rw [h] at hc; omega
  ·exact h
 rw [hc, Int.natCast_mul, Int.mul_tdiv_cancel_left _ (by omega)]
 omega
theorem fr_val {n d : Int} (hd : d ≠ 0) : frN n d * d = n * frD n d := by
 unfold frN frD
 have hn : ((Int.gcd n d : Nat) : Int) ∣ n := Int.gcd_dvd_left n d
 have hdd : ((Int.gcd n d : Nat) : Int) ∣ d := Int.gcd_dvd_right n d
 obtain ⟨a, ha⟩ := hn
 obtain ⟨b, hb⟩ := hdd
 have hg0 : ((Int.gcd n d : Nat) : Int) ≠ 0 := by
  intro h; rw [h] at hb; omega
 generalize ((Int.gcd n d : Nat) : Int) = g at *
 have hab : ((d.natAbs : Nat) : Int) = d * (if d < 0 then -1 else 1) := by split <;> omega
 rw [hab]
 generalize (if d < 0 then (-1 : Int) else 1) = s
 subst ha hb
 rw [Int.mul_tdiv_cancel_left _ hg0, show g * b * s = g * (b * s) by rw [Int.mul_assoc], Int.mul_tdiv_cancel_left _ hg0]
 rw [show a * s * (g * b) = g * (a * (b * s)) by rw [Int.mul_comm g b, ← Int.mul_assoc, Int.mul_comm g]; congr 1; rw [Int.mul_assoc, Int.mul_comm s b], show g * a * (b * s) = g * (a * (b * s)) by rw [Int.mul_assoc]]
end CrossMath
namespace CrossMath
end CrossMath
namespace CrossMath
theorem laid_or (s : Sg) : laidS s = s ∨ laidS s = flipS s := by
 unfold laidS
 split
 ·exact .inr rfl
 ·exact .inl rfl
end CrossMath

namespace CrossMath
def cmp3 (a b : Int) : Int := if a < b then -1 else if b < a then 1 else 0
def cmpPt (p : Pt) (x y : Int) : Int := if p.xn = x * p.xd then cmp3 p.yn (y * p.yd) else cmp3 p.xn (x * p.xd)
def valS (s : Sg) (p : Pt) : Int := (s.bx - s.ax) * (p.yn - s.ay * p.yd) * p.xd - (s.bY - s.ay) * (p.xn - s.ax * p.xd) * p.yd
def onB (s : Sg) (p : Pt) : Bool := decide (valS s p = 0) && decide (cmpPt p s.ax s.ay ≠ cmpPt p s.bx s.bY)
theorem val_flip (s : Sg) (p : Pt) : valS (flipS s) p = -valS s p := by
 unfold valS flipS; grind
theorem on_flip (s : Sg) (p : Pt) : onB (flipS s) p = onB s p := by
 have h := val_flip s p
 unfold onB
 rw [h]
 have e1 : (flipS s).ax = s.bx ∧ (flipS s).ay = s.bY ∧ (flipS s).bx = s.ax ∧ (flipS s).bY = s.ay := ⟨rfl, rfl, rfl, rfl⟩
 rw [e1.1, e1.2.1, e1.2.2.1, e1.2.2.2]
 have e2 : decide (-valS s p = 0) = decide (valS s p = 0) := decide_eq_decide.2 (by omega)
 have e3 : decide (cmpPt p s.bx s.bY ≠ cmpPt p s.ax s.ay) = decide (cmpPt p s.ax s.ay ≠ cmpPt p s.bx s.bY) := decide_eq_decide.2 ⟨Ne.symm, Ne.symm⟩
 rw [e2, e3]
theorem on_laid (s : Sg) (p : Pt) : onB (laidS s) p = onB s p := by
 rcases laid_or s with h | h <;> rw [h]
 exact on_flip s p
def cmpQ (p q : Pt) : Int := if cmp3 (p.xn * q.xd) (q.xn * p.xd) = 0 then cmp3 (p.yn * q.yd) (q.yn * p.yd) else cmp3 (p.xn * q.xd) (q.xn * p.xd)
end CrossMath

namespace CrossMath
def mvS (s : Sg) (dx dy : Int) : Sg := ⟨s.ax + dx, s.ay + dy, s.bx + dx, s.bY + dy⟩
def mvP (p : Pt) (dx dy : Int) : Pt := ⟨p.xn + dx * p.xd, p.xd, p.yn + dy * p.yd, p.yd⟩
theorem gcd_mv (n d x : Int) : Int.gcd (n + x * d) d = Int.gcd n d := by
 have h1 : ((Int.gcd n d : Nat) : Int) ∣ n := Int.gcd_dvd_left ..
 have h2 : ((Int.gcd n d : Nat) : Int) ∣ d := Int.gcd_dvd_right ..
 have h3 : ((Int.gcd (n + x * d) d : Nat) : Int) ∣ n + x * d := Int.gcd_dvd_left ..
 have h4 : ((Int.gcd (n + x * d) d : Nat) : Int) ∣ d := Int.gcd_dvd_right ..
 refine Nat.dvd_antisymm ?_ ?_
 ·refine Int.natCast_dvd_natCast.1 (Int.dvd_coe_gcd ?_ h4)
  have := Int.dvd_sub h3 (Int.dvd_mul_of_dvd_right (b := x) h4)
  rwa [Int.add_sub_cancel] at this
 ·exact Int.natCast_dvd_natCast.1 (Int.dvd_coe_gcd (Int.dvd_add h1 (Int.dvd_mul_of_dvd_right (b := x) h2)) h2)
theorem frN_mv (n d x : Int) (hd : d ≠ 0) : frN (n + x * d) d = frN n d + x * frD n d ∧ frD (n + x * d) d = frD n d := by
 unfold frN frD
 rw [gcd_mv]
 refine ⟨?_, rfl⟩
 have hg : (0 : Int) < (Int.gcd n d : Nat) := by
  have : Int.gcd n d ≠ 0 := fun h => hd (Int.gcd_eq_zero_iff.1 h).2
  omega
 obtain ⟨n', hn⟩ : ((Int.gcd n d : Nat) : Int) ∣ n := Int.gcd_dvd_left ..
 obtain ⟨d', hd'⟩ : ((Int.gcd n d : Nat) : Int) ∣ d := Int.gcd_dvd_right ..
 generalize ((Int.gcd n d : Nat) : Int) = g at *
 have e1 : (n + x * d).tdiv g = n' + x * d' := by
  have : n + x * d = g * (n' + x * d') := by rw [hn, hd', Int.mul_add, Int.mul_left_comm]
  rw [this, Int.mul_tdiv_cancel_left _ (by omega)]
 have e2 : n.tdiv g = n' := by rw [hn, Int.mul_tdiv_cancel_left _ (by omega)]
 have e3 : ((d.natAbs : Nat) : Int).tdiv g = d' * (if d < 0 then -1 else 1) := by
  by_cases h : d < 0
  ·rw [if_pos h, show ((d.natAbs : Nat) : Int) = g * (-d') by rw [Int.mul_neg, ← hd']; omega, Int.mul_tdiv_cancel_left _ (by omega)]; omega
  ·rw [if_neg h, show ((d.natAbs : Nat) : Int) = g * d' by rw [← hd']; omega, Int.mul_tdiv_cancel_left _ (by omega)]; omega
 rw [e1, e2, e3, Int.add_mul, Int.mul_assoc]
end CrossMath
