namespace CrossMath

structure Sg where
 ax : Int
 ay : Int
 bx : Int
 bY : Int
deriving DecidableEq
structure Pt where
 xn : Int
 xd : Int
 yn : Int
 yd : Int
deriving DecidableEq
structure Mt where
 k : Int
 p : Pt
 q : Pt
deriving DecidableEq
def aheadB (ax ay bx bY : Int) : Bool := decide (ax < bx) || (decide (ax = bx) && decide (ay < bY))
def flipS (s : Sg) : Sg := ⟨s.bx, s.bY, s.ax, s.ay⟩
def turned (s : Sg) : Bool := decide (s.bx - s.ax < 0) || (decide (s.bx - s.ax = 0) && decide (s.bY - s.ay < 0))
def laidS (s : Sg) : Sg := if turned s = true then flipS s else s
def offN (ax ay bx bY nx ny : Int) : Int := (bx - ax) * (ny - ay) - (bY - ay) * (nx - ax)
def offS (m : Sg) (x y : Int) : Int := offN m.ax m.ay m.bx m.bY x y
def asideB (a b : Int) : Bool := (decide (0 < a) && decide (0 < b)) || (decide (a < 0) && decide (b < 0))
def acrossB (a b : Int) : Bool := (decide (a < 0) && decide (0 < b)) || (decide (b < 0) && decide (0 < a))
def frN (n d : Int) : Int := (n.tdiv (Int.gcd n d : Nat)) * (if d < 0 then -1 else 1)
def frD (n d : Int) : Int := ((d.natAbs : Int)).tdiv (Int.gcd n d : Nat)
def dotP (x y : Int) : Pt := ⟨x, 1, y, 1⟩
def atN (oa ob a b : Int) : Int := frN (oa * b - ob * a) (oa - ob)
def atD (oa ob a b : Int) : Int := frD (oa * b - ob * a) (oa - ob)
def partP (l : Sg) (oa ob : Int) : Pt := ⟨atN oa ob l.ax l.bx, atD oa ob l.ax l.bx, atN oa ob l.ay l.bY, atD oa ob l.ay l.bY⟩
def zeroP : Pt := ⟨0, 0, 0, 0⟩
def noneM : Mt := ⟨0, zeroP, zeroP⟩
def touchM (p : Pt) : Mt := ⟨1, p, p⟩
def laterX (l m : Sg) : Int × Int := if aheadB l.ax l.ay m.ax m.ay = true then (m.ax, m.ay) else (l.ax, l.ay)
def earlierX (l m : Sg) : Int × Int := if aheadB m.bx m.bY l.bx l.bY = true then (m.bx, m.bY) else (l.bx, l.bY)
def pieceM (p q : Int × Int) : Mt :=
 if p = q then touchM (dotP p.1 p.2) else if aheadB p.1 p.2 q.1 q.2 = true then ⟨2, dotP p.1 p.2, dotP q.1 q.2⟩ else noneM
def sharedM (l m : Sg) : Mt := pieceM (laterX l m) (earlierX l m)
def meetL (l m : Sg) (oa ob ca cb : Int) : Mt :=
 if oa = 0 ∧ ob = 0 then sharedM l m
 else if asideB oa ob = true ∨ asideB ca cb = true then noneM
 else if oa = 0 then touchM (dotP l.ax l.ay)
 else if ob = 0 then touchM (dotP l.bx l.bY)
 else touchM (partP l oa ob)
def meetM (l m : Sg) : Mt := meetL l m (offS m l.ax l.ay) (offS m l.bx l.bY) (offS l m.ax m.ay) (offS l m.bx m.bY)
def crossL (oa ob ca cb : Int) : Bool := acrossB oa ob && acrossB ca cb
def crossM (l m : Sg) : Bool := crossL (offS m l.ax l.ay) (offS m l.bx l.bY) (offS l m.ax m.ay) (offS l m.bx m.bY)

theorem frN_neg (n d : Int) (hd : d ≠ 0) : frN (-n) (-d) = frN n d := by
 unfold frN
 rw [Int.gcd_neg, Int.neg_gcd, Int.neg_tdiv]
 by_cases h : d < 0
 ·rw [if_pos h, if_neg (by omega)]; omega
 ·rw [if_neg h, if_pos (by omega)]; omega
theorem frD_neg (n d : Int) : frD (-n) (-d) = frD n d := by
 unfold frD
 rw [Int.gcd_neg, Int.neg_gcd, Int.natAbs_neg]
theorem at_neg (oa ob a b : Int) (h : oa ≠ ob) : atN (-oa) (-ob) a b = atN oa ob a b ∧ atD (-oa) (-ob) a b = atD oa ob a b := by
 unfold atN atD
 rw [show -oa * b - -ob * a = -(oa * b - ob * a) by rw [Int.neg_mul, Int.neg_mul]; omega, show -oa - -ob = -(oa - ob) by omega]
 exact ⟨frN_neg _ _ (by omega), frD_neg _ _⟩
theorem at_flip (oa ob a b : Int) (h : oa ≠ ob) : atN ob oa b a = atN oa ob a b ∧ atD ob oa b a = atD oa ob a b := by
 unfold atN atD
 rw [show ob * a - oa * b = -(oa * b - ob * a) by omega, show ob - oa = -(oa - ob) by omega]
 exact ⟨frN_neg _ _ (by omega), frD_neg _ _⟩
theorem off_flip (m : Sg) (x y : Int) : offS (flipS m) x y = -(offS m x y) := by
 unfold offS offN flipS
 simp only
 have e1 : (m.ax - m.bx) * (y - m.bY) = -((m.bx - m.ax) * (y - m.ay)) + (m.bx - m.ax) * (m.bY - m.ay) := by
  rw [show m.ax - m.bx = -(m.bx - m.ax) by omega, show y - m.bY = (y - m.ay) - (m.bY - m.ay) by omega, Int.neg_mul, Int.mul_sub]; omega
 have e2 : (m.ay - m.bY) * (x - m.bx) = -((m.bY - m.ay) * (x - m.ax)) + (m.bY - m.ay) * (m.bx - m.ax) := by
  rw [show m.ay - m.bY = -(m.bY - m.ay) by omega, show x - m.bx = (x - m.ax) - (m.bx - m.ax) by omega, Int.neg_mul, Int.mul_sub]; omega
 rw [e1, e2, Int.mul_comm (m.bY - m.ay) (m.bx - m.ax)]
 omega
theorem aside_comm (a b : Int) : asideB b a = asideB a b := by
 unfold asideB
 rw [Bool.and_comm (decide (0 < b)), Bool.and_comm (decide (b < 0))]
theorem aside_neg (a b : Int) : asideB (-a) (-b) = asideB a b := by
 unfold asideB
 rw [show decide (0 < -a) = decide (a < 0) by simp, show decide (0 < -b) = decide (b < 0) by simp, show decide (-a < 0) = decide (0 < a) by simp, show decide (-b < 0) = decide (0 < b) by simp, Bool.or_comm]
end CrossMath

namespace CrossMath

theorem fr_mulk (n d : Int) (k : Nat) (hk : 0 < k) : frN (n * k) (d * k) = frN n d ∧ frD (n * k) (d * k) = frD n d := by
 have hg : Int.gcd (n * k) (d * k) = Int.gcd n d * k := by
  rw [Int.gcd_mul_right]; rfl
 have hkI : (0 : Int) < k := by omega
 unfold frN frD
 rw [hg]
 have e1 : (n * (k : Int)).tdiv ((Int.gcd n d * k : Nat) : Int) = n.tdiv (Int.gcd n d : Nat) := by
  rw [Int.natCast_mul]; exact Int.mul_tdiv_mul_of_pos_left _ _ hkI
 have e2 : (((d * (k : Int)).natAbs : Nat) : Int).tdiv ((Int.gcd n d * k : Nat) : Int) = ((d.natAbs : Nat) : Int).tdiv (Int.gcd n d : Nat) := by
  rw [Int.natAbs_mul, Int.natAbs_natCast, Int.natCast_mul, Int.natCast_mul]; exact Int.mul_tdiv_mul_of_pos_left _ _ hkI
 have e3 : (d * (k : Int) < 0) ↔ (d < 0) := by
  constructor
  ·intro h
   rcases Int.lt_or_le d 0 with h1 | h1
   ·exact h1
   ·have := Int.mul_nonneg h1 (Int.le_of_lt hkI); omega
  ·intro h; exact Int.mul_neg_of_neg_of_pos h hkI
 rw [e1, e2]
 simp only [e3]
 exact ⟨trivial, trivial⟩
theorem fr_mul (n d k : Int) (hd : d ≠ 0) (hk : k ≠ 0) : frN (n * k) (d * k) = frN n d ∧ frD (n * k) (d * k) = frD n d := by
 rcases Int.lt_or_le k 0 with h | h
 ·obtain ⟨m, hm⟩ : ∃ m : Nat, k = -(m : Int) := ⟨k.natAbs, by omega⟩
  subst hm
  have hm0 : 0 < m := by omega
  rw [Int.mul_neg, Int.mul_neg, frN_neg _ _ (by
   intro e
   rcases Int.mul_eq_zero.1 e with e | e <;> omega), frD_neg]
  exact fr_mulk n d m hm0
 ·obtain ⟨m, rfl⟩ : ∃ m : Nat, k = (m : Int) := ⟨k.toNat, by omega⟩
  exact fr_mulk n d m (by omega)
theorem fr_same {n d n' d' : Int} (hd : d ≠ 0) (hd' : d' ≠ 0) (h : n * d' = n' * d) : frN n d = frN n' d' ∧ frD n d = frD n' d' := by
 have h1 := fr_mul n d d' hd hd'
 have h2 := fr_mul n' d' d hd' hd
 rw [h, Int.mul_comm d d'] at h1
 exact ⟨h1.1.symm.trans h2.1, h1.2.symm.trans h2.2⟩
theorem frD_pos {n d : Int} (hd : d ≠ 0) : 0 < frD n d := by
 unfold frD
 have hg : (Int.gcd n d : Nat) ∣ d.natAbs := Int.natAbs_dvd_natAbs.2 (Int.gcd_dvd_right n d) |> fun h => by simpa using h
 obtain ⟨c, hc⟩ := hg
 have hg0 : 0 < Int.gcd n d := by
  rcases Nat.eq_zero_or_pos (Int.gcd n d) with h | h
  ·rw [h] at hc; omega
  ·exact h
 have hc0 : 0 < c := by
  rcases Nat.eq_zero_or_pos c with h | h
  ·rw [h] at hc; omega
  ·exact h
 rw [hc, Int.natCast_mul, Int.mul_tdiv_cancel_left _ (by omega)]
 omega
theorem fr_val {n d : Int} (hd : d ≠ 0) : frN n d * d = n * frD n d := by
 unfold frN frD
 have hn : ((Int.gcd n d : Nat) : Int) ∣ n := Int.gcd_dvd_left n d
 have hdd : ((Int.gcd n d : Nat) : Int) ∣ d := Int.gcd_dvd_right n d
 obtain ⟨a, ha⟩ := hn
 obtain ⟨b, hb⟩ := hdd
 have hg0 : ((Int.gcd n d : Nat) : Int) ≠ 0 := by
  intro h; rw [h] at hb; omega
 generalize ((Int.gcd n d : Nat) : Int) = g at *
 have hab : ((d.natAbs : Nat) : Int) = d * (if d < 0 then -1 else 1) := by split <;> omega
 rw [hab]
 generalize (if d < 0 then (-1 : Int) else 1) = s
 subst ha hb
 rw [Int.mul_tdiv_cancel_left _ hg0, show g * b * s = g * (b * s) by rw [Int.mul_assoc], Int.mul_tdiv_cancel_left _ hg0]
 rw [show a * s * (g * b) = g * (a * (b * s)) by rw [Int.mul_comm g b, ← Int.mul_assoc, Int.mul_comm g]; congr 1; rw [Int.mul_assoc, Int.mul_comm s b], show g * a * (b * s) = g * (a * (b * s)) by rw [Int.mul_assoc]]
end CrossMath

namespace CrossMath

def mkR (n d : Int) : Int × Int := (frN n d, frD n d)
def mulR (a b : Int × Int) : Int × Int := mkR (a.1 * b.1) (a.2 * b.2)
def addR (a b : Int × Int) : Int × Int := mkR (a.1 * b.2 + b.1 * a.2) (a.2 * b.2)
def inR (x : Int × Int) : Bool := decide (0 ≤ x.1) && decide (x.1 ≤ x.2)
def ofD (ux uy vx vy : Int) : Int := ux * vy - uy * vx
def ptR (x y : Int × Int) : Pt := ⟨x.1, x.2, y.1, y.2⟩
def alongR (s : Sg) (a : Int × Int) : Pt := ptR (addR (s.ax, 1) (mulR a (s.bx - s.ax, 1))) (addR (s.ay, 1) (mulR a (s.bY - s.ay, 1)))
def ofM (s t : Sg) : Mt :=
 if ofD (s.bx - s.ax) (s.bY - s.ay) (t.bx - t.ax) (t.bY - t.ay) ≠ 0 then
  (if inR (mkR (ofD (t.ax - s.ax) (t.ay - s.ay) (t.bx - t.ax) (t.bY - t.ay)) (ofD (s.bx - s.ax) (s.bY - s.ay) (t.bx - t.ax) (t.bY - t.ay))) = true ∧
    inR (mkR (ofD (t.ax - s.ax) (t.ay - s.ay) (s.bx - s.ax) (s.bY - s.ay)) (ofD (s.bx - s.ax) (s.bY - s.ay) (t.bx - t.ax) (t.bY - t.ay))) = true
    then touchM (alongR s (mkR (ofD (t.ax - s.ax) (t.ay - s.ay) (t.bx - t.ax) (t.bY - t.ay)) (ofD (s.bx - s.ax) (s.bY - s.ay) (t.bx - t.ax) (t.bY - t.ay)))) else noneM)
 else if ofD (t.ax - s.ax) (t.ay - s.ay) (s.bx - s.ax) (s.bY - s.ay) ≠ 0 then noneM
 else sharedM (laidS s) (laidS t)

theorem off_a (s t : Sg) : offS t s.ax s.ay = ofD (t.ax - s.ax) (t.ay - s.ay) (t.bx - t.ax) (t.bY - t.ay) := by
 unfold offS offN ofD
 rw [show s.ay - t.ay = -(t.ay - s.ay) by omega, show s.ax - t.ax = -(t.ax - s.ax) by omega, Int.mul_neg, Int.mul_neg, Int.mul_comm (t.bx - t.ax), Int.mul_comm (t.bY - t.ay)]
 omega
theorem off_b (s t : Sg) : offS t s.bx s.bY = offS t s.ax s.ay - ofD (s.bx - s.ax) (s.bY - s.ay) (t.bx - t.ax) (t.bY - t.ay) := by
 unfold offS offN ofD
 rw [show s.bY - t.ay = (s.ay - t.ay) + (s.bY - s.ay) by omega, show s.bx - t.ax = (s.ax - t.ax) + (s.bx - s.ax) by omega, Int.mul_add, Int.mul_add, Int.mul_comm (s.bx - s.ax) (t.bY - t.ay), Int.mul_comm (s.bY - s.ay) (t.bx - t.ax)]
 omega
theorem off_c (s t : Sg) : offS s t.ax t.ay = -(ofD (t.ax - s.ax) (t.ay - s.ay) (s.bx - s.ax) (s.bY - s.ay)) := by
 unfold offS offN ofD
 rw [Int.mul_comm (s.bx - s.ax), Int.mul_comm (s.bY - s.ay)]
 omega
theorem off_e (s t : Sg) : offS s t.bx t.bY = offS s t.ax t.ay + ofD (s.bx - s.ax) (s.bY - s.ay) (t.bx - t.ax) (t.bY - t.ay) := by
 unfold offS offN ofD
 rw [show t.bY - s.ay = (t.ay - s.ay) + (t.bY - t.ay) by omega, show t.bx - s.ax = (t.ax - s.ax) + (t.bx - t.ax) by omega, Int.mul_add, Int.mul_add]
 omega
theorem pos_of_mul {a b c d : Int} (hb : 0 < b) (hd : 0 < d) (h : a * d = c * b) : (0 ≤ a ↔ 0 ≤ c) := by
 constructor
 ·intro ha
  rcases Int.lt_or_le c 0 with h1 | h1
  ·have h2 := Int.mul_neg_of_neg_of_pos h1 hb
   have h3 := Int.mul_nonneg ha (Int.le_of_lt hd)
   omega
  ·exact h1
 ·intro hc
  rcases Int.lt_or_le a 0 with h1 | h1
  ·have h2 := Int.mul_neg_of_neg_of_pos h1 hd
   have h3 := Int.mul_nonneg hc (Int.le_of_lt hb)
   omega
  ·exact h1
theorem in_aside {oa ob : Int} (h : oa - ob ≠ 0) : inR (mkR oa (oa - ob)) = !asideB oa ob := by
 have hv := fr_val (n := oa) h
 have hp := frD_pos (n := oa) h
 unfold inR mkR
 simp only
 generalize frN oa (oa - ob) = n at *
 generalize frD oa (oa - ob) = m at *
 have h1 : (0 ≤ n) ↔ (if 0 < oa - ob then 0 ≤ oa else oa ≤ 0) := by
  split
  ·exact pos_of_mul hp (by assumption) hv
  ·have hd : 0 < -(oa - ob) := by omega
   have := pos_of_mul (a := n) (b := m) (c := -oa) (d := -(oa - ob)) hp hd (by rw [Int.mul_neg, Int.neg_mul]; omega)
   rw [this]; omega
 have h2 : (n ≤ m) ↔ (if 0 < oa - ob then ob ≤ 0 else 0 ≤ ob) := by
  have hv2 : (m - n) * (oa - ob) = (-ob) * m := by
   have e1 : (m - n) * (oa - ob) = m * (oa - ob) - n * (oa - ob) := Int.sub_mul _ _ _
   rw [e1, hv, Int.mul_sub, Int.mul_comm m oa, Int.mul_comm m ob, Int.neg_mul]
   omega
  split
  ·have := pos_of_mul (a := m - n) (b := m) (c := -ob) (d := oa - ob) hp (by assumption) hv2
   omega
  ·have hd : 0 < -(oa - ob) := by omega
   have := pos_of_mul (a := m - n) (b := m) (c := ob) (d := -(oa - ob)) hp hd (by rw [Int.mul_neg, hv2, Int.neg_mul]; omega)
   omega
 unfold asideB
 rw [Bool.eq_iff_iff]
 simp only [Bool.and_eq_true, decide_eq_true_eq, Bool.not_eq_true', Bool.or_eq_false_iff, Bool.and_eq_false_iff, decide_eq_false_iff_not, h1, h2]
 split <;> omega
theorem along_part (s : Sg) {oa ob : Int} (h : oa - ob ≠ 0) : alongR s (mkR oa (oa - ob)) = partP s oa ob := by
 have key : ∀ x y : Int, addR (x, 1) (mulR (mkR oa (oa - ob)) (y - x, 1)) = (atN oa ob x y, atD oa ob x y) := fun x y => by
  have hv := fr_val (n := oa) h
  have hp := frD_pos (n := oa) h
  have hm : mulR (mkR oa (oa - ob)) (y - x, 1) = mkR (oa * (y - x)) (oa - ob) := by
   unfold mulR mkR
   simp only
   have e := fr_same (n := frN oa (oa - ob) * (y - x)) (d := frD oa (oa - ob) * 1) (n' := oa * (y - x)) (d' := oa - ob) (by omega) h (by
    rw [Int.mul_one, show frN oa (oa - ob) * (y - x) * (oa - ob) = frN oa (oa - ob) * (oa - ob) * (y - x) by rw [Int.mul_assoc, Int.mul_comm (y - x), ← Int.mul_assoc], hv, Int.mul_assoc, Int.mul_assoc, Int.mul_comm (frD _ _)])
   exact Prod.ext e.1 e.2
  rw [hm]
  have hv2 := fr_val (n := oa * (y - x)) h
  have hp2 := frD_pos (n := oa * (y - x)) h
  unfold addR mkR atN atD
  simp only
  have e := fr_same (n := x * frD (oa * (y - x)) (oa - ob) + frN (oa * (y - x)) (oa - ob) * 1) (d := 1 * frD (oa * (y - x)) (oa - ob)) (n' := oa * y - ob * x) (d' := oa - ob) (by omega) h (by
   rw [Int.mul_one, Int.one_mul, Int.add_mul, hv2]
   generalize frD (oa * (y - x)) (oa - ob) = m
   rw [Int.mul_assoc x m, Int.mul_comm m, ← Int.mul_assoc, ← Int.add_mul]
   congr 1
   rw [Int.mul_sub, Int.mul_sub, Int.mul_comm x oa, Int.mul_comm x ob]
   omega)
  exact Prod.ext e.1 e.2
 unfold alongR ptR partP
 rw [key, key]
end CrossMath

namespace CrossMath

theorem part_oa0 (l : Sg) {ob : Int} (h : ob ≠ 0) : partP l 0 ob = dotP l.ax l.ay := by
 have key : ∀ a b : Int, atN 0 ob a b = a ∧ atD 0 ob a b = 1 := fun a b => by
  unfold atN atD
  have e := fr_same (n := 0 * b - ob * a) (d := 0 - ob) (n' := a) (d' := 1) (by omega) (by omega) (by
   rw [Int.zero_mul, Int.mul_one, Int.zero_sub, Int.zero_sub, Int.mul_neg, Int.mul_comm])
  have f1 : frN a 1 = a ∧ frD a 1 = 1 := by
   unfold frN frD
   rw [Int.gcd_one_right]
   simp
  exact ⟨e.1.trans f1.1, e.2.trans f1.2⟩
 unfold partP dotP
 rw [(key _ _).1, (key _ _).2, (key _ _).1, (key _ _).2]
theorem part_flip (l : Sg) {oa ob : Int} (h : oa ≠ ob) : partP (flipS l) ob oa = partP l oa ob := by
 unfold partP flipS
 simp only
 rw [(at_flip oa ob l.ax l.bx h).1, (at_flip oa ob l.ax l.bx h).2, (at_flip oa ob l.ay l.bY h).1, (at_flip oa ob l.ay l.bY h).2]
theorem part_ob0 (l : Sg) {oa : Int} (h : oa ≠ 0) : partP l oa 0 = dotP l.bx l.bY := by
 rw [← part_flip l h, part_oa0 (flipS l) h]
 rfl
theorem part_neg (l : Sg) {oa ob : Int} (h : oa ≠ ob) : partP l (-oa) (-ob) = partP l oa ob := by
 unfold partP
 rw [(at_neg oa ob l.ax l.bx h).1, (at_neg oa ob l.ax l.bx h).2, (at_neg oa ob l.ay l.bY h).1, (at_neg oa ob l.ay l.bY h).2]
def ptM (l : Sg) (oa ob ca cb : Int) : Mt := if asideB oa ob = true ∨ asideB ca cb = true then noneM else touchM (partP l oa ob)
theorem meetL_pt (l m : Sg) {oa ob : Int} (ca cb : Int) (h : oa ≠ ob) : meetL l m oa ob ca cb = ptM l oa ob ca cb := by
 unfold meetL ptM
 rw [if_neg (by omega)]
 split
 ·rfl
 ·split
  ·rename_i h0
   subst h0
   rw [part_oa0 l (by omega)]
  ·split
   ·rename_i h0
    subst h0
    rw [part_ob0 l (by omega)]
   ·rfl
theorem ptM_flip (l : Sg) {oa ob : Int} (ca cb : Int) (h : oa ≠ ob) : ptM (flipS l) ob oa (-ca) (-cb) = ptM l oa ob ca cb := by
 unfold ptM
 rw [aside_comm oa ob, aside_neg, part_flip l h]
theorem ptM_neg (l : Sg) {oa ob : Int} (ca cb : Int) (h : oa ≠ ob) : ptM l (-oa) (-ob) cb ca = ptM l oa ob ca cb := by
 unfold ptM
 rw [aside_neg, aside_comm ca cb, part_neg l h]
def ptS (s t : Sg) : Mt := ptM s (offS t s.ax s.ay) (offS t s.bx s.bY) (offS s t.ax t.ay) (offS s t.bx t.bY)
theorem ptS_flip (s t : Sg) (h : offS t s.ax s.ay ≠ offS t s.bx s.bY) : ptS (flipS s) t = ptS s t := by
 unfold ptS
 rw [off_flip s, off_flip s]
 exact ptM_flip s _ _ h
theorem ptS_flip2 (s t : Sg) (h : offS t s.ax s.ay ≠ offS t s.bx s.bY) : ptS s (flipS t) = ptS s t := by
 unfold ptS
 rw [off_flip t, off_flip t]
 exact ptM_neg s _ _ h
theorem laid_or (s : Sg) : laidS s = s ∨ laidS s = flipS s := by
 unfold laidS
 split
 ·exact .inr rfl
 ·exact .inl rfl
theorem ne_flip {s t : Sg} (h : offS t s.ax s.ay ≠ offS t s.bx s.bY) : offS t (flipS s).ax (flipS s).ay ≠ offS t (flipS s).bx (flipS s).bY := fun e => h e.symm
theorem ne_flip2 {s t : Sg} (h : offS t s.ax s.ay ≠ offS t s.bx s.bY) : offS (flipS t) s.ax s.ay ≠ offS (flipS t) s.bx s.bY := by
 rw [off_flip, off_flip]; omega
theorem ptS_laid (s t : Sg) (h : offS t s.ax s.ay ≠ offS t s.bx s.bY) : meetM (laidS s) (laidS t) = ptS s t := by
 have e : ∀ l m : Sg, offS m l.ax l.ay ≠ offS m l.bx l.bY → meetM l m = ptS l m := fun l m h => meetL_pt l m _ _ h
 rcases laid_or s with h1 | h1 <;> rcases laid_or t with h2 | h2 <;> rw [h1, h2]
 ·exact e s t h
 ·rw [e _ _ (ne_flip2 h), ptS_flip2 s t h]
 ·rw [e _ _ (ne_flip h), ptS_flip s t h]
 ·rw [e _ _ (ne_flip2 (ne_flip h)), ptS_flip2 _ t (ne_flip h), ptS_flip s t h]
theorem par_off {ux uy vx vy wx wy : Int} (hu : ¬ (ux = 0 ∧ uy = 0)) (hv : ¬ (vx = 0 ∧ vy = 0)) (h : ofD ux uy vx vy = 0) : ofD wx wy vx vy = 0 ↔ ofD wx wy ux uy = 0 := by
 unfold ofD at *
 have h' : ux * vy = uy * vx := by omega
 -- u_x (w x v) = v_x (w x u), u_y (w x v) = v_y (w x u)
 have e1 : ux * (wx * vy - wy * vx) = vx * (wx * uy - wy * ux) := by
  rw [Int.mul_sub, Int.mul_sub]
  have a1 : ux * (wx * vy) = wx * (ux * vy) := by rw [← Int.mul_assoc, Int.mul_comm ux wx, Int.mul_assoc]
  have a2 : vx * (wx * uy) = wx * (uy * vx) := by rw [← Int.mul_assoc, Int.mul_comm vx wx, Int.mul_assoc, Int.mul_comm vx uy]
  have a3 : ux * (wy * vx) = vx * (wy * ux) := by rw [← Int.mul_assoc, Int.mul_comm (ux * wy), Int.mul_comm ux wy]
  rw [a1, a2, a3, h']
 have e2 : uy * (wx * vy - wy * vx) = vy * (wx * uy - wy * ux) := by
  rw [Int.mul_sub, Int.mul_sub]
  have a1 : uy * (wx * vy) = vy * (wx * uy) := by rw [← Int.mul_assoc, Int.mul_comm (uy * wx), Int.mul_comm uy wx]
  have a2 : uy * (wy * vx) = wy * (uy * vx) := by rw [← Int.mul_assoc, Int.mul_comm uy wy, Int.mul_assoc]
  have a3 : vy * (wy * ux) = wy * (ux * vy) := by rw [← Int.mul_assoc, Int.mul_comm vy wy, Int.mul_assoc, Int.mul_comm vy ux]
  rw [a1, a2, a3, h']
 constructor
 ·intro h0
  rw [h0, Int.mul_zero] at e1 e2
  by_cases hx : vx = 0
  ·have hy : vy ≠ 0 := fun e => hv ⟨hx, e⟩
   rcases Int.mul_eq_zero.1 e2.symm with h1 | h1
   ·exact absurd h1 hy
   ·exact h1
  ·rcases Int.mul_eq_zero.1 e1.symm with h1 | h1
   ·exact absurd h1 hx
   ·exact h1
 ·intro h0
  rw [h0, Int.mul_zero] at e1 e2
  by_cases hx : ux = 0
  ·have hy : uy ≠ 0 := fun e => hu ⟨hx, e⟩
   rcases Int.mul_eq_zero.1 e2 with h1 | h1
   ·exact absurd h1 hy
   ·exact h1
  ·rcases Int.mul_eq_zero.1 e1 with h1 | h1
   ·exact absurd h1 hx
   ·exact h1
theorem of_meet (s t : Sg) (hs : ¬ (s.ax = s.bx ∧ s.ay = s.bY)) (ht : ¬ (t.ax = t.bx ∧ t.ay = t.bY)) : ofM s t = meetM (laidS s) (laidS t) := by
 unfold ofM
 have ha := off_a s t
 have hb := off_b s t
 have hc := off_c s t
 have he := off_e s t
 have hpar := par_off (ux := s.bx - s.ax) (uy := s.bY - s.ay) (vx := t.bx - t.ax) (vy := t.bY - t.ay) (wx := t.ax - s.ax) (wy := t.ay - s.ay) (by omega) (by omega)
 generalize ofD (s.bx - s.ax) (s.bY - s.ay) (t.bx - t.ax) (t.bY - t.ay) = d at *
 generalize ofD (t.ax - s.ax) (t.ay - s.ay) (t.bx - t.ax) (t.bY - t.ay) = na at *
 generalize ofD (t.ax - s.ax) (t.ay - s.ay) (s.bx - s.ax) (s.bY - s.ay) = nb at *
 by_cases hd : d = 0
 ·rw [if_neg (by omega)]
  have hab : offS t s.bx s.bY = offS t s.ax s.ay := by omega
  by_cases hn : nb = 0
  ·rw [if_neg (by omega)]
   have h0 : na = 0 := (hpar hd).2 hn
   -- both on one line
   have z1 : offS t s.ax s.ay = 0 := by omega
   have z2 : offS t s.bx s.bY = 0 := by omega
   have z : offS (laidS t) (laidS s).ax (laidS s).ay = 0 ∧ offS (laidS t) (laidS s).bx (laidS s).bY = 0 := by
    rcases laid_or s with h1 | h1 <;> rcases laid_or t with h2 | h2 <;> rw [h1, h2]
    ·exact ⟨z1, z2⟩
    ·rw [off_flip, off_flip, z1, z2]; exact ⟨rfl, rfl⟩
    ·exact ⟨z2, z1⟩
    ·rw [off_flip, off_flip]
     exact ⟨by show -(offS t s.bx s.bY) = 0; omega, by show -(offS t s.ax s.ay) = 0; omega⟩
   unfold meetM meetL
   rw [if_pos z]
  ·rw [if_pos hn]
   have h0 : na ≠ 0 := fun e => hn ((hpar hd).1 e)
   have z : ∃ k : Int, k ≠ 0 ∧ offS (laidS t) (laidS s).ax (laidS s).ay = k ∧ offS (laidS t) (laidS s).bx (laidS s).bY = k := by
    rcases laid_or s with h1 | h1 <;> rcases laid_or t with h2 | h2 <;> rw [h1, h2]
    ·exact ⟨na, h0, ha, by omega⟩
    ·rw [off_flip, off_flip]; exact ⟨-na, by omega, by omega, by omega⟩
    ·exact ⟨na, h0, by show offS t s.bx s.bY = na; omega, by show offS t s.ax s.ay = na; omega⟩
    ·rw [off_flip, off_flip]
     exact ⟨-na, by omega, by show -(offS t s.bx s.bY) = -na; omega, by show -(offS t s.ax s.ay) = -na; omega⟩
   obtain ⟨k, hk, e1, e2⟩ := z
   unfold meetM meetL
   rw [e1, e2, if_neg (by omega), if_pos (.inl (by unfold asideB; simp; omega))]
 ·rw [if_pos hd, ptS_laid s t (by omega)]
  unfold ptS ptM
  rw [ha] at hb
  rw [ha, hb, hc, he, hc]
  have e0 : na - (na - d) = d := by omega
  have e1 := in_aside (oa := na) (ob := na - d) (by omega)
  have e2 := in_aside (oa := nb) (ob := nb - d) (by omega)
  have e3 := along_part s (oa := na) (ob := na - d) (by omega)
  rw [e0] at e1 e3
  rw [show nb - (nb - d) = d by omega] at e2
  have e4 : asideB (-nb) (-nb + d) = asideB nb (nb - d) := by rw [show -nb + d = -(nb - d) by omega, aside_neg]
  rw [e1, e2, e3, e4]
  cases asideB na (na - d) <;> cases asideB nb (nb - d) <;> rfl
end CrossMath

namespace CrossMath

def isP (p : Pt) (x y : Int) : Bool := decide (x * p.xd = p.xn) && decide (y * p.yd = p.yn)
theorem fr_is {n d x : Int} (hd : d ≠ 0) : x * frD n d = frN n d ↔ x * d = n := by
 have hv := fr_val (n := n) hd
 have hp := frD_pos (n := n) hd
 constructor
 ·intro h
  have h1 : x * frD n d * d = n * frD n d := by rw [h]; exact hv
  have h2 : x * d * frD n d = n * frD n d := by rw [← h1, Int.mul_assoc, Int.mul_assoc, Int.mul_comm d]
  exact Int.eq_of_mul_eq_mul_right (by omega) h2
 ·intro h
  have h1 : x * frD n d * d = frN n d * d := by rw [hv, ← h, Int.mul_assoc, Int.mul_assoc, Int.mul_comm d]
  exact Int.eq_of_mul_eq_mul_right hd h1
theorem isP_part {l : Sg} {oa ob x y : Int} (h : oa - ob ≠ 0) : isP (partP l oa ob) x y = (decide (x * (oa - ob) = oa * l.bx - ob * l.ax) && decide (y * (oa - ob) = oa * l.bY - ob * l.ay)) := by
 unfold isP partP atN atD
 rw [decide_eq_decide.2 (fr_is h), decide_eq_decide.2 (fr_is h)]
theorem isP_dot (x y a b : Int) : isP (dotP x y) a b = (decide (a = x) && decide (b = y)) := by unfold isP dotP; simp
theorem part_a {l : Sg} {oa ob : Int} (h : oa - ob ≠ 0) (h0 : oa ≠ 0) (hl : ¬ (l.ax = l.bx ∧ l.ay = l.bY)) : isP (partP l oa ob) l.ax l.ay = false := by
 rw [isP_part h]
 by_cases h1 : l.ax = l.bx
 ·have h2 : l.ay ≠ l.bY := fun e => hl ⟨h1, e⟩
  rw [decide_eq_false (p := l.ay * (oa - ob) = _), Bool.and_false]
  intro e
  have e1 : oa * l.ay = oa * l.bY := by rw [Int.mul_sub, Int.mul_comm l.ay oa, Int.mul_comm l.ay ob] at e; omega
  exact h2 (Int.eq_of_mul_eq_mul_left h0 e1)
 ·rw [decide_eq_false (p := l.ax * (oa - ob) = _), Bool.false_and]
  intro e
  have e1 : oa * l.ax = oa * l.bx := by rw [Int.mul_sub, Int.mul_comm l.ax oa, Int.mul_comm l.ax ob] at e; omega
  exact h1 (Int.eq_of_mul_eq_mul_left h0 e1)
theorem part_b {l : Sg} {oa ob : Int} (h : oa - ob ≠ 0) (h0 : ob ≠ 0) (hl : ¬ (l.ax = l.bx ∧ l.ay = l.bY)) : isP (partP l oa ob) l.bx l.bY = false := by
 rw [isP_part h]
 by_cases h1 : l.ax = l.bx
 ·have h2 : l.ay ≠ l.bY := fun e => hl ⟨h1, e⟩
  rw [decide_eq_false (p := l.bY * (oa - ob) = _), Bool.and_false]
  intro e
  have e1 : ob * l.ay = ob * l.bY := by rw [Int.mul_sub, Int.mul_comm l.bY oa, Int.mul_comm l.bY ob] at e; omega
  exact h2 (Int.eq_of_mul_eq_mul_left h0 e1)
 ·rw [decide_eq_false (p := l.bx * (oa - ob) = _), Bool.false_and]
  intro e
  have e1 : ob * l.ax = ob * l.bx := by rw [Int.mul_sub, Int.mul_comm l.bx oa, Int.mul_comm l.bx ob] at e; omega
  exact h1 (Int.eq_of_mul_eq_mul_left h0 e1)
theorem part_on {l : Sg} {vx vy x y oa ob c : Int} (ha : oa = vx * (l.ay - y) - vy * (l.ax - x)) (hb : ob = vx * (l.bY - y) - vy * (l.bx - x)) (hc : c = (l.bx - l.ax) * (y - l.ay) - (l.bY - l.ay) * (x - l.ax)) (h : oa - ob ≠ 0) :
 isP (partP l oa ob) x y = decide (c = 0) := by
 rw [isP_part h]
 obtain ⟨ax, ay, bx, bY⟩ := l
 have e1 : x * (oa - ob) - (oa * bx - ob * ax) = vx * c := by
  subst ha hb hc
  simp only [Int.mul_sub, Int.mul_comm, Int.mul_left_comm]
  omega
 have e2 : y * (oa - ob) - (oa * bY - ob * ay) = vy * c := by
  subst ha hb hc
  simp only [Int.mul_sub, Int.mul_comm, Int.mul_left_comm]
  omega
 by_cases h0 : c = 0
 ·rw [h0, Int.mul_zero] at e1 e2
  rw [decide_eq_true h0, decide_eq_true (by show x * (oa - ob) = oa * bx - ob * ax; omega), decide_eq_true (by show y * (oa - ob) = oa * bY - ob * ay; omega)]
  rfl
 ·rw [decide_eq_false h0]
  by_cases hx : x * (oa - ob) = oa * bx - ob * ax
  ·rw [show decide (y * (oa - ob) = oa * bY - ob * ay) = false from decide_eq_false (fun hy => ?_), Bool.and_false]
   have v1 : vx * c = 0 := by omega
   have v2 : vy * c = 0 := by omega
   have w1 : vx = 0 := (Int.mul_eq_zero.1 v1).resolve_right h0
   have w2 : vy = 0 := (Int.mul_eq_zero.1 v2).resolve_right h0
   apply h
   rw [ha, hb, w1, w2, Int.zero_mul, Int.zero_mul, Int.zero_mul, Int.zero_mul]
   rfl
  ·rw [decide_eq_false hx, Bool.false_and]
def offE (p : Pt) (s t : Sg) : Bool := !isP p s.ax s.ay && !isP p s.bx s.bY && !isP p t.ax t.ay && !isP p t.bx t.bY
theorem offE_flip1 (p : Pt) (s t : Sg) : offE p (flipS s) t = offE p s t := by
 unfold offE flipS; rw [Bool.and_comm (!isP p s.bx s.bY)]
theorem offE_flip2 (p : Pt) (s t : Sg) : offE p s (flipS t) = offE p s t := by
 unfold offE flipS
 rw [Bool.and_assoc, Bool.and_assoc, Bool.and_assoc, Bool.and_assoc, Bool.and_comm (!isP p t.bx t.bY)]
theorem offE_laid (p : Pt) (s t : Sg) : offE p (laidS s) (laidS t) = offE p s t := by
 rcases laid_or s with h | h <;> rcases laid_or t with h' | h' <;> rw [h, h'] <;> simp only [offE_flip1, offE_flip2]
theorem cross_laid (l m : Sg) (hl : ¬ (l.ax = l.bx ∧ l.ay = l.bY)) : crossM l m = ((meetM l m).k == 1 && offE (meetM l m).p l m) := by
 have eoa : offS m l.ax l.ay = (m.bx - m.ax) * (l.ay - m.ay) - (m.bY - m.ay) * (l.ax - m.ax) := rfl
 have eob : offS m l.bx l.bY = (m.bx - m.ax) * (l.bY - m.ay) - (m.bY - m.ay) * (l.bx - m.ax) := rfl
 have eca : offS l m.ax m.ay = (l.bx - l.ax) * (m.ay - l.ay) - (l.bY - l.ay) * (m.ax - l.ax) := rfl
 have ecb : offS l m.bx m.bY = (l.bx - l.ax) * (m.bY - l.ay) - (l.bY - l.ay) * (m.bx - l.ax) := rfl
 have foa : offS m l.ax l.ay = (m.bx - m.ax) * (l.ay - m.bY) - (m.bY - m.ay) * (l.ax - m.bx) := by
  rw [eoa]; simp only [Int.mul_sub, Int.mul_comm]; omega
 have fob : offS m l.bx l.bY = (m.bx - m.ax) * (l.bY - m.bY) - (m.bY - m.ay) * (l.bx - m.bx) := by
  rw [eob]; simp only [Int.mul_sub, Int.mul_comm]; omega
 unfold crossM meetM
 generalize offS m l.ax l.ay = oa at *
 generalize offS m l.bx l.bY = ob at *
 generalize offS l m.ax m.ay = ca at *
 generalize offS l m.bx m.bY = cb at *
 unfold meetL
 have ac0 : ∀ z, acrossB 0 z = false := fun z => by unfold acrossB; simp
 have ac1 : ∀ z, acrossB z 0 = false := fun z => by unfold acrossB; simp
 by_cases h1 : oa = 0 ∧ ob = 0
 ·rw [if_pos h1]
  unfold crossL
  rw [h1.1, ac0, Bool.false_and]
  unfold sharedM pieceM
  split
  ·rename_i he
   show false = ((1 : Int) == 1 && offE (dotP (laterX l m).1 (laterX l m).2) l m)
   unfold offE laterX
   simp only [isP_dot]
   split <;> simp
  ·split <;> rfl
 ·rw [if_neg h1]
  by_cases h2 : asideB oa ob = true ∨ asideB ca cb = true
  ·rw [if_pos h2]
   show crossL oa ob ca cb = false
   have hac : ∀ a b, asideB a b = true → acrossB a b = false := fun a b h => by unfold asideB at h; unfold acrossB; simp at h ⊢; omega
   unfold crossL
   rcases h2 with h | h
   ·rw [hac _ _ h, Bool.false_and]
   ·rw [hac _ _ h, Bool.and_false]
  ·rw [if_neg h2]
   by_cases h3 : oa = 0
   ·rw [if_pos h3]
    unfold crossL
    rw [h3, ac0, Bool.false_and]
    show false = ((1 : Int) == 1 && offE (dotP l.ax l.ay) l m)
    unfold offE
    simp [isP_dot]
   ·rw [if_neg h3]
    by_cases h4 : ob = 0
    ·rw [if_pos h4]
     unfold crossL
     rw [h4, ac1, Bool.false_and]
     show false = ((1 : Int) == 1 && offE (dotP l.bx l.bY) l m)
     unfold offE
     simp [isP_dot]
    ·rw [if_neg h4]
     have n1 : ¬ asideB oa ob = true := fun h => h2 (.inl h)
     have n2 : ¬ asideB ca cb = true := fun h => h2 (.inr h)
     have hne : oa - ob ≠ 0 := by unfold asideB at n1; simp at n1; omega
     show crossL oa ob ca cb = ((1 : Int) == 1 && offE (partP l oa ob) l m)
     unfold offE crossL
     rw [part_a hne h3 hl, part_b hne h4 hl, part_on eoa eob eca hne, part_on foa fob ecb hne]
     have e1 : acrossB oa ob = true := by unfold asideB at n1; unfold acrossB; simp at n1 ⊢; omega
     rw [e1]
     have e2 : acrossB ca cb = (!decide (ca = 0) && !decide (cb = 0)) := by
      unfold asideB at n2
      unfold acrossB
      rw [Bool.eq_iff_iff]
      simp at n2 ⊢
      omega
     rw [e2]
     rfl
theorem cross_ends (s t : Sg) (hs : ¬ (s.ax = s.bx ∧ s.ay = s.bY)) : crossM (laidS s) (laidS t) = ((meetM (laidS s) (laidS t)).k == 1 && offE (meetM (laidS s) (laidS t)).p s t) := by
 rw [cross_laid, offE_laid]
 rcases laid_or s with h | h
 ·rw [h]; exact hs
 ·rw [h]; exact fun e => hs ⟨e.1.symm, e.2.symm⟩
end CrossMath

namespace CrossMath

theorem aside_ne {oa ob : Int} (h : ¬ asideB oa ob = true) (_ha : oa ≠ 0) (hb : ob ≠ 0) : oa - ob ≠ 0 := by
 unfold asideB at h
 simp at h
 omega
end CrossMath
