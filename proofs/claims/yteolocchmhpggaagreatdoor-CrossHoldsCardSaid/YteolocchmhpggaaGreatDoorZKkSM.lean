namespace CrossMath

structure Sg where
 ax : Int
 ay : Int
 bx : Int
 bY : Int
deriving DecidableEq
structure Pt where
 xn : Int
 xd : Int
 yn : Int
 yd : Int
deriving DecidableEq
structure Mt where
 k : Int
 p : Pt
 q : Pt
deriving DecidableEq
def aheadB (ax ay bx bY : Int) : Bool := decide (ax < bx) || (decide (ax = bx) && decide (ay < bY))
def flipS (s : Sg) : Sg := ⟨s.bx, s.bY, s.ax, s.ay⟩
def turned (s : Sg) : Bool := decide (s.bx - s.ax < 0) || (decide (s.bx - s.ax = 0) && decide (s.bY - s.ay < 0))
def laidS (s : Sg) : Sg := if turned s = true then flipS s else s
def offN (ax ay bx bY nx ny : Int) : Int := (bx - ax) * (ny - ay) - (bY - ay) * (nx - ax)
def offS (m : Sg) (x y : Int) : Int := offN m.ax m.ay m.bx m.bY x y
def asideB (a b : Int) : Bool := (decide (0 < a) && decide (0 < b)) || (decide (a < 0) && decide (b < 0))
def acrossB (a b : Int) : Bool := (decide (a < 0) && decide (0 < b)) || (decide (b < 0) && decide (0 < a))
def frN (n d : Int) : Int := (n.tdiv (Int.gcd n d : Nat)) * (if d < 0 then -1 else 1)
def frD (n d : Int) : Int := ((d.natAbs : Int)).tdiv (Int.gcd n d : Nat)
def dotP (x y : Int) : Pt := ⟨x, 1, y, 1⟩
def atN (oa ob a b : Int) : Int := frN (oa * b - ob * a) (oa - ob)
def atD (oa ob a b : Int) : Int := frD (oa * b - ob * a) (oa - ob)
def partP (l : Sg) (oa ob : Int) : Pt := ⟨atN oa ob l.ax l.bx, atD oa ob l.ax l.bx, atN oa ob l.ay l.bY, atD oa ob l.ay l.bY⟩
def zeroP : Pt := ⟨0, 0, 0, 0⟩
def noneM : Mt := ⟨0, zeroP, zeroP⟩
def touchM (p : Pt) : Mt := ⟨1, p, p⟩
def laterX (l m : Sg) : Int × Int := if aheadB l.ax l.ay m.ax m.ay = true then (m.ax, m.ay) else (l.ax, l.ay)
def earlierX (l m : Sg) : Int × Int := if aheadB m.bx m.bY l.bx l.bY = true then (m.bx, m.bY) else (l.bx, l.bY)
def pieceM (p q : Int × Int) : Mt :=
 if p = q then touchM (dotP p.1 p.2) else if aheadB p.1 p.2 q.1 q.2 = true then ⟨2, dotP p.1 p.2, dotP q.1 q.2⟩ else noneM
def sharedM (l m : Sg) : Mt := pieceM (laterX l m) (earlierX l m)
def meetL (l m : Sg) (oa ob ca cb : Int) : Mt :=
 if oa = 0 ∧ ob = 0 then sharedM l m
 else if asideB oa ob = true ∨ asideB ca cb = true then noneM
 else if oa = 0 then touchM (dotP l.ax l.ay)
 else if ob = 0 then touchM (dotP l.bx l.bY)
 else touchM (partP l oa ob)
def meetM (l m : Sg) : Mt := meetL l m (offS m l.ax l.ay) (offS m l.bx l.bY) (offS l m.ax m.ay) (offS l m.bx m.bY)
def crossL (oa ob ca cb : Int) : Bool := acrossB oa ob && acrossB ca cb
def crossM (l m : Sg) : Bool := crossL (offS m l.ax l.ay) (offS m l.bx l.bY) (offS l m.ax m.ay) (offS l m.bx m.bY)

theorem frN_neg (n d : Int) (hd : d ≠ 0) : frN (-n) (-d) = frN n d := by
 unfold frN
 rw [Int.gcd_neg, Int.neg_gcd, Int.neg_tdiv]
 by_cases h : d < 0
 ·rw [if_pos h, if_neg (by omega)]; omega
 ·rw [if_neg h, if_pos (by omega)]; omega
theorem frD_neg (n d : Int) : frD (-n) (-d) = frD n d := by
 unfold frD
 rw [Int.gcd_neg, Int.neg_gcd, Int.natAbs_neg]
theorem at_flip (oa ob a b : Int) (h : oa ≠ ob) : atN ob oa b a = atN oa ob a b ∧ atD ob oa b a = atD oa ob a b := by
 unfold atN atD
 rw [show ob * a - oa * b = -(oa * b - ob * a) by omega, show ob - oa = -(oa - ob) by omega]
 exact ⟨frN_neg _ _ (by omega), frD_neg _ _⟩
def InOrder (l : Sg) : Prop := l.ax < l.bx ∨ (l.ax = l.bx ∧ l.ay < l.bY)
theorem laid_order (s : Sg) (h : ¬ (s.ax = s.bx ∧ s.ay = s.bY)) : InOrder (laidS s) := by
 unfold laidS
 by_cases ht : turned s = true
 ·rw [if_pos ht]
  simp [turned] at ht
  unfold InOrder flipS
  simp only
  omega
 ·rw [if_neg ht]
  simp [turned] at ht
  unfold InOrder
  omega
end CrossMath

namespace CrossMath

theorem fr_mulk (n d : Int) (k : Nat) (hk : 0 < k) : frN (n * k) (d * k) = frN n d ∧ frD (n * k) (d * k) = frD n d := by
 have hg : Int.gcd (n * k) (d * k) = Int.gcd n d * k := by
  rw [Int.gcd_mul_right]; rfl
 have hkI : (0 : Int) < k := by omega
 unfold frN frD
 rw [hg]
 have e1 : (n * (k : Int)).tdiv ((Int.gcd n d * k : Nat) : Int) = n.tdiv (Int.gcd n d : Nat) := by
  rw [Int.natCast_mul]; exact Int.mul_tdiv_mul_of_pos_left _ _ hkI
 have e2 : (((d * (k : Int)).natAbs : Nat) : Int).tdiv ((Int.gcd n d * k : Nat) : Int) = ((d.natAbs : Nat) : Int).tdiv (Int.gcd n d : Nat) := by
  rw [Int.natAbs_mul, Int.natAbs_natCast, Int.natCast_mul, Int.natCast_mul]; exact Int.mul_tdiv_mul_of_pos_left _ _ hkI
 have e3 : (d * (k : Int) < 0) ↔ (d < 0) := by
  constructor
  ·intro h
   rcases Int.lt_or_le d 0 with h1 | h1
   ·exact h1
   ·have := Int.mul_nonneg h1 (Int.le_of_lt hkI); omega
  ·intro h; exact Int.mul_neg_of_neg_of_pos h hkI
 rw [e1, e2]
 simp only [e3]
 exact ⟨trivial, trivial⟩
theorem fr_mul (n d k : Int) (hd : d ≠ 0) (hk : k ≠ 0) : frN (n * k) (d * k) = frN n d ∧ frD (n * k) (d * k) = frD n d := by
 rcases Int.lt_or_le k 0 with h | h
 ·obtain ⟨m, hm⟩ : ∃ m : Nat, k = -(m : Int) := ⟨k.natAbs, by omega⟩
  subst hm
  have hm0 : 0 < m := by omega
  rw [Int.mul_neg, Int.mul_neg, frN_neg _ _ (by
   intro e
   rcases Int.mul_eq_zero.1 e with e | e <;> omega), frD_neg]
  exact fr_mulk n d m hm0
 ·obtain ⟨m, rfl⟩ : ∃ m : Nat, k = (m : Int) := ⟨k.toNat, by omega⟩
  exact fr_mulk n d m (by omega)
theorem fr_same {n d n' d' : Int} (hd : d ≠ 0) (hd' : d' ≠ 0) (h : n * d' = n' * d) : frN n d = frN n' d' ∧ frD n d = frD n' d' := by
 have h1 := fr_mul n d d' hd hd'
 have h2 := fr_mul n' d' d hd' hd
 rw [h, Int.mul_comm d d'] at h1
 exact ⟨h1.1.symm.trans h2.1, h1.2.symm.trans h2.2⟩
theorem frD_pos {n d : Int} (hd : d ≠ 0) : 0 < frD n d := by
 unfold frD
 have hg : (Int.gcd n d : Nat) ∣ d.natAbs := Int.natAbs_dvd_natAbs.2 (Int.gcd_dvd_right n d) |> fun h => by simpa using h
 obtain ⟨c, hc⟩ := hg
 have hg0 : 0 < Int.gcd n d := by
  rcases Nat.eq_zero_or_pos (Int.gcd n d) with h | h
  ·rw [h] at hc; omega
  ·exact h
 have hc0 : 0 < c := by
  rcases Nat.eq_zero_or_pos c with h | h
  ·rw [h] at hc; omega
  ·exact h
 rw [hc, Int.natCast_mul, Int.mul_tdiv_cancel_left _ (by omega)]
 omega
theorem fr_val {n d : Int} (hd : d ≠ 0) : frN n d * d = n * frD n d := by
 unfold frN frD
 have hn : ((Int.gcd n d : Nat) : Int) ∣ n := Int.gcd_dvd_left n d
 have hdd : ((Int.gcd n d : Nat) : Int) ∣ d := Int.gcd_dvd_right n d
 obtain ⟨a, ha⟩ := hn
 obtain ⟨b, hb⟩ := hdd
 have hg0 : ((Int.gcd n d : Nat) : Int) ≠ 0 := by
  intro h; rw [h] at hb; omega
 generalize ((Int.gcd n d : Nat) : Int) = g at *
 have hab : ((d.natAbs : Nat) : Int) = d * (if d < 0 then -1 else 1) := by split <;> omega
 rw [hab]
 generalize (if d < 0 then (-1 : Int) else 1) = s
 subst ha hb
 rw [Int.mul_tdiv_cancel_left _ hg0, show g * b * s = g * (b * s) by rw [Int.mul_assoc], Int.mul_tdiv_cancel_left _ hg0]
 rw [show a * s * (g * b) = g * (a * (b * s)) by rw [Int.mul_comm g b, ← Int.mul_assoc, Int.mul_comm g]; congr 1; rw [Int.mul_assoc, Int.mul_comm s b], show g * a * (b * s) = g * (a * (b * s)) by rw [Int.mul_assoc]]
end CrossMath

namespace CrossMath

def ofD (ux uy vx vy : Int) : Int := ux * vy - uy * vx
theorem off_a (s t : Sg) : offS t s.ax s.ay = ofD (t.ax - s.ax) (t.ay - s.ay) (t.bx - t.ax) (t.bY - t.ay) := by
 unfold offS offN ofD
 rw [show s.ay - t.ay = -(t.ay - s.ay) by omega, show s.ax - t.ax = -(t.ax - s.ax) by omega, Int.mul_neg, Int.mul_neg, Int.mul_comm (t.bx - t.ax), Int.mul_comm (t.bY - t.ay)]
 omega
theorem off_b (s t : Sg) : offS t s.bx s.bY = offS t s.ax s.ay - ofD (s.bx - s.ax) (s.bY - s.ay) (t.bx - t.ax) (t.bY - t.ay) := by
 unfold offS offN ofD
 rw [show s.bY - t.ay = (s.ay - t.ay) + (s.bY - s.ay) by omega, show s.bx - t.ax = (s.ax - t.ax) + (s.bx - s.ax) by omega, Int.mul_add, Int.mul_add, Int.mul_comm (s.bx - s.ax) (t.bY - t.ay), Int.mul_comm (s.bY - s.ay) (t.bx - t.ax)]
 omega
theorem off_c (s t : Sg) : offS s t.ax t.ay = -(ofD (t.ax - s.ax) (t.ay - s.ay) (s.bx - s.ax) (s.bY - s.ay)) := by
 unfold offS offN ofD
 rw [Int.mul_comm (s.bx - s.ax), Int.mul_comm (s.bY - s.ay)]
 omega
theorem off_e (s t : Sg) : offS s t.bx t.bY = offS s t.ax t.ay + ofD (s.bx - s.ax) (s.bY - s.ay) (t.bx - t.ax) (t.bY - t.ay) := by
 unfold offS offN ofD
 rw [show t.bY - s.ay = (t.ay - s.ay) + (t.bY - t.ay) by omega, show t.bx - s.ax = (t.ax - s.ax) + (t.bx - t.ax) by omega, Int.mul_add, Int.mul_add]
 omega
end CrossMath

namespace CrossMath

theorem part_oa0 (l : Sg) {ob : Int} (h : ob ≠ 0) : partP l 0 ob = dotP l.ax l.ay := by
 have key : ∀ a b : Int, atN 0 ob a b = a ∧ atD 0 ob a b = 1 := fun a b => by
  unfold atN atD
  have e := fr_same (n := 0 * b - ob * a) (d := 0 - ob) (n' := a) (d' := 1) (by omega) (by omega) (by
   rw [Int.zero_mul, Int.mul_one, Int.zero_sub, Int.zero_sub, Int.mul_neg, Int.mul_comm])
  have f1 : frN a 1 = a ∧ frD a 1 = 1 := by
   unfold frN frD
   rw [Int.gcd_one_right]
   simp
  exact ⟨e.1.trans f1.1, e.2.trans f1.2⟩
 unfold partP dotP
 rw [(key _ _).1, (key _ _).2, (key _ _).1, (key _ _).2]
theorem part_flip (l : Sg) {oa ob : Int} (h : oa ≠ ob) : partP (flipS l) ob oa = partP l oa ob := by
 unfold partP flipS
 simp only
 rw [(at_flip oa ob l.ax l.bx h).1, (at_flip oa ob l.ax l.bx h).2, (at_flip oa ob l.ay l.bY h).1, (at_flip oa ob l.ay l.bY h).2]
theorem part_ob0 (l : Sg) {oa : Int} (h : oa ≠ 0) : partP l oa 0 = dotP l.bx l.bY := by
 rw [← part_flip l h, part_oa0 (flipS l) h]
 rfl
def ptM (l : Sg) (oa ob ca cb : Int) : Mt := if asideB oa ob = true ∨ asideB ca cb = true then noneM else touchM (partP l oa ob)
theorem meetL_pt (l m : Sg) {oa ob : Int} (ca cb : Int) (h : oa ≠ ob) : meetL l m oa ob ca cb = ptM l oa ob ca cb := by
 unfold meetL ptM
 rw [if_neg (by omega)]
 split
 ·rfl
 ·split
  ·rename_i h0
   subst h0
   rw [part_oa0 l (by omega)]
  ·split
   ·rename_i h0
    subst h0
    rw [part_ob0 l (by omega)]
   ·rfl
theorem laid_or (s : Sg) : laidS s = s ∨ laidS s = flipS s := by
 unfold laidS
 split
 ·exact .inr rfl
 ·exact .inl rfl
theorem par_off {ux uy vx vy wx wy : Int} (hu : ¬ (ux = 0 ∧ uy = 0)) (hv : ¬ (vx = 0 ∧ vy = 0)) (h : ofD ux uy vx vy = 0) : ofD wx wy vx vy = 0 ↔ ofD wx wy ux uy = 0 := by
 unfold ofD at *
 have h' : ux * vy = uy * vx := by omega
 -- u_x (w x v) = v_x (w x u), u_y (w x v) = v_y (w x u)
 have e1 : ux * (wx * vy - wy * vx) = vx * (wx * uy - wy * ux) := by
  rw [Int.mul_sub, Int.mul_sub]
  have a1 : ux * (wx * vy) = wx * (ux * vy) := by rw [← Int.mul_assoc, Int.mul_comm ux wx, Int.mul_assoc]
  have a2 : vx * (wx * uy) = wx * (uy * vx) := by rw [← Int.mul_assoc, Int.mul_comm vx wx, Int.mul_assoc, Int.mul_comm vx uy]
  have a3 : ux * (wy * vx) = vx * (wy * ux) := by rw [← Int.mul_assoc, Int.mul_comm (ux * wy), Int.mul_comm ux wy]
  rw [a1, a2, a3, h']
 have e2 : uy * (wx * vy - wy * vx) = vy * (wx * uy - wy * ux) := by
  rw [Int.mul_sub, Int.mul_sub]
  have a1 : uy * (wx * vy) = vy * (wx * uy) := by rw [← Int.mul_assoc, Int.mul_comm (uy * wx), Int.mul_comm uy wx]
  have a2 : uy * (wy * vx) = wy * (uy * vx) := by rw [← Int.mul_assoc, Int.mul_comm uy wy, Int.mul_assoc]
  have a3 : vy * (wy * ux) = wy * (ux * vy) := by rw [← Int.mul_assoc, Int.mul_comm vy wy, Int.mul_assoc, Int.mul_comm vy ux]
  rw [a1, a2, a3, h']
 constructor
 ·intro h0
  rw [h0, Int.mul_zero] at e1 e2
  by_cases hx : vx = 0
  ·have hy : vy ≠ 0 := fun e => hv ⟨hx, e⟩
   rcases Int.mul_eq_zero.1 e2.symm with h1 | h1
   ·exact absurd h1 hy
   ·exact h1
  ·rcases Int.mul_eq_zero.1 e1.symm with h1 | h1
   ·exact absurd h1 hx
   ·exact h1
 ·intro h0
  rw [h0, Int.mul_zero] at e1 e2
  by_cases hx : ux = 0
  ·have hy : uy ≠ 0 := fun e => hu ⟨hx, e⟩
   rcases Int.mul_eq_zero.1 e2 with h1 | h1
   ·exact absurd h1 hy
   ·exact h1
  ·rcases Int.mul_eq_zero.1 e1 with h1 | h1
   ·exact absurd h1 hx
   ·exact h1
end CrossMath

namespace CrossMath

end CrossMath

namespace CrossMath

theorem nn_of {a S c : Int} (hS : 0 < S) (h : a * S = c) (hc : 0 ≤ c) : 0 ≤ a := by
 by_cases h0 : 0 ≤ a
 ·exact h0
 ·exfalso
  have := Int.mul_neg_of_neg_of_pos (show a < 0 by omega) hS
  omega
theorem np_of {a S c : Int} (hS : 0 < S) (h : a * S = c) (hc : c ≤ 0) : a ≤ 0 := by
 by_cases h0 : a ≤ 0
 ·exact h0
 ·exfalso
  have := Int.mul_pos (show 0 < a by omega) hS
  omega
theorem z_of {a S : Int} (hS : S ≠ 0) (h : a * S = 0) : a = 0 := by
 rcases Int.mul_eq_zero.1 h with h | h
 ·exact h
 ·exact absurd h hS
def cmp3 (a b : Int) : Int := if a < b then -1 else if b < a then 1 else 0
def cmpPt (p : Pt) (x y : Int) : Int := if p.xn = x * p.xd then cmp3 p.yn (y * p.yd) else cmp3 p.xn (x * p.xd)
def valS (s : Sg) (p : Pt) : Int := (s.bx - s.ax) * (p.yn - s.ay * p.yd) * p.xd - (s.bY - s.ay) * (p.xn - s.ax * p.xd) * p.yd
def onB (s : Sg) (p : Pt) : Bool := decide (valS s p = 0) && decide (cmpPt p s.ax s.ay ≠ cmpPt p s.bx s.bY)
theorem val_flip (s : Sg) (p : Pt) : valS (flipS s) p = -valS s p := by
 unfold valS flipS; grind
theorem on_flip (s : Sg) (p : Pt) : onB (flipS s) p = onB s p := by
 have h := val_flip s p
 unfold onB
 rw [h]
 have e1 : (flipS s).ax = s.bx ∧ (flipS s).ay = s.bY ∧ (flipS s).bx = s.ax ∧ (flipS s).bY = s.ay := ⟨rfl, rfl, rfl, rfl⟩
 rw [e1.1, e1.2.1, e1.2.2.1, e1.2.2.2]
 have e2 : decide (-valS s p = 0) = decide (valS s p = 0) := decide_eq_decide.2 (by omega)
 have e3 : decide (cmpPt p s.bx s.bY ≠ cmpPt p s.ax s.ay) = decide (cmpPt p s.ax s.ay ≠ cmpPt p s.bx s.bY) := decide_eq_decide.2 ⟨Ne.symm, Ne.symm⟩
 rw [e2, e3]
theorem on_laid (s : Sg) (p : Pt) : onB (laidS s) p = onB s p := by
 rcases laid_or s with h | h <;> rw [h]
 exact on_flip s p
def geP (p : Pt) (x y : Int) : Prop := x * p.xd < p.xn ∨ (p.xn = x * p.xd ∧ y * p.yd ≤ p.yn)
def leP (p : Pt) (x y : Int) : Prop := p.xn < x * p.xd ∨ (p.xn = x * p.xd ∧ p.yn ≤ y * p.yd)
theorem on_iff {l : Sg} {p : Pt} (h : InOrder l) (hx : 0 < p.xd) (hy : 0 < p.yd) : onB l p = true ↔ valS l p = 0 ∧ geP p l.ax l.ay ∧ leP p l.bx l.bY := by
 have h1 : l.ax * p.xd < l.bx * p.xd ∨ (l.ax * p.xd = l.bx * p.xd ∧ l.ay * p.yd < l.bY * p.yd) := by
  rcases h with h | ⟨h, h'⟩
  ·exact .inl (Int.mul_lt_mul_of_pos_right h hx)
  ·exact .inr ⟨by rw [h], Int.mul_lt_mul_of_pos_right h' hy⟩
 unfold onB cmpPt geP leP cmp3
 generalize valS l p = V
 generalize l.ax * p.xd = a1 at *
 generalize l.bx * p.xd = b1 at *
 generalize l.ay * p.yd = a2 at *
 generalize l.bY * p.yd = b2 at *
 simp only [Bool.and_eq_true, decide_eq_true_eq]
 constructor
 ·rintro ⟨h0, h2⟩
  refine ⟨h0, ?_, ?_⟩ <;> (repeat' split at h2) <;> omega
 ·rintro ⟨h0, h2, h3⟩
  refine ⟨h0, ?_⟩
  (repeat' split) <;> omega
def Lam (l : Sg) (p : Pt) (k S : Int) : Prop := 0 < S ∧ 0 ≤ k ∧ k ≤ S ∧ (p.xn - l.ax * p.xd) * S = k * ((l.bx - l.ax) * p.xd) ∧ (p.yn - l.ay * p.yd) * S = k * ((l.bY - l.ay) * p.yd)
theorem on_lam {l : Sg} {p : Pt} (h : InOrder l) (hx : 0 < p.xd) (hy : 0 < p.yd) : onB l p = true ↔ ∃ k S, Lam l p k S := by
 rw [on_iff h hx hy]
 constructor
 ·rintro ⟨h0, h1, h2⟩
  unfold valS at h0
  rcases h with h | ⟨h, h'⟩
  ·have hp : 0 < (l.bx - l.ax) * p.xd := Int.mul_pos (by omega) hx
   refine ⟨p.xn - l.ax * p.xd, (l.bx - l.ax) * p.xd, hp, ?_, ?_, rfl, by grind⟩
   ·unfold geP at h1; omega
   ·unfold leP at h2
    have : (l.bx - l.ax) * p.xd = l.bx * p.xd - l.ax * p.xd := Int.sub_mul _ _ _
    omega
  ·have hp : 0 < (l.bY - l.ay) * p.yd := Int.mul_pos (by omega) hy
   have e : (l.bY - l.ay) * p.yd = l.bY * p.yd - l.ay * p.yd := Int.sub_mul _ _ _
   have e0 : l.bx - l.ax = 0 := by omega
   have ez : p.xn - l.ax * p.xd = 0 := by
    refine z_of (S := (l.bY - l.ay) * p.yd) (by omega) ?_
    rw [e0] at h0
    grind
   refine ⟨p.yn - l.ay * p.yd, (l.bY - l.ay) * p.yd, hp, ?_, ?_, by rw [ez, e0]; simp, rfl⟩
   ·unfold geP at h1; omega
   ·unfold leP at h2
    rw [h] at ez
    omega
 ·rintro ⟨k, S, hS, hk, hkS, e1, e2⟩
  have hv : valS l p = 0 := by
   refine z_of (S := S) (by omega) ?_
   unfold valS
   grind
  refine ⟨hv, ?_, ?_⟩
  ·unfold geP
   rcases h with h | ⟨h, h'⟩
   ·have hp : 0 < (l.bx - l.ax) * p.xd := Int.mul_pos (by omega) hx
    have h1 := nn_of hS e1 (Int.mul_nonneg hk (by omega))
    by_cases h2 : p.xn - l.ax * p.xd = 0
    ·rw [h2] at e1
     have hk0 : k = 0 := z_of (S := (l.bx - l.ax) * p.xd) (by omega) (by omega)
     subst hk0
     have := z_of (a := p.yn - l.ay * p.yd) (S := S) (by omega) (by rw [e2]; simp)
     omega
    ·omega
   ·have e0 : l.bx - l.ax = 0 := by omega
    have h1 := z_of (a := p.xn - l.ax * p.xd) (S := S) (by omega) (by rw [e1, e0]; simp)
    have h2 := nn_of hS e2 (Int.mul_nonneg hk (Int.mul_nonneg (by omega) (by omega)))
    omega
  ·unfold leP
   have f1 : (p.xn - l.bx * p.xd) * S = (k - S) * ((l.bx - l.ax) * p.xd) := by grind
   have f2 : (p.yn - l.bY * p.yd) * S = (k - S) * ((l.bY - l.ay) * p.yd) := by grind
   rcases h with h | ⟨h, h'⟩
   ·have hp : 0 < (l.bx - l.ax) * p.xd := Int.mul_pos (by omega) hx
    have h1 := np_of hS f1 (Int.mul_nonpos_of_nonpos_of_nonneg (by omega) (by omega))
    by_cases h2 : p.xn - l.bx * p.xd = 0
    ·rw [h2] at f1
     have hk0 : k - S = 0 := z_of (S := (l.bx - l.ax) * p.xd) (by omega) (by omega)
     rw [hk0] at f2
     have := z_of (a := p.yn - l.bY * p.yd) (S := S) (by omega) (by rw [f2]; simp)
     omega
    ·omega
   ·have e0 : l.bx - l.ax = 0 := by omega
    have h1 := z_of (a := p.xn - l.bx * p.xd) (S := S) (by omega) (by rw [f1, e0]; simp)
    have h2 := np_of hS f2 (Int.mul_nonpos_of_nonpos_of_nonneg (by omega) (Int.mul_nonneg (by omega) (by omega)))
    omega
theorem sq_pos {d : Int} (h : d ≠ 0) : 0 < d * d := by
 rcases Int.lt_or_gt_of_ne h with h | h
 ·exact Int.mul_pos_of_neg_of_neg h h
 ·exact Int.mul_pos h h
theorem part_lam {l : Sg} {oa ob : Int} {p : Pt} (hd : oa - ob ≠ 0) (ha : asideB oa ob = false) (e1 : p.xn * (oa - ob) = (oa * l.bx - ob * l.ax) * p.xd) (e2 : p.yn * (oa - ob) = (oa * l.bY - ob * l.ay) * p.yd) : Lam l p (oa * (oa - ob)) ((oa - ob) * (oa - ob)) := by
 have hs : 0 ≤ oa * (oa - ob) ∧ 0 ≤ -(ob * (oa - ob)) := by
  unfold asideB at ha
  simp only [Bool.or_eq_false_iff, Bool.and_eq_false_iff, decide_eq_false_iff_not] at ha
  rcases Int.lt_trichotomy oa 0 with h | h | h
  ·have h1 : 0 ≤ ob := by omega
   refine ⟨Int.mul_nonneg_of_nonpos_of_nonpos (by omega) (by omega), ?_⟩
   rw [← Int.mul_neg]
   exact Int.mul_nonneg h1 (by omega)
  ·subst h
   refine ⟨by simp, ?_⟩
   have : -(ob * (0 - ob)) = ob * ob := by grind
   rw [this]
   exact Int.le_of_lt (sq_pos (by omega))
  ·have h1 : ob ≤ 0 := by omega
   refine ⟨Int.mul_nonneg (by omega) (by omega), ?_⟩
   rw [← Int.neg_mul]
   exact Int.mul_nonneg (by omega) (by omega)
 have e : (oa - ob) * (oa - ob) = oa * (oa - ob) - ob * (oa - ob) := Int.sub_mul _ _ _
 refine ⟨sq_pos hd, hs.1, by omega, by grind, by grind⟩
theorem lam_off {l m : Sg} {p : Pt} {k S : Int} (hx : 0 < p.xd) (hy : 0 < p.yd) (h : Lam l p k S) (hv : valS m p = 0) : S * offS m l.ax l.ay = k * (offS m l.ax l.ay - offS m l.bx l.bY) := by
 obtain ⟨_, _, _, e1, e2⟩ := h
 have hp := Int.mul_pos hx hy
 have : (S * offS m l.ax l.ay - k * (offS m l.ax l.ay - offS m l.bx l.bY)) * (p.xd * p.yd) = 0 := by
  unfold valS at hv
  unfold offS offN
  grind
 have := z_of (by omega) this
 omega
theorem lam_aside {l m : Sg} {p : Pt} {k S : Int} (hx : 0 < p.xd) (hy : 0 < p.yd) (h : Lam l p k S) (hv : valS m p = 0) : asideB (offS m l.ax l.ay) (offS m l.bx l.bY) = false := by
 have e := lam_off hx hy h hv
 obtain ⟨hS, hk, hkS, _, _⟩ := h
 generalize offS m l.ax l.ay = oa at *
 generalize offS m l.bx l.bY = ob at *
 have e' : ob * S = (k - S) * (oa - ob) := by grind
 have e : oa * S = k * (oa - ob) := by grind
 unfold asideB
 simp only [Bool.or_eq_false_iff, Bool.and_eq_false_iff, decide_eq_false_iff_not]
 rcases Int.lt_trichotomy (oa - ob) 0 with h | h | h
 ·have h1 := np_of hS e (Int.mul_nonpos_of_nonneg_of_nonpos hk (by omega))
  have h2 := nn_of hS e' (Int.mul_nonneg_of_nonpos_of_nonpos (by omega) (by omega))
  omega
 ·have h1 := z_of (a := oa) (S := S) (by omega) (by rw [e, h]; simp)
  omega
 ·have h1 := nn_of hS e (Int.mul_nonneg hk (by omega))
  have h2 := np_of hS e' (Int.mul_nonpos_of_nonpos_of_nonneg (by omega) (by omega))
  omega
def RightP (p : Pt) : Prop := 0 < p.xd ∧ Int.gcd p.xn p.xd = 1 ∧ 0 < p.yd ∧ Int.gcd p.yn p.yd = 1
theorem fr_low {n d : Int} (hd : 0 < d) (hg : Int.gcd n d = 1) : frN n d = n ∧ frD n d = d := by
 unfold frN frD
 rw [hg, if_neg (by omega)]
 simp
 omega
theorem fr_of {n d a b : Int} (hd : d ≠ 0) (hb : 0 < b) (hg : Int.gcd a b = 1) (h : a * d = n * b) : frN n d = a ∧ frD n d = b := by
 have h1 := fr_same (n := n) (d := d) (n' := a) (d' := b) hd (by omega) (by omega)
 rw [h1.1, h1.2]
 exact fr_low hb hg
theorem lam_part {l m : Sg} {p : Pt} {k S : Int} (hp : RightP p) (h : Lam l p k S) (hv : valS m p = 0) (hd : offS m l.ax l.ay - offS m l.bx l.bY ≠ 0) : partP l (offS m l.ax l.ay) (offS m l.bx l.bY) = p := by
 have e := lam_off hp.1 hp.2.2.1 h hv
 obtain ⟨hS, _, _, e1, e2⟩ := h
 generalize offS m l.ax l.ay = oa at *
 generalize offS m l.bx l.bY = ob at *
 have f1 : p.xn * (oa - ob) = (oa * l.bx - ob * l.ax) * p.xd := by
  have : (p.xn * (oa - ob) - (oa * l.bx - ob * l.ax) * p.xd) * S = 0 := by grind
  have := z_of (by omega) this
  omega
 have f2 : p.yn * (oa - ob) = (oa * l.bY - ob * l.ay) * p.yd := by
  have : (p.yn * (oa - ob) - (oa * l.bY - ob * l.ay) * p.yd) * S = 0 := by grind
  have := z_of (by omega) this
  omega
 have g1 := fr_of hd hp.1 hp.2.1 f1
 have g2 := fr_of hd hp.2.2.1 hp.2.2.2 f2
 unfold partP atN atD
 rw [g1.1, g1.2, g2.1, g2.2]
theorem part_sym {l m : Sg} (hd : offS m l.ax l.ay - offS m l.bx l.bY ≠ 0) : partP m (offS l m.ax m.ay) (offS l m.bx m.bY) = partP l (offS m l.ax l.ay) (offS m l.bx l.bY) := by
 have hd2 : offS l m.ax m.ay - offS l m.bx m.bY ≠ 0 := by
  intro e; apply hd; unfold offS offN at *; grind
 have f1 : (offS l m.ax m.ay * m.bx - offS l m.bx m.bY * m.ax) * (offS m l.ax l.ay - offS m l.bx l.bY) = (offS m l.ax l.ay * l.bx - offS m l.bx l.bY * l.ax) * (offS l m.ax m.ay - offS l m.bx m.bY) := by
  unfold offS offN; grind
 have f2 : (offS l m.ax m.ay * m.bY - offS l m.bx m.bY * m.ay) * (offS m l.ax l.ay - offS m l.bx l.bY) = (offS m l.ax l.ay * l.bY - offS m l.bx l.bY * l.ay) * (offS l m.ax m.ay - offS l m.bx m.bY) := by
  unfold offS offN; grind
 have g1 := fr_same hd2 hd f1
 have g2 := fr_same hd2 hd f2
 unfold partP atN atD
 rw [g1.1, g1.2, g2.1, g2.2]
theorem part_right {l : Sg} {oa ob : Int} (hd : oa - ob ≠ 0) : 0 < (partP l oa ob).xd ∧ 0 < (partP l oa ob).yd ∧ (partP l oa ob).xn * (oa - ob) = (oa * l.bx - ob * l.ax) * (partP l oa ob).xd ∧ (partP l oa ob).yn * (oa - ob) = (oa * l.bY - ob * l.ay) * (partP l oa ob).yd :=
 ⟨frD_pos hd, frD_pos hd, fr_val hd, fr_val hd⟩
theorem meet_pt_on {l m : Sg} (hl : InOrder l) (hm : InOrder m) (hd : offS m l.ax l.ay ≠ offS m l.bx l.bY) : meetM l m = noneM ∨ ∃ q, meetM l m = touchM q ∧ onB l q = true ∧ onB m q = true := by
 have hd' : offS m l.ax l.ay - offS m l.bx l.bY ≠ 0 := by omega
 have hd2 : offS l m.ax m.ay - offS l m.bx m.bY ≠ 0 := by
  intro e; apply hd'; unfold offS offN at *; grind
 unfold meetM
 rw [meetL_pt _ _ _ _ hd]
 unfold ptM
 by_cases ha : asideB (offS m l.ax l.ay) (offS m l.bx l.bY) = true ∨ asideB (offS l m.ax m.ay) (offS l m.bx m.bY) = true
 ·rw [if_pos ha]; exact .inl rfl
 ·rw [if_neg ha]
  have ha1 : asideB (offS m l.ax l.ay) (offS m l.bx l.bY) = false := by cases h : asideB (offS m l.ax l.ay) (offS m l.bx l.bY); rfl; exact absurd (.inl h) ha
  have ha2 : asideB (offS l m.ax m.ay) (offS l m.bx m.bY) = false := by cases h : asideB (offS l m.ax m.ay) (offS l m.bx m.bY); rfl; exact absurd (.inr h) ha
  obtain ⟨r1, r2, r3, r4⟩ := part_right (l := l) hd'
  obtain ⟨s1, s2, s3, s4⟩ := part_right (l := m) hd2
  refine .inr ⟨_, rfl, (on_lam hl r1 r2).2 ⟨_, _, part_lam hd' ha1 r3 r4⟩, ?_⟩
  rw [← part_sym hd']
  exact (on_lam hm s1 s2).2 ⟨_, _, part_lam hd2 ha2 s3 s4⟩
theorem meet_pt_is {l m : Sg} {p : Pt} (hl : InOrder l) (hm : InOrder m) (hd : offS m l.ax l.ay ≠ offS m l.bx l.bY) (hp : RightP p) (h1 : onB l p = true) (h2 : onB m p = true) : meetM l m = touchM p := by
 have hd' : offS m l.ax l.ay - offS m l.bx l.bY ≠ 0 := by omega
 have v1 := ((on_iff hl hp.1 hp.2.2.1).1 h1).1
 have v2 := ((on_iff hm hp.1 hp.2.2.1).1 h2).1
 obtain ⟨k, S, L1⟩ := (on_lam hl hp.1 hp.2.2.1).1 h1
 obtain ⟨k2, S2, L2⟩ := (on_lam hm hp.1 hp.2.2.1).1 h2
 have a1 := lam_aside hp.1 hp.2.2.1 L1 v2
 have a2 := lam_aside hp.1 hp.2.2.1 L2 v1
 unfold meetM
 rw [meetL_pt _ _ _ _ hd]
 unfold ptM
 rw [if_neg (by rw [a1, a2]; simp), lam_part hp L1 v2 hd']
theorem order_ne {l : Sg} (h : InOrder l) : ¬ (l.bx - l.ax = 0 ∧ l.bY - l.ay = 0) := by
 unfold InOrder at h; omega
theorem off_par {l m : Sg} (hl : InOrder l) (hm : InOrder m) (h : offS m l.ax l.ay = offS m l.bx l.bY) : offS l m.ax m.ay = offS l m.bx m.bY ∧ (offS m l.ax l.ay = 0 ↔ offS l m.ax m.ay = 0) := by
 have hd : ofD (l.bx - l.ax) (l.bY - l.ay) (m.bx - m.ax) (m.bY - m.ay) = 0 := by have := off_b l m; omega
 refine ⟨by have := off_e l m; omega, ?_⟩
 rw [off_a l m, off_c l m]
 have := par_off (wx := m.ax - l.ax) (wy := m.ay - l.ay) (order_ne hl) (order_ne hm) hd
 omega
theorem both_par {l m : Sg} {p : Pt} (hl : InOrder l) (hm : InOrder m) (hx : 0 < p.xd) (hy : 0 < p.yd) (hd : offS m l.ax l.ay = offS m l.bx l.bY) (h1 : onB l p = true) (h2 : onB m p = true) : offS m l.ax l.ay = 0 := by
 obtain ⟨k, S, L1⟩ := (on_lam hl hx hy).1 h1
 have e := lam_off hx hy L1 ((on_iff hm hx hy).1 h2).1
 rw [hd, Int.sub_self, Int.mul_zero] at e
 rw [hd]
 exact z_of (S := S) (by have := L1.1; omega) (by rw [Int.mul_comm]; exact e)
theorem par_none {l m : Sg} (hd : offS m l.ax l.ay = offS m l.bx l.bY) (h0 : offS m l.ax l.ay ≠ 0) : meetM l m = noneM := by
 unfold meetM meetL
 rw [if_neg (by omega), if_pos]
 left
 rw [← hd]
 unfold asideB
 simp
 omega
theorem par_shared {l m : Sg} (ha : offS m l.ax l.ay = 0) (hb : offS m l.bx l.bY = 0) : meetM l m = sharedM l m := by
 unfold meetM meetL
 rw [if_pos ⟨ha, hb⟩]
theorem off_self (l : Sg) : offS l l.ax l.ay = 0 ∧ offS l l.bx l.bY = 0 := by
 unfold offS offN
 constructor <;> grind
def leN (a b : Int × Int) : Prop := a.1 < b.1 ∨ (a.1 = b.1 ∧ a.2 ≤ b.2)
theorem ahead_iff (a b c d : Int) : aheadB a b c d = true ↔ (a < c ∨ (a = c ∧ b < d)) := by
 unfold aheadB
 simp
theorem later_is (l m : Sg) : leN (l.ax, l.ay) (laterX l m) ∧ leN (m.ax, m.ay) (laterX l m) ∧ (laterX l m = (l.ax, l.ay) ∨ laterX l m = (m.ax, m.ay)) := by
 have h := ahead_iff l.ax l.ay m.ax m.ay
 unfold laterX
 by_cases e : aheadB l.ax l.ay m.ax m.ay = true
 ·have g := h.1 e
  rw [if_pos e]
  exact ⟨by unfold leN; simp only; omega, .inr ⟨rfl, Int.le_refl _⟩, .inr rfl⟩
 ·have g : ¬ (l.ax < m.ax ∨ (l.ax = m.ax ∧ l.ay < m.ay)) := fun q => e (h.2 q)
  rw [if_neg e]
  exact ⟨.inr ⟨rfl, Int.le_refl _⟩, by unfold leN; simp only; omega, .inl rfl⟩
theorem earlier_is (l m : Sg) : leN (earlierX l m) (l.bx, l.bY) ∧ leN (earlierX l m) (m.bx, m.bY) ∧ (earlierX l m = (l.bx, l.bY) ∨ earlierX l m = (m.bx, m.bY)) := by
 have h := ahead_iff m.bx m.bY l.bx l.bY
 unfold earlierX
 by_cases e : aheadB m.bx m.bY l.bx l.bY = true
 ·have g := h.1 e
  rw [if_pos e]
  exact ⟨by unfold leN; simp only; omega, .inr ⟨rfl, Int.le_refl _⟩, .inr rfl⟩
 ·have g : ¬ (m.bx < l.bx ∨ (m.bx = l.bx ∧ m.bY < l.bY)) := fun q => e (h.2 q)
  rw [if_neg e]
  exact ⟨.inr ⟨rfl, Int.le_refl _⟩, by unfold leN; simp only; omega, .inl rfl⟩
theorem on_dot {l : Sg} (h : InOrder l) (x y : Int) : onB l (dotP x y) = true ↔ offS l x y = 0 ∧ leN (l.ax, l.ay) (x, y) ∧ leN (x, y) (l.bx, l.bY) := by
 rw [on_iff h (show (0 : Int) < 1 by decide) (show (0 : Int) < 1 by decide)]
 have e : valS l (dotP x y) = offS l x y := by unfold valS offS offN dotP; grind
 rw [e]
 unfold geP leP leN dotP
 simp only [Int.mul_one]
 omega
theorem leN_trans {a b c : Int × Int} (h : leN a b) (g : leN b c) : leN a c := by unfold leN at *; omega
theorem shared_on {l m : Sg} (hl : InOrder l) (hm : InOrder m) (ha : offS m l.ax l.ay = 0) (hb : offS m l.bx l.bY = 0) (hc : offS l m.ax m.ay = 0) (he : offS l m.bx m.bY = 0) :
 sharedM l m = noneM ∨ ∃ q r : Int × Int, ((sharedM l m = touchM (dotP q.1 q.2) ∧ q = r) ∨ sharedM l m = ⟨2, dotP q.1 q.2, dotP r.1 r.2⟩) ∧ onB l (dotP q.1 q.2) = true ∧ onB m (dotP q.1 q.2) = true ∧ onB l (dotP r.1 r.2) = true ∧ onB m (dotP r.1 r.2) = true := by
 obtain ⟨p1, p2, p3⟩ := later_is l m
 obtain ⟨q1, q2, q3⟩ := earlier_is l m
 have hs := off_self l
 have ht := off_self m
 have hon : leN (laterX l m) (earlierX l m) → onB l (dotP (laterX l m).1 (laterX l m).2) = true ∧ onB m (dotP (laterX l m).1 (laterX l m).2) = true ∧ onB l (dotP (earlierX l m).1 (earlierX l m).2) = true ∧ onB m (dotP (earlierX l m).1 (earlierX l m).2) = true := fun hle => by
  refine ⟨(on_dot hl _ _).2 ⟨?_, p1, leN_trans hle q1⟩, (on_dot hm _ _).2 ⟨?_, p2, leN_trans hle q2⟩, (on_dot hl _ _).2 ⟨?_, leN_trans p1 hle, q1⟩, (on_dot hm _ _).2 ⟨?_, leN_trans p2 hle, q2⟩⟩
  ·rcases p3 with e | e <;> rw [e]
   ·exact hs.1
   ·exact hc
  ·rcases p3 with e | e <;> rw [e]
   ·exact ha
   ·exact ht.1
  ·rcases q3 with e | e <;> rw [e]
   ·exact hs.2
   ·exact he
  ·rcases q3 with e | e <;> rw [e]
   ·exact hb
   ·exact ht.2
 unfold sharedM pieceM
 by_cases e : laterX l m = earlierX l m
 ·rw [if_pos e]
  exact .inr ⟨_, _, .inl ⟨rfl, e⟩, hon (by rw [e]; exact .inr ⟨rfl, Int.le_refl _⟩)⟩
 ·rw [if_neg e]
  by_cases g : aheadB (laterX l m).1 (laterX l m).2 (earlierX l m).1 (earlierX l m).2 = true
  ·rw [if_pos g]
   have := (ahead_iff _ _ _ _).1 g
   exact .inr ⟨_, _, .inr rfl, hon (by unfold leN; omega)⟩
  ·rw [if_neg g]; exact .inl rfl
theorem dot_of {p : Pt} {x y : Int} (hp : RightP p) (h1 : geP p x y) (h2 : leP p x y) : p = dotP x y := by
 have e : p.xn = x * p.xd ∧ p.yn = y * p.yd := by unfold geP leP at *; omega
 have g1 := hp.2.1
 have g2 := hp.2.2.2
 rw [e.1] at g1
 rw [e.2] at g2
 have d1 : p.xd = 1 := by
  have := hp.1
  have h : Int.gcd (x * p.xd) p.xd = p.xd.natAbs := Int.gcd_mul_left_left _ _
  omega
 have d2 : p.yd = 1 := by
  have := hp.2.2.1
  have h : Int.gcd (y * p.yd) p.yd = p.yd.natAbs := Int.gcd_mul_left_left _ _
  omega
 obtain ⟨xn, xd, yn, yd⟩ := p
 simp only at d1 d2 e
 subst d1 d2
 unfold dotP
 simp at e
 rw [e.1, e.2]
def cmpQ (p q : Pt) : Int := if cmp3 (p.xn * q.xd) (q.xn * p.xd) = 0 then cmp3 (p.yn * q.yd) (q.yn * p.yd) else cmp3 (p.xn * q.xd) (q.xn * p.xd)
theorem cmpQ_ge {p : Pt} {x y : Int} (h : geP p x y) : cmpQ (dotP x y) p ≤ 0 := by
 unfold cmpQ cmp3 dotP
 unfold geP at h
 simp only [Int.mul_one]
 (repeat' split) <;> omega
theorem cmpQ_le {p : Pt} {x y : Int} (h : leP p x y) : cmpQ p (dotP x y) ≤ 0 := by
 unfold cmpQ cmp3 dotP
 unfold leP at h
 simp only [Int.mul_one]
 (repeat' split) <;> omega
theorem shared_is {l m : Sg} {p : Pt} (hl : InOrder l) (hm : InOrder m) (hp : RightP p) (h1 : onB l p = true) (h2 : onB m p = true) : sharedM l m = touchM p ∨ ((sharedM l m).k = 2 ∧ cmpQ (sharedM l m).p p ≤ 0 ∧ cmpQ p (sharedM l m).q ≤ 0) := by
 obtain ⟨_, a1, b1⟩ := (on_iff hl hp.1 hp.2.2.1).1 h1
 obtain ⟨_, a2, b2⟩ := (on_iff hm hp.1 hp.2.2.1).1 h2
 have g : geP p (laterX l m).1 (laterX l m).2 := by
  rcases (later_is l m).2.2 with e | e <;> rw [e]
  ·exact a1
  ·exact a2
 have g2 : leP p (earlierX l m).1 (earlierX l m).2 := by
  rcases (earlier_is l m).2.2 with e | e <;> rw [e]
  ·exact b1
  ·exact b2
 unfold sharedM pieceM
 by_cases e : laterX l m = earlierX l m
 ·rw [if_pos e]
  rw [← e] at g2
  exact .inl (by rw [dot_of hp g g2])
 ·rw [if_neg e]
  by_cases h : aheadB (laterX l m).1 (laterX l m).2 (earlierX l m).1 (earlierX l m).2 = true
  ·rw [if_pos h]
   exact .inr ⟨rfl, cmpQ_ge g, cmpQ_le g2⟩
  ·exfalso
   have h3 : ¬ ((laterX l m).1 < (earlierX l m).1 ∨ ((laterX l m).1 = (earlierX l m).1 ∧ (laterX l m).2 < (earlierX l m).2)) := fun q => h ((ahead_iff _ _ _ _).2 q)
   have hx := hp.1
   have hy := hp.2.2.1
   generalize laterX l m = L at *
   generalize earlierX l m = E at *
   obtain ⟨L1, L2⟩ := L
   obtain ⟨E1, E2⟩ := E
   simp only at *
   have h4 : ¬ (L1 = E1 ∧ L2 = E2) := fun q => e (by rw [q.1, q.2])
   have h5 : E1 < L1 ∨ (E1 = L1 ∧ E2 < L2) := by omega
   unfold geP leP at *
   rcases h5 with h5 | ⟨h5, h6⟩
   ·have := Int.mul_lt_mul_of_pos_right h5 hx
    omega
   ·have := Int.mul_lt_mul_of_pos_right h6 hy
    subst h5
    omega
theorem shared_sym (l m : Sg) : sharedM m l = sharedM l m := by
 have h1 : laterX m l = laterX l m := by
  have e1 := ahead_iff l.ax l.ay m.ax m.ay
  have e2 := ahead_iff m.ax m.ay l.ax l.ay
  unfold laterX
  by_cases c1 : aheadB l.ax l.ay m.ax m.ay = true
  ·have d1 := e1.1 c1
   rw [if_neg (fun q => by have := e2.1 q; omega), if_pos c1]
  ·have d1 : ¬ (l.ax < m.ax ∨ (l.ax = m.ax ∧ l.ay < m.ay)) := fun q => c1 (e1.2 q)
   by_cases c2 : aheadB m.ax m.ay l.ax l.ay = true
   ·rw [if_pos c2, if_neg c1]
   ·have d2 : ¬ (m.ax < l.ax ∨ (m.ax = l.ax ∧ m.ay < l.ay)) := fun q => c2 (e2.2 q)
    rw [if_neg c2, if_neg c1, Prod.mk.injEq]
    omega
 have h2 : earlierX m l = earlierX l m := by
  have e1 := ahead_iff l.bx l.bY m.bx m.bY
  have e2 := ahead_iff m.bx m.bY l.bx l.bY
  unfold earlierX
  by_cases c1 : aheadB l.bx l.bY m.bx m.bY = true
  ·have d1 := e1.1 c1
   rw [if_pos c1, if_neg (fun q => by have := e2.1 q; omega)]
  ·have d1 : ¬ (l.bx < m.bx ∨ (l.bx = m.bx ∧ l.bY < m.bY)) := fun q => c1 (e1.2 q)
   by_cases c2 : aheadB m.bx m.bY l.bx l.bY = true
   ·rw [if_neg c1, if_pos c2]
   ·have d2 : ¬ (m.bx < l.bx ∨ (m.bx = l.bx ∧ m.bY < l.bY)) := fun q => c2 (e2.2 q)
    rw [if_neg c1, if_neg c2, Prod.mk.injEq]
    omega
 unfold sharedM
 rw [h1, h2]
theorem meet_sym {l m : Sg} (hl : InOrder l) (hm : InOrder m) : meetM m l = meetM l m := by
 by_cases hd : offS m l.ax l.ay = offS m l.bx l.bY
 ·have hp := off_par hl hm hd
  by_cases h0 : offS m l.ax l.ay = 0
  ·rw [par_shared h0 (by omega), par_shared (hp.2.1 h0) (by have := hp.2.1 h0; omega)]
   exact shared_sym l m
  ·rw [par_none hd h0, par_none hp.1 (fun e => h0 (hp.2.2 e))]
 ·have hd' : offS m l.ax l.ay - offS m l.bx l.bY ≠ 0 := by omega
  have hd2 : offS l m.ax m.ay ≠ offS l m.bx m.bY := by
   intro e; apply hd; unfold offS offN at *; grind
  unfold meetM
  rw [meetL_pt _ _ _ _ hd, meetL_pt _ _ _ _ hd2]
  unfold ptM
  rw [part_sym hd']
  have e : (asideB (offS l m.ax m.ay) (offS l m.bx m.bY) = true ∨ asideB (offS m l.ax l.ay) (offS m l.bx l.bY) = true) = (asideB (offS m l.ax l.ay) (offS m l.bx l.bY) = true ∨ asideB (offS l m.ax m.ay) (offS l m.bx m.bY) = true) := propext ⟨Or.symm, Or.symm⟩
  simp only [e]
theorem holds_math {s t : Sg} (hs : ¬ (s.ax = s.bx ∧ s.ay = s.bY)) (ht : ¬ (t.ax = t.bx ∧ t.ay = t.bY)) :
 meetM (laidS t) (laidS s) = meetM (laidS s) (laidS t) ∧
 (meetM (laidS s) (laidS t) = noneM ∨ (((meetM (laidS s) (laidS t)).k = 1 ∨ (meetM (laidS s) (laidS t)).k = 2) ∧ onB s (meetM (laidS s) (laidS t)).p = true ∧ onB t (meetM (laidS s) (laidS t)).p = true ∧ onB s (meetM (laidS s) (laidS t)).q = true ∧ onB t (meetM (laidS s) (laidS t)).q = true)) ∧
 (∀ p, RightP p → onB s p = true → onB t p = true → meetM (laidS s) (laidS t) = touchM p ∨ ((meetM (laidS s) (laidS t)).k = 2 ∧ cmpQ (meetM (laidS s) (laidS t)).p p ≤ 0 ∧ cmpQ p (meetM (laidS s) (laidS t)).q ≤ 0)) := by
 have hl := laid_order s hs
 have hm := laid_order t ht
 have f1 := fun p => on_laid s p
 have f2 := fun p => on_laid t p
 generalize laidS s = l at *
 generalize laidS t = m at *
 refine ⟨meet_sym hl hm, ?_, fun p hp h1 h2 => ?_⟩
 ·simp only [← f1, ← f2]
  by_cases hd : offS m l.ax l.ay = offS m l.bx l.bY
  ·by_cases h0 : offS m l.ax l.ay = 0
   ·have hp := off_par hl hm hd
    rw [par_shared h0 (by omega)]
    rcases shared_on hl hm h0 (by omega) (hp.2.1 h0) (by have := hp.2.1 h0; omega) with h | ⟨q, r, h, o⟩
    ·exact .inl h
    ·right
     rcases h with ⟨h, rfl⟩ | h <;> rw [h]
     ·exact ⟨.inl rfl, o⟩
     ·exact ⟨.inr rfl, o⟩
   ·exact .inl (par_none hd h0)
  ·rcases meet_pt_on hl hm hd with h | ⟨q, h, o1, o2⟩
   ·exact .inl h
   ·rw [h]
    exact .inr ⟨.inl rfl, o1, o2, o1, o2⟩
 ·rw [← f1] at h1
  rw [← f2] at h2
  by_cases hd : offS m l.ax l.ay = offS m l.bx l.bY
  ·have h0 := both_par hl hm hp.1 hp.2.2.1 hd h1 h2
   rw [par_shared h0 (by omega)]
   exact shared_is hl hm hp h1 h2
  ·exact .inl (meet_pt_is hl hm hd hp h1 h2)
end CrossMath

namespace CrossMath

theorem aside_ne {oa ob : Int} (h : ¬ asideB oa ob = true) (_ha : oa ≠ 0) (hb : ob ≠ 0) : oa - ob ≠ 0 := by
 unfold asideB at h
 simp at h
 omega
end CrossMath
