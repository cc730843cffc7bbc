/- Pure arithmetic of segments that meet: laid ends, how far a point is off a line, in what two meet, and that with X for Y it is the same; no condition. -/
namespace CrossMath

structure Sg where
  ax : Int
  ay : Int
  bx : Int
  bY : Int
deriving DecidableEq
structure Pt where
  xn : Int
  xd : Int
  yn : Int
  yd : Int
deriving DecidableEq
structure Mt where
  k : Int
  p : Pt
  q : Pt
deriving DecidableEq
def aheadB (ax ay bx bY : Int) : Bool := decide (ax < bx) || (decide (ax = bx) && decide (ay < bY))
def flipS (s : Sg) : Sg := ⟨s.bx, s.bY, s.ax, s.ay⟩
def swS (s : Sg) : Sg := ⟨s.ay, s.ax, s.bY, s.bx⟩
def swP (p : Pt) : Pt := ⟨p.yn, p.yd, p.xn, p.xd⟩
/-- Does B lie behind A? Then the ends change places. -/
def turned (s : Sg) : Bool := decide (s.bx - s.ax < 0) || (decide (s.bx - s.ax = 0) && decide (s.bY - s.ay < 0))
def laidS (s : Sg) : Sg := if turned s = true then flipS s else s
def offN (ax ay bx bY nx ny : Int) : Int := (bx - ax) * (ny - ay) - (bY - ay) * (nx - ax)
def offS (m : Sg) (x y : Int) : Int := offN m.ax m.ay m.bx m.bY x y
def asideB (a b : Int) : Bool := (decide (0 < a) && decide (0 < b)) || (decide (a < 0) && decide (b < 0))
def acrossB (a b : Int) : Bool := (decide (a < 0) && decide (0 < b)) || (decide (b < 0) && decide (0 < a))
/-- A fraction in lowest terms, D above nought. -/
def frN (n d : Int) : Int := (n.tdiv (Int.gcd n d : Nat)) * (if d < 0 then -1 else 1)
def frD (n d : Int) : Int := ((d.natAbs : Int)).tdiv (Int.gcd n d : Nat)
def dotP (x y : Int) : Pt := ⟨x, 1, y, 1⟩
def atN (oa ob a b : Int) : Int := frN (oa * b - ob * a) (oa - ob)
def atD (oa ob a b : Int) : Int := frD (oa * b - ob * a) (oa - ob)
def partP (l : Sg) (oa ob : Int) : Pt := ⟨atN oa ob l.ax l.bx, atD oa ob l.ax l.bx, atN oa ob l.ay l.bY, atD oa ob l.ay l.bY⟩
def zeroP : Pt := ⟨0, 0, 0, 0⟩
def noneM : Mt := ⟨0, zeroP, zeroP⟩
def touchM (p : Pt) : Mt := ⟨1, p, p⟩
/-- The one that is ahead, and the one that is behind. -/
def laterX (l m : Sg) : Int × Int := if aheadB l.ax l.ay m.ax m.ay = true then (m.ax, m.ay) else (l.ax, l.ay)
def earlierX (l m : Sg) : Int × Int := if aheadB m.bx m.bY l.bx l.bY = true then (m.bx, m.bY) else (l.bx, l.bY)
def pieceM (p q : Int × Int) : Mt :=
  if p = q then touchM (dotP p.1 p.2) else if aheadB p.1 p.2 q.1 q.2 = true then ⟨2, dotP p.1 p.2, dotP q.1 q.2⟩ else noneM
def sharedM (l m : Sg) : Mt := pieceM (laterX l m) (earlierX l m)
def meetL (l m : Sg) (oa ob ca cb : Int) : Mt :=
  if oa = 0 ∧ ob = 0 then sharedM l m
  else if asideB oa ob = true ∨ asideB ca cb = true then noneM
  else if oa = 0 then touchM (dotP l.ax l.ay)
  else if ob = 0 then touchM (dotP l.bx l.bY)
  else touchM (partP l oa ob)
def meetM (l m : Sg) : Mt := meetL l m (offS m l.ax l.ay) (offS m l.bx l.bY) (offS l m.ax m.ay) (offS l m.bx m.bY)
def crossL (oa ob ca cb : Int) : Bool := acrossB oa ob && acrossB ca cb
def crossM (l m : Sg) : Bool := crossL (offS m l.ax l.ay) (offS m l.bx l.bY) (offS l m.ax m.ay) (offS l m.bx m.bY)

theorem frN_neg (n d : Int) (hd : d ≠ 0) : frN (-n) (-d) = frN n d := by
  unfold frN
  rw [Int.gcd_neg, Int.neg_gcd, Int.neg_tdiv]
  by_cases h : d < 0
  · rw [if_pos h, if_neg (by omega)]; omega
  · rw [if_neg h, if_pos (by omega)]; omega
theorem frD_neg (n d : Int) : frD (-n) (-d) = frD n d := by
  unfold frD
  rw [Int.gcd_neg, Int.neg_gcd, Int.natAbs_neg]
theorem at_neg (oa ob a b : Int) (h : oa ≠ ob) : atN (-oa) (-ob) a b = atN oa ob a b ∧ atD (-oa) (-ob) a b = atD oa ob a b := by
  unfold atN atD
  rw [show -oa * b - -ob * a = -(oa * b - ob * a) by rw [Int.neg_mul, Int.neg_mul]; omega, show -oa - -ob = -(oa - ob) by omega]
  exact ⟨frN_neg _ _ (by omega), frD_neg _ _⟩
theorem at_flip (oa ob a b : Int) (h : oa ≠ ob) : atN ob oa b a = atN oa ob a b ∧ atD ob oa b a = atD oa ob a b := by
  unfold atN atD
  rw [show ob * a - oa * b = -(oa * b - ob * a) by omega, show ob - oa = -(oa - ob) by omega]
  exact ⟨frN_neg _ _ (by omega), frD_neg _ _⟩
theorem off_sw (m : Sg) (x y : Int) : offS (swS m) y x = -(offS m x y) := by
  unfold offS offN swS
  simp only
  omega
theorem off_flip (m : Sg) (x y : Int) : offS (flipS m) x y = -(offS m x y) := by
  unfold offS offN flipS
  simp only
  have e1 : (m.ax - m.bx) * (y - m.bY) = -((m.bx - m.ax) * (y - m.ay)) + (m.bx - m.ax) * (m.bY - m.ay) := by
    rw [show m.ax - m.bx = -(m.bx - m.ax) by omega, show y - m.bY = (y - m.ay) - (m.bY - m.ay) by omega, Int.neg_mul, Int.mul_sub]; omega
  have e2 : (m.ay - m.bY) * (x - m.bx) = -((m.bY - m.ay) * (x - m.ax)) + (m.bY - m.ay) * (m.bx - m.ax) := by
    rw [show m.ay - m.bY = -(m.bY - m.ay) by omega, show x - m.bx = (x - m.ax) - (m.bx - m.ax) by omega, Int.neg_mul, Int.mul_sub]; omega
  rw [e1, e2, Int.mul_comm (m.bY - m.ay) (m.bx - m.ax)]
  omega
theorem aside_comm (a b : Int) : asideB b a = asideB a b := by
  unfold asideB
  rw [Bool.and_comm (decide (0 < b)), Bool.and_comm (decide (b < 0))]
theorem aside_neg (a b : Int) : asideB (-a) (-b) = asideB a b := by
  unfold asideB
  rw [show decide (0 < -a) = decide (a < 0) by simp, show decide (0 < -b) = decide (b < 0) by simp, show decide (-a < 0) = decide (0 < a) by simp, show decide (-b < 0) = decide (0 < b) by simp, Bool.or_comm]
theorem across_comm (a b : Int) : acrossB b a = acrossB a b := by
  unfold acrossB
  rw [Bool.or_comm]
theorem across_neg (a b : Int) : acrossB (-a) (-b) = acrossB a b := by
  unfold acrossB
  rw [show decide (0 < -a) = decide (a < 0) by simp, show decide (0 < -b) = decide (b < 0) by simp, show decide (-a < 0) = decide (0 < a) by simp, show decide (-b < 0) = decide (0 < b) by simp, Bool.and_comm (decide (0 < a)), Bool.and_comm (decide (0 < b)), Bool.or_comm]
  

/-- The ends in order. -/
def InOrder (l : Sg) : Prop := l.ax < l.bx ∨ (l.ax = l.bx ∧ l.ay < l.bY)
theorem laid_order (s : Sg) (h : ¬ (s.ax = s.bx ∧ s.ay = s.bY)) : InOrder (laidS s) := by
  unfold laidS
  by_cases ht : turned s = true
  · rw [if_pos ht]
    simp [turned] at ht
    unfold InOrder flipS
    simp only
    omega
  · rw [if_neg ht]
    simp [turned] at ht
    unfold InOrder
    omega
/-- Does the way go down, to the right? -/
def downB (l : Sg) : Bool := decide (l.bY < l.ay)
theorem turned_sw (l : Sg) (h : InOrder l) : turned (swS l) = downB l := by
  unfold InOrder at h
  unfold turned swS downB
  rw [Bool.eq_iff_iff]
  simp
  omega
theorem laid_flip (s : Sg) (h : ¬ (s.ax = s.bx ∧ s.ay = s.bY)) : laidS (flipS s) = laidS s := by
  have : turned (flipS s) = !turned s := by
    unfold turned flipS
    rw [Bool.eq_iff_iff]
    simp
    omega
  unfold laidS
  rw [this]
  cases turned s <;> rfl
theorem laid_sw (s : Sg) (h : ¬ (s.ax = s.bx ∧ s.ay = s.bY)) : laidS (swS s) = if downB (laidS s) = true then swS (flipS (laidS s)) else swS (laidS s) := by
  have ho := laid_order s h
  have h1 : laidS (swS s) = laidS (swS (laidS s)) := by
    by_cases ht : turned s = true
    · have e : laidS s = flipS s := by unfold laidS; rw [if_pos ht]
      rw [e, show swS (flipS s) = flipS (swS s) from rfl, laid_flip (swS s) (by unfold swS; simp only; omega)]
    · have e : laidS s = s := by unfold laidS; rw [if_neg ht]
      rw [e]
  rw [h1]
  generalize laidS s = l at *
  conv => lhs; unfold laidS
  rw [turned_sw l ho]
  rfl
/-- On one line the order with X for Y is the same, or the other way round. -/
theorem sign_up {dx dy u v : Int} (hx : 0 < dx) (hy : 0 < dy) (h : dx * v = dy * u) : (0 < u ↔ 0 < v) ∧ (u = 0 ↔ v = 0) := by
  have f : ∀ u v : Int, dx * v = dy * u → 0 < u → 0 < v := fun u v h hu => by
    have : 0 < dx * v := by rw [h]; exact Int.mul_pos hy hu
    exact Int.pos_of_mul_pos_right this (by omega)
  have g : ∀ u v : Int, dx * v = dy * u → 0 < v → 0 < u := fun u v h hv => by
    have : 0 < dy * u := by rw [← h]; exact Int.mul_pos hx hv
    exact Int.pos_of_mul_pos_right this (by omega)
  refine ⟨⟨f u v h, g u v h⟩, ⟨fun e => ?_, fun e => ?_⟩⟩
  · rw [e, Int.mul_zero] at h
    rcases Int.mul_eq_zero.1 h with h | h <;> omega
  · rw [e, Int.mul_zero] at h
    rcases Int.mul_eq_zero.1 h.symm with h | h <;> omega
def onL (m : Sg) (x y : Int) : Prop := (m.bx - m.ax) * (y - m.ay) = (m.bY - m.ay) * (x - m.ax)
theorem on_diff {m : Sg} {ux uy vx vy : Int} (hu : onL m ux uy) (hv : onL m vx vy) : (m.bx - m.ax) * (vy - uy) = (m.bY - m.ay) * (vx - ux) := by
  unfold onL at hu hv
  rw [show vy - uy = (vy - m.ay) - (uy - m.ay) by omega, show vx - ux = (vx - m.ax) - (ux - m.ax) by omega, Int.mul_sub _ (vy - m.ay), Int.mul_sub _ (vx - m.ax), hu, hv]
theorem ahead_up {m : Sg} (ho : InOrder m) (hd : downB m = false) {ux uy vx vy : Int} (hu : onL m ux uy) (hv : onL m vx vy) : aheadB uy ux vy vx = aheadB ux uy vx vy := by
  have h := on_diff hu hv
  unfold InOrder at ho
  simp [downB] at hd
  unfold aheadB
  rw [Bool.eq_iff_iff]
  simp
  generalize e1 : m.bx - m.ax = dx at *
  generalize e2 : m.bY - m.ay = dy at *
  rcases Int.lt_or_eq_of_le (show 0 ≤ dx by omega) with hx | hx
  · rcases Int.lt_or_eq_of_le (show 0 ≤ dy by omega) with hy | hy
    · have := sign_up hx hy h
      omega
    · rw [← hy, Int.zero_mul] at h
      rcases Int.mul_eq_zero.1 h with h | h <;> omega
  · rw [← hx, Int.zero_mul] at h
    rcases Int.mul_eq_zero.1 h.symm with h | h <;> omega
theorem ahead_down {m : Sg} (ho : InOrder m) (hd : downB m = true) {ux uy vx vy : Int} (hu : onL m ux uy) (hv : onL m vx vy) : aheadB uy ux vy vx = aheadB vx vy ux uy := by
  have h := on_diff hu hv
  unfold InOrder at ho
  simp [downB] at hd
  unfold aheadB
  rw [Bool.eq_iff_iff]
  simp
  generalize e1 : m.bx - m.ax = dx at *
  generalize e2 : m.bY - m.ay = dy at *
  have h' : dx * (vy - uy) = (-dy) * (ux - vx) := by rw [h, Int.neg_mul, ← Int.mul_neg]; congr 1; omega
  have := sign_up (show 0 < dx by omega) (show 0 < -dy by omega) h'
  omega
theorem on_self (m : Sg) : onL m m.ax m.ay ∧ onL m m.bx m.bY := by
  unfold onL
  refine ⟨by rw [Int.sub_self, Int.sub_self, Int.mul_zero, Int.mul_zero], Int.mul_comm _ _⟩
theorem off_on {m : Sg} {x y : Int} (h : offS m x y = 0) : onL m x y := by
  unfold offS offN at h
  unfold onL
  omega
/-- Both go down, or neither does. -/
theorem down_same {l m : Sg} (hl : InOrder l) (hm : InOrder m) (ha : offS m l.ax l.ay = 0) (hb : offS m l.bx l.bY = 0) : downB l = downB m := by
  have h := on_diff (off_on ha) (off_on hb)
  unfold InOrder at hl hm
  unfold downB
  rw [Bool.eq_iff_iff]
  simp
  generalize e1 : m.bx - m.ax = dx at *
  generalize e2 : m.bY - m.ay = dy at *
  rcases Int.lt_or_eq_of_le (show 0 ≤ dx by omega) with hx | hx
  · rcases Int.lt_trichotomy dy 0 with hy | hy | hy
    · have h' : dx * (l.ay - l.bY) = (-dy) * (l.bx - l.ax) := by rw [Int.neg_mul, ← h, ← Int.mul_neg]; congr 1; omega
      have := sign_up hx (show 0 < -dy by omega) h'
      omega
    · rw [hy, Int.zero_mul] at h
      rcases Int.mul_eq_zero.1 h with h | h <;> omega
    · have := sign_up hx hy h
      omega
  · rw [← hx, Int.zero_mul] at h
    rcases Int.mul_eq_zero.1 h.symm with h | h <;> omega

/-- The same meeting, with X for Y: the ends of a piece may have changed places. -/
def MirM (a b : Mt) : Prop := b.k = a.k ∧ ((a.p = swP b.p ∧ a.q = swP b.q) ∨ (a.p = swP b.q ∧ a.q = swP b.p))
theorem mir_none : MirM noneM noneM := ⟨rfl, .inl ⟨rfl, rfl⟩⟩
theorem mir_touch (p : Pt) (q : Pt) (h : q = swP p) : MirM (touchM p) (touchM q) := by subst h; exact ⟨rfl, .inl ⟨rfl, rfl⟩⟩
theorem ite_pair (c : Prop) [Decidable c] (a b : Int × Int) : (if c then (a.2, a.1) else (b.2, b.1)) = ((if c then a else b).2, (if c then a else b).1) := by split <;> rfl
theorem mir_piece_up (p q : Int × Int) (h : aheadB p.2 p.1 q.2 q.1 = aheadB p.1 p.2 q.1 q.2) : MirM (pieceM p q) (pieceM (p.2, p.1) (q.2, q.1)) := by
  unfold pieceM
  obtain ⟨a, b⟩ := p
  obtain ⟨c, d⟩ := q
  simp only at h
  by_cases e : (a, b) = (c, d)
  · have e' : (b, a) = (d, c) := by simp at e ⊢; omega
    rw [if_pos e, if_pos e']
    exact mir_touch _ _ rfl
  · have e' : ¬ (b, a) = (d, c) := by simp at e ⊢; omega
    rw [if_neg e, if_neg e']
    simp only [h]
    split
    · exact ⟨rfl, .inl ⟨rfl, rfl⟩⟩
    · exact mir_none
theorem mir_piece_down (p q : Int × Int) (h : aheadB q.2 q.1 p.2 p.1 = aheadB p.1 p.2 q.1 q.2) : MirM (pieceM p q) (pieceM (q.2, q.1) (p.2, p.1)) := by
  unfold pieceM
  obtain ⟨a, b⟩ := p
  obtain ⟨c, d⟩ := q
  simp only at h
  by_cases e : (a, b) = (c, d)
  · have e' : (d, c) = (b, a) := by simp at e ⊢; omega
    rw [if_pos e, if_pos e']
    have : c = a ∧ d = b := by simp at e; omega
    obtain ⟨rfl, rfl⟩ := this
    exact mir_touch _ _ rfl
  · have e' : ¬ (d, c) = (b, a) := by simp at e ⊢; omega
    rw [if_neg e, if_neg e']
    simp only [h]
    split
    · exact ⟨rfl, .inr ⟨rfl, rfl⟩⟩
    · exact mir_none
theorem later_on {l m : Sg} (ha : onL m l.ax l.ay) : onL m (laterX l m).1 (laterX l m).2 := by
  unfold laterX
  split
  · exact (on_self m).1
  · exact ha
theorem earlier_on {l m : Sg} (hb : onL m l.bx l.bY) : onL m (earlierX l m).1 (earlierX l m).2 := by
  unfold earlierX
  split
  · exact (on_self m).2
  · exact hb
theorem shared_up {l m : Sg} (hm : InOrder m) (hd : downB m = false) (ha : onL m l.ax l.ay) (hb : onL m l.bx l.bY) : MirM (sharedM l m) (sharedM (swS l) (swS m)) := by
  have h1 : laterX (swS l) (swS m) = ((laterX l m).2, (laterX l m).1) := by
    unfold laterX swS
    simp only [ahead_up hm hd ha (on_self m).1]
    split <;> rfl
  have h2 : earlierX (swS l) (swS m) = ((earlierX l m).2, (earlierX l m).1) := by
    unfold earlierX swS
    simp only [ahead_up hm hd (on_self m).2 hb]
    split <;> rfl
  unfold sharedM
  rw [h1, h2]
  exact mir_piece_up _ _ (ahead_up hm hd (later_on ha) (earlier_on hb))
theorem shared_down {l m : Sg} (hm : InOrder m) (hd : downB m = true) (ha : onL m l.ax l.ay) (hb : onL m l.bx l.bY) : MirM (sharedM l m) (sharedM (swS (flipS l)) (swS (flipS m))) := by
  have h1 : laterX (swS (flipS l)) (swS (flipS m)) = ((earlierX l m).2, (earlierX l m).1) := by
    unfold laterX earlierX swS flipS
    simp only [ahead_down hm hd hb (on_self m).2]
    split <;> rfl
  have h2 : earlierX (swS (flipS l)) (swS (flipS m)) = ((laterX l m).2, (laterX l m).1) := by
    unfold laterX earlierX swS flipS
    simp only [ahead_down hm hd (on_self m).1 ha]
    split <;> rfl
  unfold sharedM
  rw [h1, h2]
  exact mir_piece_down _ _ (ahead_down hm hd (earlier_on hb) (later_on ha))
/-- What both are off, mirrored. -/
theorem meetL_neg (l m l' m' : Sg) (oa ob ca cb oa' ob' ca' cb' : Int) (hs : oa = 0 ∧ ob = 0 → MirM (sharedM l m) (sharedM l' m'))
    (hl : l' = swS l ∧ (oa' = oa ∧ ob' = ob ∨ oa' = -oa ∧ ob' = -ob) ∨ l' = swS (flipS l) ∧ (oa' = ob ∧ ob' = oa ∨ oa' = -ob ∧ ob' = -oa))
    (hc : asideB ca' cb' = asideB ca cb) : MirM (meetL l m oa ob ca cb) (meetL l' m' oa' ob' ca' cb') := by
  have ho : asideB oa' ob' = asideB oa ob := by
    rcases hl with ⟨-, ⟨rfl, rfl⟩ | ⟨rfl, rfl⟩⟩ | ⟨-, ⟨rfl, rfl⟩ | ⟨rfl, rfl⟩⟩
    · rfl
    · exact aside_neg _ _
    · exact aside_comm _ _
    · rw [aside_neg]; exact aside_comm _ _
  have hz : (oa' = 0 ∧ ob' = 0) ↔ (oa = 0 ∧ ob = 0) := by
    rcases hl with ⟨-, hl⟩ | ⟨-, hl⟩ <;> omega
  unfold meetL
  rw [ho, hc]
  by_cases h0 : oa = 0 ∧ ob = 0
  · rw [if_pos h0, if_pos (hz.2 h0)]
    exact hs h0
  · have h0' : ¬ (oa' = 0 ∧ ob' = 0) := fun h => h0 (hz.1 h)
    rw [if_neg h0, if_neg h0']
    by_cases h1 : asideB oa ob = true ∨ asideB ca cb = true
    · rw [if_pos h1, if_pos h1]; exact mir_none
    · rw [if_neg h1, if_neg h1]
      have hne : oa ≠ ob := by
        intro e
        apply h1
        left
        simp [asideB]
        omega
      rcases hl with ⟨rfl, hl⟩ | ⟨rfl, hl⟩
      · by_cases h2 : oa = 0
        · rw [if_pos h2, if_pos (show oa' = 0 by omega)]; exact mir_touch _ _ rfl
        · rw [if_neg h2, if_neg (show ¬ oa' = 0 by omega)]
          by_cases h3 : ob = 0
          · rw [if_pos h3, if_pos (show ob' = 0 by omega)]; exact mir_touch _ _ rfl
          · rw [if_neg h3, if_neg (show ¬ ob' = 0 by omega)]
            refine mir_touch _ _ ?_
            rcases hl with ⟨rfl, rfl⟩ | ⟨rfl, rfl⟩
            · rfl
            · simp only [partP, swS, swP, (at_neg oa ob _ _ hne).1, (at_neg oa ob _ _ hne).2]
      · by_cases h2 : oa = 0
        · rw [if_pos h2, if_neg (show ¬ oa' = 0 by omega), if_pos (show ob' = 0 by omega)]; exact mir_touch _ _ rfl
        · rw [if_neg h2]
          by_cases h3 : ob = 0
          · rw [if_pos h3, if_pos (show oa' = 0 by omega)]; exact mir_touch _ _ rfl
          · rw [if_neg h3, if_neg (show ¬ oa' = 0 by omega), if_neg (show ¬ ob' = 0 by omega)]
            refine mir_touch _ _ ?_
            rcases hl with ⟨rfl, rfl⟩ | ⟨rfl, rfl⟩
            · simp only [partP, swS, flipS, swP, (at_flip oa' ob' _ _ (Ne.symm hne)).1, (at_flip oa' ob' _ _ (Ne.symm hne)).2]
            · simp only [partP, swS, flipS, swP, (at_neg ob oa _ _ (Ne.symm hne)).1, (at_neg ob oa _ _ (Ne.symm hne)).2, (at_flip oa ob _ _ hne).1, (at_flip oa ob _ _ hne).2]
theorem off_swf (m : Sg) (x y : Int) : offS (swS (flipS m)) y x = offS m x y := by rw [off_sw, off_flip]; omega
/-- With X for Y two segments meet in the same, with X for Y. -/
theorem meet_mirror (s t : Sg) (hs : ¬ (s.ax = s.bx ∧ s.ay = s.bY)) (ht : ¬ (t.ax = t.bx ∧ t.ay = t.bY)) : MirM (meetM (laidS s) (laidS t)) (meetM (laidS (swS s)) (laidS (swS t))) := by
  rw [laid_sw s hs, laid_sw t ht]
  have hl := laid_order s hs
  have hm := laid_order t ht
  generalize laidS s = l at *
  generalize laidS t = m at *
  unfold meetM
  cases e1 : downB l <;> cases e2 : downB m
  · simp only [Bool.false_eq_true, if_false]
    refine meetL_neg l m _ _ _ _ _ _ _ _ _ _ (fun h => shared_up hm e2 (off_on h.1) (off_on h.2)) (.inl ⟨rfl, .inr ⟨off_sw _ _ _, off_sw _ _ _⟩⟩) ?_
    rw [show offS (swS l) (swS m).ax (swS m).ay = -offS l m.ax m.ay from off_sw _ _ _, show offS (swS l) (swS m).bx (swS m).bY = -offS l m.bx m.bY from off_sw _ _ _, aside_neg]
  · simp only [Bool.false_eq_true, if_false, if_true]
    refine meetL_neg l m _ _ _ _ _ _ _ _ _ _ (fun h => by have := down_same hl hm h.1 h.2; rw [e1, e2] at this; cases this) (.inl ⟨rfl, .inl ⟨off_swf _ _ _, off_swf _ _ _⟩⟩) ?_
    rw [show offS (swS l) (swS (flipS m)).ax (swS (flipS m)).ay = -offS l m.bx m.bY from off_sw _ _ _, show offS (swS l) (swS (flipS m)).bx (swS (flipS m)).bY = -offS l m.ax m.ay from off_sw _ _ _, aside_neg, aside_comm]
  · simp only [Bool.false_eq_true, if_false, if_true]
    refine meetL_neg l m _ _ _ _ _ _ _ _ _ _ (fun h => by have := down_same hl hm h.1 h.2; rw [e1, e2] at this; cases this) (.inr ⟨rfl, .inr ⟨off_sw _ _ _, off_sw _ _ _⟩⟩) ?_
    rw [show offS (swS (flipS l)) (swS m).ax (swS m).ay = offS l m.ax m.ay from off_swf _ _ _, show offS (swS (flipS l)) (swS m).bx (swS m).bY = offS l m.bx m.bY from off_swf _ _ _]
  · simp only [if_true]
    refine meetL_neg l m _ _ _ _ _ _ _ _ _ _ (fun h => shared_down hm e2 (off_on h.1) (off_on h.2)) (.inr ⟨rfl, .inl ⟨off_swf _ _ _, off_swf _ _ _⟩⟩) ?_
    rw [show offS (swS (flipS l)) (swS (flipS m)).ax (swS (flipS m)).ay = offS l m.bx m.bY from off_swf _ _ _, show offS (swS (flipS l)) (swS (flipS m)).bx (swS (flipS m)).bY = offS l m.ax m.ay from off_swf _ _ _, aside_comm]
theorem cross_mirror (s t : Sg) (hs : ¬ (s.ax = s.bx ∧ s.ay = s.bY)) (ht : ¬ (t.ax = t.bx ∧ t.ay = t.bY)) : crossM (laidS (swS s)) (laidS (swS t)) = crossM (laidS s) (laidS t) := by
  rw [laid_sw s hs, laid_sw t ht]
  generalize laidS s = l at *
  generalize laidS t = m at *
  unfold crossM crossL
  cases downB l <;> cases downB m
  · simp only [Bool.false_eq_true, if_false]
    rw [show offS (swS m) (swS l).ax (swS l).ay = -offS m l.ax l.ay from off_sw _ _ _, show offS (swS m) (swS l).bx (swS l).bY = -offS m l.bx l.bY from off_sw _ _ _, show offS (swS l) (swS m).ax (swS m).ay = -offS l m.ax m.ay from off_sw _ _ _, show offS (swS l) (swS m).bx (swS m).bY = -offS l m.bx m.bY from off_sw _ _ _, across_neg, across_neg]
  · simp only [Bool.false_eq_true, if_false, if_true]
    rw [show offS (swS (flipS m)) (swS l).ax (swS l).ay = offS m l.ax l.ay from off_swf _ _ _, show offS (swS (flipS m)) (swS l).bx (swS l).bY = offS m l.bx l.bY from off_swf _ _ _, show offS (swS l) (swS (flipS m)).ax (swS (flipS m)).ay = -offS l m.bx m.bY from off_sw _ _ _, show offS (swS l) (swS (flipS m)).bx (swS (flipS m)).bY = -offS l m.ax m.ay from off_sw _ _ _, across_neg]
    congr 1; exact across_comm _ _
  · simp only [Bool.false_eq_true, if_false, if_true]
    rw [show offS (swS m) (swS (flipS l)).ax (swS (flipS l)).ay = -offS m l.bx l.bY from off_sw _ _ _, show offS (swS m) (swS (flipS l)).bx (swS (flipS l)).bY = -offS m l.ax l.ay from off_sw _ _ _, show offS (swS (flipS l)) (swS m).ax (swS m).ay = offS l m.ax m.ay from off_swf _ _ _, show offS (swS (flipS l)) (swS m).bx (swS m).bY = offS l m.bx m.bY from off_swf _ _ _, across_neg]
    congr 1; exact across_comm _ _
  · simp only [if_true]
    rw [show offS (swS (flipS m)) (swS (flipS l)).ax (swS (flipS l)).ay = offS m l.bx l.bY from off_swf _ _ _, show offS (swS (flipS m)) (swS (flipS l)).bx (swS (flipS l)).bY = offS m l.ax l.ay from off_swf _ _ _, show offS (swS (flipS l)) (swS (flipS m)).ax (swS (flipS m)).ay = offS l m.bx m.bY from off_swf _ _ _, show offS (swS (flipS l)) (swS (flipS m)).bx (swS (flipS m)).bY = offS l m.ax m.ay from off_swf _ _ _]
    congr 1 <;> exact across_comm _ _
end CrossMath

/- What two segments meet in is moved with them: mathematics; no condition. -/
namespace CrossMath

def mvS (s : Sg) (dx dy : Int) : Sg := ⟨s.ax + dx, s.ay + dy, s.bx + dx, s.bY + dy⟩
def mvP (p : Pt) (dx dy : Int) : Pt := ⟨p.xn + dx * p.xd, p.xd, p.yn + dy * p.yd, p.yd⟩
/-- The second is the first one, moved. -/
def MovM (a b : Mt) (dx dy : Int) : Prop := b.k = a.k ∧ (a = noneM ∨ (b.p = mvP a.p dx dy ∧ b.q = mvP a.q dx dy))
theorem add_sub_add (a b c : Int) : a + c - (b + c) = a - b := by omega
theorem ahead_mv (ax ay bx bY dx dy : Int) : aheadB (ax + dx) (ay + dy) (bx + dx) (bY + dy) = aheadB ax ay bx bY := by
  have h1 : ∀ a b c : Int, decide (a + c < b + c) = decide (a < b) := fun a b c => decide_eq_decide.2 ⟨fun h => by omega, fun h => by omega⟩
  have h2 : ∀ a b c : Int, decide (a + c = b + c) = decide (a = b) := fun a b c => decide_eq_decide.2 ⟨fun h => by omega, fun h => by omega⟩
  unfold aheadB
  rw [h1, h2, h1]
theorem off_mv (m : Sg) (x y dx dy : Int) : offS (mvS m dx dy) (x + dx) (y + dy) = offS m x y := by
  unfold offS offN mvS
  simp only [add_sub_add]
theorem laid_mv (s : Sg) (dx dy : Int) : laidS (mvS s dx dy) = mvS (laidS s) dx dy := by
  have e : turned (mvS s dx dy) = turned s := by
    unfold turned mvS
    simp only [add_sub_add]
  unfold laidS
  rw [e]
  split <;> rfl
theorem gcd_mv (n d x : Int) : Int.gcd (n + x * d) d = Int.gcd n d := by
  have h1 : ((Int.gcd n d : Nat) : Int) ∣ n := Int.gcd_dvd_left ..
  have h2 : ((Int.gcd n d : Nat) : Int) ∣ d := Int.gcd_dvd_right ..
  have h3 : ((Int.gcd (n + x * d) d : Nat) : Int) ∣ n + x * d := Int.gcd_dvd_left ..
  have h4 : ((Int.gcd (n + x * d) d : Nat) : Int) ∣ d := Int.gcd_dvd_right ..
  refine Nat.dvd_antisymm ?_ ?_
  · refine Int.natCast_dvd_natCast.1 (Int.dvd_coe_gcd ?_ h4)
    have := Int.dvd_sub h3 (Int.dvd_mul_of_dvd_right (b := x) h4)
    rwa [Int.add_sub_cancel] at this
  · exact Int.natCast_dvd_natCast.1 (Int.dvd_coe_gcd (Int.dvd_add h1 (Int.dvd_mul_of_dvd_right (b := x) h2)) h2)
theorem frN_mv (n d x : Int) (hd : d ≠ 0) : frN (n + x * d) d = frN n d + x * frD n d ∧ frD (n + x * d) d = frD n d := by
  unfold frN frD
  rw [gcd_mv]
  refine ⟨?_, rfl⟩
  have hg : (0 : Int) < (Int.gcd n d : Nat) := by
    have : Int.gcd n d ≠ 0 := fun h => hd (Int.gcd_eq_zero_iff.1 h).2
    omega
  obtain ⟨n', hn⟩ : ((Int.gcd n d : Nat) : Int) ∣ n := Int.gcd_dvd_left ..
  obtain ⟨d', hd'⟩ : ((Int.gcd n d : Nat) : Int) ∣ d := Int.gcd_dvd_right ..
  generalize ((Int.gcd n d : Nat) : Int) = g at *
  have e1 : (n + x * d).tdiv g = n' + x * d' := by
    have : n + x * d = g * (n' + x * d') := by rw [hn, hd', Int.mul_add, Int.mul_left_comm]
    rw [this, Int.mul_tdiv_cancel_left _ (by omega)]
  have e2 : n.tdiv g = n' := by rw [hn, Int.mul_tdiv_cancel_left _ (by omega)]
  have e3 : ((d.natAbs : Nat) : Int).tdiv g = d' * (if d < 0 then -1 else 1) := by
    by_cases h : d < 0
    · rw [if_pos h, show ((d.natAbs : Nat) : Int) = g * (-d') by rw [Int.mul_neg, ← hd']; omega, Int.mul_tdiv_cancel_left _ (by omega)]; omega
    · rw [if_neg h, show ((d.natAbs : Nat) : Int) = g * d' by rw [← hd']; omega, Int.mul_tdiv_cancel_left _ (by omega)]; omega
  rw [e1, e2, e3, Int.add_mul, Int.mul_assoc]
theorem at_mv (oa ob a b x : Int) (h : oa - ob ≠ 0) : atN oa ob (a + x) (b + x) = atN oa ob a b + x * atD oa ob a b ∧ atD oa ob (a + x) (b + x) = atD oa ob a b := by
  unfold atN atD
  have e : oa * (b + x) - ob * (a + x) = oa * b - ob * a + x * (oa - ob) := by
    rw [Int.mul_add, Int.mul_add, Int.mul_sub, Int.mul_comm x oa, Int.mul_comm x ob]; omega
  rw [e]
  exact frN_mv _ _ _ h
theorem part_mv (l : Sg) (oa ob dx dy : Int) (h : oa - ob ≠ 0) : partP (mvS l dx dy) oa ob = mvP (partP l oa ob) dx dy := by
  unfold partP mvP mvS
  obtain ⟨h1, h2⟩ := at_mv oa ob l.ax l.bx dx h
  obtain ⟨h3, h4⟩ := at_mv oa ob l.ay l.bY dy h
  simp only [h1, h2, h3, h4]
theorem dot_mv (x y dx dy : Int) : dotP (x + dx) (y + dy) = mvP (dotP x y) dx dy := by simp [dotP, mvP]
theorem mov_touch (p : Pt) (dx dy : Int) : MovM (touchM p) (touchM (mvP p dx dy)) dx dy := ⟨rfl, .inr ⟨rfl, rfl⟩⟩
theorem piece_mv (p q : Int × Int) (dx dy : Int) : MovM (pieceM p q) (pieceM (p.1 + dx, p.2 + dy) (q.1 + dx, q.2 + dy)) dx dy := by
  obtain ⟨a, b⟩ := p
  obtain ⟨c, d⟩ := q
  unfold pieceM
  by_cases h : (a, b) = (c, d)
  · obtain ⟨rfl, rfl⟩ := Prod.mk.inj h
    rw [if_pos rfl, if_pos rfl]
    rw [dot_mv]
    exact mov_touch _ _ _
  · have h' : ¬ ((a + dx, b + dy) = (c + dx, d + dy)) := fun e => h (by obtain ⟨e1, e2⟩ := Prod.mk.inj e; rw [show a = c by omega, show b = d by omega])
    rw [if_neg h, if_neg h']
    simp only [ahead_mv]
    split
    · rw [dot_mv, dot_mv]; exact ⟨rfl, .inr ⟨rfl, rfl⟩⟩
    · exact ⟨rfl, .inl rfl⟩
theorem later_mv (l m : Sg) (dx dy : Int) : laterX (mvS l dx dy) (mvS m dx dy) = ((laterX l m).1 + dx, (laterX l m).2 + dy) := by
  unfold laterX
  have : aheadB (mvS l dx dy).ax (mvS l dx dy).ay (mvS m dx dy).ax (mvS m dx dy).ay = aheadB l.ax l.ay m.ax m.ay := ahead_mv _ _ _ _ _ _
  rw [this]
  split <;> rfl
theorem earlier_mv (l m : Sg) (dx dy : Int) : earlierX (mvS l dx dy) (mvS m dx dy) = ((earlierX l m).1 + dx, (earlierX l m).2 + dy) := by
  unfold earlierX
  have : aheadB (mvS m dx dy).bx (mvS m dx dy).bY (mvS l dx dy).bx (mvS l dx dy).bY = aheadB m.bx m.bY l.bx l.bY := ahead_mv _ _ _ _ _ _
  rw [this]
  split <;> rfl
theorem aside_ne {oa ob : Int} (h : ¬ asideB oa ob = true) (_ha : oa ≠ 0) (hb : ob ≠ 0) : oa - ob ≠ 0 := by
  unfold asideB at h
  simp at h
  omega
theorem meet_mv (l m : Sg) (dx dy : Int) : MovM (meetM l m) (meetM (mvS l dx dy) (mvS m dx dy)) dx dy := by
  unfold meetM
  rw [show offS (mvS m dx dy) (mvS l dx dy).ax (mvS l dx dy).ay = offS m l.ax l.ay from off_mv _ _ _ _ _, show offS (mvS m dx dy) (mvS l dx dy).bx (mvS l dx dy).bY = offS m l.bx l.bY from off_mv _ _ _ _ _,
    show offS (mvS l dx dy) (mvS m dx dy).ax (mvS m dx dy).ay = offS l m.ax m.ay from off_mv _ _ _ _ _, show offS (mvS l dx dy) (mvS m dx dy).bx (mvS m dx dy).bY = offS l m.bx m.bY from off_mv _ _ _ _ _]
  generalize offS m l.ax l.ay = oa
  generalize offS m l.bx l.bY = ob
  generalize offS l m.ax m.ay = ca
  generalize offS l m.bx m.bY = cb
  unfold meetL
  by_cases h1 : oa = 0 ∧ ob = 0
  · rw [if_pos h1, if_pos h1]
    unfold sharedM
    rw [later_mv, earlier_mv]
    exact piece_mv _ _ _ _
  · rw [if_neg h1, if_neg h1]
    by_cases h2 : asideB oa ob = true ∨ asideB ca cb = true
    · rw [if_pos h2, if_pos h2]; exact ⟨rfl, .inl rfl⟩
    · rw [if_neg h2, if_neg h2]
      by_cases h3 : oa = 0
      · rw [if_pos h3, if_pos h3]
        rw [show dotP (mvS l dx dy).ax (mvS l dx dy).ay = mvP (dotP l.ax l.ay) dx dy from dot_mv _ _ _ _]
        exact mov_touch _ _ _
      · rw [if_neg h3, if_neg h3]
        by_cases h4 : ob = 0
        · rw [if_pos h4, if_pos h4]
          rw [show dotP (mvS l dx dy).bx (mvS l dx dy).bY = mvP (dotP l.bx l.bY) dx dy from dot_mv _ _ _ _]
          exact mov_touch _ _ _
        · rw [if_neg h4, if_neg h4, part_mv _ _ _ _ _ (aside_ne (fun h => h2 (.inl h)) h3 h4)]
          exact mov_touch _ _ _
theorem meet_move (s t : Sg) (dx dy : Int) : MovM (meetM (laidS s) (laidS t)) (meetM (laidS (mvS s dx dy)) (laidS (mvS t dx dy))) dx dy := by
  rw [laid_mv, laid_mv]; exact meet_mv _ _ _ _
theorem cross_move (s t : Sg) (dx dy : Int) : crossM (laidS (mvS s dx dy)) (laidS (mvS t dx dy)) = crossM (laidS s) (laidS t) := by
  rw [laid_mv, laid_mv]
  generalize laidS s = l
  generalize laidS t = m
  unfold crossM
  rw [show offS (mvS m dx dy) (mvS l dx dy).ax (mvS l dx dy).ay = offS m l.ax l.ay from off_mv _ _ _ _ _, show offS (mvS m dx dy) (mvS l dx dy).bx (mvS l dx dy).bY = offS m l.bx l.bY from off_mv _ _ _ _ _,
    show offS (mvS l dx dy) (mvS m dx dy).ax (mvS m dx dy).ay = offS l m.ax m.ay from off_mv _ _ _ _ _, show offS (mvS l dx dy) (mvS m dx dy).bx (mvS m dx dy).bY = offS l m.bx m.bY from off_mv _ _ _ _ _]
end CrossMath
