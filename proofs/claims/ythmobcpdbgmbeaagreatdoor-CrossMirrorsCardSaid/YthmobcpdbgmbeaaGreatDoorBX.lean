/- A sum of the program's numbers told by their values. -/
import Derived.Test.YthmobcpdbgmbeaaGreatDoorBV
import Derived.Test.YthmobcpdbgmbeaaGreatDoorBO
import Derived.Test.YthmobcpdbgmbeaaGreatDoorE
namespace Go.Proofs.YthmobcpdbgmbeaaGreatDoor
open Go.RowKit
/-- The value of a row of words. -/
def valI (x : Nat → Int) : Nat → Int
  | 0 => 0
  | k + 1 => valI x k + x k * B64 ^ k
theorem B64_pos (k : Nat) : 0 < B64 ^ k := Int.pow_pos (by decide)
theorem valI_bd {x : Nat → Int} (hx : BdF x) (k : Nat) : 0 ≤ valI x k ∧ valI x k < B64 ^ k := by
  induction k with
  | zero => exact ⟨Int.le_refl _, by show (0 : Int) < 1; decide⟩
  | succ k ih =>
    have h := hx k
    have p := B64_pos k
    rw [valI, Int.pow_succ]
    generalize B64 ^ k = P at *
    have h1 : 0 ≤ x k * P := Int.mul_nonneg h.1 (by omega)
    have h2 : (x k + 1) * P ≤ B64 * P := Int.mul_le_mul_of_nonneg_right (by omega) (by omega)
    rw [Int.add_mul, Int.one_mul, Int.mul_comm B64 P] at h2
    omega
theorem valI_sum {x y : Nat → Int} (k : Nat) : valI (sumF x y) k + carF x y k * B64 ^ k = valI x k + valI y k := by
  induction k with
  | zero => simp [valI, carF]
  | succ k ih =>
    have h : sumF x y k + B64 * carF x y (k + 1) = x k + y k + carF x y k := by
      rw [sumF, carF]; exact Int.emod_add_mul_ediv _ _
    rw [valI, valI, valI, Int.pow_succ, Int.mul_comm (B64 ^ k) B64, ← Int.mul_assoc, Int.mul_comm (carF x y (k + 1)) B64]
    generalize B64 ^ k = P at *
    generalize B64 * carF x y (k + 1) = q at *
    have h2 := congrArg (· * P) h
    simp only [Int.add_mul] at h2
    omega
theorem valI_diff {x y : Nat → Int} (hx : BdF x) (hy : BdF y) (k : Nat) : valI (difF x y) k = valI x k - valI y k + borF x y k * B64 ^ k := by
  induction k with
  | zero => simp [valI, borF]
  | succ k ih =>
    have h : difF x y k = x k - y k - borF x y k + B64 * borF x y (k + 1) := by
      have a := hx k
      have b := hy k
      have c := borF_bd x y k
      rw [difF, borF]
      unfold B64 at *
      split <;> omega
    rw [valI, valI, valI, Int.pow_succ, Int.mul_comm (B64 ^ k) B64, ← Int.mul_assoc, Int.mul_comm (borF x y (k + 1)) B64, h, ih]
    generalize B64 ^ k = P at *
    generalize B64 * borF x y (k + 1) = q at *
    simp only [Int.add_mul, Int.sub_mul]
    omega
theorem ordF_val {x y : Nat → Int} (hx : BdF x) (hy : BdF y) (k : Nat) : ordF x y k = cmpI (valI x k) (valI y k) := by
  induction k with
  | zero => rfl
  | succ k ih =>
    have a := valI_bd hx k
    have b := valI_bd hy k
    have p := B64_pos k
    rw [ordF, valI, valI, ih]
    generalize B64 ^ k = P at *
    generalize valI x k = u at *
    generalize valI y k = v at *
    generalize x k = s
    generalize y k = t
    rcases Int.lt_trichotomy s t with h | h | h
    · have h2 : (s + 1) * P ≤ t * P := Int.mul_le_mul_of_nonneg_right (by omega) (by omega)
      rw [Int.add_mul, Int.one_mul] at h2
      rw [show cmpI s t = -1 by simp [cmpI, h], if_neg (by decide), cmpI, if_pos (by omega)]
    · subst h
      rw [show cmpI s s = 0 by simp [cmpI], if_pos rfl, cmpI, cmpI]
      generalize s * P = r
      split <;> split <;> (try split) <;> (try split) <;> omega
    · have h2 : (t + 1) * P ≤ s * P := Int.mul_le_mul_of_nonneg_right (by omega) (by omega)
      rw [Int.add_mul, Int.one_mul] at h2
      rw [show cmpI s t = 1 by rw [cmpI, if_neg (by omega), if_pos h], if_neg (by decide), cmpI, if_neg (by omega), if_pos (by omega)]
theorem zeroF_val {x : Nat → Int} (hx : BdF x) : zeroF x = true ↔ valI x 4 = 0 := by
  rw [zeroB_iff]
  have h0 := hx 0
  have h1 := hx 1
  have h2 := hx 2
  have h3 := hx 3
  simp only [valI]
  generalize x 0 = a at *
  generalize x 1 = b at *
  generalize x 2 = c at *
  generalize x 3 = d at *
  unfold B64 at *
  simp only [Int.reducePow]
  omega
/-- A sign and a row of words that are number z. -/
def RN (s : Bool) (x : Nat → Int) (z : Int) : Prop := BdF x ∧ z = (if s then -valI x 4 else valI x 4) ∧ (s = true → valI x 4 ≠ 0)
theorem RN.made {s : Bool} {x : Nat → Int} (hx : BdF x) : RN (s && !zeroF x) x (if s then -valI x 4 else valI x 4) := by
  have h := zeroF_val hx
  refine ⟨hx, ?_, ?_⟩
  · cases s
    · rfl
    · cases hz : zeroF x
      · rfl
      · have := h.1 hz; simp [this]
  · intro hs
    cases hz : zeroF x
    · intro h0; rw [h.2 h0] at hz; cases hz
    · rw [hz] at hs; simp at hs
theorem RN.abs {s : Bool} {x : Nat → Int} {z : Int} (h : RN s x z) : (z.natAbs : Int) = valI x 4 := by
  obtain ⟨h1, h2, _⟩ := h
  have := (valI_bd h1 4).1
  rw [h2]
  cases s <;> simp <;> omega
/-- A step of a sum gives the number of the sum, or its mass is too great. -/
theorem plusR_num {s t : Bool} {x y : Nat → Int} {a b : Int} (ha : RN s x a) (hb : RN t y b) :
    match plusR s t x y with | some (u, v) => RN u v (a + b) ∧ ((a + b).natAbs : Int) < B64 ^ 4 | none => B64 ^ 4 ≤ ((a + b).natAbs : Int) := by
  obtain ⟨hx, ha, _⟩ := ha
  obtain ⟨hy, hb, _⟩ := hb
  have hs := valI_sum (x := x) (y := y) 4
  have hc := carF_bd hx hy 4
  have bs := valI_bd (sumF_bd x y) 4
  have bx := valI_bd hx 4
  have bY := valI_bd hy 4
  have ho := ordF_val hx hy 4
  have d1 := valI_diff hx hy 4
  have d2 := valI_diff hy hx 4
  have e1 := valI_bd (difF_bd x y) 4
  have e2 := valI_bd (difF_bd y x) 4
  have c1 := borF_bd x y 4
  have c2 := borF_bd y x 4
  have ms : RN (s && !zeroF (sumF x y)) (sumF x y) _ := RN.made (sumF_bd x y)
  have m1 : RN (s && !zeroF (difF x y)) (difF x y) _ := RN.made (difF_bd x y)
  have m2 : RN (t && !zeroF (difF y x)) (difF y x) _ := RN.made (difF_bd y x)
  unfold plusR
  generalize carF x y 4 = cc at *
  generalize borF x y 4 = k1 at *
  generalize borF y x 4 = k2 at *
  generalize valI (sumF x y) 4 = S at *
  generalize valI (difF x y) 4 = D1 at *
  generalize valI (difF y x) 4 = D2 at *
  generalize valI x 4 = X at *
  generalize valI y 4 = Y at *
  generalize B64 ^ 4 = P at *
  have hm : ∀ k : Int, 0 ≤ k ∧ k ≤ 1 → k = 0 ∧ k * P = 0 ∨ k = 1 ∧ k * P = P := fun k hk => by
    rcases (show k = 0 ∨ k = 1 by omega) with rfl | rfl <;> simp
  have q0 := hm cc hc
  have q1 := hm k1 c1
  have q2 := hm k2 c2
  generalize cc * P = r0 at *
  generalize k1 * P = r1 at *
  generalize k2 * P = r2 at *
  by_cases hst : s = t
  · subst hst
    rw [if_pos rfl]
    by_cases h0 : cc = 0
    · rw [if_pos h0]
      have : a + b = if s then -S else S := by rw [ha, hb]; split <;> omega
      rw [this]
      exact ⟨ms, by split <;> omega⟩
    · rw [if_neg h0]
      show P ≤ _
      rw [ha, hb]; split <;> omega
  · rw [if_neg hst]
    obtain rfl : t = !s := by cases s <;> cases t <;> simp at hst ⊢
    by_cases h0 : ordF x y 4 < 0
    · rw [if_pos h0]
      have h1 : X < Y := by
        rw [ho, cmpI] at h0
        split at h0
        · assumption
        · split at h0 <;> omega
      have : a + b = if (!s) then -D2 else D2 := by rw [ha, hb]; cases s <;> simp <;> omega
      rw [this]
      exact ⟨m2, by split <;> omega⟩
    · rw [if_neg h0]
      have h1 : Y ≤ X := by
        rw [ho, cmpI] at h0
        split at h0 <;> omega
      have : a + b = if s then -D1 else D1 := by rw [ha, hb]; cases s <;> simp <;> omega
      rw [this]
      exact ⟨m1, by split <;> omega⟩
end Go.Proofs.YthmobcpdbgmbeaaGreatDoor
namespace Go.Proofs.YthmobcpdbgmbeaaGreatDoor
open Go.RowKit
theorem valI_nat {x : Nat → Int} (hx : BdF x) (k : Nat) : valI x k = (valW (fun i => (x i).toNat) k : Nat) := by
  induction k with
  | zero => rfl
  | succ k ih =>
    have h := hx k
    have e : x k = ((x k).toNat : Int) := by omega
    rw [valI, valW, ih, Int.natCast_add, Int.natCast_mul, Int.natCast_pow, ← e]
    rfl
theorem toNat_bd {x : Nat → Int} (hx : BdF x) (i : Nat) : (x i).toNat < 18446744073709551616 := by
  have h := hx i
  unfold B64 at h
  omega
theorem RN.word {s : Bool} {x : Nat → Int} {z : Int} (h : RN s x z) (i : Nat) (hi : i < 4) : x i = (W64 z.natAbs i : Nat) := by
  have ha := h.abs
  obtain ⟨hx, _, _⟩ := h
  rw [valI_nat hx] at ha
  have ha2 : z.natAbs = valW (fun i => (x i).toNat) 4 := Int.ofNat.inj ha
  rw [ha2, W64_val 4 (fun i _ => toNat_bd hx i) i hi]
  have := hx i
  show x i = ((x i).toNat : Int)
  omega
theorem RN.sign {s : Bool} {x : Nat → Int} {z : Int} (h : RN s x z) : s = decide (z < 0) := by
  obtain ⟨hx, h2, h3⟩ := h
  have := (valI_bd hx 4).1
  cases s
  · have : ¬ z < 0 := by rw [h2]; simp; omega
    simp [this]
  · have h4 := h3 rfl
    have : z < 0 := by rw [h2]; simp; omega
    simp [this]
theorem RN.value {s : Bool} {x : Nat → Int} {z : Int} (h : RN s x z) : intv s x = ivz z := by
  rw [intv, ivz, ← h.sign, ← h.word 0 (by omega), ← h.word 1 (by omega), ← h.word 2 (by omega), ← h.word 3 (by omega)]
theorem RN.of {z : Int} {x : Nat → Int} (hz : z.natAbs < T256) (hb : BdF x) (hx : ∀ i, i < 4 → x i = (W64 z.natAbs i : Nat)) : RN (decide (z < 0)) x z := by
  have hv : valI x 4 = (z.natAbs : Nat) := by
    rw [valI_nat hb, valW_congr (y := W64 z.natAbs) 4 (fun i hi => by rw [hx i hi]; rfl), valW_W64, Nat.mod_eq_of_lt (by rw [← T256_w]; exact hz)]
  refine ⟨hb, ?_, ?_⟩
  · rw [hv]
    by_cases h : z < 0 <;> simp [h] <;> omega
  · intro h
    rw [hv]
    have : z < 0 := by simpa using h
    omega
theorem prodF_val {x y : Nat → Int} (hx : BdF x) (hy : BdF y) : (prodF x y : Int) = valI x 4 * valI y 4 := by
  rw [valI_nat hx, valI_nat hy, prodF, Int.natCast_mul]
/-- A step of a product. -/
theorem timesR_num {s t : Bool} {x y : Nat → Int} {a b : Int} (ha : RN s x a) (hb : RN t y b) :
    match timesR s t x y with | some (u, v) => RN u v (a * b) ∧ ((a * b).natAbs : Int) < B64 ^ 4 | none => B64 ^ 4 ≤ ((a * b).natAbs : Int) := by
  have e : (prodF x y : Int) = ((a * b).natAbs : Nat) := by rw [prodF_val ha.1 hb.1, ← ha.abs, ← hb.abs, Int.natAbs_mul, Int.natCast_mul]
  have e2 : prodF x y = (a * b).natAbs := Int.ofNat.inj e
  rw [timesR_def, e2]
  have hB : (B64 ^ 4 : Int) = ((18446744073709551616 ^ 4 : Nat) : Int) := rfl
  by_cases h : (a * b).natAbs < 18446744073709551616 ^ 4
  · rw [if_pos h]
    have hb2 : BdF (fun i => ((W64 (a * b).natAbs i : Nat) : Int)) := fun i => W64_bd _ i
    have hv : valI (fun i => ((W64 (a * b).natAbs i : Nat) : Int)) 4 = ((a * b).natAbs : Nat) := by
      rw [valI_nat hb2]
      show ((valW (W64 (a * b).natAbs) 4 : Nat) : Int) = _
      rw [valW_W64, Nat.mod_eq_of_lt h]
    refine ⟨?_, by rw [hB]; exact Int.ofNat_lt.2 h⟩
    have hm : RN ((s != t) && !zeroF (fun i => ((W64 (a * b).natAbs i : Nat) : Int))) _ _ := RN.made (s := (s != t)) hb2
    rw [hv] at hm
    have hz : a * b = if (s != t) then -((a * b).natAbs : Int) else ((a * b).natAbs : Int) := by
      have h1 := ha.2.1
      have h2 := hb.2.1
      have p1 := (valI_bd ha.1 4).1
      have p2 := (valI_bd hb.1 4).1
      rw [Int.natAbs_mul, Int.natCast_mul, ha.abs, hb.abs, h1, h2]
      clear hm hv hb2 h hB e2 e h1 h2 ha hb p1 p2
      generalize valI x 4 = X
      generalize valI y 4 = Y
      cases s <;> cases t <;> simp [Int.neg_mul, Int.mul_neg]
    rw [← hz] at hm
    exact hm
  · rw [if_neg h]
    show B64 ^ 4 ≤ _
    rw [hB]; exact Int.ofNat_le.2 (Nat.le_of_not_lt h)
end Go.Proofs.YthmobcpdbgmbeaaGreatDoor
namespace Go.Proofs.YthmobcpdbgmbeaaGreatDoor
open Go.RowKit
/-- Numbers put together one after the other, as long as none is too great. -/
def zfold (op : Int → Int → Int) (zs : Nat → Int) (z0 : Int) : Nat → Option Int
  | 0 => some z0
  | k + 1 => match zfold op zs z0 k with
    | some z => if ((op z (zs k)).natAbs : Int) < B64 ^ 4 then some (op z (zs k)) else none
    | none => none
/-- What a step gives: the number, or that it is too great. -/
def StepOut (z : Int) : Option (Bool × (Nat → Int)) → Prop
  | some q => RN q.1 q.2 z ∧ (z.natAbs : Int) < B64 ^ 4
  | none => B64 ^ 4 ≤ (z.natAbs : Int)
theorem plus_out {s t : Bool} {x y : Nat → Int} {a b : Int} (ha : RN s x a) (hb : RN t y b) : StepOut (a + b) (plusR s t x y) := by
  have h := plusR_num ha hb
  generalize plusR s t x y = r at *
  generalize a + b = z at *
  cases r with
  | none => exact h
  | some q => exact h
theorem times_out {s t : Bool} {x y : Nat → Int} {a b : Int} (ha : RN s x a) (hb : RN t y b) : StepOut (a * b) (timesR s t x y) := by
  have h := timesR_num ha hb
  generalize timesR s t x y = r at *
  generalize a * b = z at *
  cases r with
  | none => exact h
  | some q => exact h
/-- A step of the program does what op says. -/
def StepNum (st : StepR) (op : Int → Int → Int) : Prop := ∀ (s t : Bool) (x y : Nat → Int) (a b : Int), RN s x a → RN t y b → StepOut (op a b) (st s t x y)
theorem step_plus : StepNum plusR (fun a b => a + b) := fun _ _ _ _ _ _ h1 h2 => plus_out h1 h2
theorem step_times : StepNum timesR (fun a b => a * b) := fun _ _ _ _ _ _ h1 h2 => times_out h1 h2
/-- A row's fold and the numbers' fold agree. -/
def FoldNum (r : Option (Bool × (Nat → Int))) (q : Option Int) : Prop := match r, q with
  | some (u, v), some z => RN u v z
  | none, none => True
  | _, _ => False
theorem fold_num {st : StepR} {op : Int → Int → Int} (hst : StepNum st op) {neg : Nat → Bool} {m : Nat → Nat → Int} {zs : Nat → Int} {s0 : Bool} {x0 : Nat → Int} {z0 : Int} (h0 : RN s0 x0 z0) (n : Nat)
    (h : ∀ i, i < n → RN (neg i) (m i) (zs i)) : FoldNum (foldR st neg m s0 x0 n) (zfold op zs z0 n) := by
  induction n with
  | zero => exact h0
  | succ n ih =>
    have ih := ih (fun i hi => h i (by omega))
    have hn := h n (by omega)
    rw [foldR, zfold]
    revert ih
    cases foldR st neg m s0 x0 n with
    | none => cases zfold op zs z0 n with
      | none => exact fun _ => trivial
      | some z => exact fun h => h.elim
    | some q =>
      obtain ⟨u, v⟩ := q
      cases zfold op zs z0 n with
      | none => exact fun h => h.elim
      | some z =>
        intro (hr : RN u v z)
        have hs := hst u (neg n) v (m n) z (zs n) hr hn
        show FoldNum (st u (neg n) v (m n)) (if ((op z (zs n)).natAbs : Int) < B64 ^ 4 then some (op z (zs n)) else none)
        revert hs
        cases st u (neg n) v (m n) with
        | none =>
          intro (hs : B64 ^ 4 ≤ _)
          rw [if_neg (Int.not_lt.2 hs)]
          trivial
        | some p =>
          intro hs
          rw [if_pos hs.2]
          exact hs.1
theorem RN.right {s : Bool} {x : Nat → Int} {z : Int} (h : RN s x z) : (s && zeroF x) = false := by
  cases s
  · rfl
  · cases hz : zeroF x
    · rfl
    · exact absurd ((zeroF_val h.1).1 hz) (h.2.2 rfl)
theorem errAll_num {neg : Nat → Bool} {m : Nat → Nat → Int} {zs : Nat → Int} (n : Nat) (h : ∀ i, i < n → RN (neg i) (m i) (zs i)) : errAll neg m n = 0 := by
  induction n with
  | zero => rfl
  | succ n ih => rw [errAll, if_pos (ih (fun i hi => h i (by omega))), errArg_ok (h n (by omega)).right]
/-- What a call of limb answers: a number, or that it is too great. -/
def ansz : Option Int → Value
  | some z => .tuple #[ivz z, .int .i64 0]
  | none => .tuple #[ivz 0, .int .i64 110]
theorem ivz_nought : iv false 0 0 0 0 = ivz 0 := by simp [ivz, W64]
theorem after_num {st : StepR} {op : Int → Int → Int} (hst : StepNum st op) {neg : Nat → Bool} {m : Nat → Nat → Int} {zs : Nat → Int} {s0 : Bool} {x0 : Nat → Int} {z0 : Int} (h0 : RN s0 x0 z0) (n : Nat)
    (h : ∀ i, i < n → RN (neg i) (m i) (zs i)) : afterR st neg m s0 x0 n = ansz (zfold op zs z0 n) := by
  have hf := fold_num hst h0 n h
  rw [afterR, if_pos (errAll_num n h)]
  revert hf
  cases foldR st neg m s0 x0 n with
  | none => cases zfold op zs z0 n with
    | none => intro _; rw [ansz, ← ivz_nought]
    | some z => exact fun h => h.elim
  | some q =>
    obtain ⟨u, v⟩ := q
    cases zfold op zs z0 n with
    | none => exact fun h => h.elim
    | some z =>
      intro (hr : RN u v z)
      show Value.tuple #[intv u v, .int .i64 0] = _
      rw [hr.value, ansz]
theorem zero_num : RN false (fun _ => 0) 0 := ⟨zero_bd, by simp [valI], by intro h; cases h⟩
theorem one_num : RN false oneF 1 := ⟨one_bd, by simp [valI, oneF], by intro h; cases h⟩
end Go.Proofs.YthmobcpdbgmbeaaGreatDoor
namespace Go.Proofs.YthmobcpdbgmbeaaGreatDoor
open Go.RowKit
theorem valI_W64 {z : Int} (hz : z.natAbs < T256) : valI (fun i => ((W64 z.natAbs i : Nat) : Int)) 4 = (z.natAbs : Nat) := by
  rw [valI_nat (fun i => W64_bd _ i)]
  show ((valW (W64 z.natAbs) 4 : Nat) : Int) = _
  rw [valW_W64, Nat.mod_eq_of_lt (by rw [← T256_w]; exact hz)]
theorem zeroB_W64 {z : Int} (hz : z.natAbs < T256) : zeroB (W64 z.natAbs 0 : Nat) (W64 z.natAbs 1 : Nat) (W64 z.natAbs 2 : Nat) (W64 z.natAbs 3 : Nat) = decide (z = 0) := by
  have h := zeroF_val (x := fun i => ((W64 z.natAbs i : Nat) : Int)) (fun i => W64_bd _ i)
  rw [valI_W64 hz] at h
  by_cases h0 : z = 0
  · rw [decide_eq_true h0]; exact h.2 (by omega)
  · rw [decide_eq_false h0]
    cases hq : zeroB (W64 z.natAbs 0 : Nat) (W64 z.natAbs 1 : Nat) (W64 z.natAbs 2 : Nat) (W64 z.natAbs 3 : Nat)
    · rfl
    · have := h.1 hq; omega
theorem negR_z {z : Int} (hz : z.natAbs < T256) : negR (decide (z < 0)) (W64 z.natAbs 0 : Nat) (W64 z.natAbs 1 : Nat) (W64 z.natAbs 2 : Nat) (W64 z.natAbs 3 : Nat) = .tuple #[ivz (-z), .int .i64 0] := by
  have h := ivz_right z hz
  rw [negR, h, if_neg (by decide), zeroB_W64 hz, ivz, Int.natAbs_neg]
  have e : (!decide (z < 0) && !decide (z = 0)) = decide (-z < 0) := by
    by_cases h1 : z < 0
    · rw [decide_eq_true h1, decide_eq_false (show ¬ -z < 0 by omega)]; rfl
    · by_cases h2 : z = 0
      · rw [decide_eq_true h2, decide_eq_false (show ¬ -z < 0 by omega)]; simp
      · rw [decide_eq_false h1, decide_eq_false h2, decide_eq_true (show -z < 0 by omega)]; rfl
  rw [e]
theorem neg_z (z : Int) (w : World) (hz : z.natAbs < T256) : Calls Tryz.prog 122 #[ivz z] w fun e w' => e = .returned (.tuple #[ivz (-z), .int .i64 0]) ∧ Below w.heap.size w w' := by
  have h := neg_any (decide (z < 0)) (W64 z.natAbs 0 : Nat) (W64 z.natAbs 1 : Nat) (W64 z.natAbs 2 : Nat) (W64 z.natAbs 3 : Nat) w
  rw [negR_z hz] at h
  exact h
end Go.Proofs.YthmobcpdbgmbeaaGreatDoor
namespace Go.Proofs.YthmobcpdbgmbeaaGreatDoor
open Go.RowKit
theorem row4_W64 (m : Nat) (i : Nat) (h : i < 4) : row4 (W64 m 0 : Nat) (W64 m 1 : Nat) (W64 m 2 : Nat) (W64 m 3 : Nat) i = (W64 m i : Nat) := by
  match i, h with
  | 0, _ | 1, _ | 2, _ | 3, _ => rfl
theorem add_two_z (x y : Int) (b c : Nat) (w : World) (hx : x.natAbs < T256) (hy : y.natAbs < T256)
    (hr : Row w b [.bool (decide (x < 0)), .int .u64 (W64 x.natAbs 0 : Nat), .int .u64 (W64 x.natAbs 1 : Nat), .int .u64 (W64 x.natAbs 2 : Nat), .int .u64 (W64 x.natAbs 3 : Nat), .bool (decide (y < 0)), .int .u64 (W64 y.natAbs 0 : Nat), .int .u64 (W64 y.natAbs 1 : Nat), .int .u64 (W64 y.natAbs 2 : Nat), .int .u64 (W64 y.natAbs 3 : Nat)]) :
    Calls Tryz.prog 123 #[.slice (some ⟨b, 0, none⟩) 2 c] w fun e w' => e = .returned (ansz (zfold (fun a b => a + b) (fun i => if i = 0 then x else y) 0 2)) ∧ Below w.heap.size w w' := by
  have h := add_any b 0 2 c _ _ w (by decide) hr.lt (two_ints hr) (by
    intro k
    by_cases hk : k = 0
    · simp only [hk, if_true]; exact row4_W64_bd _
    · simp only [if_neg hk]; exact row4_W64_bd _)
  rw [after_num (zs := fun i => if i = 0 then x else y) step_plus zero_num 2 (by
    intro i hi
    match i, hi with
    | 0, _ => exact RN.of hx (row4_W64_bd _) (fun i hi => row4_W64 _ i hi)
    | 1, _ => exact RN.of hy (row4_W64_bd _) (fun i hi => row4_W64 _ i hi))] at h
  exact h
theorem ansz_form (o : Option Int) : ∃ u v0 v1 v2 v3 k, ansz o = .tuple #[iv u v0 v1 v2 v3, .int .i64 k] := by
  cases o with
  | none => exact ⟨_, _, _, _, _, _, rfl⟩
  | some z => exact ⟨_, _, _, _, _, _, rfl⟩
set_option maxHeartbeats 400000 in
set_option maxRecDepth 100000 in
theorem sub_z (x y : Int) (w : World) (hx : x.natAbs < T256) (hy : y.natAbs < T256) : Calls Tryz.prog 96 #[ivz x, ivz y] w fun e w' => e = .returned (ansz (zfold (fun a b => a + b) (fun i => if i = 0 then x else -y) 0 2)) ∧ Below w.heap.size w w' := by
  have HN := Lib.hid (fun W => neg_z y W hy)
  have HA := Lib.hid (fun b W h => add_two_z x (-y) b 2 W hx (by rw [Int.natAbs_neg]; exact hy) h)
  obtain ⟨u, v0, v1, v2, v3, k, hR⟩ := ansz_form (zfold (fun a b => a + b) (fun i => if i = 0 then x else -y) 0 2)
  rw [hR] at HA ⊢
  clear hR
  simp only [ivz, Int.natAbs_neg] at HN HA ⊢
  generalize decide (x < 0) = s at HA ⊢
  generalize decide (y < 0) = t at HN ⊢
  generalize decide (-y < 0) = t' at HN HA ⊢
  go_enter Tryz.func96, Tryz.ntmps96
  go_wp2_with fail
  refine (HN.out _).mono ?_
  rintro e w1 ⟨rfl, hb1⟩
  have hB : Below w.heap.size w w1 := ((((Below.refl w.heap.size w).alloc (Nat.le_refl _) _).alloc (by simp) _).alloc (by simp; omega) _).trans (hb1.mono (by simp; omega))
  generalize ((W64 x.natAbs 0 : Nat) : Int) = x0 at *
  generalize ((W64 x.natAbs 1 : Nat) : Int) = x1 at *
  generalize ((W64 x.natAbs 2 : Nat) : Int) = x2 at *
  generalize ((W64 x.natAbs 3 : Nat) : Int) = x3 at *
  generalize ((W64 y.natAbs 0 : Nat) : Int) = y0 at *
  generalize ((W64 y.natAbs 1 : Nat) : Int) = y1 at *
  generalize ((W64 y.natAbs 2 : Nat) : Int) = y2 at *
  generalize ((W64 y.natAbs 3 : Nat) : Int) = y3 at *
  have r0 : Row w1 w.heap.size [.bool s, .int .u64 x0, .int .u64 x1, .int .u64 x2, .int .u64 x3] := (((Row.at rfl _ _).alloc _).alloc _).after hb1
  have r1 : Row w1 (w.heap.size + 1) [.bool t, .int .u64 y0, .int .u64 y1, .int .u64 y2, .int .u64 y3] := ((Row.at (by simp) _ _).alloc _).after hb1
  have r2 : Row w1 (w.heap.size + 1 + 1) [.bool false, .int .u64 0, .int .u64 0, .int .u64 0, .int .u64 0] := (Row.at (by simp) _ _).after hb1
  clear hb1
  have a0 := r0.c 0 rfl
  have a1 := r0.c 1 rfl
  have a2 := r0.c 2 rfl
  have a3 := r0.c 3 rfl
  have a4 := r0.c 4 rfl
  have b0 := r1.c 0 rfl
  have f0 := r1.f 0 rfl
  have b1 := r1.c 1 rfl
  have f1 := r1.f 1 rfl
  have b2 := r1.c 2 rfl
  have f2 := r1.f 2 rfl
  have b3 := r1.c 3 rfl
  have f3 := r1.f 3 rfl
  have b4 := r1.c 4 rfl
  have f4 := r1.f 4 rfl
  go_wp2_with fail
  clear a0 b0 f0 a1 b1 f1 a2 b2 f2 a3 b3 f3 a4 b4 f4
  generalize hW : World.alloc _ _ = W2
  have l1 := r1.lt
  have l2 := r2.lt
  have al : ∀ W o, Below w.heap.size w W → Below w.heap.size w (W.alloc o) := fun W o h => h.alloc h.size o
  have hB2 : Below w.heap.size w W2 := by
    rw [← hW]
    refine al _ _ ?_
    exact below_put5 hB (by omega) _ _ _ _ _
  have q2 : Row W2 (w.heap.size + 1 + 1) [.bool false, .int .u64 0, .int .u64 0, .int .u64 0, .int .u64 0] := by rw [← hW]; exact (r2.other5 (by omega) _ _ _ _ _).alloc _
  have q : Row W2 w1.heap.size [.bool s, .int .u64 x0, .int .u64 x1, .int .u64 x2, .int .u64 x3, .bool t', .int .u64 y0, .int .u64 y1, .int .u64 y2, .int .u64 y3] := by rw [← hW]; exact Row.at (by simp) _ _
  clear hW
  refine (HA.out _ _ q).mono ?_
  rintro e w3 ⟨rfl, hb3⟩
  have q3 := q2.after hb3
  have hB3 : Below w.heap.size w w3 := hB2.trans (hb3.mono hB2.size)
  clear hb3
  have a0 := q3.c 0 rfl
  have f0 := q3.f 0 rfl
  have a1 := q3.c 1 rfl
  have f1 := q3.f 1 rfl
  have a2 := q3.c 2 rfl
  have f2 := q3.f 2 rfl
  have a3 := q3.c 3 rfl
  have f3 := q3.f 3 rfl
  have a4 := q3.c 4 rfl
  have f4 := q3.f 4 rfl
  go_wp2
  clear a0 f0 a1 f1 a2 f2 a3 f3 a4 f4
  generalize hW : World.setCell _ _ _ = W4
  have rR4 : Row W4 (w.heap.size + 1 + 1) [.bool u, .int .u64 v0, .int .u64 v1, .int .u64 v2, .int .u64 v3] := by rw [← hW]; exact q3.put5 _ _ _ _ _
  have hB4 : Below w.heap.size w W4 := by rw [← hW]; exact below_put5 hB3 (by omega) _ _ _ _ _
  exact bodyPost_ret (v := .tuple #[iv u v0 v1 v2 v3, .int .i64 k]) (by simp [results, Tryz.results96, go_sem, rR4.c 0 rfl, rR4.c 1 rfl, rR4.c 2 rfl, rR4.c 3 rfl, rR4.c 4 rfl]) rfl ⟨rfl, hB4⟩
end Go.Proofs.YthmobcpdbgmbeaaGreatDoor
namespace Go.Proofs.YthmobcpdbgmbeaaGreatDoor
open Go.RowKit
end Go.Proofs.YthmobcpdbgmbeaaGreatDoor
