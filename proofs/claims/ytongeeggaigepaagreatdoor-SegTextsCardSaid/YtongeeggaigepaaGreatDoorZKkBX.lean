import Derived.Test.YtongeeggaigepaaGreatDoorZKkBG
import Derived.Test.YtongeeggaigepaaGreatDoorZKkBO
import Derived.Test.YtongeeggaigepaaGreatDoorZKkE
namespace Go.Proofs.YtongeeggaigepaaGreatDoor
open Go.RowKit
def valI (x : Nat → Int) : Nat → Int
 | 0 => 0
 | k + 1 => valI x k + x k * B64 ^ k
theorem B64_pos (k : Nat) : 0 < B64 ^ k := Int.pow_pos (by decide)
theorem valI_bd {x : Nat → Int} (hx : BdF x) (k : Nat) : 0 ≤ valI x k ∧ valI x k < B64 ^ k := by
 induction k with
 | zero => exact ⟨Int.le_refl _, by show (0 : Int) < 1; decide⟩
 | succ k ih =>
   have h := hx k
   have p := B64_pos k
   rw [valI, Int.pow_succ]
   generalize B64 ^ k = P at *
   have h1 : 0 ≤ x k * P := Int.mul_nonneg h.1 (by omega)
   have h2 : (x k + 1) * P ≤ B64 * P := Int.mul_le_mul_of_nonneg_right (by omega) (by omega)
   rw [Int.add_mul, Int.one_mul, Int.mul_comm B64 P] at h2
   omega
theorem valI_sum {x y : Nat → Int} (k : Nat) : valI (sumF x y) k + carF x y k * B64 ^ k = valI x k + valI y k := by
 induction k with
 | zero => simp [valI, carF]
 | succ k ih =>
   have h : sumF x y k + B64 * carF x y (k + 1) = x k + y k + carF x y k := by
    rw [sumF, carF]; exact Int.emod_add_mul_ediv _ _
   rw [valI, valI, valI, Int.pow_succ, Int.mul_comm (B64 ^ k) B64, ← Int.mul_assoc, Int.mul_comm (carF x y (k + 1)) B64]
   generalize B64 ^ k = P at *
   generalize B64 * carF x y (k + 1) = q at *
   have h2 := congrArg (· * P) h
   simp only [Int.add_mul] at h2
   omega
theorem valI_diff {x y : Nat → Int} (hx : BdF x) (hy : BdF y) (k : Nat) : valI (difF x y) k = valI x k - valI y k + borF x y k * B64 ^ k := by
 induction k with
 | zero => simp [valI, borF]
 | succ k ih =>
   have h : difF x y k = x k - y k - borF x y k + B64 * borF x y (k + 1) := by
    have a := hx k
    have b := hy k
    have c := borF_bd x y k
    rw [difF, borF]
    unfold B64 at *
    split <;> omega
   rw [valI, valI, valI, Int.pow_succ, Int.mul_comm (B64 ^ k) B64, ← Int.mul_assoc, Int.mul_comm (borF x y (k + 1)) B64, h, ih]
   generalize B64 ^ k = P at *
   generalize B64 * borF x y (k + 1) = q at *
   simp only [Int.add_mul, Int.sub_mul]
   omega
theorem ordF_val {x y : Nat → Int} (hx : BdF x) (hy : BdF y) (k : Nat) : ordF x y k = cmpI (valI x k) (valI y k) := by
 induction k with
 | zero => rfl
 | succ k ih =>
   have a := valI_bd hx k
   have b := valI_bd hy k
   have p := B64_pos k
   rw [ordF, valI, valI, ih]
   generalize B64 ^ k = P at *
   generalize valI x k = u at *
   generalize valI y k = v at *
   generalize x k = s
   generalize y k = t
   rcases Int.lt_trichotomy s t with h | h | h
   ·have h2 : (s + 1) * P ≤ t * P := Int.mul_le_mul_of_nonneg_right (by omega) (by omega)
    rw [Int.add_mul, Int.one_mul] at h2
    rw [show cmpI s t = -1 by simp [cmpI, h], if_neg (by decide), cmpI, if_pos (by omega)]
   ·subst h
    rw [show cmpI s s = 0 by simp [cmpI], if_pos rfl, cmpI, cmpI]
    generalize s * P = r
    split <;> split <;> (try split) <;> (try split) <;> omega
   ·have h2 : (t + 1) * P ≤ s * P := Int.mul_le_mul_of_nonneg_right (by omega) (by omega)
    rw [Int.add_mul, Int.one_mul] at h2
    rw [show cmpI s t = 1 by rw [cmpI, if_neg (by omega), if_pos h], if_neg (by decide), cmpI, if_neg (by omega), if_pos (by omega)]
theorem zeroF_val {x : Nat → Int} (hx : BdF x) : zeroF x = true ↔ valI x 4 = 0 := by
 rw [zeroB_iff]
 have h0 := hx 0
 have h1 := hx 1
 have h2 := hx 2
 have h3 := hx 3
 simp only [valI]
 generalize x 0 = a at *
 generalize x 1 = b at *
 generalize x 2 = c at *
 generalize x 3 = d at *
 unfold B64 at *
 simp only [Int.reducePow]
 omega
def RN (s : Bool) (x : Nat → Int) (z : Int) : Prop := BdF x ∧ z = (if s then -valI x 4 else valI x 4) ∧ (s = true → valI x 4 ≠ 0)
theorem RN.made {s : Bool} {x : Nat → Int} (hx : BdF x) : RN (s && !zeroF x) x (if s then -valI x 4 else valI x 4) := by
 have h := zeroF_val hx
 refine ⟨hx, ?_, ?_⟩
 ·cases s
  ·rfl
  ·cases hz : zeroF x
   ·rfl
   ·have := h.1 hz; simp [this]
 ·intro hs
  cases hz : zeroF x
  ·intro h0; rw [h.2 h0] at hz; cases hz
  ·rw [hz] at hs; simp at hs
theorem RN.abs {s : Bool} {x : Nat → Int} {z : Int} (h : RN s x z) : (z.natAbs : Int) = valI x 4 := by
 obtain ⟨h1, h2, _⟩ := h
 have := (valI_bd h1 4).1
 rw [h2]
 cases s <;> simp <;> omega
theorem plusR_num {s t : Bool} {x y : Nat → Int} {a b : Int} (ha : RN s x a) (hb : RN t y b) :
 match plusR s t x y with | some (u, v) => RN u v (a + b) ∧ ((a + b).natAbs : Int) < B64 ^ 4 | none => B64 ^ 4 ≤ ((a + b).natAbs : Int) := by
 obtain ⟨hx, ha, _⟩ := ha
 obtain ⟨hy, hb, _⟩ := hb
 have hs := valI_sum (x := x) (y := y) 4
 have hc := carF_bd hx hy 4
 have bs := valI_bd (sumF_bd x y) 4
 have bx := valI_bd hx 4
 have bY := valI_bd hy 4
 have ho := ordF_val hx hy 4
 have d1 := valI_diff hx hy 4
 have d2 := valI_diff hy hx 4
 have e1 := valI_bd (difF_bd x y) 4
 have e2 := valI_bd (difF_bd y x) 4
 have c1 := borF_bd x y 4
 have c2 := borF_bd y x 4
 have ms : RN (s && !zeroF (sumF x y)) (sumF x y) _ := RN.made (sumF_bd x y)
 have m1 : RN (s && !zeroF (difF x y)) (difF x y) _ := RN.made (difF_bd x y)
 have m2 : RN (t && !zeroF (difF y x)) (difF y x) _ := RN.made (difF_bd y x)
 unfold plusR
 generalize carF x y 4 = cc at *
 generalize borF x y 4 = k1 at *
 generalize borF y x 4 = k2 at *
 generalize valI (sumF x y) 4 = S at *
 generalize valI (difF x y) 4 = D1 at *
 generalize valI (difF y x) 4 = D2 at *
 generalize valI x 4 = X at *
 generalize valI y 4 = Y at *
 generalize B64 ^ 4 = P at *
 have hm : ∀ k : Int, 0 ≤ k ∧ k ≤ 1 → k = 0 ∧ k * P = 0 ∨ k = 1 ∧ k * P = P := fun k hk => by
  rcases (show k = 0 ∨ k = 1 by omega) with rfl | rfl <;> simp
 have q0 := hm cc hc
 have q1 := hm k1 c1
 have q2 := hm k2 c2
 generalize cc * P = r0 at *
 generalize k1 * P = r1 at *
 generalize k2 * P = r2 at *
 by_cases hst : s = t
 ·subst hst
  rw [if_pos rfl]
  by_cases h0 : cc = 0
  ·rw [if_pos h0]
   have : a + b = if s then -S else S := by rw [ha, hb]; split <;> omega
   rw [this]
   exact ⟨ms, by split <;> omega⟩
  ·rw [if_neg h0]
   show P ≤ _
   rw [ha, hb]; split <;> omega
 ·rw [if_neg hst]
  obtain rfl : t = !s := by cases s <;> cases t <;> simp at hst ⊢
  by_cases h0 : ordF x y 4 < 0
  ·rw [if_pos h0]
   have h1 : X < Y := by
    rw [ho, cmpI] at h0
    split at h0
    ·assumption
    ·split at h0 <;> omega
   have : a + b = if (!s) then -D2 else D2 := by rw [ha, hb]; cases s <;> simp <;> omega
   rw [this]
   exact ⟨m2, by split <;> omega⟩
  ·rw [if_neg h0]
   have h1 : Y ≤ X := by
    rw [ho, cmpI] at h0
    split at h0 <;> omega
   have : a + b = if s then -D1 else D1 := by rw [ha, hb]; cases s <;> simp <;> omega
   rw [this]
   exact ⟨m1, by split <;> omega⟩
end Go.Proofs.YtongeeggaigepaaGreatDoor
namespace Go.Proofs.YtongeeggaigepaaGreatDoor
open Go.RowKit
theorem valI_nat {x : Nat → Int} (hx : BdF x) (k : Nat) : valI x k = (valW (fun i => (x i).toNat) k : Nat) := by
 induction k with
 | zero => rfl
 | succ k ih =>
   have h := hx k
   have e : x k = ((x k).toNat : Int) := by omega
   rw [valI, valW, ih, Int.natCast_add, Int.natCast_mul, Int.natCast_pow, ← e]
   rfl
theorem toNat_bd {x : Nat → Int} (hx : BdF x) (i : Nat) : (x i).toNat < 18446744073709551616 := by
 have h := hx i
 unfold B64 at h
 omega
theorem RN.word {s : Bool} {x : Nat → Int} {z : Int} (h : RN s x z) (i : Nat) (hi : i < 4) : x i = (W64 z.natAbs i : Nat) := by
 have ha := h.abs
 obtain ⟨hx, _, _⟩ := h
 rw [valI_nat hx] at ha
 have ha2 : z.natAbs = valW (fun i => (x i).toNat) 4 := Int.ofNat.inj ha
 rw [ha2, W64_val 4 (fun i _ => toNat_bd hx i) i hi]
 have := hx i
 show x i = ((x i).toNat : Int)
 omega
theorem RN.sign {s : Bool} {x : Nat → Int} {z : Int} (h : RN s x z) : s = decide (z < 0) := by
 obtain ⟨hx, h2, h3⟩ := h
 have := (valI_bd hx 4).1
 cases s
 ·have : ¬ z < 0 := by rw [h2]; simp; omega
  simp [this]
 ·have h4 := h3 rfl
  have : z < 0 := by rw [h2]; simp; omega
  simp [this]
theorem RN.value {s : Bool} {x : Nat → Int} {z : Int} (h : RN s x z) : intv s x = ivz z := by
 rw [intv, ivz, ← h.sign, ← h.word 0 (by omega), ← h.word 1 (by omega), ← h.word 2 (by omega), ← h.word 3 (by omega)]
theorem RN.of {z : Int} {x : Nat → Int} (hz : z.natAbs < T256) (hb : BdF x) (hx : ∀ i, i < 4 → x i = (W64 z.natAbs i : Nat)) : RN (decide (z < 0)) x z := by
 have hv : valI x 4 = (z.natAbs : Nat) := by
  rw [valI_nat hb, valW_congr (y := W64 z.natAbs) 4 (fun i hi => by rw [hx i hi]; rfl), valW_W64, Nat.mod_eq_of_lt (by rw [← T256_w]; exact hz)]
 refine ⟨hb, ?_, ?_⟩
 ·rw [hv]
  by_cases h : z < 0 <;> simp [h] <;> omega
 ·intro h
  rw [hv]
  have : z < 0 := by simpa using h
  omega
theorem prodF_val {x y : Nat → Int} (hx : BdF x) (hy : BdF y) : (prodF x y : Int) = valI x 4 * valI y 4 := by
 rw [valI_nat hx, valI_nat hy, prodF, Int.natCast_mul]
theorem timesR_num {s t : Bool} {x y : Nat → Int} {a b : Int} (ha : RN s x a) (hb : RN t y b) :
 match timesR s t x y with | some (u, v) => RN u v (a * b) ∧ ((a * b).natAbs : Int) < B64 ^ 4 | none => B64 ^ 4 ≤ ((a * b).natAbs : Int) := by
 have e : (prodF x y : Int) = ((a * b).natAbs : Nat) := by rw [prodF_val ha.1 hb.1, ← ha.abs, ← hb.abs, Int.natAbs_mul, Int.natCast_mul]
 have e2 : prodF x y = (a * b).natAbs := Int.ofNat.inj e
 rw [timesR_def, e2]
 have hB : (B64 ^ 4 : Int) = ((18446744073709551616 ^ 4 : Nat) : Int) := rfl
 by_cases h : (a * b).natAbs < 18446744073709551616 ^ 4
 ·rw [if_pos h]
  have hb2 : BdF (fun i => ((W64 (a * b).natAbs i : Nat) : Int)) := fun i => W64_bd _ i
  have hv : valI (fun i => ((W64 (a * b).natAbs i : Nat) : Int)) 4 = ((a * b).natAbs : Nat) := by
   rw [valI_nat hb2]
   show ((valW (W64 (a * b).natAbs) 4 : Nat) : Int) = _
   rw [valW_W64, Nat.mod_eq_of_lt h]
  refine ⟨?_, by rw [hB]; exact Int.ofNat_lt.2 h⟩
  have hm : RN ((s != t) && !zeroF (fun i => ((W64 (a * b).natAbs i : Nat) : Int))) _ _ := RN.made (s := (s != t)) hb2
  rw [hv] at hm
  have hz : a * b = if (s != t) then -((a * b).natAbs : Int) else ((a * b).natAbs : Int) := by
   have h1 := ha.2.1
   have h2 := hb.2.1
   have p1 := (valI_bd ha.1 4).1
   have p2 := (valI_bd hb.1 4).1
   rw [Int.natAbs_mul, Int.natCast_mul, ha.abs, hb.abs, h1, h2]
   clear hm hv hb2 h hB e2 e h1 h2 ha hb p1 p2
   generalize valI x 4 = X
   generalize valI y 4 = Y
   cases s <;> cases t <;> simp [Int.neg_mul, Int.mul_neg]
  rw [← hz] at hm
  exact hm
 ·rw [if_neg h]
  show B64 ^ 4 ≤ _
  rw [hB]; exact Int.ofNat_le.2 (Nat.le_of_not_lt h)
end Go.Proofs.YtongeeggaigepaaGreatDoor
namespace Go.Proofs.YtongeeggaigepaaGreatDoor
open Go.RowKit
def zfold (op : Int → Int → Int) (zs : Nat → Int) (z0 : Int) : Nat → Option Int
 | 0 => some z0
 | k + 1 => match zfold op zs z0 k with
   | some z => if ((op z (zs k)).natAbs : Int) < B64 ^ 4 then some (op z (zs k)) else none
   | none => none
def StepOut (z : Int) : Option (Bool × (Nat → Int)) → Prop
 | some q => RN q.1 q.2 z ∧ (z.natAbs : Int) < B64 ^ 4
 | none => B64 ^ 4 ≤ (z.natAbs : Int)
theorem plus_out {s t : Bool} {x y : Nat → Int} {a b : Int} (ha : RN s x a) (hb : RN t y b) : StepOut (a + b) (plusR s t x y) := by
 have h := plusR_num ha hb
 generalize plusR s t x y = r at *
 generalize a + b = z at *
 cases r with
 | none => exact h
 | some q => exact h
theorem times_out {s t : Bool} {x y : Nat → Int} {a b : Int} (ha : RN s x a) (hb : RN t y b) : StepOut (a * b) (timesR s t x y) := by
 have h := timesR_num ha hb
 generalize timesR s t x y = r at *
 generalize a * b = z at *
 cases r with
 | none => exact h
 | some q => exact h
def StepNum (st : StepR) (op : Int → Int → Int) : Prop := ∀ (s t : Bool) (x y : Nat → Int) (a b : Int), RN s x a → RN t y b → StepOut (op a b) (st s t x y)
theorem step_plus : StepNum plusR (fun a b => a + b) := fun _ _ _ _ _ _ h1 h2 => plus_out h1 h2
theorem step_times : StepNum timesR (fun a b => a * b) := fun _ _ _ _ _ _ h1 h2 => times_out h1 h2
def FoldNum (r : Option (Bool × (Nat → Int))) (q : Option Int) : Prop := match r, q with
 | some (u, v), some z => RN u v z
 | none, none => True
 | _, _ => False
theorem fold_num {st : StepR} {op : Int → Int → Int} (hst : StepNum st op) {neg : Nat → Bool} {m : Nat → Nat → Int} {zs : Nat → Int} {s0 : Bool} {x0 : Nat → Int} {z0 : Int} (h0 : RN s0 x0 z0) (n : Nat)
 (h : ∀ i, i < n → RN (neg i) (m i) (zs i)) : FoldNum (foldR st neg m s0 x0 n) (zfold op zs z0 n) := by
 induction n with
 | zero => exact h0
 | succ n ih =>
   have ih := ih (fun i hi => h i (by omega))
   have hn := h n (by omega)
   rw [foldR, zfold]
   revert ih
   cases foldR st neg m s0 x0 n with
   | none => cases zfold op zs z0 n with
     | none => exact fun _ => trivial
     | some z => exact fun h => h.elim
   | some q =>
     obtain ⟨u, v⟩ := q
     cases zfold op zs z0 n with
     | none => exact fun h => h.elim
     | some z =>
       intro (hr : RN u v z)
       have hs := hst u (neg n) v (m n) z (zs n) hr hn
       show FoldNum (st u (neg n) v (m n)) (if ((op z (zs n)).natAbs : Int) < B64 ^ 4 then some (op z (zs n)) else none)
       revert hs
       cases st u (neg n) v (m n) with
       | none =>
         intro (hs : B64 ^ 4 ≤ _)
         rw [if_neg (Int.not_lt.2 hs)]
         trivial
       | some p =>
         intro hs
         rw [if_pos hs.2]
         exact hs.1
theorem RN.right {s : Bool} {x : Nat → Int} {z : Int} (h : RN s x z) : (s && zeroF x) = false := by
 cases s
 ·rfl
 ·cases hz : zeroF x
  ·rfl
  ·exact absurd ((zeroF_val h.1).1 hz) (h.2.2 rfl)
theorem errAll_num {neg : Nat → Bool} {m : Nat → Nat → Int} {zs : Nat → Int} (n : Nat) (h : ∀ i, i < n → RN (neg i) (m i) (zs i)) : errAll neg m n = 0 := by
 induction n with
 | zero => rfl
 | succ n ih => rw [errAll, if_pos (ih (fun i hi => h i (by omega))), errArg_ok (h n (by omega)).right]
def ansz : Option Int → Value
 | some z => .tuple #[ivz z, .int .i64 0]
 | none => .tuple #[ivz 0, .int .i64 110]
theorem ivz_nought : iv false 0 0 0 0 = ivz 0 := by simp [ivz, W64]
theorem after_num {st : StepR} {op : Int → Int → Int} (hst : StepNum st op) {neg : Nat → Bool} {m : Nat → Nat → Int} {zs : Nat → Int} {s0 : Bool} {x0 : Nat → Int} {z0 : Int} (h0 : RN s0 x0 z0) (n : Nat)
 (h : ∀ i, i < n → RN (neg i) (m i) (zs i)) : afterR st neg m s0 x0 n = ansz (zfold op zs z0 n) := by
 have hf := fold_num hst h0 n h
 rw [afterR, if_pos (errAll_num n h)]
 revert hf
 cases foldR st neg m s0 x0 n with
 | none => cases zfold op zs z0 n with
   | none => intro _; rw [ansz, ← ivz_nought]
   | some z => exact fun h => h.elim
 | some q =>
   obtain ⟨u, v⟩ := q
   cases zfold op zs z0 n with
   | none => exact fun h => h.elim
   | some z =>
     intro (hr : RN u v z)
     show Value.tuple #[intv u v, .int .i64 0] = _
     rw [hr.value, ansz]
theorem zero_num : RN false (fun _ => 0) 0 := ⟨zero_bd, by simp [valI], by intro h; cases h⟩
theorem one_num : RN false oneF 1 := ⟨one_bd, by simp [valI, oneF], by intro h; cases h⟩
end Go.Proofs.YtongeeggaigepaaGreatDoor
namespace Go.Proofs.YtongeeggaigepaaGreatDoor
open Go.RowKit
theorem valI_W64 {z : Int} (hz : z.natAbs < T256) : valI (fun i => ((W64 z.natAbs i : Nat) : Int)) 4 = (z.natAbs : Nat) := by
 rw [valI_nat (fun i => W64_bd _ i)]
 show ((valW (W64 z.natAbs) 4 : Nat) : Int) = _
 rw [valW_W64, Nat.mod_eq_of_lt (by rw [← T256_w]; exact hz)]
theorem zeroB_W64 {z : Int} (hz : z.natAbs < T256) : zeroB (W64 z.natAbs 0 : Nat) (W64 z.natAbs 1 : Nat) (W64 z.natAbs 2 : Nat) (W64 z.natAbs 3 : Nat) = decide (z = 0) := by
 have h := zeroF_val (x := fun i => ((W64 z.natAbs i : Nat) : Int)) (fun i => W64_bd _ i)
 rw [valI_W64 hz] at h
 by_cases h0 : z = 0
 ·rw [decide_eq_true h0]; exact h.2 (by omega)
 ·rw [decide_eq_false h0]
  cases hq : zeroB (W64 z.natAbs 0 : Nat) (W64 z.natAbs 1 : Nat) (W64 z.natAbs 2 : Nat) (W64 z.natAbs 3 : Nat)
  ·rfl
  ·have := h.1 hq; omega
theorem negR_z {z : Int} (hz : z.natAbs < T256) : negR (decide (z < 0)) (W64 z.natAbs 0 : Nat) (W64 z.natAbs 1 : Nat) (W64 z.natAbs 2 : Nat) (W64 z.natAbs 3 : Nat) = .tuple #[ivz (-z), .int .i64 0] := by
 have h := ivz_right z hz
 rw [negR, h, if_neg (by decide), zeroB_W64 hz, ivz, Int.natAbs_neg]
 have e : (!decide (z < 0) && !decide (z = 0)) = decide (-z < 0) := by
  by_cases h1 : z < 0
  ·rw [decide_eq_true h1, decide_eq_false (show ¬ -z < 0 by omega)]; rfl
  ·by_cases h2 : z = 0
   ·rw [decide_eq_true h2, decide_eq_false (show ¬ -z < 0 by omega)]; simp
   ·rw [decide_eq_false h1, decide_eq_false h2, decide_eq_true (show -z < 0 by omega)]; rfl
 rw [e]
theorem neg_z (z : Int) (w : World) (hz : z.natAbs < T256) : Calls Tryz.prog 144 #[ivz z] w fun e w' => e = .returned (.tuple #[ivz (-z), .int .i64 0]) ∧ Below w.heap.size w w' := by
 have h := neg_any (decide (z < 0)) (W64 z.natAbs 0 : Nat) (W64 z.natAbs 1 : Nat) (W64 z.natAbs 2 : Nat) (W64 z.natAbs 3 : Nat) w
 rw [negR_z hz] at h
 exact h
end Go.Proofs.YtongeeggaigepaaGreatDoor
namespace Go.Proofs.YtongeeggaigepaaGreatDoor
open Go.RowKit
theorem row4_W64 (m : Nat) (i : Nat) (h : i < 4) : row4 (W64 m 0 : Nat) (W64 m 1 : Nat) (W64 m 2 : Nat) (W64 m 3 : Nat) i = (W64 m i : Nat) := by
 match i, h with
 | 0, _ | 1, _ | 2, _ | 3, _ => rfl
theorem add_two_z (x y : Int) (b c : Nat) (w : World) (hx : x.natAbs < T256) (hy : y.natAbs < T256)
 (hr : Row w b [.bool (decide (x < 0)), .int .u64 (W64 x.natAbs 0 : Nat), .int .u64 (W64 x.natAbs 1 : Nat), .int .u64 (W64 x.natAbs 2 : Nat), .int .u64 (W64 x.natAbs 3 : Nat), .bool (decide (y < 0)), .int .u64 (W64 y.natAbs 0 : Nat), .int .u64 (W64 y.natAbs 1 : Nat), .int .u64 (W64 y.natAbs 2 : Nat), .int .u64 (W64 y.natAbs 3 : Nat)]) :
 Calls Tryz.prog 145 #[.slice (some ⟨b, 0, none⟩) 2 c] w fun e w' => e = .returned (ansz (zfold (fun a b => a + b) (fun i => if i = 0 then x else y) 0 2)) ∧ Below w.heap.size w w' := by
 have h := add_any b 0 2 c _ _ w (by decide) hr.lt (two_ints hr) (by
  intro k
  by_cases hk : k = 0
  ·simp only [hk, if_true]; exact row4_W64_bd _
  ·simp only [if_neg hk]; exact row4_W64_bd _)
 rw [after_num (zs := fun i => if i = 0 then x else y) step_plus zero_num 2 (by
  intro i hi
  match i, hi with
  | 0, _ => exact RN.of hx (row4_W64_bd _) (fun i hi => row4_W64 _ i hi)
  | 1, _ => exact RN.of hy (row4_W64_bd _) (fun i hi => row4_W64 _ i hi))] at h
 exact h
theorem ansz_form (o : Option Int) : ∃ u v0 v1 v2 v3 k, ansz o = .tuple #[iv u v0 v1 v2 v3, .int .i64 k] := by
 cases o with
 | none => exact ⟨_, _, _, _, _, _, rfl⟩
 | some z => exact ⟨_, _, _, _, _, _, rfl⟩
set_option maxHeartbeats 400000 in
set_option maxRecDepth 100000 in
theorem sub_z (x y : Int) (w : World) (hx : x.natAbs < T256) (hy : y.natAbs < T256) : Calls Tryz.prog 124 #[ivz x, ivz y] w fun e w' => e = .returned (ansz (zfold (fun a b => a + b) (fun i => if i = 0 then x else -y) 0 2)) ∧ Below w.heap.size w w' := by
 have HN := Lib.hid (fun W => neg_z y W hy)
 have HA := Lib.hid (fun b W h => add_two_z x (-y) b 2 W hx (by rw [Int.natAbs_neg]; exact hy) h)
 obtain ⟨u, v0, v1, v2, v3, k, hR⟩ := ansz_form (zfold (fun a b => a + b) (fun i => if i = 0 then x else -y) 0 2)
 rw [hR] at HA ⊢
 clear hR
 simp only [ivz, Int.natAbs_neg] at HN HA ⊢
 generalize decide (x < 0) = s at HA ⊢
 generalize decide (y < 0) = t at HN ⊢
 generalize decide (-y < 0) = t' at HN HA ⊢
 go_enter Tryz.func124, Tryz.ntmps124
 go_wp2_with fail
 refine (HN.out _).mono ?_
 rintro e w1 ⟨rfl, hb1⟩
 have hB : Below w.heap.size w w1 := ((((Below.refl w.heap.size w).alloc (Nat.le_refl _) _).alloc (by simp) _).alloc (by simp; omega) _).trans (hb1.mono (by simp; omega))
 generalize ((W64 x.natAbs 0 : Nat) : Int) = x0 at *
 generalize ((W64 x.natAbs 1 : Nat) : Int) = x1 at *
 generalize ((W64 x.natAbs 2 : Nat) : Int) = x2 at *
 generalize ((W64 x.natAbs 3 : Nat) : Int) = x3 at *
 generalize ((W64 y.natAbs 0 : Nat) : Int) = y0 at *
 generalize ((W64 y.natAbs 1 : Nat) : Int) = y1 at *
 generalize ((W64 y.natAbs 2 : Nat) : Int) = y2 at *
 generalize ((W64 y.natAbs 3 : Nat) : Int) = y3 at *
 have r0 : Row w1 w.heap.size [.bool s, .int .u64 x0, .int .u64 x1, .int .u64 x2, .int .u64 x3] := (((Row.at rfl _ _).alloc _).alloc _).after hb1
 have r1 : Row w1 (w.heap.size + 1) [.bool t, .int .u64 y0, .int .u64 y1, .int .u64 y2, .int .u64 y3] := ((Row.at (by simp) _ _).alloc _).after hb1
 have r2 : Row w1 (w.heap.size + 1 + 1) [.bool false, .int .u64 0, .int .u64 0, .int .u64 0, .int .u64 0] := (Row.at (by simp) _ _).after hb1
 clear hb1
 have a0 := r0.c 0 rfl
 have a1 := r0.c 1 rfl
 have a2 := r0.c 2 rfl
 have a3 := r0.c 3 rfl
 have a4 := r0.c 4 rfl
 have b0 := r1.c 0 rfl
 have f0 := r1.f 0 rfl
 have b1 := r1.c 1 rfl
 have f1 := r1.f 1 rfl
 have b2 := r1.c 2 rfl
 have f2 := r1.f 2 rfl
 have b3 := r1.c 3 rfl
 have f3 := r1.f 3 rfl
 have b4 := r1.c 4 rfl
 have f4 := r1.f 4 rfl
 go_wp2_with fail
 clear a0 b0 f0 a1 b1 f1 a2 b2 f2 a3 b3 f3 a4 b4 f4
 generalize hW : World.alloc _ _ = W2
 have l1 := r1.lt
 have l2 := r2.lt
 have al : ∀ W o, Below w.heap.size w W → Below w.heap.size w (W.alloc o) := fun W o h => h.alloc h.size o
 have hB2 : Below w.heap.size w W2 := by
  rw [← hW]
  refine al _ _ ?_
  exact below_put5 hB (by omega) _ _ _ _ _
 have q2 : Row W2 (w.heap.size + 1 + 1) [.bool false, .int .u64 0, .int .u64 0, .int .u64 0, .int .u64 0] := by rw [← hW]; exact (r2.other5 (by omega) _ _ _ _ _).alloc _
 have q : Row W2 w1.heap.size [.bool s, .int .u64 x0, .int .u64 x1, .int .u64 x2, .int .u64 x3, .bool t', .int .u64 y0, .int .u64 y1, .int .u64 y2, .int .u64 y3] := by rw [← hW]; exact Row.at (by simp) _ _
 clear hW
 refine (HA.out _ _ q).mono ?_
 rintro e w3 ⟨rfl, hb3⟩
 have q3 := q2.after hb3
 have hB3 : Below w.heap.size w w3 := hB2.trans (hb3.mono hB2.size)
 clear hb3
 have a0 := q3.c 0 rfl
 have f0 := q3.f 0 rfl
 have a1 := q3.c 1 rfl
 have f1 := q3.f 1 rfl
 have a2 := q3.c 2 rfl
 have f2 := q3.f 2 rfl
 have a3 := q3.c 3 rfl
 have f3 := q3.f 3 rfl
 have a4 := q3.c 4 rfl
 have f4 := q3.f 4 rfl
 go_wp2
 clear a0 f0 a1 f1 a2 f2 a3 f3 a4 f4
 generalize hW : World.setCell _ _ _ = W4
 have rR4 : Row W4 (w.heap.size + 1 + 1) [.bool u, .int .u64 v0, .int .u64 v1, .int .u64 v2, .int .u64 v3] := by rw [← hW]; exact q3.put5 _ _ _ _ _
 have hB4 : Below w.heap.size w W4 := by rw [← hW]; exact below_put5 hB3 (by omega) _ _ _ _ _
 exact bodyPost_ret (v := .tuple #[iv u v0 v1 v2 v3, .int .i64 k]) (by simp [results, Tryz.results124, go_sem, rR4.c 0 rfl, rR4.c 1 rfl, rR4.c 2 rfl, rR4.c 3 rfl, rR4.c 4 rfl]) rfl ⟨rfl, hB4⟩
end Go.Proofs.YtongeeggaigepaaGreatDoor
namespace Go.Proofs.YtongeeggaigepaaGreatDoor
open Go.RowKit
end Go.Proofs.YtongeeggaigepaaGreatDoor

namespace Go.Proofs.YtongeeggaigepaaGreatDoor
open Go.RowKit
def RF (w : World) (b N : Nat) (x : Nat → Nat) : Prop := b < w.heap.size ∧ ∀ i, i < N → w.cell? ⟨b, i, none⟩ = some (.int .i64 (x i : Nat)) ∧ w.frozen? ⟨b, i, none⟩ = false
theorem RF.put {w : World} {b N : Nat} {x : Nat → Nat} (h : RF w b N x) (j v : Nat) (hj : j < N) : RF (w.setCell ⟨b, j, none⟩ (.int .i64 (v : Nat))) b N (fun i => if i = j then v else x i) := by
 refine ⟨by simpa [World.setCell] using h.1, fun i hi => ⟨?_, by rw [World.frozen?_setCell]; exact (h.2 i hi).2⟩⟩
 by_cases e : i = j
 ·subst e
  rw [World.cell?_setCell_same' _ _ _ (by rw [(h.2 i hi).1]; rfl)]
  simp
 ·rw [World.cell?_setCell_other _ _ _ _ (fun h => e (congrArg Addr.off h).symm), (h.2 i hi).1]
  simp only [if_neg e]
theorem RF.congr {w : World} {b N : Nat} {x y : Nat → Nat} (h : RF w b N x) (hxy : ∀ i, x i = y i) : RF w b N y := ⟨h.1, fun i hi => by rw [← hxy]; exact h.2 i hi⟩
end Go.Proofs.YtongeeggaigepaaGreatDoor
namespace Go.Proofs.YtongeeggaigepaaGreatDoor
open Go.RowKit
theorem DS.set_bool {w : World} {m : Nat} {A : Option Addr} (h : DS w m A) {X : Nat} {s : Bool} (hX : w.cell? ⟨X, 0, none⟩ = some (.bool s)) (j : Nat) (v : Value) : DS (w.setCell ⟨X, j, none⟩ v) m A := fun hm => by
 obtain ⟨b, e, hl, hc⟩ := h hm
 have hne : X ≠ b := by
  rintro rfl
  rw [hc 0 hm] at hX
  cases hX
 exact (DS.set (fun _ => ⟨b, e, hl, hc⟩ : DS w m A) (q := ⟨X, j, none⟩) (fun p hp => by rw [e] at hp; cases hp; exact hne) v) hm
theorem fits_z (m : Nat) : ((m : Nat) : Int) < B64 ^ 4 ↔ m < T256 := by
 have h : B64 ^ 4 = ((T256 : Nat) : Int) := by decide
 rw [h]; exact Int.ofNat_lt
theorem zfold_some {op : Int → Int → Int} {zs : Nat → Int} {z0 z : Int} {k : Nat} (h : zfold op zs z0 k = some z) (hz : (op z (zs k)).natAbs < T256) : zfold op zs z0 (k + 1) = some (op z (zs k)) := by
 rw [zfold, h]
 exact if_pos ((fits_z _).2 hz)
theorem zfold_stop {op : Int → Int → Int} {zs : Nat → Int} {z0 z : Int} {k n : Nat} (h : zfold op zs z0 k = some z) (hz : ¬ (op z (zs k)).natAbs < T256) (hk : k < n) : zfold op zs z0 n = none := by
 induction n with
 | zero => omega
 | succ n ih =>
   by_cases e : k = n
   ·subst e
    rw [zfold, h]
    exact if_neg (fun h1 => hz ((fits_z _).1 h1))
   ·rw [zfold, ih (by omega)]
end Go.Proofs.YtongeeggaigepaaGreatDoor
namespace Go.Proofs.YtongeeggaigepaaGreatDoor
open Go.RowKit
end Go.Proofs.YtongeeggaigepaaGreatDoor

namespace Go.Proofs.YtongeeggaigepaaGreatDoor
open Go.RowKit
def QB (w : World) (xs ys us vs : List Value) (W : World) : Prop := Row W w.heap.size xs ∧ Row W (w.heap.size + 1) ys ∧ Row W (w.heap.size + 1 + 1) us ∧ Row W (w.heap.size + 1 + 1 + 1) vs ∧ Below w.heap.size w W
section
variable {w W W1 : World} {xs ys us vs : List Value}
theorem QB.after (h : QB w xs ys us vs W) (hb : Below W.heap.size W W1) : QB w xs ys us vs W1 :=
 ⟨h.1.after hb, h.2.1.after hb, h.2.2.1.after hb, h.2.2.2.1.after hb, h.2.2.2.2.trans (hb.mono h.2.2.2.2.size)⟩
theorem QB.drew (h : QB w xs ys us vs W) : QB w xs ys us vs W.drew := h.after (Below.refl _ _).drew
theorem QB.drewN (h : QB w xs ys us vs W) (k : Nat) : QB w xs ys us vs (W.drewN k) := h.after (below_drewN (Below.refl _ _) k)
theorem QB.alloc (h : QB w xs ys us vs W) (o : Obj) : QB w xs ys us vs (W.alloc o) := h.after ((Below.refl _ _).alloc (Nat.le_refl _) _)
theorem QB.first (w : World) (s t : Bool) (A B : Option Addr) (n m c d : Nat) (ta tb tc td : TypeId) :
 QB w [.bool s, .slice A n c] [.bool t, .slice B m d] [.bool false, .slice none 0 0] [.bool false, .slice none 0 0] ((((w.alloc (.cells #[.bool s, .slice A n c] ta)).alloc (.cells #[.bool t, .slice B m d] tb)).alloc (.cells #[.bool false, .slice none 0 0] tc)).alloc (.cells #[.bool false, .slice none 0 0] td)) :=
 ⟨(((Row.at rfl _ _).alloc _).alloc _).alloc _, ((Row.at (by simp) _ _).alloc _).alloc _, (Row.at (by simp) _ _).alloc _, Row.at (by simp) _ _, ((((Below.refl w.heap.size w).alloc (Nat.le_refl _) _).alloc (by simp) _).alloc (by simp; omega) _).alloc (by simp; omega) _⟩
theorem QB.put2 (h : QB w xs ys us vs W) {u0 u1 : Value} (hl : us.length = 2) : QB w xs ys [u0, u1] vs ((W.setCell ⟨w.heap.size + 1 + 1, 0, none⟩ u0).setCell ⟨w.heap.size + 1 + 1, 1, none⟩ u1) := by
 match us, hl with
 | [a, b], _ =>
   exact ⟨(h.1.other (p := ⟨w.heap.size + 1 + 1, 0, none⟩) (by show w.heap.size + 1 + 1 ≠ w.heap.size; omega) _).other (p := ⟨w.heap.size + 1 + 1, 1, none⟩) (by show w.heap.size + 1 + 1 ≠ w.heap.size; omega) _, (h.2.1.other (p := ⟨w.heap.size + 1 + 1, 0, none⟩) (by show w.heap.size + 1 + 1 ≠ w.heap.size + 1; omega) _).other (p := ⟨w.heap.size + 1 + 1, 1, none⟩) (by show w.heap.size + 1 + 1 ≠ w.heap.size + 1; omega) _,
    (h.2.2.1.set 0 (by simp) _).set 1 (by simp) _, (h.2.2.2.1.other (p := ⟨w.heap.size + 1 + 1, 0, none⟩) (by show w.heap.size + 1 + 1 ≠ w.heap.size + 1 + 1 + 1; omega) _).other (p := ⟨w.heap.size + 1 + 1, 1, none⟩) (by show w.heap.size + 1 + 1 ≠ w.heap.size + 1 + 1 + 1; omega) _, below_put1 (below_put1 h.2.2.2.2 (by omega) _ _) (by omega) _ _⟩
theorem QB.put3 (h : QB w xs ys us vs W) {u0 u1 : Value} (hl : vs.length = 2) : QB w xs ys us [u0, u1] ((W.setCell ⟨w.heap.size + 1 + 1 + 1, 0, none⟩ u0).setCell ⟨w.heap.size + 1 + 1 + 1, 1, none⟩ u1) := by
 match vs, hl with
 | [a, b], _ =>
   exact ⟨(h.1.other (p := ⟨w.heap.size + 1 + 1 + 1, 0, none⟩) (by show w.heap.size + 1 + 1 + 1 ≠ w.heap.size; omega) _).other (p := ⟨w.heap.size + 1 + 1 + 1, 1, none⟩) (by show w.heap.size + 1 + 1 + 1 ≠ w.heap.size; omega) _, (h.2.1.other (p := ⟨w.heap.size + 1 + 1 + 1, 0, none⟩) (by show w.heap.size + 1 + 1 + 1 ≠ w.heap.size + 1; omega) _).other (p := ⟨w.heap.size + 1 + 1 + 1, 1, none⟩) (by show w.heap.size + 1 + 1 + 1 ≠ w.heap.size + 1; omega) _,
    (h.2.2.1.other (p := ⟨w.heap.size + 1 + 1 + 1, 0, none⟩) (by show w.heap.size + 1 + 1 + 1 ≠ w.heap.size + 1 + 1; omega) _).other (p := ⟨w.heap.size + 1 + 1 + 1, 1, none⟩) (by show w.heap.size + 1 + 1 + 1 ≠ w.heap.size + 1 + 1; omega) _, (h.2.2.2.1.set 0 (by simp) _).set 1 (by simp) _, below_put1 (below_put1 h.2.2.2.2 (by omega) _ _) (by omega) _ _⟩
end
def QS (w : World) (xs ys : List Value) (W : World) : Prop := ∃ us vs, us.length = 2 ∧ vs.length = 2 ∧ QB w xs ys us vs W
section
variable {w W W1 : World} {xs ys us vs : List Value}
theorem QS.after (h : QS w xs ys W) (hb : Below W.heap.size W W1) : QS w xs ys W1 := by
 obtain ⟨us, vs, h1, h2, h⟩ := h
 exact ⟨us, vs, h1, h2, h.after hb⟩
theorem QS.drew (h : QS w xs ys W) : QS w xs ys W.drew := h.after (Below.refl _ _).drew
theorem QS.drewN (h : QS w xs ys W) (k : Nat) : QS w xs ys (W.drewN k) := h.after (below_drewN (Below.refl _ _) k)
theorem QS.put2 (h : QS w xs ys W) (u0 u1 : Value) : QS w xs ys ((W.setCell ⟨w.heap.size + 1 + 1, 0, none⟩ u0).setCell ⟨w.heap.size + 1 + 1, 1, none⟩ u1) := by
 obtain ⟨us, vs, h1, h2, h⟩ := h
 exact ⟨_, vs, rfl, h2, h.put2 h1⟩
theorem QS.put3 (h : QS w xs ys W) (u0 u1 : Value) : QS w xs ys ((W.setCell ⟨w.heap.size + 1 + 1 + 1, 0, none⟩ u0).setCell ⟨w.heap.size + 1 + 1 + 1, 1, none⟩ u1) := by
 obtain ⟨us, vs, h1, h2, h⟩ := h
 exact ⟨us, _, h1, rfl, h.put3 h2⟩
theorem Row.two {b : Nat} {us : List Value} (h : Row W b us) (hl : us.length = 2) (i : Nat) (hi : i < 2) : (W.cell? ⟨b, i, none⟩).isSome = true ∧ W.frozen? ⟨b, i, none⟩ = false := by
 match us, hl with
 | [x, y], _ =>
   match i, hi with
   | 0, _ => exact ⟨by rw [h.c 0 rfl]; rfl, h.f 0 rfl⟩
   | 1, _ => exact ⟨by rw [h.c 1 rfl]; rfl, h.f 1 rfl⟩
theorem QS.two (h : QS w xs ys W) (i : Nat) (hi : i < 2) : ((W.cell? ⟨w.heap.size + 1 + 1, i, none⟩).isSome = true ∧ W.frozen? ⟨w.heap.size + 1 + 1, i, none⟩ = false) ∧ ((W.cell? ⟨w.heap.size + 1 + 1 + 1, i, none⟩).isSome = true ∧ W.frozen? ⟨w.heap.size + 1 + 1 + 1, i, none⟩ = false) := by
 obtain ⟨us, vs, h1, h2, h⟩ := h
 exact ⟨h.2.2.1.two h1 i hi, h.2.2.2.1.two h2 i hi⟩
theorem QS.at (h : QS w xs ys W) : Row W w.heap.size xs ∧ Row W (w.heap.size + 1) ys := by
 obtain ⟨us, vs, h1, h2, h⟩ := h
 exact ⟨h.1, h.2.1⟩
end
theorem DS.put4 {w W : World} {xs ys : List Value} {a : Bool} {a' : Value} {b : Bool} {b' : Value} {m : Nat} {A : Option Addr} (h : QB w xs ys [.bool a, a'] [.bool b, b'] W) (hd : DS W m A) {u0 v0 : Bool} {u1 v1 : Value} :
 DS ((((W.setCell ⟨w.heap.size + 1 + 1, 0, none⟩ (.bool u0)).setCell ⟨w.heap.size + 1 + 1, 1, none⟩ u1).setCell ⟨w.heap.size + 1 + 1 + 1, 0, none⟩ (.bool v0)).setCell ⟨w.heap.size + 1 + 1 + 1, 1, none⟩ v1) m A := by
 have r2 := h.2.2.1
 have h2 := h.put2 (u0 := .bool u0) (u1 := u1) rfl
 have r3 := h2.2.2.2.1
 refine DS.set_bool (X := w.heap.size + 1 + 1 + 1) (s := v0) ?_ (by rw [World.cell?_setCell_same' _ _ _ (by rw [r3.c 0 rfl]; rfl)]) 1 _
 refine DS.set_bool (X := w.heap.size + 1 + 1 + 1) (s := b) ?_ (r3.c 0 rfl) 0 _
 refine DS.set_bool (X := w.heap.size + 1 + 1) (s := u0) ?_ (by rw [World.cell?_setCell_same' _ _ _ (by rw [r2.c 0 rfl]; rfl)]) 1 _
 exact DS.set_bool (X := w.heap.size + 1 + 1) (s := a) hd (r2.c 0 rfl) 0 _
end Go.Proofs.YtongeeggaigepaaGreatDoor

namespace Go.Proofs.YtongeeggaigepaaGreatDoor
open Go.RowKit
end Go.Proofs.YtongeeggaigepaaGreatDoor
namespace Go.Proofs.YtongeeggaigepaaGreatDoor
open Go.RowKit
end Go.Proofs.YtongeeggaigepaaGreatDoor
namespace Go.Proofs.YtongeeggaigepaaGreatDoor
open Go.RowKit
end Go.Proofs.YtongeeggaigepaaGreatDoor

namespace Go.Proofs.YtongeeggaigepaaGreatDoor
open Go.RowKit
theorem tdiv_sign (x y : Int) : x.tdiv y = (if (!(decide (x < 0) == decide (y < 0))) = true then -((x.natAbs / y.natAbs : Nat) : Int) else ((x.natAbs / y.natAbs : Nat) : Int)) := by
 rcases Int.natAbs_eq x with h | h <;> rcases Int.natAbs_eq y with k | k <;> generalize x.natAbs = m at * <;> generalize y.natAbs = n at * <;> subst h <;> subst k
 ·simp [Int.not_lt.2 (Int.natCast_nonneg _)]
 ·rcases Nat.eq_zero_or_pos n with rfl | hn
  ·simp
  ·have h1 : decide (-(n : Int) < 0) = true := decide_eq_true (by omega)
   have h2 : decide ((m : Int) < 0) = false := decide_eq_false (by omega)
   rw [h1, h2, Int.tdiv_neg]; rfl
 ·rcases Nat.eq_zero_or_pos m with rfl | hm
  ·simp
  ·have h1 : decide (-(m : Int) < 0) = true := decide_eq_true (by omega)
   have h2 : decide ((n : Int) < 0) = false := decide_eq_false (by omega)
   rw [h1, h2, Int.neg_tdiv]; rfl
 ·rcases Nat.eq_zero_or_pos m with rfl | hm
  ·simp
  ·rcases Nat.eq_zero_or_pos n with rfl | hn
   ·simp
   ·have h1 : decide (-(m : Int) < 0) = true := decide_eq_true (by omega)
    have h2 : decide (-(n : Int) < 0) = true := decide_eq_true (by omega)
    rw [h1, h2, Int.neg_tdiv, Int.tdiv_neg, Int.neg_neg]; rfl
theorem tmod_sign (x y : Int) : x.tmod y = (if decide (x < 0) = true then -((x.natAbs % y.natAbs : Nat) : Int) else ((x.natAbs % y.natAbs : Nat) : Int)) := by
 rcases Int.natAbs_eq x with h | h <;> rcases Int.natAbs_eq y with k | k <;> generalize x.natAbs = m at * <;> generalize y.natAbs = n at * <;> subst h <;> subst k
 ·rw [if_neg (by simp)]; rfl
 ·rw [if_neg (by simp), Int.tmod_neg]; rfl
 ·rcases Nat.eq_zero_or_pos m with rfl | hm
  ·simp
  ·rw [if_pos (by simp; omega), Int.neg_tmod]; rfl
 ·rcases Nat.eq_zero_or_pos m with rfl | hm
  ·simp
  ·rw [if_pos (by simp; omega), Int.neg_tmod, Int.tmod_neg]; rfl
theorem tdiv_abs (x y : Int) : (x.tdiv y).natAbs = x.natAbs / y.natAbs := by rw [tdiv_sign]; generalize x.natAbs / y.natAbs = q; split <;> omega
theorem tmod_abs (x y : Int) : (x.tmod y).natAbs = x.natAbs % y.natAbs := by rw [tmod_sign]; generalize x.natAbs % y.natAbs = q; split <;> omega
def QuoPost (w : World) (q r : Int) (e : Ending) (w' : World) : Prop := ∃ A c B d, e = .returned (.tuple #[bigv q A c, bigv r B d]) ∧ L16 q.natAbs ≤ c ∧ L16 r.natAbs ≤ d ∧ DS w' q.natAbs A ∧ DS w' r.natAbs B ∧ Below w.heap.size w w'
section
variable {w W W1 : World} {xs ys us vs : List Value}
end
section
variable {w W W1 : World} {xs ys us vs : List Value}
end
theorem field_big (u : Bool) (A : Option Addr) (n c : Nat) (W : World) : (Instr.field 53 (.agg #[.bool u, .slice A n c]) 1).run Tryz.prog W = .ok (.slice A n c) W := by kernel_rfl
theorem cellV_some {W : World} {b i : Nat} (h : (W.cell? ⟨b, i, none⟩).isSome = true) : W.cell? ⟨b, i, none⟩ = some (cellV W b i) := by
 unfold cellV
 obtain ⟨v, e⟩ := Option.isSome_iff_exists.1 h
 rw [e]; rfl
theorem word_q (m : Nat) (A : Option Addr) (c : Nat) (w : World) (ha : DS w m A) (hm : L16 m ≤ 3) :
 Calls Tryz.prog 113 #[.slice A (L16 m) c] w fun e w' => e = .returned (.int .i64 (m : Nat)) ∧ ∃ k, w' = w.drewN k :=
 (word_z m A c w ha hm).mono fun _ _ ⟨h, hw⟩ => ⟨h, 0, hw.symm⟩
set_option maxRecDepth 100000 in
set_option maxHeartbeats 2000000 in
theorem quo_small (x y : Int) (A B : Option Addr) (c d : Nat) (w : World) (ha : DS w x.natAbs A) (hb : DS w y.natAbs B) (la : L16 x.natAbs ≤ 3) (lb : L16 y.natAbs ≤ 3) (hy : y ≠ 0) :
 Calls Tryz.prog 82 #[bigv x A c, bigv y B d] w (QuoPost w (x.tdiv y) (x.tmod y)) := by
 have HW1 := Lib.hid (fun W (hW : Below w.heap.size w W) => word_q x.natAbs A c W (ha.below hW) la)
 have HW2 := Lib.hid (fun W (hW : Below w.heap.size w W) => word_q y.natAbs B d W (hb.below hW) lb)
 have hx2 := (word_val la).2
 have hy2 := (word_val lb).2
 have hn0 : 0 < y.natAbs := by omega
 have hq2 : x.natAbs / y.natAbs ≤ x.natAbs := Nat.div_le_self _ _
 have hr2 : x.natAbs % y.natAbs ≤ x.natAbs := Nat.mod_le _ _
 have e1 : ((x.natAbs : Nat) : Int).tdiv ((y.natAbs : Nat) : Int) = ((x.natAbs / y.natAbs : Nat) : Int) := rfl
 have e2 : ((x.natAbs : Nat) : Int).tmod ((y.natAbs : Nat) : Int) = ((x.natAbs % y.natAbs : Nat) : Int) := rfl
 have HL1 := L16_mono hq2
 have HL2 := L16_mono hr2
 have S1 := tdiv_sign x y
 have S2 := tmod_sign x y
 have A1 := tdiv_abs x y
 have A2 := tmod_abs x y
 clear ha hb hy
 generalize x.natAbs / y.natAbs = q at *
 generalize x.natAbs % y.natAbs = r at *
 generalize x.tdiv y = Z1 at *
 generalize x.tmod y = Z2 at *
 have HN1 := Lib.hid (fun W => num_z (q : Int) W (by omega) (by omega))
 have HN2 := Lib.hid (fun W => num_z (r : Int) W (by omega) (by omega))
 have HO1 := Lib.hid (fun A1 c1 W (h1 : DS W q A1) (h2 : L16 q ≤ c1) => of_z (!(decide (x < 0) == decide (y < 0))) q (L16 q) A1 c1 Z1 W S1 (Nat.le_refl _) (by omega) h2 h1)
 have HO2 := Lib.hid (fun A1 c1 W (h1 : DS W r A1) (h2 : L16 r ≤ c1) => of_z (decide (x < 0)) r (L16 r) A1 c1 Z2 W S2 (Nat.le_refl _) (by omega) h2 h1)
 have f1 : IntKind.i64.wrap (q : Int) = (q : Int) := IntWalk.i64_in _ (by omega)
 have f2 : IntKind.i64.wrap (r : Int) = (r : Int) := IntWalk.i64_in _ (by omega)
 clear HL1 HL2 S1 S2
 unfold BigPost at HN1 HN2
 unfold QuoPost
 simp only [bigv, Int.natAbs_natCast, A1, A2] at HN1 HN2 HO1 HO2 ⊢
 clear A1 A2
 have hla : ((L16 x.natAbs : Nat) : Int) ≤ 3 := by omega
 have hlb : ((L16 y.natAbs : Nat) : Int) ≤ 3 := by omega
 clear la lb
 generalize L16 x.natAbs = n at *
 generalize L16 y.natAbs = m at *
 generalize decide (x < 0) = s at *
 generalize decide (y < 0) = t at *
 generalize x.natAbs = a at *
 generalize y.natAbs = b at *
 generalize decide ((q : Int) < 0) = sq at *
 generalize decide ((r : Int) < 0) = sr at *
 generalize decide (Z1 < 0) = s1 at *
 generalize decide (Z2 < 0) = s2 at *
 go_enter Tryz.func82, Tryz.ntmps82
 go_upto_region 2 with fail
 have hQ := QB.first w s t A B n m c d 53 53 53 53
 generalize World.alloc _ _ = W0 at hQ ⊢
 have HQ := Lib.hid hQ
 have i0 := hQ.1.c 0 rfl
 have i1 := hQ.1.c 1 rfl
 have j0 := hQ.2.1.c 0 rfl
 have j1 := hQ.2.1.c 1 rfl
 have HB := Lib.hid hQ.2.2.2.2
 clear hQ
 go_quiet ((go_at_call 113; first | (with_reducible exact Calls.quiet_of (HW1.out _ (below_drewN HB.out _))) | (with_reducible exact Calls.quiet_of (HW2.out _ (below_drewN HB.out _)))))
 go_wp2_with fail
 have hbz : ¬ b = 0 := by omega
 have hfl := field_big
 clear hq2 hr2 hx2 hy2 hn0 hla hlb
 have hpz : QS w [.bool s, .slice A n c] [.bool t, .slice B m d] W0 := ⟨_, _, rfl, rfl, HQ.out⟩
 have hp0 : QS w [.bool s, .slice A n c] [.bool t, .slice B m d] (W0.drewN nq) := QS.drewN ⟨_, _, rfl, rfl, HQ.out⟩ nq
 clear i0 i1 j0 j1 HW1 HW2 HB
 have i0 : ∀ W, QS w [.bool s, .slice A n c] [.bool t, .slice B m d] W → W.cell? ⟨w.heap.size, 0, none⟩ = some (.bool s) := fun W h => h.at.1.c 0 rfl
 have j0 : ∀ W, QS w [.bool s, .slice A n c] [.bool t, .slice B m d] W → W.cell? ⟨w.heap.size + 1, 0, none⟩ = some (.bool t) := fun W h => h.at.2.c 0 rfl
 have k0 : ∀ W, QS w [.bool s, .slice A n c] [.bool t, .slice B m d] W → W.cell? ⟨w.heap.size + 1 + 1, 0, none⟩ = some (cellV W (w.heap.size + 1 + 1) 0) := fun W h => cellV_some (h.two 0 (by decide)).1.1
 have k1 : ∀ W, QS w [.bool s, .slice A n c] [.bool t, .slice B m d] W → W.cell? ⟨w.heap.size + 1 + 1, 1, none⟩ = some (cellV W (w.heap.size + 1 + 1) 1) := fun W h => cellV_some (h.two 1 (by decide)).1.1
 have k2 : ∀ W, QS w [.bool s, .slice A n c] [.bool t, .slice B m d] W → W.frozen? ⟨w.heap.size + 1 + 1, 0, none⟩ = false := fun W h => (h.two 0 (by decide)).1.2
 have k3 : ∀ W, QS w [.bool s, .slice A n c] [.bool t, .slice B m d] W → W.frozen? ⟨w.heap.size + 1 + 1, 1, none⟩ = false := fun W h => (h.two 1 (by decide)).1.2
 have l0 : ∀ W, QS w [.bool s, .slice A n c] [.bool t, .slice B m d] W → W.cell? ⟨w.heap.size + 1 + 1 + 1, 0, none⟩ = some (cellV W (w.heap.size + 1 + 1 + 1) 0) := fun W h => cellV_some (h.two 0 (by decide)).2.1
 have l1 : ∀ W, QS w [.bool s, .slice A n c] [.bool t, .slice B m d] W → W.cell? ⟨w.heap.size + 1 + 1 + 1, 1, none⟩ = some (cellV W (w.heap.size + 1 + 1 + 1) 1) := fun W h => cellV_some (h.two 1 (by decide)).2.1
 have l2 : ∀ W, QS w [.bool s, .slice A n c] [.bool t, .slice B m d] W → W.frozen? ⟨w.heap.size + 1 + 1 + 1, 0, none⟩ = false := fun W h => (h.two 0 (by decide)).2.2
 have l3 : ∀ W, QS w [.bool s, .slice A n c] [.bool t, .slice B m d] W → W.frozen? ⟨w.heap.size + 1 + 1 + 1, 1, none⟩ = false := fun W h => (h.two 1 (by decide)).2.2
 go_region_held3 (fun w' : World => QS w [.bool s, .slice A n c] [.bool t, .slice B m d] w')
  (first
    | (with_reducible assumption)
    | (with_reducible refine QS.drew ?_; with_reducible assumption)
    | (with_reducible exact QS.drewN hpz _)
    | (with_reducible refine QS.after ?_ hb; with_reducible assumption)
    | (with_reducible refine QS.put2 ?_ _ _; with_reducible assumption)
    | (with_reducible refine QS.put3 ?_ _ _; with_reducible assumption))
  (first
    | (go_at_call 80; refine Calls.mono (by with_reducible exact HN1.out _) ?_; rintro e v1 ⟨A1, c1, rfl, hc1, hd1, hb⟩; have HD1 := Lib.hid hd1; have HC1 := Lib.hid hc1; clear hd1 hc1; have HQ1 := Lib.hid ((HQ.out.drewN _).after hb); have hp1 := QS.after (xs := [.bool s, .slice A n c]) (ys := [.bool t, .slice B m d]) (w := w) (QS.drewN hpz _) hb)
    | (go_at_call 111; refine Calls.mono (by with_reducible exact HO1.out _ _ _ HD1.out HC1.out) ?_; clear hb; rintro e v2 ⟨rfl, hc2, hd2, hb⟩; have HD2 := Lib.hid hd2; have HC2 := Lib.hid hc2; clear hd2 hc2; have HQ2 := Lib.hid (HQ1.out.after hb); have hp2 := QS.after hp1 hb)
    | (go_at_call 80; refine Calls.mono (by with_reducible exact HN2.out _) ?_; clear hb; rintro e v3 ⟨A3, c3, rfl, hc3, hd3, hb⟩; have HD2b := Lib.hid (HD2.out.below hb); have HD3 := Lib.hid hd3; have HC3 := Lib.hid hc3; clear hd3 hc3; have HQ3 := Lib.hid (HQ2.out.after hb); have hp3 := QS.after hp2 hb)
    | (go_at_call 111; refine Calls.mono (by with_reducible exact HO2.out _ _ _ HD3.out HC3.out) ?_; clear hb; rintro e v4 ⟨rfl, hc4, hd4, hb⟩; have HD2c := Lib.hid (HD2b.out.below hb); have HD4 := Lib.hid hd4; have HC4 := Lib.hid hc4; clear hd4 hc4; have HQ4 := Lib.hid (HQ3.out.after hb); have hp4 := QS.after hp3 hb))
 all_goals
  clear i0 j0 k0 k1 k2 k3 l0 l1 l2 l3
  have hfin := (HQ4.out.put2 (u0 := .bool s1) (u1 := .slice A1 (L16 q) c1) rfl).put3 (u0 := .bool s2) (u1 := .slice A3 (L16 r) c3) rfl
  have hds := DS.put4 HQ4.out HD2c.out (u0 := s1) (u1 := .slice A1 (L16 q) c1) (v0 := s2) (v1 := .slice A3 (L16 r) c3)
  have hds2 := DS.put4 HQ4.out HD4.out (u0 := s1) (u1 := .slice A1 (L16 q) c1) (v0 := s2) (v1 := .slice A3 (L16 r) c3)
  generalize World.setCell _ _ _ = W9 at hfin hds hds2 ⊢
  have r2 := hfin.2.2.1
  have r3 := hfin.2.2.2.1
  go_wp2_with fail
  exact bodyPost_ret (v := .tuple #[.agg #[.bool s1, .slice A1 (L16 q) c1], .agg #[.bool s2, .slice A3 (L16 r) c3]]) (by simp [results, Tryz.results82, go_sem, r2.c 0 rfl, r2.c 1 rfl, r3.c 0 rfl, r3.c 1 rfl]) rfl ⟨A1, c1, A3, c3, rfl, HC2.out, HC4.out, hds, hds2, hfin.2.2.2.2⟩
end Go.Proofs.YtongeeggaigepaaGreatDoor
