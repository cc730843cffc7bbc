/- The document's own answers of two and three ways, as they are worked out; no condition. -/
import Derived.Test.YtfdofajknnocfaaNB
namespace Go.Proofs.Ytfdofajknnocfaa
open Go.RowKit Go.Sort

/-- The product across, as it is worked out. -/
def crossW (x y u v : Int) : Int := wrap64 (wrap64 (x * v) - wrap64 (y * u))
def halfI (x y : Int) : Int := if 0 < y ∨ y = 0 ∧ 0 < x then 0 else 1
theorem halfI_bd (x y : Int) : 0 ≤ halfI x y ∧ halfI x y ≤ 1 := by unfold halfI; split <;> omega
def sgnD (c : Int) : Int := if 0 < c then -1 else if c < 0 then 1 else 0
def refC (x y u v : Int) : Int := if halfI x y = halfI u v then sgnD (crossW x y u v) else halfI x y - halfI u v
def refO (x y u v : Int) : Bool := decide (crossW x y u v = 0) && !decide (halfI x y = halfI u v)
/-- Between the first and the second: x is the order of a and c, y that of c and b, z that of a and b. -/
def betI (x y z : Int) : Bool := if x = 0 ∨ y = 0 then false else if z < 0 then decide (x < 0) && decide (y < 0) else decide (z = 0) || (decide (x < 0) || decide (y < 0))
def rightB (x y : Int) : Bool := decide (-134217728 ≤ x ∧ x ≤ 134217728 ∧ -134217728 ≤ y ∧ y ≤ 134217728 ∧ (x ≠ 0 ∨ y ≠ 0))
theorem betI_iff {x y z : Int} : betI x y z = true ↔ x ≠ 0 ∧ y ≠ 0 ∧ (z < 0 ∧ x < 0 ∧ y < 0 ∨ z = 0 ∨ 0 < z ∧ (x < 0 ∨ y < 0)) := by
  unfold betI
  by_cases h1 : x = 0 ∨ y = 0
  · rw [if_pos h1]; constructor
    · intro h; cases h
    · omega
  · rw [if_neg h1]
    by_cases h2 : z < 0
    · rw [if_pos h2]; simp; omega
    · rw [if_neg h2]; simp; omega
theorem betI_not {x y z : Int} (h : ¬ (x ≠ 0 ∧ y ≠ 0 ∧ (z < 0 ∧ x < 0 ∧ y < 0 ∨ z = 0 ∨ 0 < z ∧ (x < 0 ∨ y < 0)))) : betI x y z = false := by
  rw [Bool.eq_false_iff]; intro h'; exact h (betI_iff.1 h')
def refQ (x y : Int) : Int := if 0 < x ∧ 0 ≤ y then 0 else if x ≤ 0 ∧ 0 < y then 1 else if x < 0 ∧ y ≤ 0 then 2 else 3

set_option maxHeartbeats 400000 in
theorem num_any (k : Int) (w : World) : Calls Try.prog 12 #[.int .i64 k] w fun e w' => e = .returned (.int .i64 k) ∧ w = w' := by
  go_enter Try.func12, Try.ntmps12
  go_wp2
  go_ret
  exact ⟨rfl, rfl⟩

theorem eqB (x : Int) : (x == 0) = decide (x = 0) := by by_cases h : x = 0 <;> simp [h]
theorem neB (x : Int) : (x != 0) = decide (x ≠ 0) := by by_cases h : x = 0 <;> simp [h]
set_option maxHeartbeats 1600000 in
theorem right_any (x y : Int) (w : World) : Calls Try.prog 11 #[wayV x y] w fun e w' => e = .returned (.bool (rightB x y)) ∧ Below w.heap.size w w' := by
  have HB := Lib.hid (fun o => (Below.refl w.heap.size w).alloc (Nat.le_refl _) o)
  have HQ : Hid (rightB x y = decide (-134217728 ≤ x ∧ x ≤ 134217728 ∧ -134217728 ≤ y ∧ y ≤ 134217728 ∧ (x ≠ 0 ∨ y ≠ 0))) := Lib.hid rfl
  have hx : x < -134217728 ∨ (-134217728 ≤ x ∧ x < 0) ∨ x = 0 ∨ (0 < x ∧ x ≤ 134217728) ∨ 134217728 < x := by omega
  have hy : y < -134217728 ∨ (-134217728 ≤ y ∧ y < 0) ∨ y = 0 ∨ (0 < y ∧ y ≤ 134217728) ∨ 134217728 < y := by omega
  have e5 := neB x
  have e6 := neB y
  rcases hx with hx | hx | rfl | hx | hx <;> rcases hy with hy | hy | rfl | hy | hy
  all_goals
    first | rw [decide_eq_true (by omega)] at e5 | rw [decide_eq_false (by omega)] at e5
    first | rw [decide_eq_true (by omega)] at e6 | rw [decide_eq_false (by omega)] at e6
  all_goals
    go_enter Try.func11, Try.ntmps11
    go_wp2
    go_ret
    refine ⟨?_, HB.out _⟩
    rw [HQ.out]
    clear HQ HB
  all_goals first | (rw [decide_eq_true (by omega)] <;> rfl) | (rw [decide_eq_false (by omega)] <;> rfl)

set_option maxHeartbeats 800000 in
theorem refq_any (x y : Int) (w : World) : Calls Try.prog 14 #[wayV x y] w fun e w' => e = .returned (.int .i64 (refQ x y)) ∧ Below w.heap.size w w' := by
  have HB := Lib.hid (fun o => (Below.refl w.heap.size w).alloc (Nat.le_refl _) o)
  have HQ : Hid (refQ x y = if 0 < x ∧ 0 ≤ y then 0 else if x ≤ 0 ∧ 0 < y then 1 else if x < 0 ∧ y ≤ 0 then 2 else 3) := Lib.hid rfl
  rcases Int.lt_trichotomy x 0 with hx | rfl | hx <;> rcases Int.lt_trichotomy y 0 with hy | rfl | hy
  all_goals
    go_enter Try.func14, Try.ntmps14
    go_wp2
    go_ret
    refine ⟨?_, HB.out _⟩
    rw [HQ.out]
    clear HQ HB
  all_goals
    first
      | (rw [if_pos (by omega)]; rfl)
      | (rw [if_neg (by omega), if_pos (by omega)]; rfl)
      | (rw [if_neg (by omega), if_neg (by omega), if_pos (by omega)]; rfl)
      | (rw [if_neg (by omega), if_neg (by omega), if_neg (by omega)]; rfl)

set_option maxHeartbeats 800000 in
theorem half_any (x y : Int) (w : World) : Calls Try.prog 32 #[wayV x y] w fun e w' => e = .returned (.int .i64 (halfI x y)) ∧ Below w.heap.size w w' := by
  have HB := Lib.hid (fun o => (Below.refl w.heap.size w).alloc (Nat.le_refl _) o)
  have HQ : Hid (halfI x y = if 0 < y ∨ y = 0 ∧ 0 < x then 0 else 1) := Lib.hid rfl
  by_cases h1 : 0 < y
  · go_enter Try.func32, Try.ntmps32
    go_wp2
    go_ret
    exact ⟨by rw [HQ.out, if_pos (by omega)]; rfl, HB.out _⟩
  · by_cases h2 : y = 0
    · subst h2
      have hk : ∃ k, halfI x 0 = k ∧ (0 < x ∧ k = 0 ∨ ¬ 0 < x ∧ k = 1) := ⟨_, rfl, by unfold halfI; by_cases h3 : 0 < x <;> simp [h3]⟩
      clear HQ
      obtain ⟨k, hk, ⟨h3, rfl⟩ | ⟨h3, rfl⟩⟩ := hk
      all_goals
        have HV := Lib.hid hk
        clear hk
        go_enter Try.func32, Try.ntmps32
        go_wp2
        go_ret
        exact ⟨by rw [HV.out]; rfl, HB.out _⟩
    · have h3 : (y == 0) = false := by simpa using h2
      go_enter Try.func32, Try.ntmps32
      go_wp2
      go_ret
      exact ⟨by rw [HQ.out, if_neg (by omega)]; rfl, HB.out _⟩

set_option maxHeartbeats 800000 in
theorem cross_any (x y u v : Int) (w : World) : Calls Try.prog 33 #[wayV x y, wayV u v] w fun e w' => e = .returned (.int .i64 (crossW x y u v)) ∧ Below w.heap.size w w' := by
  have HB := Lib.hid (fun o o2 => ((Below.refl w.heap.size w).alloc (Nat.le_refl _) o).alloc (by simp) o2)
  go_enter Try.func33, Try.ntmps33
  go_wp2
  go_ret
  exact ⟨rfl, HB.out _ _⟩

theorem cell_row {W : World} {b : Nat} {vs : List Value} (h : Row W b vs) (i : Nat) {v : Value} (hv : vs[i]? = some v) : W.cell? ⟨b, i, none⟩ = some v := h.c i hv

set_option maxHeartbeats 1600000 in
set_option maxRecDepth 100000 in
theorem refcmp_any (x y u v : Int) (w : World) : Calls Try.prog 16 #[wayV x y, wayV u v] w fun e w' => e = .returned (.int .i64 (refC x y u v)) ∧ Below w.heap.size w w' := by
  have e1 : (halfI x y != halfI u v) = !decide (halfI x y = halfI u v) := by by_cases h : halfI x y = halfI u v <;> simp [h]
  by_cases hh : halfI x y = halfI u v
  · rw [decide_eq_true hh, Bool.not_true] at e1
    have HR := Lib.hid (show refC x y u v = sgnD (crossW x y u v) by rw [refC, if_pos hh])
    clear hh
    go_enter Try.func16, Try.ntmps16
    go_wp2_with fail
    have hS : RS w [(w.heap.size, wayL x y), (w.heap.size + 1, wayL u v)] _ :=
      ((RS.nil w).new (B := w.heap.size) rfl (wayL x y) 23).new (B := w.heap.size + 1) (by simp) (wayL u v) 23
    generalize World.alloc _ _ = W0 at hS ⊢
    generalize hL : [(w.heap.size, wayL x y), (w.heap.size + 1, wayL u v)] = L at hS
    have HL := Lib.hid hL; clear hL
    have a0 : ∀ W, SL w L W → W.cell? ⟨w.heap.size, 0, none⟩ = some (.int .i64 x) := fun W h => h.c 0 (by rw [← HL.out]; rfl) 0 rfl
    have a1 : ∀ W, SL w L W → W.cell? ⟨w.heap.size, 1, none⟩ = some (.int .i64 y) := fun W h => h.c 0 (by rw [← HL.out]; rfl) 1 rfl
    have b0 : ∀ W, SL w L W → W.cell? ⟨w.heap.size + 1, 0, none⟩ = some (.int .i64 u) := fun W h => h.c 1 (by rw [← HL.out]; rfl) 0 rfl
    have b1 : ∀ W, SL w L W → W.cell? ⟨w.heap.size + 1, 1, none⟩ = some (.int .i64 v) := fun W h => h.c 1 (by rw [← HL.out]; rfl) 1 rfl
    have hs : SL w L W0.drew := SL.drew hS
    clear hS
    go_region_held3 (fun w' : World => SL w L w')
      (repeat (first
        | (with_reducible assumption)
        | (with_reducible refine SL.drew ?_)
        | (with_reducible refine SL.after ?_ hb)))
      (first
        | (go_at_call 32; refine (half_any _ _ _).mono ?_; (try clear hb); rintro e w' ⟨rfl, hb⟩))
    have hq := ‹SL w L _›
    go_wp2_with fail
    refine (cross_any _ _ _ _ _).mono ?_
    rintro e w3 ⟨rfl, hb⟩
    have hq := hq.after hb
    clear a0 a1 b0 b1
    by_cases h3 : 0 < crossW x y u v
    · have hv := Lib.hid (show sgnD (crossW x y u v) = -1 by rw [sgnD, if_pos h3])
      go_wp2
      go_ret
      exact ⟨by rw [HR.out, hv.out]; rfl, hq.2⟩
    · by_cases h4 : crossW x y u v < 0
      · have hv := Lib.hid (show sgnD (crossW x y u v) = 1 by rw [sgnD, if_neg h3, if_pos h4])
        go_wp2
        go_ret
        exact ⟨by rw [HR.out, hv.out]; rfl, hq.2⟩
      · have hv := Lib.hid (show sgnD (crossW x y u v) = 0 by rw [sgnD, if_neg h3, if_neg h4])
        go_wp2
        go_ret
        exact ⟨by rw [HR.out, hv.out]; rfl, hq.2⟩
  · rw [decide_eq_false hh, Bool.not_false] at e1
    have HR := Lib.hid (show refC x y u v = halfI x y - halfI u v by rw [refC, if_neg hh])
    have HH : Hid (wrap64 (halfI x y - halfI u v) = halfI x y - halfI u v) := Lib.hid (by
      have h1 := halfI_bd x y
      have h2 := halfI_bd u v
      unfold wrap64
      omega)
    have HE : Hid (IntKind.i64.wrap (halfI x y - halfI u v) = halfI x y - halfI u v) := Lib.hid (by
      have h1 := halfI_bd x y
      have h2 := halfI_bd u v
      simp only [IntKind.wrap_i64]
      omega)
    clear hh
    go_enter Try.func16, Try.ntmps16
    go_wp2_with fail
    have hS : RS w [(w.heap.size, wayL x y), (w.heap.size + 1, wayL u v)] _ :=
      ((RS.nil w).new (B := w.heap.size) rfl (wayL x y) 23).new (B := w.heap.size + 1) (by simp) (wayL u v) 23
    generalize World.alloc _ _ = W0 at hS ⊢
    generalize hL : [(w.heap.size, wayL x y), (w.heap.size + 1, wayL u v)] = L at hS
    have HL := Lib.hid hL; clear hL
    have a0 : ∀ W, SL w L W → W.cell? ⟨w.heap.size, 0, none⟩ = some (.int .i64 x) := fun W h => h.c 0 (by rw [← HL.out]; rfl) 0 rfl
    have a1 : ∀ W, SL w L W → W.cell? ⟨w.heap.size, 1, none⟩ = some (.int .i64 y) := fun W h => h.c 0 (by rw [← HL.out]; rfl) 1 rfl
    have b0 : ∀ W, SL w L W → W.cell? ⟨w.heap.size + 1, 0, none⟩ = some (.int .i64 u) := fun W h => h.c 1 (by rw [← HL.out]; rfl) 0 rfl
    have b1 : ∀ W, SL w L W → W.cell? ⟨w.heap.size + 1, 1, none⟩ = some (.int .i64 v) := fun W h => h.c 1 (by rw [← HL.out]; rfl) 1 rfl
    have hs : SL w L W0.drew := SL.drew hS
    clear hS
    go_region_held3 (fun w' : World => SL w L w')
      (repeat (first
        | (with_reducible assumption)
        | (with_reducible refine SL.drew ?_)
        | (with_reducible refine SL.after ?_ hb)))
      (first
        | (go_at_call 32; refine (half_any _ _ _).mono ?_; (try clear hb); rintro e w' ⟨rfl, hb⟩))
    have hq := ‹SL w L _›
    go_wp2_with fail
    have hs : SL w L (World.drew _) := SL.drew hq
    go_region_held3 (fun w' : World => SL w L w')
      (repeat (first
        | (with_reducible assumption)
        | (with_reducible refine SL.drew ?_)
        | (with_reducible refine SL.after ?_ hb)))
      (first
        | (go_at_call 32; refine (half_any _ _ _).mono ?_; (try clear hb); rintro e w' ⟨rfl, hb⟩))
    have hq := ‹SL w L _›
    clear a0 a1 b0 b1
    go_wp2
    go_ret
    refine ⟨?_, hq.2⟩
    rw [HR.out]
    first
      | (show Ending.returned (Value.int IntKind.i64 (IntKind.i64.wrap (halfI x y - halfI u v))) = _; rw [HE.out])
      | (show Ending.returned (Value.int IntKind.i64 (IntKind.i64.wrap (wrap64 (halfI x y - halfI u v)))) = _; rw [HH.out, HE.out])

set_option maxHeartbeats 1600000 in
set_option maxRecDepth 100000 in
theorem refopp_any (x y u v : Int) (w : World) : Calls Try.prog 17 #[wayV x y, wayV u v] w fun e w' => e = .returned (.bool (refO x y u v)) ∧ Below w.heap.size w w' := by
  have e1 : (halfI x y != halfI u v) = !decide (halfI x y = halfI u v) := by by_cases h : halfI x y = halfI u v <;> simp [h]
  have e2 : (crossW x y u v == 0) = decide (crossW x y u v = 0) := by by_cases h : crossW x y u v = 0 <;> simp [h]
  have HV := Lib.hid (show refO x y u v = (decide (crossW x y u v = 0) && !decide (halfI x y = halfI u v)) from rfl)
  generalize decide (halfI x y = halfI u v) = z at e1 HV
  generalize decide (crossW x y u v = 0) = c at e2 HV
  have HZ : ∃ h k, Hid (halfI x y = h) ∧ Hid (halfI u v = k) ∧ (h != k) = !z := ⟨_, _, Lib.hid rfl, Lib.hid rfl, e1⟩
  clear e1
  obtain ⟨h, k, H1, H2, e1⟩ := HZ
  have HX : ∃ m, Hid (crossW x y u v = m) ∧ (m == 0) = c := ⟨_, Lib.hid rfl, e2⟩
  clear e2
  obtain ⟨m, H3, e2⟩ := HX
  have HA : Hid (∀ W, Calls Try.prog 32 #[wayV x y] W fun e w' => e = .returned (.int .i64 h) ∧ Below W.heap.size W w') := Lib.hid (fun W => by rw [← H1.out]; exact half_any x y W)
  have HC : Hid (∀ W, Calls Try.prog 32 #[wayV u v] W fun e w' => e = .returned (.int .i64 k) ∧ Below W.heap.size W w') := Lib.hid (fun W => by rw [← H2.out]; exact half_any u v W)
  have HD : Hid (∀ W, Calls Try.prog 33 #[wayV x y, wayV u v] W fun e w' => e = .returned (.int .i64 m) ∧ Below W.heap.size W w') := Lib.hid (fun W => by rw [← H3.out]; exact cross_any x y u v W)
  clear H1 H2 H3
  cases c
  all_goals
    go_enter Try.func17, Try.ntmps17
    go_wp2_with fail
    have hS : RS w [(w.heap.size, wayL x y), (w.heap.size + 1, wayL u v)] _ :=
      ((RS.nil w).new (B := w.heap.size) rfl (wayL x y) 23).new (B := w.heap.size + 1) (by simp) (wayL u v) 23
    generalize World.alloc _ _ = W0 at hS ⊢
    have d0 := cell_regrown (hS.c 0 rfl 0 rfl)
    have d1 := cell_regrown (hS.c 0 rfl 1 rfl)
    have g0 := cell_regrown (hS.c 1 rfl 0 rfl)
    have g1 := cell_regrown (hS.c 1 rfl 1 rfl)
    have C1 := Lib.hid (fun d os => Calls.regrown_of (HA.out (grow (redrawn W0 d) os)))
    have C2 := Lib.hid (fun d os => Calls.regrown_of (HC.out (grow (redrawn W0 d) os)))
    have C3 := Lib.hid (fun d os => Calls.regrown_of (HD.out (grow (redrawn W0 d) os)))
    refine wp_region_quiet_below (by kernel_rfl) (by kernel_rfl) ?_
    repeat (first | go_big_quiet_step ((first | with_reducible exact C1.out _ _ | with_reducible exact C2.out _ _ | with_reducible exact C3.out _ _)) | quiet_step ((first | with_reducible exact C1.out _ _ | with_reducible exact C2.out _ _ | with_reducible exact C3.out _ _)))
    refine wpQuiet_nil ?_
    intro _ hw'
    obtain ⟨⟨dq, osq⟩, hw''⟩ := hw'
    subst hw''
    go_wp2
    go_ret
    exact ⟨by rw [HV.out]; rfl, hS.2.trans ((below_regrown W0 dq osq).mono hS.2.size)⟩

set_option maxHeartbeats 1600000 in
set_option maxRecDepth 100000 in
theorem refbet_any (x y u v s t : Int) (w : World) : Calls Try.prog 19 #[wayV x y, wayV u v, wayV s t] w fun e w' => e = .returned (.bool (betI (refC x y s t) (refC s t u v) (refC x y u v))) ∧ Below w.heap.size w w' := by
  have HA : Hid (∀ W, Calls Try.prog 16 #[wayV x y, wayV s t] W fun e w' => e = .returned (.int .i64 (refC x y s t)) ∧ Below W.heap.size W w') := Lib.hid (fun W => refcmp_any x y s t W)
  have HC : Hid (∀ W, Calls Try.prog 16 #[wayV s t, wayV u v] W fun e w' => e = .returned (.int .i64 (refC s t u v)) ∧ Below W.heap.size W w') := Lib.hid (fun W => refcmp_any s t u v W)
  have HD : Hid (∀ W, Calls Try.prog 16 #[wayV x y, wayV u v] W fun e w' => e = .returned (.int .i64 (refC x y u v)) ∧ Below W.heap.size W w') := Lib.hid (fun W => refcmp_any x y u v W)
  generalize refC x y s t = a at HA ⊢
  generalize refC s t u v = b at HC ⊢
  generalize refC x y u v = c at HD ⊢
  have e1 : (a == 0) = decide (a = 0) := by by_cases h : a = 0 <;> simp [h]
  have e2 : (b == 0) = decide (b = 0) := by by_cases h : b = 0 <;> simp [h]
  have e3 : (c == 0) = decide (c = 0) := by by_cases h : c = 0 <;> simp [h]
  obtain ⟨q, hk, hc⟩ : ∃ q, betI a b c = q ∧ (q = true ∧ (a ≠ 0 ∧ b ≠ 0 ∧ (c < 0 ∧ a < 0 ∧ b < 0 ∨ c = 0 ∨ 0 < c ∧ (a < 0 ∨ b < 0))) ∨ q = false ∧ ¬ (a ≠ 0 ∧ b ≠ 0 ∧ (c < 0 ∧ a < 0 ∧ b < 0 ∨ c = 0 ∨ 0 < c ∧ (a < 0 ∨ b < 0)))) := by
    by_cases h : (a ≠ 0 ∧ b ≠ 0 ∧ (c < 0 ∧ a < 0 ∧ b < 0 ∨ c = 0 ∨ 0 < c ∧ (a < 0 ∨ b < 0)))
    · exact ⟨true, betI_iff.2 h, Or.inl ⟨rfl, h⟩⟩
    · exact ⟨false, betI_not h, Or.inr ⟨rfl, h⟩⟩
  have HV := Lib.hid hk
  have Hc := Lib.hid hc
  clear hk hc
  go_enter Try.func19, Try.ntmps19
  go_wp2_with fail
  have hS : RS w [(w.heap.size, wayL x y), (w.heap.size + 1, wayL u v), (w.heap.size + 1 + 1, wayL s t)] _ :=
    (((RS.nil w).new (B := w.heap.size) rfl (wayL x y) 23).new (B := w.heap.size + 1) (by simp) (wayL u v) 23).new (B := w.heap.size + 1 + 1) (by simp) (wayL s t) 23
  generalize World.alloc _ _ = W0 at hS ⊢
  have d0 := cell_regrown (hS.c 0 rfl 0 rfl)
  have d1 := cell_regrown (hS.c 0 rfl 1 rfl)
  have g0 := cell_regrown (hS.c 1 rfl 0 rfl)
  have g1 := cell_regrown (hS.c 1 rfl 1 rfl)
  have i0 := cell_regrown (hS.c 2 rfl 0 rfl)
  have i1 := cell_regrown (hS.c 2 rfl 1 rfl)
  have C1 := Lib.hid (fun d os => Calls.regrown_of (HA.out (grow (redrawn W0 d) os)))
  have C2 := Lib.hid (fun d os => Calls.regrown_of (HC.out (grow (redrawn W0 d) os)))
  have C3 := Lib.hid (fun d os => Calls.regrown_of (HD.out (grow (redrawn W0 d) os)))
  refine wp_region_quiet_below (by kernel_rfl) (by kernel_rfl) ?_
  repeat (first | go_big_quiet_step ((first | with_reducible exact C1.out _ _ | with_reducible exact C2.out _ _ | with_reducible exact C3.out _ _)) | quiet_step ((first | with_reducible exact C1.out _ _ | with_reducible exact C2.out _ _ | with_reducible exact C3.out _ _)))
  refine wpQuiet_nil ?_
  intro _ hw'
  obtain ⟨⟨dq, osq⟩, hw''⟩ := hw'
  subst hw''
  have hB := Lib.hid (hS.2.trans ((below_regrown W0 dq osq).mono hS.2.size))
  clear hS d0 d1 g0 g1 i0 i1 C1 C2 C3 HA HC HD
  clear e1 e2 e3
  have e1 := eqB a
  have e2 := eqB b
  have e3 := eqB c
  rcases Int.lt_trichotomy a 0 with ha | rfl | ha <;> rcases Int.lt_trichotomy b 0 with hb | rfl | hb <;> rcases Int.lt_trichotomy c 0 with hc | rfl | hc
  all_goals
    first | rw [decide_eq_true (by omega)] at e1 | rw [decide_eq_false (by omega)] at e1
    first | rw [decide_eq_true (by omega)] at e2 | rw [decide_eq_false (by omega)] at e2
    first | rw [decide_eq_true (by omega)] at e3 | rw [decide_eq_false (by omega)] at e3
    rcases Hc.out with ⟨rfl, hc⟩ | ⟨rfl, hc⟩
    all_goals
      first
        | (exfalso; omega)
        | (clear hc Hc
           go_wp2
           go_ret
           refine ⟨?_, hB.out⟩
           rw [HV.out]
           first
             | rfl
             | (show Ending.returned (Value.bool (decide (b < 0))) = _
                first | rw [decide_eq_true (by omega : b < 0)] | rw [decide_eq_false (by omega : ¬ b < 0)])
             | (show Ending.returned (Value.bool (decide (a < 0) || decide (b < 0))) = _
                rw [decide_eq_false (by omega : ¬ a < 0), decide_eq_false (by omega : ¬ b < 0)]
                rfl))
end Go.Proofs.Ytfdofajknnocfaa
