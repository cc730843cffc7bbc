/- Contracts of angle's Cmp, Opposite, Between, Quarter, Check, at any ways. -/
import Derived.Test.YtfdofajknnocfaaNE
namespace Go.Proofs.Ytfdofajknnocfaa
open Go.RowKit Go.Sort

def toldI (z : Bool) (v : Int) : Int := if z then v else 0
def errI (z : Bool) : Int := if z then 0 else 2
theorem toldV_int (z : Bool) (v : Int) : toldV z (.int .i64 v) (.int .i64 0) = .tuple #[.int .i64 (toldI z v), .int .i64 (errI z)] := by cases z <;> rfl
theorem toldV_bool (z v : Bool) : toldV z (.bool v) (.bool false) = .tuple #[.bool (z && v), .int .i64 (errI z)] := by cases z <;> rfl
/-- The order, opposite of two ways; the place of the next one. -/
def ordA (x y u v : Int) : Int := ordW x y (quart x y) u v (quart u v)
def oppA (x y u v : Int) : Bool := oppW x y (quart x y) u v (quart u v)
def aheadA (x y : Int) (X Y : Nat → Int) (i j : Nat) : Bool := aheadI (ordA (X i) (Y i) x y) (ordA (X j) (Y j) x y) (ordA (X i) (Y i) (X j) (Y j))
def sel2 (a b : Int) : Nat → Int
  | 0 => a
  | _ => b
def sel3 (a b c : Int) : Nat → Int
  | 0 => a
  | 1 => b
  | _ => c
theorem ways1 {W : World} {b : Nat} {x y : Int} (h : Row W b [.int .i64 x, .int .i64 y]) : WaysAt W b 0 1 (fun _ => x) (fun _ => y) :=
  ⟨h.lt, fun i hi => by obtain rfl : i = 0 := by omega
                        exact ⟨h.c 0 rfl, h.c 1 rfl⟩⟩
theorem ways2 {W : World} {b : Nat} {x y u v : Int} (h : Row W b [.int .i64 x, .int .i64 y, .int .i64 u, .int .i64 v]) : WaysAt W b 0 2 (sel2 x u) (sel2 y v) :=
  ⟨h.lt, fun i hi => by
    match i, hi with
    | 0, _ => exact ⟨h.c 0 rfl, h.c 1 rfl⟩
    | 1, _ => exact ⟨h.c 2 rfl, h.c 3 rfl⟩
    | _ + 2, hi => omega⟩
theorem ways3 {W : World} {b : Nat} {x y u v s t : Int} (h : Row W b [.int .i64 x, .int .i64 y, .int .i64 u, .int .i64 v, .int .i64 s, .int .i64 t]) : WaysAt W b 0 3 (sel3 x u s) (sel3 y v t) :=
  ⟨h.lt, fun i hi => by
    match i, hi with
    | 0, _ => exact ⟨h.c 0 rfl, h.c 1 rfl⟩
    | 1, _ => exact ⟨h.c 2 rfl, h.c 3 rfl⟩
    | 2, _ => exact ⟨h.c 4 rfl, h.c 5 rfl⟩
    | _ + 3, hi => omega⟩
theorem ArmsAt.get {W : World} {b o n : Nat} {X Y Q : Nat → Int} (h : ArmsAt W b o n X Y Q) (i k : Nat) (hi : i < n) (hk : o + i * 3 = k) :
    W.cell? ⟨b, k, none⟩ = some (.int .i64 (X i)) ∧ W.cell? ⟨b, k + 1, none⟩ = some (.int .i64 (Y i)) ∧ W.cell? ⟨b, k + 2, none⟩ = some (.int .i64 (Q i)) := by
  subst hk; exact h.2 i hi
theorem ArmsAt.rest {W : World} {b n : Nat} {X Y Q : Nat → Int} (h : ArmsAt W b 0 (n + 1) X Y Q) : ArmsAt W b 3 n (fun i => X (i + 1)) (fun i => Y (i + 1)) (fun i => Q (i + 1)) :=
  ⟨h.1, fun i hi => by
    have := h.get (i + 1) (3 + i * 3) (by omega) (by omega)
    exact this⟩

set_option maxHeartbeats 1600000 in
set_option maxRecDepth 100000 in
theorem cmp1 (X Y Q : Nat → Int) (B : Nat) (w : World) (h : ArmsAt w B 0 2 X Y Q) :
    Calls Try.prog 26 #[.slice (some ⟨B, 0, none⟩) 2 2] w fun e w' => e = .returned (.int .i64 (ordW (X 0) (Y 0) (Q 0) (X 1) (Y 1) (Q 1))) ∧ Below w.heap.size w w' := by
  obtain ⟨c0, c1, c2⟩ := h.get 0 0 (by omega) rfl
  obtain ⟨c3, c4, c5⟩ := h.get 1 3 (by omega) rfl
  clear h
  have d0 := cell_regrown c0
  have d1 := cell_regrown c1
  have d2 := cell_regrown c2
  have d3 := cell_regrown c3
  have d4 := cell_regrown c4
  have d5 := cell_regrown c5
  have HV := Lib.hid (fun W => order_any (X 0) (Y 0) (Q 0) (X 1) (Y 1) (Q 1) W)
  clear c0 c1 c2 c3 c4 c5
  generalize ordW (X 0) (Y 0) (Q 0) (X 1) (Y 1) (Q 1) = r at HV ⊢
  have C1 := Lib.hid (fun d os => Calls.regrown_of (HV.out (grow (redrawn w d) os)))
  go_enter Try.func26, Try.ntmps26
  go_wp2_with fail
  refine wp_region_quiet_below (by kernel_rfl) (by kernel_rfl) ?_
  repeat (first | go_big_quiet_step (with_reducible exact C1.out _ _) | quiet_step (with_reducible exact C1.out _ _))
  refine wpQuiet_nil ?_
  intro _ hw'
  obtain ⟨⟨dq, osq⟩, hw''⟩ := hw'
  subst hw''
  go_wp2
  go_ret
  exact ⟨rfl, below_regrown w dq osq⟩

set_option maxHeartbeats 1600000 in
set_option maxRecDepth 100000 in
theorem opp1 (X Y Q : Nat → Int) (B : Nat) (w : World) (h : ArmsAt w B 0 2 X Y Q) :
    Calls Try.prog 29 #[.slice (some ⟨B, 0, none⟩) 2 2] w fun e w' => e = .returned (.bool (oppW (X 0) (Y 0) (Q 0) (X 1) (Y 1) (Q 1))) ∧ Below w.heap.size w w' := by
  obtain ⟨c0, c1, c2⟩ := h.get 0 0 (by omega) rfl
  obtain ⟨c3, c4, c5⟩ := h.get 1 3 (by omega) rfl
  clear h
  have d0 := cell_regrown c0
  have d1 := cell_regrown c1
  have d2 := cell_regrown c2
  have d3 := cell_regrown c3
  have d4 := cell_regrown c4
  have d5 := cell_regrown c5
  have HV := Lib.hid (fun W => opposite_any (X 0) (Y 0) (Q 0) (X 1) (Y 1) (Q 1) W)
  clear c0 c1 c2 c3 c4 c5
  generalize oppW (X 0) (Y 0) (Q 0) (X 1) (Y 1) (Q 1) = r at HV ⊢
  have C1 := Lib.hid (fun d os => Calls.regrown_of (HV.out (grow (redrawn w d) os)))
  go_enter Try.func29, Try.ntmps29
  go_wp2_with fail
  refine wp_region_quiet_below (by kernel_rfl) (by kernel_rfl) ?_
  repeat (first | go_big_quiet_step (with_reducible exact C1.out _ _) | quiet_step (with_reducible exact C1.out _ _))
  refine wpQuiet_nil ?_
  intro _ hw'
  obtain ⟨⟨dq, osq⟩, hw''⟩ := hw'
  subst hw''
  go_wp2
  go_ret
  exact ⟨rfl, below_regrown w dq osq⟩

set_option maxHeartbeats 1600000 in
set_option maxRecDepth 100000 in
theorem cmp_any (x y u v : Int) (w : World) :
    Calls Try.prog 8 #[wayV x y, wayV u v] w fun e w' => e = .returned (.tuple #[.int .i64 (toldI (mayB x y && mayB u v) (ordA x y u v)), .int .i64 (errI (mayB x y && mayB u v))]) ∧ Below w.heap.size w w' := by
  have HT : Hid (∀ W b, Row W b [.int .i64 x, .int .i64 y, .int .i64 u, .int .i64 v] → Calls Try.prog 25 #[.func (.func 26) #[] #[], .slice (some ⟨b, 0, none⟩) 2 2] W fun e w' => e = .returned (.tuple #[.int .i64 (toldI (mayB x y && mayB u v) (ordA x y u v)), .int .i64 (errI (mayB x y && mayB u v))]) ∧ Below W.heap.size W w') := by
    refine Lib.hid (fun W b h => ?_)
    have hz : allM (sel2 x u) (sel2 y v) 2 = (mayB x y && mayB u v) := by simp only [allM, Bool.true_and]; try rfl
    have := told_int 26 (ordA x y u v) (sel2 x u) (sel2 y v) b 0 2 2 W (by omega) (ways2 h) (fun _ _ => Try.call26 _ _) (fun _ W' _ hA => cmp1 _ _ _ _ _ hA)
    rw [hz, toldV_int] at this
    exact this
  generalize toldI (mayB x y && mayB u v) (ordA x y u v) = r at HT ⊢
  generalize errI (mayB x y && mayB u v) = m at HT ⊢
  go_enter Try.func8, Try.ntmps8
  go_wp2_with fail
  generalize hW : World.alloc _ _ = W0
  have hB : Below w.heap.size w W0 := by rw [← hW]; exact (((Below.refl _ _).alloc (Nat.le_refl _) _).alloc (by simp) _).alloc (by simp; omega) _
  have hR : Row W0 (w.heap.size + 1 + 1) [.int .i64 x, .int .i64 y, .int .i64 u, .int .i64 v] := by rw [← hW]; exact Row.at (by simp) [.int .i64 x, .int .i64 y, .int .i64 u, .int .i64 v] _
  clear hW
  refine (HT.out _ _ hR).mono ?_
  rintro e w1 ⟨rfl, hb⟩
  have hB := hB.trans (hb.mono hB.size)
  clear hb hR HT
  go_wp2
  go_ret2
  exact ⟨rfl, hB⟩

set_option maxHeartbeats 1600000 in
set_option maxRecDepth 100000 in
theorem opp_any (x y u v : Int) (w : World) :
    Calls Try.prog 9 #[wayV x y, wayV u v] w fun e w' => e = .returned (.tuple #[.bool (mayB x y && mayB u v && oppA x y u v), .int .i64 (errI (mayB x y && mayB u v))]) ∧ Below w.heap.size w w' := by
  have HT : Hid (∀ W b, Row W b [.int .i64 x, .int .i64 y, .int .i64 u, .int .i64 v] → Calls Try.prog 28 #[.func (.func 29) #[] #[], .slice (some ⟨b, 0, none⟩) 2 2] W fun e w' => e = .returned (.tuple #[.bool (mayB x y && mayB u v && oppA x y u v), .int .i64 (errI (mayB x y && mayB u v))]) ∧ Below W.heap.size W w') := by
    refine Lib.hid (fun W b h => ?_)
    have hz : allM (sel2 x u) (sel2 y v) 2 = (mayB x y && mayB u v) := by simp only [allM, Bool.true_and]; try rfl
    have := told_bool 29 (oppA x y u v) (sel2 x u) (sel2 y v) b 0 2 2 W (by omega) (ways2 h) (fun _ _ => Try.call29 _ _) (fun _ W' _ hA => opp1 _ _ _ _ _ hA)
    rw [hz, toldV_bool] at this
    exact this
  generalize (mayB x y && mayB u v && oppA x y u v) = r at HT ⊢
  generalize errI (mayB x y && mayB u v) = m at HT ⊢
  go_enter Try.func9, Try.ntmps9
  go_wp2_with fail
  generalize hW : World.alloc _ _ = W0
  have hB : Below w.heap.size w W0 := by rw [← hW]; exact (((Below.refl _ _).alloc (Nat.le_refl _) _).alloc (by simp) _).alloc (by simp; omega) _
  have hR : Row W0 (w.heap.size + 1 + 1) [.int .i64 x, .int .i64 y, .int .i64 u, .int .i64 v] := by rw [← hW]; exact Row.at (by simp) [.int .i64 x, .int .i64 y, .int .i64 u, .int .i64 v] _
  clear hW
  refine (HT.out _ _ hR).mono ?_
  rintro e w1 ⟨rfl, hb⟩
  have hB := hB.trans (hb.mono hB.size)
  clear hb hR HT
  go_wp2
  go_ret2
  exact ⟨rfl, hB⟩

/-- Is the third between the first and the second? -/
def betA (x y u v s t : Int) : Bool := decide (firstI (aheadA x y (sel2 u s) (sel2 v t)) 2 = 1)
set_option maxHeartbeats 1600000 in
set_option maxRecDepth 100000 in
theorem quarter1 (X Y Q : Nat → Int) (B : Nat) (w : World) (h : ArmsAt w B 0 1 X Y Q) :
    Calls Try.prog 31 #[.slice (some ⟨B, 0, none⟩) 1 1] w fun e w' => e = .returned (.int .i64 (Q 0)) ∧ Below w.heap.size w w' := by
  obtain ⟨c0, c1, c2⟩ := h.get 0 0 (by omega) rfl
  clear h
  go_enter Try.func31, Try.ntmps31
  go_wp2
  go_ret
  exact ⟨rfl, Below.refl _ _⟩
set_option maxHeartbeats 1600000 in
set_option maxRecDepth 100000 in
theorem between1 (X Y Q : Nat → Int) (B : Nat) (w : World) (h : ArmsAt w B 0 3 X Y Q) :
    Calls Try.prog 34 #[.slice (some ⟨B, 0, none⟩) 3 3] w fun e w' => e = .returned (.bool (decide (firstI (fun i j => aheadI (ordW (X (i + 1)) (Y (i + 1)) (Q (i + 1)) (X 0) (Y 0) (Q 0)) (ordW (X (j + 1)) (Y (j + 1)) (Q (j + 1)) (X 0) (Y 0) (Q 0)) (ordW (X (i + 1)) (Y (i + 1)) (Q (i + 1)) (X (j + 1)) (Y (j + 1)) (Q (j + 1)))) 2 = 1))) ∧ Below w.heap.size w w' := by
  obtain ⟨c0, c1, c2⟩ := h.get 0 0 (by omega) rfl
  have HN := Lib.hid (fun (W : World) (hb : Below w.heap.size w W) => next_any (fun i => X (i + 1)) (fun i => Y (i + 1)) (fun i => Q (i + 1)) (X 0) (Y 0) (Q 0) B 3 2 2 W (by omega) (ArmsAt.rest (n := 2) (h.below hb)))
  clear h
  generalize firstI _ 2 = r at HN ⊢
  obtain ⟨z, hz, hb⟩ : ∃ z : Bool, decide (r = 1) = z ∧ ((r : Int) == 1) = z := ⟨decide (r = 1), rfl, by by_cases h : r = 1 <;> simp [h] <;> omega⟩
  rw [hz]
  clear hz
  have d0 := cell_regrown c0
  have d1 := cell_regrown c1
  have d2 := cell_regrown c2
  clear c0 c1 c2
  have C1 := Lib.hid (fun d os => Calls.regrown_of (HN.out (grow (redrawn w d) os) (below_regrown w d os)))
  clear HN
  go_enter Try.func34, Try.ntmps34
  go_wp2_with fail
  refine wp_region_quiet_below (by kernel_rfl) (by kernel_rfl) ?_
  repeat (first | go_big_quiet_step (with_reducible exact C1.out _ _) | quiet_step (with_reducible exact C1.out _ _))
  refine wpQuiet_nil ?_
  intro _ hw'
  obtain ⟨⟨dq, osq⟩, hw''⟩ := hw'
  subst hw''
  go_wp2
  go_ret
  exact ⟨rfl, below_regrown w dq osq⟩
theorem firstI_congr {f g : Nat → Nat → Bool} {n : Nat} (h : ∀ i j, i < n → j < n → f i j = g i j) : ∀ k, k ≤ n → firstI f k = firstI g k
  | 0, _ => rfl
  | 1, _ => by cases h0 : f 0 0 <;> cases h1 : g 0 0 <;> simp [firstI, h0, h1]
  | k + 2, hk => by
    have ih := firstI_congr h (k + 1) (by omega)
    have hl := firstI_lt g (k + 1) (by omega)
    show (if f (k + 1) (firstI f (k + 1)) = true then k + 1 else firstI f (k + 1)) = if g (k + 1) (firstI g (k + 1)) = true then k + 1 else firstI g (k + 1)
    rw [ih, h _ _ (by omega) (by omega)]
theorem bet_step (x y u v s t : Int) (B : Nat) (w : World) (h : ArmsAt w B 0 3 (sel3 x u s) (sel3 y v t) (fun i => quart (sel3 x u s i) (sel3 y v t i))) :
    Calls Try.prog 34 #[.slice (some ⟨B, 0, none⟩) 3 3] w fun e w' => e = .returned (.bool (betA x y u v s t)) ∧ Below w.heap.size w w' := by
  have := between1 _ _ _ B w h
  rw [firstI_congr (g := aheadA x y (sel2 u s) (sel2 v t)) (n := 2) (fun i j hi hj => ?_) 2 (by omega)] at this
  · exact this
  · match i, j, hi, hj with
    | 0, 0, _, _ => rfl
    | 0, 1, _, _ => rfl
    | 1, 0, _, _ => rfl
    | 1, 1, _, _ => rfl
    | _ + 2, _, hi, _ => omega
    | _, _ + 2, _, hj => omega

set_option maxHeartbeats 1600000 in
set_option maxRecDepth 100000 in
theorem bet_any (x y u v s t : Int) (w : World) :
    Calls Try.prog 18 #[wayV x y, wayV u v, wayV s t] w fun e w' => e = .returned (.tuple #[.bool (mayB x y && mayB u v && mayB s t && betA x y u v s t), .int .i64 (errI (mayB x y && mayB u v && mayB s t))]) ∧ Below w.heap.size w w' := by
  have HT : Hid (∀ W b, Row W b [.int .i64 x, .int .i64 y, .int .i64 u, .int .i64 v, .int .i64 s, .int .i64 t] → Calls Try.prog 28 #[.func (.func 34) #[] #[], .slice (some ⟨b, 0, none⟩) 3 3] W fun e w' => e = .returned (.tuple #[.bool (mayB x y && mayB u v && mayB s t && betA x y u v s t), .int .i64 (errI (mayB x y && mayB u v && mayB s t))]) ∧ Below W.heap.size W w') := by
    refine Lib.hid (fun W b h => ?_)
    have hz : allM (sel3 x u s) (sel3 y v t) 3 = (mayB x y && mayB u v && mayB s t) := by simp only [allM, Bool.true_and]; try rfl
    have := told_bool 34 (betA x y u v s t) (sel3 x u s) (sel3 y v t) b 0 3 3 W (by omega) (ways3 h) (fun _ _ => Try.call34 _ _) (fun _ W' _ hA => bet_step x y u v s t _ _ hA)
    rw [hz, toldV_bool] at this
    exact this
  generalize (mayB x y && mayB u v && mayB s t && betA x y u v s t) = r at HT ⊢
  generalize errI (mayB x y && mayB u v && mayB s t) = m at HT ⊢
  go_enter Try.func18, Try.ntmps18
  go_wp2_with fail
  generalize hW : World.alloc _ _ = W0
  have hB : Below w.heap.size w W0 := by rw [← hW]; exact ((((Below.refl _ _).alloc (Nat.le_refl _) _).alloc (by simp) _).alloc (by simp; omega) _).alloc (by simp; omega) _
  have hR : Row W0 (w.heap.size + 1 + 1 + 1) [.int .i64 x, .int .i64 y, .int .i64 u, .int .i64 v, .int .i64 s, .int .i64 t] := by rw [← hW]; exact Row.at (by simp) [.int .i64 x, .int .i64 y, .int .i64 u, .int .i64 v, .int .i64 s, .int .i64 t] _
  clear hW
  refine (HT.out _ _ hR).mono ?_
  rintro e w1 ⟨rfl, hb⟩
  have hB := hB.trans (hb.mono hB.size)
  clear hb hR HT
  go_wp2
  go_ret2
  exact ⟨rfl, hB⟩

set_option maxHeartbeats 1600000 in
set_option maxRecDepth 100000 in
theorem quart_any (x y : Int) (w : World) :
    Calls Try.prog 10 #[wayV x y] w fun e w' => e = .returned (.tuple #[.int .i64 (toldI (mayB x y) (quart x y)), .int .i64 (errI (mayB x y))]) ∧ Below w.heap.size w w' := by
  have HT : Hid (∀ W b, Row W b [.int .i64 x, .int .i64 y] → Calls Try.prog 25 #[.func (.func 31) #[] #[], .slice (some ⟨b, 0, none⟩) 1 1] W fun e w' => e = .returned (.tuple #[.int .i64 (toldI (mayB x y) (quart x y)), .int .i64 (errI (mayB x y))]) ∧ Below W.heap.size W w') := by
    refine Lib.hid (fun W b h => ?_)
    have hz : allM (fun _ => x) (fun _ => y) 1 = (mayB x y) := by simp only [allM, Bool.true_and]; try rfl
    have := told_int 31 (quart x y) (fun _ => x) (fun _ => y) b 0 1 1 W (by omega) (ways1 h) (fun _ _ => Try.call31 _ _) (fun _ W' _ hA => quarter1 _ _ _ _ _ hA)
    rw [hz, toldV_int] at this
    exact this
  generalize toldI (mayB x y) (quart x y) = r at HT ⊢
  generalize errI (mayB x y) = m at HT ⊢
  go_enter Try.func10, Try.ntmps10
  go_wp2_with fail
  generalize hW : World.alloc _ _ = W0
  have hB : Below w.heap.size w W0 := by rw [← hW]; exact ((Below.refl _ _).alloc (Nat.le_refl _) _).alloc (by simp) _
  have hR : Row W0 (w.heap.size + 1) [.int .i64 x, .int .i64 y] := by rw [← hW]; exact Row.at (by simp) [.int .i64 x, .int .i64 y] _
  clear hW
  refine (HT.out _ _ hR).mono ?_
  rintro e w1 ⟨rfl, hb⟩
  have hB := hB.trans (hb.mono hB.size)
  clear hb hR HT
  go_wp2
  go_ret2
  exact ⟨rfl, hB⟩

set_option maxHeartbeats 1600000 in
set_option maxRecDepth 100000 in
theorem check_any (x y : Int) (w : World) :
    Calls Try.prog 13 #[wayV x y] w fun e w' => e = .returned (.int .i64 (errI (mayB x y))) ∧ Below w.heap.size w w' := by
  have HQ := Lib.hid (fun W => quart_any x y W)
  generalize toldI (mayB x y) (quart x y) = r at HQ ⊢
  generalize errI (mayB x y) = m at HQ ⊢
  go_enter Try.func13, Try.ntmps13
  go_wp2_with fail
  refine (HQ.out _).mono ?_
  rintro e w1 ⟨rfl, hb⟩
  have hB : Below w.heap.size w w1 := Below.trans ((Below.refl _ _).alloc (Nat.le_refl _) _) (hb.mono (by simp))
  clear hb HQ
  go_wp2
  go_ret
  exact ⟨rfl, hB⟩
end Go.Proofs.Ytfdofajknnocfaa
