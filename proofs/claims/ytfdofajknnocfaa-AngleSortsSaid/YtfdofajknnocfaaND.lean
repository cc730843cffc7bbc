/- Package angle's next: the place of the first one of arms that lie in memory; no condition. -/
import Derived.Test.YtfdofajknnocfaaNC
namespace Go.Proofs.Ytfdofajknnocfaa
open Go.RowKit Go.Sort

/-- Is the second one ahead of the third, as they come behind the first? p: order of b and a, q: of c and a, r: of b and c. -/
def aheadI (p q r : Int) : Bool := if decide (p ≤ 0) = decide (q ≤ 0) then decide (r < 0) else decide (q ≤ 0)

theorem leB (p : Int) : decide (p ≤ 0) = if p ≤ 0 then true else false := by by_cases h : p ≤ 0 <;> simp [h]

set_option maxHeartbeats 3200000 in
set_option maxRecDepth 100000 in
theorem ahead_any (ax ay aq bx bY bq cx cy cq : Int) (A : Nat) (w : World) (hr : Row w A (armL ax ay aq)) :
    Calls Try.prog 49 #[armV bx bY bq, armV cx cy cq, .pointer (some ⟨A, 0, none⟩)] w fun e w' => e = .returned (.bool (aheadI (ordW bx bY bq ax ay aq) (ordW cx cy cq ax ay aq) (ordW bx bY bq cx cy cq))) ∧ Below w.heap.size w w' := by
  have HA : Hid (∀ W, Calls Try.prog 27 #[armV bx bY bq, armV ax ay aq] W fun e w' => e = .returned (.int .i64 (ordW bx bY bq ax ay aq)) ∧ Below W.heap.size W w') := Lib.hid (fun W => order_any bx bY bq ax ay aq W)
  have HC : Hid (∀ W, Calls Try.prog 27 #[armV cx cy cq, armV ax ay aq] W fun e w' => e = .returned (.int .i64 (ordW cx cy cq ax ay aq)) ∧ Below W.heap.size W w') := Lib.hid (fun W => order_any cx cy cq ax ay aq W)
  have HD : Hid (∀ W, Calls Try.prog 27 #[armV bx bY bq, armV cx cy cq] W fun e w' => e = .returned (.int .i64 (ordW bx bY bq cx cy cq)) ∧ Below W.heap.size W w') := Lib.hid (fun W => order_any bx bY bq cx cy cq W)
  generalize ordW bx bY bq ax ay aq = p at HA ⊢
  generalize ordW cx cy cq ax ay aq = q at HC ⊢
  generalize ordW bx bY bq cx cy cq = r at HD ⊢
  have hA := hr.lt
  have Hr := Lib.hid hr
  clear hr
  by_cases hp : p ≤ 0 <;> by_cases hq : q ≤ 0
  all_goals
    obtain ⟨z, hz⟩ : ∃ z, aheadI p q r = z := ⟨_, rfl⟩
    have HV := Lib.hid hz
    simp only [aheadI, hp, hq, decide_true, decide_false, if_true, if_false, Bool.true_eq_false, Bool.false_eq_true] at hz
    have HZ := Lib.hid hz
    clear hz
    have e1 := leB p
    have e2 := leB q
    first | rw [if_pos (by omega)] at e1 | rw [if_neg (by omega)] at e1
    first | rw [if_pos (by omega)] at e2 | rw [if_neg (by omega)] at e2
    go_enter Try.func49, Try.ntmps49
    go_wp2_with fail
    have hS : RS w [(A, armL ax ay aq), (w.heap.size, armL bx bY bq), (w.heap.size + 1, armL cx cy cq)] _ :=
      (RS.new (RS.new (L := [(A, armL ax ay aq)]) (W := w) ⟨fun p hp => by obtain rfl := List.mem_singleton.1 hp; exact Hr.out, Below.refl _ _⟩ (B := w.heap.size) rfl (armL bx bY bq) 50) (B := w.heap.size + 1) (by simp) (armL cx cy cq) 50)
    generalize World.alloc _ _ = W0 at hS ⊢
    have d0 := cell_regrown (hS.c 0 rfl 0 rfl)
    have d1 := cell_regrown (hS.c 0 rfl 1 rfl)
    have d2 := cell_regrown (hS.c 0 rfl 2 rfl)
    have g0 := cell_regrown (hS.c 1 rfl 0 rfl)
    have g1 := cell_regrown (hS.c 1 rfl 1 rfl)
    have g2 := cell_regrown (hS.c 1 rfl 2 rfl)
    have i0 := cell_regrown (hS.c 2 rfl 0 rfl)
    have i1 := cell_regrown (hS.c 2 rfl 1 rfl)
    have i2 := cell_regrown (hS.c 2 rfl 2 rfl)
    have C1 := Lib.hid (fun d os => Calls.regrown_of (HA.out (grow (redrawn W0 d) os)))
    have C2 := Lib.hid (fun d os => Calls.regrown_of (HC.out (grow (redrawn W0 d) os)))
    refine wp_region_quiet_below (by kernel_rfl) (by kernel_rfl) ?_
    repeat (first | go_big_quiet_step ((first | with_reducible exact C1.out _ _ | with_reducible exact C2.out _ _)) | quiet_step ((first | with_reducible exact C1.out _ _ | with_reducible exact C2.out _ _)))
    refine wpQuiet_nil ?_
    intro _ hw'
    obtain ⟨⟨dq, osq⟩, hw''⟩ := hw'
    subst hw''
    have hB := hS.2.trans ((below_regrown W0 dq osq).mono hS.2.size)
    have g0 := g0 dq osq
    have g1 := g1 dq osq
    have g2 := g2 dq osq
    have i0 := i0 dq osq
    have i1 := i1 dq osq
    have i2 := i2 dq osq
    generalize grow (redrawn W0 dq) osq = W1 at g0 g1 g2 i0 i1 i2 hB ⊢
    clear C1 C2 HA HC hS
    first
      | (go_wp2
         go_ret
         exact ⟨by rw [HV.out, ← HZ.out]; rfl, hB⟩)
      | (go_wp2_with fail
         refine (HD.out _).mono ?_
         rintro e w3 ⟨rfl, hb⟩
         have hB := hB.trans (hb.mono hB.size)
         clear hb
         go_wp2
         go_ret
         exact ⟨by rw [HV.out, ← HZ.out]; rfl, hB⟩)

/-- n arms lie in memory from there on. -/
def ArmsAt (w : World) (b o n : Nat) (X Y Q : Nat → Int) : Prop :=
  b < w.heap.size ∧ ∀ i, i < n → w.cell? ⟨b, o + i * 3, none⟩ = some (.int .i64 (X i)) ∧ w.cell? ⟨b, o + i * 3 + 1, none⟩ = some (.int .i64 (Y i)) ∧ w.cell? ⟨b, o + i * 3 + 2, none⟩ = some (.int .i64 (Q i))
theorem ArmsAt.below {w w1 : World} {b o n : Nat} {X Y Q : Nat → Int} (h : ArmsAt w b o n X Y Q) (hb : Below w.heap.size w w1) : ArmsAt w1 b o n X Y Q := by
  refine ⟨Nat.lt_of_lt_of_le h.1 hb.size, fun i hi => ?_⟩
  have hc := (bcell hb).1
  rw [hc b _ h.1, hc b _ h.1, hc b _ h.1]
  exact h.2 i hi
/-- The place of the first one: that which none is ahead of. -/
def firstI (ah : Nat → Nat → Bool) : Nat → Nat
  | 0 => 0
  | k + 1 => if ah k (firstI ah k) then k else firstI ah k
theorem firstI_lt (ah : Nat → Nat → Bool) : ∀ k, 0 < k → firstI ah k < k
  | 0, h => absurd h (by omega)
  | 1, _ => by unfold firstI; split <;> simp [firstI]
  | k + 2, _ => by
    have := firstI_lt ah (k + 1) (by omega)
    rw [firstI]
    split <;> omega

set_option maxHeartbeats 3200000 in
set_option maxRecDepth 100000 in
theorem first_any (ah : Nat → Nat → Bool) (X Y Q : Nat → Int) (A b o n c : Nat) (w : World) (hn : n ≤ 1000000000000000000) (hx : ArmsAt w b o n X Y Q)
    (hf : ∀ W, Below w.heap.size w W → ∀ i j, Calls Try.prog 49 #[armV (X i) (Y i) (Q i), armV (X j) (Y j) (Q j), .pointer (some ⟨A, 0, none⟩)] W fun e w' => e = .returned (.bool (ah i j)) ∧ Below W.heap.size W w') :
    Calls Try.prog 48 #[.slice (some ⟨b, o, none⟩) n c, .func (.func 49) #[] #[.pointer (some ⟨A, 0, none⟩)]] w fun e w' => e = .returned (.int .i64 (firstI ah n)) ∧ Below w.heap.size w w' := by
  have Hx := Lib.hid hx; clear hx
  have Hf := Lib.hid hf; clear hf
  go_enter Try.func48, Try.ntmps48
  go_wp2
  go_loopw [5, 10] (fun a i wr => ∃ k m : Nat, k ≤ n ∧ m ≤ k ∧ (0 < k → m < n) ∧ i = .int .i64 k ∧ a = .int .i64 m ∧ Hid (firstI ah k = m) ∧ Below w.heap.size w wr) (fun _ i _ => n - (intOf i).toNat)
  case atStart => exact ⟨0, 0, Nat.zero_le _, Nat.le_refl _, fun h => absurd h (by omega), rfl, rfl, Lib.hid rfl, Below.refl _ _⟩
  case round =>
    obtain ⟨k, m, hk, hmk, hm, rfl, rfl, HF, hB⟩ := hrel
    have Hm := Lib.hid hm; clear hm
    by_cases hkn : k < n
    · have hmn : m < n := by
        by_cases h : 0 < k
        · exact Hm.out h
        · omega
      obtain ⟨c0, c1, c2⟩ := (Hx.out.below hB).2 k hkn
      have hk1 : (k : Int) < n := by omega
      have hm1 : (m : Int) < n := by omega
      have ha := Lib.hid ((Hx.out.below hB).below ((Below.refl _ _).alloc (Nat.le_refl _) (.cells #[.int .i64 (X k), .int .i64 (Y k), .int .i64 (Q k)] 50)))
      go_wp2_with fail
      have hR := Row.at (w := wr) rfl (armL (X k) (Y k) (Q k)) 50
      have hB1 := hB.alloc hB.size (.cells #[.int .i64 (X k), .int .i64 (Y k), .int .i64 (Q k)] 50)
      clear c0 c1 c2 hB
      generalize World.alloc _ _ = W0 at hR hB1 ha ⊢
      have d0 := cell_regrown (hR.c 0 rfl)
      have d1 := cell_regrown (hR.c 1 rfl)
      have d2 := cell_regrown (hR.c 2 rfl)
      have g0 := cell_regrown (ha.out.2 m hmn).1
      have g1 := cell_regrown (ha.out.2 m hmn).2.1
      have g2 := cell_regrown (ha.out.2 m hmn).2.2
      have C1 := Lib.hid (fun d os => Calls.regrown_of (Hf.out (grow (redrawn W0 d) os) (hB1.trans ((below_regrown W0 d os).mono hB1.size)) k m))
      have HB1 := Lib.hid hB1
      clear hR hB1 ha
      obtain ⟨z, hz⟩ : ∃ z, ah k m = z := ⟨_, rfl⟩
      rw [hz] at C1
      have HZ := Lib.hid hz
      clear hz
      refine wp_region_quiet_below (by kernel_rfl) (by kernel_rfl) ?_
      repeat (first | go_big_quiet_step (with_reducible exact C1.out _ _) | quiet_step (with_reducible exact C1.out _ _))
      refine wpQuiet_nil ?_
      intro _ hw'
      obtain ⟨⟨dq, osq⟩, hw''⟩ := hw'
      subst hw''
      have hB := HB1.out.trans ((below_regrown W0 dq osq).mono HB1.out.size)
      clear d0 d1 d2 g0 g1 g2 C1 HB1
      generalize grow (redrawn W0 dq) osq = W1 at hB ⊢
      cases z
      · have HF' : Hid (firstI ah (k + 1) = m) := Lib.hid (by rw [firstI, HF.out, HZ.out]; rfl)
        clear HF HZ
        go_wp2
        go_roundw
        case rel => exact ⟨k + 1, m, by omega, by omega, fun _ => hmn, by go_num, rfl, HF', hB⟩
        case measure => simp [intOf]; omega
      · have HF' : Hid (firstI ah (k + 1) = k) := Lib.hid (by rw [firstI, HF.out, HZ.out]; rfl)
        clear HF HZ
        go_wp2
        go_roundw
        case rel => exact ⟨k + 1, k, by omega, by omega, fun _ => hkn, by go_num, rfl, HF', hB⟩
        case measure => simp [intOf]; omega
    · obtain rfl : k = n := by omega
      go_wp2
      go_ret
      exact ⟨by rw [HF.out]; rfl, hB⟩

set_option maxHeartbeats 3200000 in
set_option maxRecDepth 100000 in
theorem next_any (X Y Q : Nat → Int) (ax ay aq : Int) (b o n c : Nat) (w : World) (hn : n ≤ 1000000000000000000) (hx : ArmsAt w b o n X Y Q) :
    Calls Try.prog 35 #[armV ax ay aq, .slice (some ⟨b, o, none⟩) n c] w fun e w' => e = .returned (.int .i64 (firstI (fun i j => aheadI (ordW (X i) (Y i) (Q i) ax ay aq) (ordW (X j) (Y j) (Q j) ax ay aq) (ordW (X i) (Y i) (Q i) (X j) (Y j) (Q j))) n)) ∧ Below w.heap.size w w' := by
  have HX := Lib.hid hx
  clear hx
  have HN := Lib.hid hn
  have hmf : ∀ (fn : Fn) (first cap : Array Value) (w : World), (Instr.makeFunc fn first cap).run Try.prog w = .ok (.func fn first cap) w := fun _ _ _ _ => rfl
  go_enter Try.func35, Try.ntmps35
  go_wp2_with fail
  have hR := Row.at (w := w) rfl (armL ax ay aq) 50
  have hB := (Below.refl w.heap.size w).alloc (Nat.le_refl _) (.cells #[.int .i64 ax, .int .i64 ay, .int .i64 aq] 50)
  have ha := HX.out.below hB
  generalize World.alloc _ _ = W0 at hR hB ha ⊢
  refine (first_any _ X Y Q w.heap.size b o n c W0 HN.out ha (fun W hb i j => ahead_any _ _ _ _ _ _ _ _ _ _ _ (hR.after hb))).mono ?_
  rintro e w1 ⟨rfl, hb⟩
  have hB := hB.trans (hb.mono hB.size)
  clear hb hR ha
  go_wp2
  go_ret
  exact ⟨rfl, hB⟩
end Go.Proofs.Ytfdofajknnocfaa
