/- AngleHolds walked, over what its calls answer; its truth. -/
import Derived.Test.YtfdofajknnocfaaNO
namespace Go.Proofs.Ytfdofajknnocfaa
open Go.RowKit Go.Sort

theorem errI_false : errI false = 2 := rfl
/-- Where one of the three may not be. -/
theorem err_cases (za zb zc : Bool) (h : (za && zb && zc) = false) : ∃ a b c : Int, errI (za && zb) = a ∧ errI (zb && zc) = b ∧ errI (za && zc) = c ∧ (a = 0 ∨ a = 2) ∧ (b = 0 ∨ b = 2) ∧ (c = 0 ∨ c = 2) ∧ 0 < a + b + c := by
  cases za <;> cases zb <;> cases zc <;> first | (simp at h; done) | exact ⟨_, _, _, rfl, rfl, rfl, by decide, by decide, by decide, by decide⟩
set_option maxHeartbeats 6400000 in
set_option maxRecDepth 100000 in
theorem holds_no (x y u v s t : Int) (w : World) (p1 p2 p3 m1 m2 m3 : Int) (h1 : m1 = 0 ∨ m1 = 2) (h2 : m2 = 0 ∨ m2 = 2) (h3 : m3 = 0 ∨ m3 = 2) (hs : 0 < m1 + m2 + m3)
    (H1 : Hid (∀ W, Calls Try.prog 8 #[wayV x y, wayV u v] W fun e w' => e = .returned (.tuple #[.int .i64 p1, .int .i64 m1]) ∧ Below W.heap.size W w')) (H2 : Hid (∀ W, Calls Try.prog 8 #[wayV u v, wayV s t] W fun e w' => e = .returned (.tuple #[.int .i64 p2, .int .i64 m2]) ∧ Below W.heap.size W w')) (H3 : Hid (∀ W, Calls Try.prog 8 #[wayV x y, wayV s t] W fun e w' => e = .returned (.tuple #[.int .i64 p3, .int .i64 m3]) ∧ Below W.heap.size W w')) :
    Calls Try.prog 6 #[wayV x y, wayV u v, wayV s t] w fun e w' => e = .returned (.bool true) ∧ Below w.heap.size w w' := by
  have hg : wrap64 (wrap64 (m1 + m2) + m3) = m1 + m2 + m3 := by unfold wrap64; omega
  have hw : (wrap64 (wrap64 (m1 + m2) + m3) != 0) = true := by rw [hg]; simp; omega
  have hw2 : (m1 + m2 + m3 != 0) = true := by simp; omega
  clear hg
  go_enter Try.func6, Try.ntmps6
  go_wp2_with fail
  have hS : RS w [(w.heap.size, wayL x y), (w.heap.size + 1, wayL u v), (w.heap.size + 1 + 1, wayL s t)] _ :=
    ((((RS.nil w).new (B := w.heap.size) rfl (wayL x y) 23).new (B := w.heap.size + 1) (by simp) (wayL u v) 23).new (B := w.heap.size + 1 + 1) (by simp) (wayL s t) 23)
  generalize World.alloc _ _ = W0 at hS ⊢
  have g00 := hS.c 0 rfl 0 rfl
  have g01 := hS.c 0 rfl 1 rfl
  have g10 := hS.c 1 rfl 0 rfl
  have g11 := hS.c 1 rfl 1 rfl
  have g20 := hS.c 2 rfl 0 rfl
  have g21 := hS.c 2 rfl 1 rfl
  go_wp2_with (go_at_call 12; refine (num_any _ _).mono ?_; rintro e w' ⟨rfl, rfl⟩)
  refine (H1.out _).mono ?_
  rintro e w1 ⟨rfl, hb⟩
  clear g00 g01 g10 g11 g20 g21
  replace hS := hS.after hb
  clear hb
  have g00 := hS.c 0 rfl 0 rfl
  have g01 := hS.c 0 rfl 1 rfl
  have g10 := hS.c 1 rfl 0 rfl
  have g11 := hS.c 1 rfl 1 rfl
  have g20 := hS.c 2 rfl 0 rfl
  have g21 := hS.c 2 rfl 1 rfl
  go_wp2_with (go_at_call 12; refine (num_any _ _).mono ?_; rintro e w' ⟨rfl, rfl⟩)
  refine (H2.out _).mono ?_
  rintro e w2 ⟨rfl, hb⟩
  clear g00 g01 g10 g11 g20 g21
  replace hS := hS.after hb
  clear hb
  have g00 := hS.c 0 rfl 0 rfl
  have g01 := hS.c 0 rfl 1 rfl
  have g10 := hS.c 1 rfl 0 rfl
  have g11 := hS.c 1 rfl 1 rfl
  have g20 := hS.c 2 rfl 0 rfl
  have g21 := hS.c 2 rfl 1 rfl
  go_wp2_with (go_at_call 12; refine (num_any _ _).mono ?_; rintro e w' ⟨rfl, rfl⟩)
  refine (H3.out _).mono ?_
  rintro e w3 ⟨rfl, hb⟩
  clear g00 g01 g10 g11 g20 g21
  replace hS := hS.after hb
  clear hb
  have g00 := hS.c 0 rfl 0 rfl
  have g01 := hS.c 0 rfl 1 rfl
  have g10 := hS.c 1 rfl 0 rfl
  have g11 := hS.c 1 rfl 1 rfl
  have g20 := hS.c 2 rfl 0 rfl
  have g21 := hS.c 2 rfl 1 rfl
  go_wp2_with (go_at_call 12; refine (num_any _ _).mono ?_; rintro e w' ⟨rfl, rfl⟩)
  refine (works_true _).mono ?_
  rintro e w9 ⟨rfl, hb⟩
  have hB := hS.2.trans (hb.mono hS.2.size)
  clear g00 g01 g10 g11 g20 g21
  clear hb hS
  go_wp2
  go_ret
  exact ⟨rfl, hB⟩
/-- What the orders of three ways are like. -/
def OrdOk (a b c : Int) : Prop := (a ≤ 0 → b ≤ 0 → c = min a b) ∧ (0 ≤ a → 0 ≤ b → c = max a b)
set_option maxHeartbeats 6400000 in
set_option maxRecDepth 100000 in
theorem holds_core (x y u v s t : Int) (w : World) (a b c k m : Int) (p q : Bool) (ra : a = -1 ∨ a = 0 ∨ a = 1) (rb : b = -1 ∨ b = 0 ∨ b = 1) (rc : c = -1 ∨ c = 0 ∨ c = 1) (ho : OrdOk a b c)
    (hpq : a ≠ 0 → b ≠ 0 → c ≠ 0 → p ≠ q) (hk0 : 0 ≤ k) (hk3 : k ≤ 3) (hm : m = (k + 1) % 4) (hy : -134217728 ≤ y ∧ y ≤ 134217728)
    (H1 : Hid (∀ W, Calls Try.prog 8 #[wayV x y, wayV u v] W fun e w' => e = .returned (.tuple #[.int .i64 a, .int .i64 0]) ∧ Below W.heap.size W w')) (H2 : Hid (∀ W, Calls Try.prog 8 #[wayV u v, wayV s t] W fun e w' => e = .returned (.tuple #[.int .i64 b, .int .i64 0]) ∧ Below W.heap.size W w')) (H3 : Hid (∀ W, Calls Try.prog 8 #[wayV x y, wayV s t] W fun e w' => e = .returned (.tuple #[.int .i64 c, .int .i64 0]) ∧ Below W.heap.size W w'))
    (H4 : Hid (∀ W, Calls Try.prog 18 #[wayV x y, wayV u v, wayV s t] W fun e w' => e = .returned (.tuple #[.bool p, .int .i64 0]) ∧ Below W.heap.size W w')) (H5 : Hid (∀ W, Calls Try.prog 18 #[wayV u v, wayV x y, wayV s t] W fun e w' => e = .returned (.tuple #[.bool q, .int .i64 0]) ∧ Below W.heap.size W w')) (H6 : Hid (∀ W, Calls Try.prog 10 #[wayV x y] W fun e w' => e = .returned (.tuple #[.int .i64 k, .int .i64 0]) ∧ Below W.heap.size W w')) (H7 : Hid (∀ W, Calls Try.prog 10 #[wayV (-y) x] W fun e w' => e = .returned (.tuple #[.int .i64 m, .int .i64 0]) ∧ Below W.heap.size W w')) :
    Calls Try.prog 6 #[wayV x y, wayV u v, wayV s t] w fun e w' => e = .returned (.bool true) ∧ Below w.heap.size w w' := by
  obtain ⟨hy1, hy2⟩ := hy
  have er : (m == (k + 1) % 4) = true := by rw [hm]; simp
  have em : ∀ d, (a ≠ 0 ∧ b ≠ 0 ∧ c ≠ 0 → d = (p == q)) → (a ≠ 0 ∧ b ≠ 0 ∧ c ≠ 0 → d = false) := fun d h h' => by
    rw [h h']; have := hpq h'.1 h'.2.1 h'.2.2; simpa using this
  have HP := Lib.hid hpq
  have HM := Lib.hid ho
  clear hpq ho hm em
  obtain rfl | rfl | rfl := ra <;> obtain rfl | rfl | rfl := rb <;> obtain rfl | rfl | rfl := rc
  all_goals first | (exfalso; have h := HM.out; unfold OrdOk at h; omega) | clear HM
  all_goals
    have hpq := HP.out
    clear HP
    first
      | (have epq : (p == q) = false := by simpa using hpq (by decide) (by decide) (by decide)
         clear hpq)
      | clear hpq
    go_enter Try.func6, Try.ntmps6
    go_wp2_with fail
    have hS : RS w [(w.heap.size, wayL x y), (w.heap.size + 1, wayL u v), (w.heap.size + 1 + 1, wayL s t)] _ :=
      ((((RS.nil w).new (B := w.heap.size) rfl (wayL x y) 23).new (B := w.heap.size + 1) (by simp) (wayL u v) 23).new (B := w.heap.size + 1 + 1) (by simp) (wayL s t) 23)
    generalize World.alloc _ _ = W0 at hS ⊢
    have g00 := hS.c 0 rfl 0 rfl
    have g01 := hS.c 0 rfl 1 rfl
    have g10 := hS.c 1 rfl 0 rfl
    have g11 := hS.c 1 rfl 1 rfl
    have g20 := hS.c 2 rfl 0 rfl
    have g21 := hS.c 2 rfl 1 rfl
    go_wp2_with (go_at_call 12; refine (num_any _ _).mono ?_; rintro e w' ⟨rfl, rfl⟩)
    refine (H1.out _).mono ?_
    rintro e w1 ⟨rfl, hb⟩
    clear g00 g01 g10 g11 g20 g21
    replace hS := hS.after hb
    clear hb
    have g00 := hS.c 0 rfl 0 rfl
    have g01 := hS.c 0 rfl 1 rfl
    have g10 := hS.c 1 rfl 0 rfl
    have g11 := hS.c 1 rfl 1 rfl
    have g20 := hS.c 2 rfl 0 rfl
    have g21 := hS.c 2 rfl 1 rfl
    go_wp2_with (go_at_call 12; refine (num_any _ _).mono ?_; rintro e w' ⟨rfl, rfl⟩)
    refine (H2.out _).mono ?_
    rintro e w2 ⟨rfl, hb⟩
    clear g00 g01 g10 g11 g20 g21
    replace hS := hS.after hb
    clear hb
    have g00 := hS.c 0 rfl 0 rfl
    have g01 := hS.c 0 rfl 1 rfl
    have g10 := hS.c 1 rfl 0 rfl
    have g11 := hS.c 1 rfl 1 rfl
    have g20 := hS.c 2 rfl 0 rfl
    have g21 := hS.c 2 rfl 1 rfl
    go_wp2_with (go_at_call 12; refine (num_any _ _).mono ?_; rintro e w' ⟨rfl, rfl⟩)
    refine (H3.out _).mono ?_
    rintro e w3 ⟨rfl, hb⟩
    clear g00 g01 g10 g11 g20 g21
    replace hS := hS.after hb
    clear hb
    have g00 := hS.c 0 rfl 0 rfl
    have g01 := hS.c 0 rfl 1 rfl
    have g10 := hS.c 1 rfl 0 rfl
    have g11 := hS.c 1 rfl 1 rfl
    have g20 := hS.c 2 rfl 0 rfl
    have g21 := hS.c 2 rfl 1 rfl
    go_wp2_with (go_at_call 12; refine (num_any _ _).mono ?_; rintro e w' ⟨rfl, rfl⟩)
    refine (H4.out _).mono ?_
    rintro e w4 ⟨rfl, hb⟩
    clear g00 g01 g10 g11 g20 g21
    replace hS := hS.after hb
    clear hb
    have g00 := hS.c 0 rfl 0 rfl
    have g01 := hS.c 0 rfl 1 rfl
    have g10 := hS.c 1 rfl 0 rfl
    have g11 := hS.c 1 rfl 1 rfl
    have g20 := hS.c 2 rfl 0 rfl
    have g21 := hS.c 2 rfl 1 rfl
    go_wp2_with (go_at_call 12; refine (num_any _ _).mono ?_; rintro e w' ⟨rfl, rfl⟩)
    refine (H5.out _).mono ?_
    rintro e w5 ⟨rfl, hb⟩
    clear g00 g01 g10 g11 g20 g21
    replace hS := hS.after hb
    clear hb
    have g00 := hS.c 0 rfl 0 rfl
    have g01 := hS.c 0 rfl 1 rfl
    have g10 := hS.c 1 rfl 0 rfl
    have g11 := hS.c 1 rfl 1 rfl
    have g20 := hS.c 2 rfl 0 rfl
    have g21 := hS.c 2 rfl 1 rfl
    go_wp2_with (go_at_call 12; refine (num_any _ _).mono ?_; rintro e w' ⟨rfl, rfl⟩)
    refine (H6.out _).mono ?_
    rintro e w6 ⟨rfl, hb⟩
    clear g00 g01 g10 g11 g20 g21
    replace hS := hS.after hb
    clear hb
    have g00 := hS.c 0 rfl 0 rfl
    have g01 := hS.c 0 rfl 1 rfl
    have g10 := hS.c 1 rfl 0 rfl
    have g11 := hS.c 1 rfl 1 rfl
    have g20 := hS.c 2 rfl 0 rfl
    have g21 := hS.c 2 rfl 1 rfl
    go_wp2_with (go_at_call 12; refine (num_any _ _).mono ?_; rintro e w' ⟨rfl, rfl⟩)
    refine (H7.out _).mono ?_
    rintro e w7 ⟨rfl, hb⟩
    clear g00 g01 g10 g11 g20 g21
    replace hS := hS.after hb
    clear hb
    have g00 := hS.c 0 rfl 0 rfl
    have g01 := hS.c 0 rfl 1 rfl
    have g10 := hS.c 1 rfl 0 rfl
    have g11 := hS.c 1 rfl 1 rfl
    have g20 := hS.c 2 rfl 0 rfl
    have g21 := hS.c 2 rfl 1 rfl
    go_wp2_with (go_at_call 12; refine (num_any _ _).mono ?_; rintro e w' ⟨rfl, rfl⟩)
    refine (works_true _).mono ?_
    rintro e w9 ⟨rfl, hb⟩
    have hB := hS.2.trans (hb.mono hS.2.size)
    clear g00 g01 g10 g11 g20 g21
    clear hb hS
    go_wp2
    go_ret
    exact ⟨rfl, hB⟩
theorem holds_true (x y u v s t : Int) (w : World) :
    Calls Try.prog 6 #[wayV x y, wayV u v, wayV s t] w fun e w' => e = .returned (.bool true) ∧ Below w.heap.size w w' := by
  have H1 := fun W => cmp_any x y u v W
  have H2 := fun W => cmp_any u v s t W
  have H3 := fun W => cmp_any x y s t W
  cases hz : (mayB x y && mayB u v && mayB s t)
  · obtain ⟨a, b, c, e1, e2, e3, h1, h2, h3, hs⟩ := err_cases _ _ _ hz
    rw [e1] at H1
    rw [e2] at H2
    rw [e3] at H3
    exact holds_no x y u v s t w _ _ _ a b c h1 h2 h3 hs (Lib.hid H1) (Lib.hid H2) (Lib.hid H3)
  · have hz' := hz
    simp only [Bool.and_eq_true] at hz
    obtain ⟨⟨za, zb⟩, zc⟩ := hz
    have oa := Rnd.may_ok.1 za
    have ob := Rnd.may_ok.1 zb
    have oc := Rnd.may_ok.1 zc
    have zd : mayB (-y) x = true := Rnd.may_ok.2 (by
      obtain ⟨h1, h2, h3⟩ := oa
      unfold Rnd.Nz at h1
      unfold Rnd.Bd at h2 h3
      exact ⟨by unfold Rnd.Nz; omega, by unfold Rnd.Bd; omega, by unfold Rnd.Bd; omega⟩)
    have H4 := fun W => bet_any x y u v s t W
    have H5 := fun W => bet_any u v x y s t W
    have H6 := fun W => quart_any x y W
    have H7 := fun W => quart_any (-y) x W
    rw [za, zb] at H1
    rw [zb, zc] at H2
    rw [za, zc] at H3
    rw [za, zb, zc] at H4 H5
    rw [za] at H6
    rw [zd] at H7
    have qb := Rnd.quart_bd oa.1
    refine holds_core x y u v s t w (ordA x y u v) (ordA u v s t) (ordA x y s t) (quart x y) (quart (-y) x) (betA x y u v s t) (betA u v x y s t) (Rnd.ord_range oa ob) (Rnd.ord_range ob oc) (Rnd.ord_range oa oc) ?_ (fun h1 h2 h3 => Rnd.bet_one oa ob oc h1 h2 h3) qb.1 qb.2 (Rnd.quart_turn oa.1) oa.2.2
      (Lib.hid H1) (Lib.hid H2) (Lib.hid H3) (Lib.hid H4) (Lib.hid H5) (Lib.hid H6) (Lib.hid H7)
    have ht := Rnd.ord_trans oa ob oc
    have r1 := Rnd.ord_range oa ob
    have r2 := Rnd.ord_range ob oc
    unfold OrdOk
    omega
end Go.Proofs.Ytfdofajknnocfaa
