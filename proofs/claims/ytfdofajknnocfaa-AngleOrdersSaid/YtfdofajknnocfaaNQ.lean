/- AngleOrders walked, over what its calls answer; its truth. -/
import Derived.Test.YtfdofajknnocfaaNO
namespace Go.Proofs.Ytfdofajknnocfaa
open Go.RowKit Go.Sort

set_option maxHeartbeats 6400000 in
set_option maxRecDepth 100000 in
theorem orders_true (x y u v : Int) (w : World) :
    Calls Try.prog 3 #[wayV x y, wayV u v] w fun e w' => e = .returned (.bool true) ∧ Below w.heap.size w w' := by
  have HC := Lib.hid (fun W => cmp_any x y u v W)
  have HO := Lib.hid (fun W => opp_any x y u v W)
  have HQ := Lib.hid (fun W => quart_any x y W)
  have HK := Lib.hid (fun W => check_any x y W)
  have Ha := Lib.hid (fun W => right_may x y W)
  have Hb := Lib.hid (fun W => right_may u v W)
  have RQ : Hid (mayB x y = true → ∀ W, Calls Try.prog 14 #[wayV x y] W fun e w' => e = .returned (.int .i64 (quart x y)) ∧ Below W.heap.size W w') := Lib.hid (fun h W => by
    rw [← Rnd.refq_quart (Rnd.may_ok.1 h).1]; exact refq_any x y W)
  have RC : Hid ((mayB x y && mayB u v) = true → ∀ W, Calls Try.prog 16 #[wayV x y, wayV u v] W fun e w' => e = .returned (.int .i64 (ordA x y u v)) ∧ Below W.heap.size W w') := Lib.hid (fun h W => by
    simp only [Bool.and_eq_true] at h
    rw [Rnd.ord_ref (Rnd.may_ok.1 h.1) (Rnd.may_ok.1 h.2)]; exact refcmp_any x y u v W)
  have RO : Hid ((mayB x y && mayB u v) = true → ∀ W, Calls Try.prog 17 #[wayV x y, wayV u v] W fun e w' => e = .returned (.bool (oppA x y u v)) ∧ Below W.heap.size W w') := Lib.hid (fun h W => by
    simp only [Bool.and_eq_true] at h
    rw [Rnd.opp_ref (Rnd.may_ok.1 h.1) (Rnd.may_ok.1 h.2)]; exact refopp_any x y u v W)
  generalize ordA x y u v = o at HC RC
  generalize oppA x y u v = p at HO RO
  generalize quart x y = q at HQ RQ
  generalize mayB x y = za at HC HO HQ HK Ha RQ RC RO
  generalize mayB u v = zb at HC HO Hb RC RO
  have e1 : (o == o) = true := by simp
  have e2 : (p == p) = true := by simp
  have e3 : (q != q) = false := by simp
  cases za <;> cases zb
  · replace HC : Hid (∀ W, Calls Try.prog 8 #[wayV x y, wayV u v] W fun e w' => e = .returned (.tuple #[.int .i64 0, .int .i64 2]) ∧ Below W.heap.size W w') := HC
    replace HO : Hid (∀ W, Calls Try.prog 9 #[wayV x y, wayV u v] W fun e w' => e = .returned (.tuple #[.bool false, .int .i64 2]) ∧ Below W.heap.size W w') := HO
    replace HQ : Hid (∀ W, Calls Try.prog 10 #[wayV x y] W fun e w' => e = .returned (.tuple #[.int .i64 0, .int .i64 2]) ∧ Below W.heap.size W w') := HQ
    replace HK : Hid (∀ W, Calls Try.prog 13 #[wayV x y] W fun e w' => e = .returned (.int .i64 2) ∧ Below W.heap.size W w') := HK
    clear RQ
    clear RC RO
    go_enter Try.func3, Try.ntmps3
    go_wp2_with fail
    have hS : RS w [(w.heap.size, wayL x y), (w.heap.size + 1, wayL u v)] _ :=
      (((RS.nil w).new (B := w.heap.size) rfl (wayL x y) 23).new (B := w.heap.size + 1) (by simp) (wayL u v) 23)
    generalize World.alloc _ _ = W0 at hS ⊢
    have g00 := hS.c 0 rfl 0 rfl
    have g01 := hS.c 0 rfl 1 rfl
    have g10 := hS.c 1 rfl 0 rfl
    have g11 := hS.c 1 rfl 1 rfl
    go_wp2_with (go_at_call 12; refine (num_any _ _).mono ?_; rintro e w' ⟨rfl, rfl⟩)
    refine (HC.out _).mono ?_
    rintro e w1 ⟨rfl, hb⟩
    clear g00 g01 g10 g11
    replace hS := hS.after hb
    clear hb
    have g00 := hS.c 0 rfl 0 rfl
    have g01 := hS.c 0 rfl 1 rfl
    have g10 := hS.c 1 rfl 0 rfl
    have g11 := hS.c 1 rfl 1 rfl
    go_wp2_with (go_at_call 12; refine (num_any _ _).mono ?_; rintro e w' ⟨rfl, rfl⟩)
    refine (HO.out _).mono ?_
    rintro e w2 ⟨rfl, hb⟩
    clear g00 g01 g10 g11
    replace hS := hS.after hb
    clear hb
    have g00 := hS.c 0 rfl 0 rfl
    have g01 := hS.c 0 rfl 1 rfl
    have g10 := hS.c 1 rfl 0 rfl
    have g11 := hS.c 1 rfl 1 rfl
    go_wp2_with (go_at_call 12; refine (num_any _ _).mono ?_; rintro e w' ⟨rfl, rfl⟩)
    refine (HQ.out _).mono ?_
    rintro e w3 ⟨rfl, hb⟩
    clear g00 g01 g10 g11
    replace hS := hS.after hb
    clear hb
    have g00 := hS.c 0 rfl 0 rfl
    have g01 := hS.c 0 rfl 1 rfl
    have g10 := hS.c 1 rfl 0 rfl
    have g11 := hS.c 1 rfl 1 rfl
    go_wp2_with (go_at_call 12; refine (num_any _ _).mono ?_; rintro e w' ⟨rfl, rfl⟩)
    refine (Ha.out _).mono ?_
    rintro e w4 ⟨rfl, hb⟩
    clear g00 g01 g10 g11
    replace hS := hS.after hb
    clear hb
    have g00 := hS.c 0 rfl 0 rfl
    have g01 := hS.c 0 rfl 1 rfl
    have g10 := hS.c 1 rfl 0 rfl
    have g11 := hS.c 1 rfl 1 rfl
    go_wp2_with (go_at_call 12; refine (num_any _ _).mono ?_; rintro e w' ⟨rfl, rfl⟩)
    refine (HK.out _).mono ?_
    rintro e w5 ⟨rfl, hb⟩
    clear g00 g01 g10 g11
    replace hS := hS.after hb
    clear hb
    have g00 := hS.c 0 rfl 0 rfl
    have g01 := hS.c 0 rfl 1 rfl
    have g10 := hS.c 1 rfl 0 rfl
    have g11 := hS.c 1 rfl 1 rfl
    go_wp2_with (go_at_call 12; refine (num_any _ _).mono ?_; rintro e w' ⟨rfl, rfl⟩)
    refine (works_true _).mono ?_
    rintro e w9 ⟨rfl, hb⟩
    have hB := hS.2.trans (hb.mono hS.2.size)
    clear g00 g01 g10 g11
    clear hb hS
    go_wp2
    go_ret
    exact ⟨rfl, hB⟩
  · replace HC : Hid (∀ W, Calls Try.prog 8 #[wayV x y, wayV u v] W fun e w' => e = .returned (.tuple #[.int .i64 0, .int .i64 2]) ∧ Below W.heap.size W w') := HC
    replace HO : Hid (∀ W, Calls Try.prog 9 #[wayV x y, wayV u v] W fun e w' => e = .returned (.tuple #[.bool false, .int .i64 2]) ∧ Below W.heap.size W w') := HO
    replace HQ : Hid (∀ W, Calls Try.prog 10 #[wayV x y] W fun e w' => e = .returned (.tuple #[.int .i64 0, .int .i64 2]) ∧ Below W.heap.size W w') := HQ
    replace HK : Hid (∀ W, Calls Try.prog 13 #[wayV x y] W fun e w' => e = .returned (.int .i64 2) ∧ Below W.heap.size W w') := HK
    clear RQ
    clear RC RO
    go_enter Try.func3, Try.ntmps3
    go_wp2_with fail
    have hS : RS w [(w.heap.size, wayL x y), (w.heap.size + 1, wayL u v)] _ :=
      (((RS.nil w).new (B := w.heap.size) rfl (wayL x y) 23).new (B := w.heap.size + 1) (by simp) (wayL u v) 23)
    generalize World.alloc _ _ = W0 at hS ⊢
    have g00 := hS.c 0 rfl 0 rfl
    have g01 := hS.c 0 rfl 1 rfl
    have g10 := hS.c 1 rfl 0 rfl
    have g11 := hS.c 1 rfl 1 rfl
    go_wp2_with (go_at_call 12; refine (num_any _ _).mono ?_; rintro e w' ⟨rfl, rfl⟩)
    refine (HC.out _).mono ?_
    rintro e w1 ⟨rfl, hb⟩
    clear g00 g01 g10 g11
    replace hS := hS.after hb
    clear hb
    have g00 := hS.c 0 rfl 0 rfl
    have g01 := hS.c 0 rfl 1 rfl
    have g10 := hS.c 1 rfl 0 rfl
    have g11 := hS.c 1 rfl 1 rfl
    go_wp2_with (go_at_call 12; refine (num_any _ _).mono ?_; rintro e w' ⟨rfl, rfl⟩)
    refine (HO.out _).mono ?_
    rintro e w2 ⟨rfl, hb⟩
    clear g00 g01 g10 g11
    replace hS := hS.after hb
    clear hb
    have g00 := hS.c 0 rfl 0 rfl
    have g01 := hS.c 0 rfl 1 rfl
    have g10 := hS.c 1 rfl 0 rfl
    have g11 := hS.c 1 rfl 1 rfl
    go_wp2_with (go_at_call 12; refine (num_any _ _).mono ?_; rintro e w' ⟨rfl, rfl⟩)
    refine (HQ.out _).mono ?_
    rintro e w3 ⟨rfl, hb⟩
    clear g00 g01 g10 g11
    replace hS := hS.after hb
    clear hb
    have g00 := hS.c 0 rfl 0 rfl
    have g01 := hS.c 0 rfl 1 rfl
    have g10 := hS.c 1 rfl 0 rfl
    have g11 := hS.c 1 rfl 1 rfl
    go_wp2_with (go_at_call 12; refine (num_any _ _).mono ?_; rintro e w' ⟨rfl, rfl⟩)
    refine (Ha.out _).mono ?_
    rintro e w4 ⟨rfl, hb⟩
    clear g00 g01 g10 g11
    replace hS := hS.after hb
    clear hb
    have g00 := hS.c 0 rfl 0 rfl
    have g01 := hS.c 0 rfl 1 rfl
    have g10 := hS.c 1 rfl 0 rfl
    have g11 := hS.c 1 rfl 1 rfl
    go_wp2_with (go_at_call 12; refine (num_any _ _).mono ?_; rintro e w' ⟨rfl, rfl⟩)
    refine (HK.out _).mono ?_
    rintro e w5 ⟨rfl, hb⟩
    clear g00 g01 g10 g11
    replace hS := hS.after hb
    clear hb
    have g00 := hS.c 0 rfl 0 rfl
    have g01 := hS.c 0 rfl 1 rfl
    have g10 := hS.c 1 rfl 0 rfl
    have g11 := hS.c 1 rfl 1 rfl
    go_wp2_with (go_at_call 12; refine (num_any _ _).mono ?_; rintro e w' ⟨rfl, rfl⟩)
    refine (works_true _).mono ?_
    rintro e w9 ⟨rfl, hb⟩
    have hB := hS.2.trans (hb.mono hS.2.size)
    clear g00 g01 g10 g11
    clear hb hS
    go_wp2
    go_ret
    exact ⟨rfl, hB⟩
  · replace HC : Hid (∀ W, Calls Try.prog 8 #[wayV x y, wayV u v] W fun e w' => e = .returned (.tuple #[.int .i64 0, .int .i64 2]) ∧ Below W.heap.size W w') := HC
    replace HO : Hid (∀ W, Calls Try.prog 9 #[wayV x y, wayV u v] W fun e w' => e = .returned (.tuple #[.bool false, .int .i64 2]) ∧ Below W.heap.size W w') := HO
    replace HQ : Hid (∀ W, Calls Try.prog 10 #[wayV x y] W fun e w' => e = .returned (.tuple #[.int .i64 q, .int .i64 0]) ∧ Below W.heap.size W w') := HQ
    replace HK : Hid (∀ W, Calls Try.prog 13 #[wayV x y] W fun e w' => e = .returned (.int .i64 0) ∧ Below W.heap.size W w') := HK
    replace RQ := Lib.hid (RQ.out rfl)
    clear RC RO
    go_enter Try.func3, Try.ntmps3
    go_wp2_with fail
    have hS : RS w [(w.heap.size, wayL x y), (w.heap.size + 1, wayL u v)] _ :=
      (((RS.nil w).new (B := w.heap.size) rfl (wayL x y) 23).new (B := w.heap.size + 1) (by simp) (wayL u v) 23)
    generalize World.alloc _ _ = W0 at hS ⊢
    have g00 := hS.c 0 rfl 0 rfl
    have g01 := hS.c 0 rfl 1 rfl
    have g10 := hS.c 1 rfl 0 rfl
    have g11 := hS.c 1 rfl 1 rfl
    go_wp2_with (go_at_call 12; refine (num_any _ _).mono ?_; rintro e w' ⟨rfl, rfl⟩)
    refine (HC.out _).mono ?_
    rintro e w1 ⟨rfl, hb⟩
    clear g00 g01 g10 g11
    replace hS := hS.after hb
    clear hb
    have g00 := hS.c 0 rfl 0 rfl
    have g01 := hS.c 0 rfl 1 rfl
    have g10 := hS.c 1 rfl 0 rfl
    have g11 := hS.c 1 rfl 1 rfl
    go_wp2_with (go_at_call 12; refine (num_any _ _).mono ?_; rintro e w' ⟨rfl, rfl⟩)
    refine (HO.out _).mono ?_
    rintro e w2 ⟨rfl, hb⟩
    clear g00 g01 g10 g11
    replace hS := hS.after hb
    clear hb
    have g00 := hS.c 0 rfl 0 rfl
    have g01 := hS.c 0 rfl 1 rfl
    have g10 := hS.c 1 rfl 0 rfl
    have g11 := hS.c 1 rfl 1 rfl
    go_wp2_with (go_at_call 12; refine (num_any _ _).mono ?_; rintro e w' ⟨rfl, rfl⟩)
    refine (HQ.out _).mono ?_
    rintro e w3 ⟨rfl, hb⟩
    clear g00 g01 g10 g11
    replace hS := hS.after hb
    clear hb
    have g00 := hS.c 0 rfl 0 rfl
    have g01 := hS.c 0 rfl 1 rfl
    have g10 := hS.c 1 rfl 0 rfl
    have g11 := hS.c 1 rfl 1 rfl
    go_wp2_with (go_at_call 12; refine (num_any _ _).mono ?_; rintro e w' ⟨rfl, rfl⟩)
    refine (Ha.out _).mono ?_
    rintro e w4 ⟨rfl, hb⟩
    clear g00 g01 g10 g11
    replace hS := hS.after hb
    clear hb
    have g00 := hS.c 0 rfl 0 rfl
    have g01 := hS.c 0 rfl 1 rfl
    have g10 := hS.c 1 rfl 0 rfl
    have g11 := hS.c 1 rfl 1 rfl
    go_wp2_with (go_at_call 12; refine (num_any _ _).mono ?_; rintro e w' ⟨rfl, rfl⟩)
    refine (HK.out _).mono ?_
    rintro e w5 ⟨rfl, hb⟩
    clear g00 g01 g10 g11
    replace hS := hS.after hb
    clear hb
    have g00 := hS.c 0 rfl 0 rfl
    have g01 := hS.c 0 rfl 1 rfl
    have g10 := hS.c 1 rfl 0 rfl
    have g11 := hS.c 1 rfl 1 rfl
    go_wp2_with (go_at_call 12; refine (num_any _ _).mono ?_; rintro e w' ⟨rfl, rfl⟩)
    refine (RQ.out _).mono ?_
    rintro e w6 ⟨rfl, hb⟩
    clear g00 g01 g10 g11
    replace hS := hS.after hb
    clear hb
    have g00 := hS.c 0 rfl 0 rfl
    have g01 := hS.c 0 rfl 1 rfl
    have g10 := hS.c 1 rfl 0 rfl
    have g11 := hS.c 1 rfl 1 rfl
    go_wp2_with (go_at_call 12; refine (num_any _ _).mono ?_; rintro e w' ⟨rfl, rfl⟩)
    refine (Hb.out _).mono ?_
    rintro e w7 ⟨rfl, hb⟩
    clear g00 g01 g10 g11
    replace hS := hS.after hb
    clear hb
    have g00 := hS.c 0 rfl 0 rfl
    have g01 := hS.c 0 rfl 1 rfl
    have g10 := hS.c 1 rfl 0 rfl
    have g11 := hS.c 1 rfl 1 rfl
    go_wp2_with (go_at_call 12; refine (num_any _ _).mono ?_; rintro e w' ⟨rfl, rfl⟩)
    refine (works_true _).mono ?_
    rintro e w9 ⟨rfl, hb⟩
    have hB := hS.2.trans (hb.mono hS.2.size)
    clear g00 g01 g10 g11
    clear hb hS
    go_wp2
    go_ret
    exact ⟨rfl, hB⟩
  · replace HC : Hid (∀ W, Calls Try.prog 8 #[wayV x y, wayV u v] W fun e w' => e = .returned (.tuple #[.int .i64 o, .int .i64 0]) ∧ Below W.heap.size W w') := HC
    replace HO : Hid (∀ W, Calls Try.prog 9 #[wayV x y, wayV u v] W fun e w' => e = .returned (.tuple #[.bool p, .int .i64 0]) ∧ Below W.heap.size W w') := HO
    replace HQ : Hid (∀ W, Calls Try.prog 10 #[wayV x y] W fun e w' => e = .returned (.tuple #[.int .i64 q, .int .i64 0]) ∧ Below W.heap.size W w') := HQ
    replace HK : Hid (∀ W, Calls Try.prog 13 #[wayV x y] W fun e w' => e = .returned (.int .i64 0) ∧ Below W.heap.size W w') := HK
    replace RQ := Lib.hid (RQ.out rfl)
    replace RC := Lib.hid (RC.out rfl)
    replace RO := Lib.hid (RO.out rfl)
    go_enter Try.func3, Try.ntmps3
    go_wp2_with fail
    have hS : RS w [(w.heap.size, wayL x y), (w.heap.size + 1, wayL u v)] _ :=
      (((RS.nil w).new (B := w.heap.size) rfl (wayL x y) 23).new (B := w.heap.size + 1) (by simp) (wayL u v) 23)
    generalize World.alloc _ _ = W0 at hS ⊢
    have g00 := hS.c 0 rfl 0 rfl
    have g01 := hS.c 0 rfl 1 rfl
    have g10 := hS.c 1 rfl 0 rfl
    have g11 := hS.c 1 rfl 1 rfl
    go_wp2_with (go_at_call 12; refine (num_any _ _).mono ?_; rintro e w' ⟨rfl, rfl⟩)
    refine (HC.out _).mono ?_
    rintro e w1 ⟨rfl, hb⟩
    clear g00 g01 g10 g11
    replace hS := hS.after hb
    clear hb
    have g00 := hS.c 0 rfl 0 rfl
    have g01 := hS.c 0 rfl 1 rfl
    have g10 := hS.c 1 rfl 0 rfl
    have g11 := hS.c 1 rfl 1 rfl
    go_wp2_with (go_at_call 12; refine (num_any _ _).mono ?_; rintro e w' ⟨rfl, rfl⟩)
    refine (HO.out _).mono ?_
    rintro e w2 ⟨rfl, hb⟩
    clear g00 g01 g10 g11
    replace hS := hS.after hb
    clear hb
    have g00 := hS.c 0 rfl 0 rfl
    have g01 := hS.c 0 rfl 1 rfl
    have g10 := hS.c 1 rfl 0 rfl
    have g11 := hS.c 1 rfl 1 rfl
    go_wp2_with (go_at_call 12; refine (num_any _ _).mono ?_; rintro e w' ⟨rfl, rfl⟩)
    refine (HQ.out _).mono ?_
    rintro e w3 ⟨rfl, hb⟩
    clear g00 g01 g10 g11
    replace hS := hS.after hb
    clear hb
    have g00 := hS.c 0 rfl 0 rfl
    have g01 := hS.c 0 rfl 1 rfl
    have g10 := hS.c 1 rfl 0 rfl
    have g11 := hS.c 1 rfl 1 rfl
    go_wp2_with (go_at_call 12; refine (num_any _ _).mono ?_; rintro e w' ⟨rfl, rfl⟩)
    refine (Ha.out _).mono ?_
    rintro e w4 ⟨rfl, hb⟩
    clear g00 g01 g10 g11
    replace hS := hS.after hb
    clear hb
    have g00 := hS.c 0 rfl 0 rfl
    have g01 := hS.c 0 rfl 1 rfl
    have g10 := hS.c 1 rfl 0 rfl
    have g11 := hS.c 1 rfl 1 rfl
    go_wp2_with (go_at_call 12; refine (num_any _ _).mono ?_; rintro e w' ⟨rfl, rfl⟩)
    refine (HK.out _).mono ?_
    rintro e w5 ⟨rfl, hb⟩
    clear g00 g01 g10 g11
    replace hS := hS.after hb
    clear hb
    have g00 := hS.c 0 rfl 0 rfl
    have g01 := hS.c 0 rfl 1 rfl
    have g10 := hS.c 1 rfl 0 rfl
    have g11 := hS.c 1 rfl 1 rfl
    go_wp2_with (go_at_call 12; refine (num_any _ _).mono ?_; rintro e w' ⟨rfl, rfl⟩)
    refine (RQ.out _).mono ?_
    rintro e w6 ⟨rfl, hb⟩
    clear g00 g01 g10 g11
    replace hS := hS.after hb
    clear hb
    have g00 := hS.c 0 rfl 0 rfl
    have g01 := hS.c 0 rfl 1 rfl
    have g10 := hS.c 1 rfl 0 rfl
    have g11 := hS.c 1 rfl 1 rfl
    go_wp2_with (go_at_call 12; refine (num_any _ _).mono ?_; rintro e w' ⟨rfl, rfl⟩)
    refine (Hb.out _).mono ?_
    rintro e w7 ⟨rfl, hb⟩
    clear g00 g01 g10 g11
    replace hS := hS.after hb
    clear hb
    have g00 := hS.c 0 rfl 0 rfl
    have g01 := hS.c 0 rfl 1 rfl
    have g10 := hS.c 1 rfl 0 rfl
    have g11 := hS.c 1 rfl 1 rfl
    go_wp2_with (go_at_call 12; refine (num_any _ _).mono ?_; rintro e w' ⟨rfl, rfl⟩)
    refine (RC.out _).mono ?_
    rintro e w8 ⟨rfl, hb⟩
    clear g00 g01 g10 g11
    replace hS := hS.after hb
    clear hb
    have g00 := hS.c 0 rfl 0 rfl
    have g01 := hS.c 0 rfl 1 rfl
    have g10 := hS.c 1 rfl 0 rfl
    have g11 := hS.c 1 rfl 1 rfl
    go_wp2_with (go_at_call 12; refine (num_any _ _).mono ?_; rintro e w' ⟨rfl, rfl⟩)
    refine (RO.out _).mono ?_
    rintro e w9 ⟨rfl, hb⟩
    clear g00 g01 g10 g11
    replace hS := hS.after hb
    clear hb
    have g00 := hS.c 0 rfl 0 rfl
    have g01 := hS.c 0 rfl 1 rfl
    have g10 := hS.c 1 rfl 0 rfl
    have g11 := hS.c 1 rfl 1 rfl
    go_wp2_with (go_at_call 12; refine (num_any _ _).mono ?_; rintro e w' ⟨rfl, rfl⟩)
    refine (works_true _).mono ?_
    rintro e w9 ⟨rfl, hb⟩
    have hB := hS.2.trans (hb.mono hS.2.size)
    clear g00 g01 g10 g11
    clear hb hS
    go_wp2
    go_ret
    exact ⟨rfl, hB⟩
end Go.Proofs.Ytfdofajknnocfaa
