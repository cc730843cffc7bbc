/- AngleBetweens walked, over what its calls answer; its truth. -/
import Derived.Test.YtfdofajknnocfaaNH
import Derived.Test.YtfdofajknnocfaaNM
namespace Go.Proofs.Ytfdofajknnocfaa
open Go.RowKit Go.Sort

theorem right_may (x y : Int) (w : World) : Calls Try.prog 11 #[wayV x y] w fun e w' => e = .returned (.bool (mayB x y)) ∧ Below w.heap.size w w' := by
  rw [← Rnd.may_right]; exact right_any x y w
set_option maxHeartbeats 6400000 in
set_option maxRecDepth 100000 in
theorem betweens_true (x y u v s t : Int) (w : World) :
    Calls Try.prog 4 #[wayV x y, wayV u v, wayV s t] w fun e w' => e = .returned (.bool true) ∧ Below w.heap.size w w' := by
  have HB := Lib.hid (fun W => bet_any x y u v s t W)
  have Ha := Lib.hid (fun W => right_may x y W)
  have Hb := Lib.hid (fun W => right_may u v W)
  have Hc := Lib.hid (fun W => right_may s t W)
  have HR : Hid ((mayB x y && mayB u v && mayB s t) = true → ∀ W, Calls Try.prog 19 #[wayV x y, wayV u v, wayV s t] W fun e w' => e = .returned (.bool (betA x y u v s t)) ∧ Below W.heap.size W w') := Lib.hid (fun h W => by
    simp only [Bool.and_eq_true] at h
    rw [Rnd.bet_ref (Rnd.may_ok.1 h.1.1) (Rnd.may_ok.1 h.1.2) (Rnd.may_ok.1 h.2)]
    exact refbet_any x y u v s t W)
  generalize betA x y u v s t = r at HB HR
  generalize mayB x y = za at HB Ha HR
  generalize mayB u v = zb at HB Hb HR
  generalize mayB s t = zc at HB Hc HR
  have er : (r == r) = true := by simp
  cases za <;> cases zb <;> cases zc
  · clear HR
    replace HB : Hid (∀ W, Calls Try.prog 18 #[wayV x y, wayV u v, wayV s t] W fun e w' => e = .returned (.tuple #[.bool false, .int .i64 2]) ∧ Below W.heap.size W w') := HB
    go_enter Try.func4, Try.ntmps4
    go_wp2_with fail
    have hS : RS w [(w.heap.size, wayL x y), (w.heap.size + 1, wayL u v), (w.heap.size + 1 + 1, wayL s t)] _ :=
      ((((RS.nil w).new (B := w.heap.size) rfl (wayL x y) 23).new (B := w.heap.size + 1) (by simp) (wayL u v) 23).new (B := w.heap.size + 1 + 1) (by simp) (wayL s t) 23)
    generalize World.alloc _ _ = W0 at hS ⊢
    have g00 := hS.c 0 rfl 0 rfl
    have g01 := hS.c 0 rfl 1 rfl
    have g10 := hS.c 1 rfl 0 rfl
    have g11 := hS.c 1 rfl 1 rfl
    have g20 := hS.c 2 rfl 0 rfl
    have g21 := hS.c 2 rfl 1 rfl
    go_wp2_with fail
    refine (HB.out _).mono ?_
    rintro e w1 ⟨rfl, hb⟩
    clear g00 g01 g10 g11 g20 g21
    replace hS := hS.after hb
    clear hb
    have g00 := hS.c 0 rfl 0 rfl
    have g01 := hS.c 0 rfl 1 rfl
    have g10 := hS.c 1 rfl 0 rfl
    have g11 := hS.c 1 rfl 1 rfl
    have g20 := hS.c 2 rfl 0 rfl
    have g21 := hS.c 2 rfl 1 rfl
    go_wp2_with fail
    refine (Ha.out _).mono ?_
    rintro e w2 ⟨rfl, hb⟩
    clear g00 g01 g10 g11 g20 g21
    replace hS := hS.after hb
    clear hb
    have g00 := hS.c 0 rfl 0 rfl
    have g01 := hS.c 0 rfl 1 rfl
    have g10 := hS.c 1 rfl 0 rfl
    have g11 := hS.c 1 rfl 1 rfl
    have g20 := hS.c 2 rfl 0 rfl
    have g21 := hS.c 2 rfl 1 rfl
    go_wp2_with (go_at_call 12; refine (num_any _ _).mono ?_; rintro e w' ⟨rfl, rfl⟩)
    refine (works_true _).mono ?_
    rintro e w6 ⟨rfl, hb⟩
    have hB := hS.2.trans (hb.mono hS.2.size)
    clear g00 g01 g10 g11 g20 g21
    clear hb hS
    go_wp2
    go_ret
    exact ⟨rfl, hB⟩
  · clear HR
    replace HB : Hid (∀ W, Calls Try.prog 18 #[wayV x y, wayV u v, wayV s t] W fun e w' => e = .returned (.tuple #[.bool false, .int .i64 2]) ∧ Below W.heap.size W w') := HB
    go_enter Try.func4, Try.ntmps4
    go_wp2_with fail
    have hS : RS w [(w.heap.size, wayL x y), (w.heap.size + 1, wayL u v), (w.heap.size + 1 + 1, wayL s t)] _ :=
      ((((RS.nil w).new (B := w.heap.size) rfl (wayL x y) 23).new (B := w.heap.size + 1) (by simp) (wayL u v) 23).new (B := w.heap.size + 1 + 1) (by simp) (wayL s t) 23)
    generalize World.alloc _ _ = W0 at hS ⊢
    have g00 := hS.c 0 rfl 0 rfl
    have g01 := hS.c 0 rfl 1 rfl
    have g10 := hS.c 1 rfl 0 rfl
    have g11 := hS.c 1 rfl 1 rfl
    have g20 := hS.c 2 rfl 0 rfl
    have g21 := hS.c 2 rfl 1 rfl
    go_wp2_with fail
    refine (HB.out _).mono ?_
    rintro e w1 ⟨rfl, hb⟩
    clear g00 g01 g10 g11 g20 g21
    replace hS := hS.after hb
    clear hb
    have g00 := hS.c 0 rfl 0 rfl
    have g01 := hS.c 0 rfl 1 rfl
    have g10 := hS.c 1 rfl 0 rfl
    have g11 := hS.c 1 rfl 1 rfl
    have g20 := hS.c 2 rfl 0 rfl
    have g21 := hS.c 2 rfl 1 rfl
    go_wp2_with fail
    refine (Ha.out _).mono ?_
    rintro e w2 ⟨rfl, hb⟩
    clear g00 g01 g10 g11 g20 g21
    replace hS := hS.after hb
    clear hb
    have g00 := hS.c 0 rfl 0 rfl
    have g01 := hS.c 0 rfl 1 rfl
    have g10 := hS.c 1 rfl 0 rfl
    have g11 := hS.c 1 rfl 1 rfl
    have g20 := hS.c 2 rfl 0 rfl
    have g21 := hS.c 2 rfl 1 rfl
    go_wp2_with (go_at_call 12; refine (num_any _ _).mono ?_; rintro e w' ⟨rfl, rfl⟩)
    refine (works_true _).mono ?_
    rintro e w6 ⟨rfl, hb⟩
    have hB := hS.2.trans (hb.mono hS.2.size)
    clear g00 g01 g10 g11 g20 g21
    clear hb hS
    go_wp2
    go_ret
    exact ⟨rfl, hB⟩
  · clear HR
    replace HB : Hid (∀ W, Calls Try.prog 18 #[wayV x y, wayV u v, wayV s t] W fun e w' => e = .returned (.tuple #[.bool false, .int .i64 2]) ∧ Below W.heap.size W w') := HB
    go_enter Try.func4, Try.ntmps4
    go_wp2_with fail
    have hS : RS w [(w.heap.size, wayL x y), (w.heap.size + 1, wayL u v), (w.heap.size + 1 + 1, wayL s t)] _ :=
      ((((RS.nil w).new (B := w.heap.size) rfl (wayL x y) 23).new (B := w.heap.size + 1) (by simp) (wayL u v) 23).new (B := w.heap.size + 1 + 1) (by simp) (wayL s t) 23)
    generalize World.alloc _ _ = W0 at hS ⊢
    have g00 := hS.c 0 rfl 0 rfl
    have g01 := hS.c 0 rfl 1 rfl
    have g10 := hS.c 1 rfl 0 rfl
    have g11 := hS.c 1 rfl 1 rfl
    have g20 := hS.c 2 rfl 0 rfl
    have g21 := hS.c 2 rfl 1 rfl
    go_wp2_with fail
    refine (HB.out _).mono ?_
    rintro e w1 ⟨rfl, hb⟩
    clear g00 g01 g10 g11 g20 g21
    replace hS := hS.after hb
    clear hb
    have g00 := hS.c 0 rfl 0 rfl
    have g01 := hS.c 0 rfl 1 rfl
    have g10 := hS.c 1 rfl 0 rfl
    have g11 := hS.c 1 rfl 1 rfl
    have g20 := hS.c 2 rfl 0 rfl
    have g21 := hS.c 2 rfl 1 rfl
    go_wp2_with fail
    refine (Ha.out _).mono ?_
    rintro e w2 ⟨rfl, hb⟩
    clear g00 g01 g10 g11 g20 g21
    replace hS := hS.after hb
    clear hb
    have g00 := hS.c 0 rfl 0 rfl
    have g01 := hS.c 0 rfl 1 rfl
    have g10 := hS.c 1 rfl 0 rfl
    have g11 := hS.c 1 rfl 1 rfl
    have g20 := hS.c 2 rfl 0 rfl
    have g21 := hS.c 2 rfl 1 rfl
    go_wp2_with (go_at_call 12; refine (num_any _ _).mono ?_; rintro e w' ⟨rfl, rfl⟩)
    refine (works_true _).mono ?_
    rintro e w6 ⟨rfl, hb⟩
    have hB := hS.2.trans (hb.mono hS.2.size)
    clear g00 g01 g10 g11 g20 g21
    clear hb hS
    go_wp2
    go_ret
    exact ⟨rfl, hB⟩
  · clear HR
    replace HB : Hid (∀ W, Calls Try.prog 18 #[wayV x y, wayV u v, wayV s t] W fun e w' => e = .returned (.tuple #[.bool false, .int .i64 2]) ∧ Below W.heap.size W w') := HB
    go_enter Try.func4, Try.ntmps4
    go_wp2_with fail
    have hS : RS w [(w.heap.size, wayL x y), (w.heap.size + 1, wayL u v), (w.heap.size + 1 + 1, wayL s t)] _ :=
      ((((RS.nil w).new (B := w.heap.size) rfl (wayL x y) 23).new (B := w.heap.size + 1) (by simp) (wayL u v) 23).new (B := w.heap.size + 1 + 1) (by simp) (wayL s t) 23)
    generalize World.alloc _ _ = W0 at hS ⊢
    have g00 := hS.c 0 rfl 0 rfl
    have g01 := hS.c 0 rfl 1 rfl
    have g10 := hS.c 1 rfl 0 rfl
    have g11 := hS.c 1 rfl 1 rfl
    have g20 := hS.c 2 rfl 0 rfl
    have g21 := hS.c 2 rfl 1 rfl
    go_wp2_with fail
    refine (HB.out _).mono ?_
    rintro e w1 ⟨rfl, hb⟩
    clear g00 g01 g10 g11 g20 g21
    replace hS := hS.after hb
    clear hb
    have g00 := hS.c 0 rfl 0 rfl
    have g01 := hS.c 0 rfl 1 rfl
    have g10 := hS.c 1 rfl 0 rfl
    have g11 := hS.c 1 rfl 1 rfl
    have g20 := hS.c 2 rfl 0 rfl
    have g21 := hS.c 2 rfl 1 rfl
    go_wp2_with fail
    refine (Ha.out _).mono ?_
    rintro e w2 ⟨rfl, hb⟩
    clear g00 g01 g10 g11 g20 g21
    replace hS := hS.after hb
    clear hb
    have g00 := hS.c 0 rfl 0 rfl
    have g01 := hS.c 0 rfl 1 rfl
    have g10 := hS.c 1 rfl 0 rfl
    have g11 := hS.c 1 rfl 1 rfl
    have g20 := hS.c 2 rfl 0 rfl
    have g21 := hS.c 2 rfl 1 rfl
    go_wp2_with (go_at_call 12; refine (num_any _ _).mono ?_; rintro e w' ⟨rfl, rfl⟩)
    refine (works_true _).mono ?_
    rintro e w6 ⟨rfl, hb⟩
    have hB := hS.2.trans (hb.mono hS.2.size)
    clear g00 g01 g10 g11 g20 g21
    clear hb hS
    go_wp2
    go_ret
    exact ⟨rfl, hB⟩
  · clear HR
    replace HB : Hid (∀ W, Calls Try.prog 18 #[wayV x y, wayV u v, wayV s t] W fun e w' => e = .returned (.tuple #[.bool false, .int .i64 2]) ∧ Below W.heap.size W w') := HB
    go_enter Try.func4, Try.ntmps4
    go_wp2_with fail
    have hS : RS w [(w.heap.size, wayL x y), (w.heap.size + 1, wayL u v), (w.heap.size + 1 + 1, wayL s t)] _ :=
      ((((RS.nil w).new (B := w.heap.size) rfl (wayL x y) 23).new (B := w.heap.size + 1) (by simp) (wayL u v) 23).new (B := w.heap.size + 1 + 1) (by simp) (wayL s t) 23)
    generalize World.alloc _ _ = W0 at hS ⊢
    have g00 := hS.c 0 rfl 0 rfl
    have g01 := hS.c 0 rfl 1 rfl
    have g10 := hS.c 1 rfl 0 rfl
    have g11 := hS.c 1 rfl 1 rfl
    have g20 := hS.c 2 rfl 0 rfl
    have g21 := hS.c 2 rfl 1 rfl
    go_wp2_with fail
    refine (HB.out _).mono ?_
    rintro e w1 ⟨rfl, hb⟩
    clear g00 g01 g10 g11 g20 g21
    replace hS := hS.after hb
    clear hb
    have g00 := hS.c 0 rfl 0 rfl
    have g01 := hS.c 0 rfl 1 rfl
    have g10 := hS.c 1 rfl 0 rfl
    have g11 := hS.c 1 rfl 1 rfl
    have g20 := hS.c 2 rfl 0 rfl
    have g21 := hS.c 2 rfl 1 rfl
    go_wp2_with fail
    refine (Ha.out _).mono ?_
    rintro e w2 ⟨rfl, hb⟩
    clear g00 g01 g10 g11 g20 g21
    replace hS := hS.after hb
    clear hb
    have g00 := hS.c 0 rfl 0 rfl
    have g01 := hS.c 0 rfl 1 rfl
    have g10 := hS.c 1 rfl 0 rfl
    have g11 := hS.c 1 rfl 1 rfl
    have g20 := hS.c 2 rfl 0 rfl
    have g21 := hS.c 2 rfl 1 rfl
    go_wp2_with fail
    refine (Hb.out _).mono ?_
    rintro e w3 ⟨rfl, hb⟩
    clear g00 g01 g10 g11 g20 g21
    replace hS := hS.after hb
    clear hb
    have g00 := hS.c 0 rfl 0 rfl
    have g01 := hS.c 0 rfl 1 rfl
    have g10 := hS.c 1 rfl 0 rfl
    have g11 := hS.c 1 rfl 1 rfl
    have g20 := hS.c 2 rfl 0 rfl
    have g21 := hS.c 2 rfl 1 rfl
    go_wp2_with (go_at_call 12; refine (num_any _ _).mono ?_; rintro e w' ⟨rfl, rfl⟩)
    refine (works_true _).mono ?_
    rintro e w6 ⟨rfl, hb⟩
    have hB := hS.2.trans (hb.mono hS.2.size)
    clear g00 g01 g10 g11 g20 g21
    clear hb hS
    go_wp2
    go_ret
    exact ⟨rfl, hB⟩
  · clear HR
    replace HB : Hid (∀ W, Calls Try.prog 18 #[wayV x y, wayV u v, wayV s t] W fun e w' => e = .returned (.tuple #[.bool false, .int .i64 2]) ∧ Below W.heap.size W w') := HB
    go_enter Try.func4, Try.ntmps4
    go_wp2_with fail
    have hS : RS w [(w.heap.size, wayL x y), (w.heap.size + 1, wayL u v), (w.heap.size + 1 + 1, wayL s t)] _ :=
      ((((RS.nil w).new (B := w.heap.size) rfl (wayL x y) 23).new (B := w.heap.size + 1) (by simp) (wayL u v) 23).new (B := w.heap.size + 1 + 1) (by simp) (wayL s t) 23)
    generalize World.alloc _ _ = W0 at hS ⊢
    have g00 := hS.c 0 rfl 0 rfl
    have g01 := hS.c 0 rfl 1 rfl
    have g10 := hS.c 1 rfl 0 rfl
    have g11 := hS.c 1 rfl 1 rfl
    have g20 := hS.c 2 rfl 0 rfl
    have g21 := hS.c 2 rfl 1 rfl
    go_wp2_with fail
    refine (HB.out _).mono ?_
    rintro e w1 ⟨rfl, hb⟩
    clear g00 g01 g10 g11 g20 g21
    replace hS := hS.after hb
    clear hb
    have g00 := hS.c 0 rfl 0 rfl
    have g01 := hS.c 0 rfl 1 rfl
    have g10 := hS.c 1 rfl 0 rfl
    have g11 := hS.c 1 rfl 1 rfl
    have g20 := hS.c 2 rfl 0 rfl
    have g21 := hS.c 2 rfl 1 rfl
    go_wp2_with fail
    refine (Ha.out _).mono ?_
    rintro e w2 ⟨rfl, hb⟩
    clear g00 g01 g10 g11 g20 g21
    replace hS := hS.after hb
    clear hb
    have g00 := hS.c 0 rfl 0 rfl
    have g01 := hS.c 0 rfl 1 rfl
    have g10 := hS.c 1 rfl 0 rfl
    have g11 := hS.c 1 rfl 1 rfl
    have g20 := hS.c 2 rfl 0 rfl
    have g21 := hS.c 2 rfl 1 rfl
    go_wp2_with fail
    refine (Hb.out _).mono ?_
    rintro e w3 ⟨rfl, hb⟩
    clear g00 g01 g10 g11 g20 g21
    replace hS := hS.after hb
    clear hb
    have g00 := hS.c 0 rfl 0 rfl
    have g01 := hS.c 0 rfl 1 rfl
    have g10 := hS.c 1 rfl 0 rfl
    have g11 := hS.c 1 rfl 1 rfl
    have g20 := hS.c 2 rfl 0 rfl
    have g21 := hS.c 2 rfl 1 rfl
    go_wp2_with (go_at_call 12; refine (num_any _ _).mono ?_; rintro e w' ⟨rfl, rfl⟩)
    refine (works_true _).mono ?_
    rintro e w6 ⟨rfl, hb⟩
    have hB := hS.2.trans (hb.mono hS.2.size)
    clear g00 g01 g10 g11 g20 g21
    clear hb hS
    go_wp2
    go_ret
    exact ⟨rfl, hB⟩
  · clear HR
    replace HB : Hid (∀ W, Calls Try.prog 18 #[wayV x y, wayV u v, wayV s t] W fun e w' => e = .returned (.tuple #[.bool false, .int .i64 2]) ∧ Below W.heap.size W w') := HB
    go_enter Try.func4, Try.ntmps4
    go_wp2_with fail
    have hS : RS w [(w.heap.size, wayL x y), (w.heap.size + 1, wayL u v), (w.heap.size + 1 + 1, wayL s t)] _ :=
      ((((RS.nil w).new (B := w.heap.size) rfl (wayL x y) 23).new (B := w.heap.size + 1) (by simp) (wayL u v) 23).new (B := w.heap.size + 1 + 1) (by simp) (wayL s t) 23)
    generalize World.alloc _ _ = W0 at hS ⊢
    have g00 := hS.c 0 rfl 0 rfl
    have g01 := hS.c 0 rfl 1 rfl
    have g10 := hS.c 1 rfl 0 rfl
    have g11 := hS.c 1 rfl 1 rfl
    have g20 := hS.c 2 rfl 0 rfl
    have g21 := hS.c 2 rfl 1 rfl
    go_wp2_with fail
    refine (HB.out _).mono ?_
    rintro e w1 ⟨rfl, hb⟩
    clear g00 g01 g10 g11 g20 g21
    replace hS := hS.after hb
    clear hb
    have g00 := hS.c 0 rfl 0 rfl
    have g01 := hS.c 0 rfl 1 rfl
    have g10 := hS.c 1 rfl 0 rfl
    have g11 := hS.c 1 rfl 1 rfl
    have g20 := hS.c 2 rfl 0 rfl
    have g21 := hS.c 2 rfl 1 rfl
    go_wp2_with fail
    refine (Ha.out _).mono ?_
    rintro e w2 ⟨rfl, hb⟩
    clear g00 g01 g10 g11 g20 g21
    replace hS := hS.after hb
    clear hb
    have g00 := hS.c 0 rfl 0 rfl
    have g01 := hS.c 0 rfl 1 rfl
    have g10 := hS.c 1 rfl 0 rfl
    have g11 := hS.c 1 rfl 1 rfl
    have g20 := hS.c 2 rfl 0 rfl
    have g21 := hS.c 2 rfl 1 rfl
    go_wp2_with fail
    refine (Hb.out _).mono ?_
    rintro e w3 ⟨rfl, hb⟩
    clear g00 g01 g10 g11 g20 g21
    replace hS := hS.after hb
    clear hb
    have g00 := hS.c 0 rfl 0 rfl
    have g01 := hS.c 0 rfl 1 rfl
    have g10 := hS.c 1 rfl 0 rfl
    have g11 := hS.c 1 rfl 1 rfl
    have g20 := hS.c 2 rfl 0 rfl
    have g21 := hS.c 2 rfl 1 rfl
    go_wp2_with fail
    refine (Hc.out _).mono ?_
    rintro e w4 ⟨rfl, hb⟩
    clear g00 g01 g10 g11 g20 g21
    replace hS := hS.after hb
    clear hb
    have g00 := hS.c 0 rfl 0 rfl
    have g01 := hS.c 0 rfl 1 rfl
    have g10 := hS.c 1 rfl 0 rfl
    have g11 := hS.c 1 rfl 1 rfl
    have g20 := hS.c 2 rfl 0 rfl
    have g21 := hS.c 2 rfl 1 rfl
    go_wp2_with (go_at_call 12; refine (num_any _ _).mono ?_; rintro e w' ⟨rfl, rfl⟩)
    refine (works_true _).mono ?_
    rintro e w6 ⟨rfl, hb⟩
    have hB := hS.2.trans (hb.mono hS.2.size)
    clear g00 g01 g10 g11 g20 g21
    clear hb hS
    go_wp2
    go_ret
    exact ⟨rfl, hB⟩
  · have HR := Lib.hid (HR.out rfl)
    replace HB : Hid (∀ W, Calls Try.prog 18 #[wayV x y, wayV u v, wayV s t] W fun e w' => e = .returned (.tuple #[.bool r, .int .i64 0]) ∧ Below W.heap.size W w') := HB
    go_enter Try.func4, Try.ntmps4
    go_wp2_with fail
    have hS : RS w [(w.heap.size, wayL x y), (w.heap.size + 1, wayL u v), (w.heap.size + 1 + 1, wayL s t)] _ :=
      ((((RS.nil w).new (B := w.heap.size) rfl (wayL x y) 23).new (B := w.heap.size + 1) (by simp) (wayL u v) 23).new (B := w.heap.size + 1 + 1) (by simp) (wayL s t) 23)
    generalize World.alloc _ _ = W0 at hS ⊢
    have g00 := hS.c 0 rfl 0 rfl
    have g01 := hS.c 0 rfl 1 rfl
    have g10 := hS.c 1 rfl 0 rfl
    have g11 := hS.c 1 rfl 1 rfl
    have g20 := hS.c 2 rfl 0 rfl
    have g21 := hS.c 2 rfl 1 rfl
    go_wp2_with fail
    refine (HB.out _).mono ?_
    rintro e w1 ⟨rfl, hb⟩
    clear g00 g01 g10 g11 g20 g21
    replace hS := hS.after hb
    clear hb
    have g00 := hS.c 0 rfl 0 rfl
    have g01 := hS.c 0 rfl 1 rfl
    have g10 := hS.c 1 rfl 0 rfl
    have g11 := hS.c 1 rfl 1 rfl
    have g20 := hS.c 2 rfl 0 rfl
    have g21 := hS.c 2 rfl 1 rfl
    go_wp2_with fail
    refine (Ha.out _).mono ?_
    rintro e w2 ⟨rfl, hb⟩
    clear g00 g01 g10 g11 g20 g21
    replace hS := hS.after hb
    clear hb
    have g00 := hS.c 0 rfl 0 rfl
    have g01 := hS.c 0 rfl 1 rfl
    have g10 := hS.c 1 rfl 0 rfl
    have g11 := hS.c 1 rfl 1 rfl
    have g20 := hS.c 2 rfl 0 rfl
    have g21 := hS.c 2 rfl 1 rfl
    go_wp2_with fail
    refine (Hb.out _).mono ?_
    rintro e w3 ⟨rfl, hb⟩
    clear g00 g01 g10 g11 g20 g21
    replace hS := hS.after hb
    clear hb
    have g00 := hS.c 0 rfl 0 rfl
    have g01 := hS.c 0 rfl 1 rfl
    have g10 := hS.c 1 rfl 0 rfl
    have g11 := hS.c 1 rfl 1 rfl
    have g20 := hS.c 2 rfl 0 rfl
    have g21 := hS.c 2 rfl 1 rfl
    go_wp2_with fail
    refine (Hc.out _).mono ?_
    rintro e w4 ⟨rfl, hb⟩
    clear g00 g01 g10 g11 g20 g21
    replace hS := hS.after hb
    clear hb
    have g00 := hS.c 0 rfl 0 rfl
    have g01 := hS.c 0 rfl 1 rfl
    have g10 := hS.c 1 rfl 0 rfl
    have g11 := hS.c 1 rfl 1 rfl
    have g20 := hS.c 2 rfl 0 rfl
    have g21 := hS.c 2 rfl 1 rfl
    go_wp2_with fail
    refine (HR.out _).mono ?_
    rintro e w5 ⟨rfl, hb⟩
    clear g00 g01 g10 g11 g20 g21
    replace hS := hS.after hb
    clear hb
    have g00 := hS.c 0 rfl 0 rfl
    have g01 := hS.c 0 rfl 1 rfl
    have g10 := hS.c 1 rfl 0 rfl
    have g11 := hS.c 1 rfl 1 rfl
    have g20 := hS.c 2 rfl 0 rfl
    have g21 := hS.c 2 rfl 1 rfl
    go_wp2_with (go_at_call 12; refine (num_any _ _).mono ?_; rintro e w' ⟨rfl, rfl⟩)
    refine (works_true _).mono ?_
    rintro e w6 ⟨rfl, hb⟩
    have hB := hS.2.trans (hb.mono hS.2.size)
    clear g00 g01 g10 g11 g20 g21
    clear hb hS
    go_wp2
    go_ret
    exact ⟨rfl, hB⟩
end Go.Proofs.Ytfdofajknnocfaa
