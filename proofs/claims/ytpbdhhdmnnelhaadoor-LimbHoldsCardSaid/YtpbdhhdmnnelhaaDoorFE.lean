/- LimbHolds' divides walked: the walk alone, over what its calls answer. -/
import Derived.Test.YtpbdhhdmnnelhaaDoorFB
import Derived.Lib.QuietBelow
import Derived.BigQuiet
namespace Go.Proofs.YtpbdhhdmnnelhaaDoor
open Go.RowKit Go.Sort

/-- What the calls of divides answer behind the quotient: b's sign is sb. -/
def DTail (w : World) (s sb sd sx su : Bool) (a0 a1 a2 a3 b0 b1 b2 b3 d0 d1 d2 d3 x0 x1 x2 x3 u0 u1 u2 u3 : Int) : Prop :=
  (∀ W, Below w.heap.size w W → Calls Tryd.prog 31 #[iv s a0 a1 a2 a3, iv sb b0 b1 b2 b3] W fun e w' => e = .returned (.tuple #[iv sd d0 d1 d2 d3, .int .i64 0]) ∧ Below W.heap.size W w') ∧
  (∀ W : World, (binOp .eql 25 (iv sd d0 d1 d2 d3) (iv false 0 0 0 0)).run Tryd.prog W = .ok (.bool false) W) ∧
  (∀ W, Calls Tryd.prog 30 #[iv s a0 a1 a2 a3, iv sd d0 d1 d2 d3] W fun e w' => e = .returned (.tuple #[iv sx x0 x1 x2 x3, iv false 0 0 0 0, .int .i64 0]) ∧ Below W.heap.size W w') ∧
  (∀ W, Calls Tryd.prog 30 #[iv sb b0 b1 b2 b3, iv sd d0 d1 d2 d3] W fun e w' => e = .returned (.tuple #[iv su u0 u1 u2 u3, iv false 0 0 0 0, .int .i64 0]) ∧ Below W.heap.size W w') ∧
  (∀ W, Below w.heap.size w W → Calls Tryd.prog 31 #[iv sx x0 x1 x2 x3, iv su u0 u1 u2 u3] W fun e w' => e = .returned (.tuple #[iv false 1 0 0 0, .int .i64 0]) ∧ Below W.heap.size W w')
set_option maxRecDepth 100000 in
set_option maxHeartbeats 8000000 in
theorem divides_no (s t sq sr sd : Bool) (a0 a1 a2 a3 b0 b1 b2 b3 q0 q1 q2 q3 r0 r1 r2 r3 d0 d1 d2 d3 : Int) (w : World) (hQ : (∀ W, Calls Tryd.prog 30 #[iv s a0 a1 a2 a3, iv t b0 b1 b2 b3] W fun e w' => e = .returned (.tuple #[iv sq q0 q1 q2 q3, iv sr r0 r1 r2 r3, .int .i64 2]) ∧ Below W.heap.size W w')) (hG : (∀ W, Calls Tryd.prog 31 #[iv s a0 a1 a2 a3, iv t b0 b1 b2 b3] W fun e w' => e = .returned (.tuple #[iv sd d0 d1 d2 d3, .int .i64 2]) ∧ Below W.heap.size W w')) :
    Calls Tryd.prog 41 #[iv s a0 a1 a2 a3, iv t b0 b1 b2 b3] w fun e w' => e = .returned (.bool true) ∧ Below w.heap.size w w' := by
  have HQ := Lib.hid hQ
  have HG := Lib.hid hG
  clear hQ hG
  go_enter Tryd.func41, Tryd.ntmps41
  go_wp2_with fail
  have hS : RS w [(w.heap.size, [.bool s, .int .u64 a0, .int .u64 a1, .int .u64 a2, .int .u64 a3]), (w.heap.size + 1, [.bool t, .int .u64 b0, .int .u64 b1, .int .u64 b2, .int .u64 b3])] _ :=
    ((RS.nil w).new (B := w.heap.size) rfl [.bool s, .int .u64 a0, .int .u64 a1, .int .u64 a2, .int .u64 a3] 25).new (B := w.heap.size + 1) (by simp) [.bool t, .int .u64 b0, .int .u64 b1, .int .u64 b2, .int .u64 b3] 25
  generalize World.alloc _ _ = W0 at hS ⊢
  refine (HQ.out _).mono ?_
  rintro e w1 ⟨rfl, hb1⟩
  replace hS := hS.after hb1
  clear hb1
  replace hS := hS.new (B := w1.heap.size) rfl [.bool sq, .int .u64 q0, .int .u64 q1, .int .u64 q2, .int .u64 q3] 25
  replace hS := hS.new (B := w1.heap.size + 1) (by simp) [.bool sr, .int .u64 r0, .int .u64 r1, .int .u64 r2, .int .u64 r3] 25
  go_wp2_with fail
  generalize World.alloc _ _ = W1 at hS ⊢
  generalize w1.heap.size = B1 at hS ⊢
  refine (num_any _ _).mono ?_
  rintro e w2 ⟨rfl, hb1⟩
  replace hS := hS.after hb1
  clear hb1
  have ea0 := hS.c 0 rfl 0 rfl
  have ea1 := hS.c 0 rfl 1 rfl
  have ea2 := hS.c 0 rfl 2 rfl
  have ea3 := hS.c 0 rfl 3 rfl
  have ea4 := hS.c 0 rfl 4 rfl
  have eb0 := hS.c 1 rfl 0 rfl
  have eb1 := hS.c 1 rfl 1 rfl
  have eb2 := hS.c 1 rfl 2 rfl
  have eb3 := hS.c 1 rfl 3 rfl
  have eb4 := hS.c 1 rfl 4 rfl
  go_wp2_with fail
  clear ea0 ea1 ea2 ea3 ea4 eb0 eb1 eb2 eb3 eb4
  refine (HG.out _).mono ?_
  rintro e w3 ⟨rfl, hb1⟩
  replace hS := hS.after hb1
  clear hb1
  replace hS := hS.new (B := w3.heap.size) rfl [.bool sd, .int .u64 d0, .int .u64 d1, .int .u64 d2, .int .u64 d3] 25
  go_wp2_with fail
  generalize World.alloc _ _ = W3 at hS ⊢
  generalize w3.heap.size = B3 at hS ⊢
  refine (num_any _ _).mono ?_
  rintro e w4 ⟨rfl, hb1⟩
  replace hS := hS.after hb1
  clear hb1
  go_wp2_with fail
  refine (num_any _ _).mono ?_
  rintro e w5 ⟨rfl, hb1⟩
  replace hS := hS.after hb1
  clear hb1
  go_wp2_with fail
  refine (num_any _ _).mono ?_
  rintro e w6 ⟨rfl, hb1⟩
  replace hS := hS.after hb1
  clear hb1
  go_wp2_with fail
  go_ret
  exact ⟨rfl, hS.2⟩
set_option maxRecDepth 100000 in
set_option maxHeartbeats 8000000 in
theorem divides_nought (s t sq sr : Bool) (a0 a1 a2 a3 b0 b1 b2 b3 q0 q1 q2 q3 r0 r1 r2 r3 : Int) (w : World) (hQ : (∀ W, Calls Tryd.prog 30 #[iv s a0 a1 a2 a3, iv t b0 b1 b2 b3] W fun e w' => e = .returned (.tuple #[iv sq q0 q1 q2 q3, iv sr r0 r1 r2 r3, .int .i64 2]) ∧ Below W.heap.size W w')) (hG : (∀ W, Below w.heap.size w W → Calls Tryd.prog 31 #[iv s a0 a1 a2 a3, iv t b0 b1 b2 b3] W fun e w' => e = .returned (.tuple #[iv false 0 0 0 0, .int .i64 0]) ∧ Below W.heap.size W w')) :
    Calls Tryd.prog 41 #[iv s a0 a1 a2 a3, iv t b0 b1 b2 b3] w fun e w' => e = .returned (.bool true) ∧ Below w.heap.size w w' := by
  have HQ := Lib.hid hQ
  have HG := Lib.hid hG
  clear hQ hG
  go_enter Tryd.func41, Tryd.ntmps41
  go_wp2_with fail
  have hS : RS w [(w.heap.size, [.bool s, .int .u64 a0, .int .u64 a1, .int .u64 a2, .int .u64 a3]), (w.heap.size + 1, [.bool t, .int .u64 b0, .int .u64 b1, .int .u64 b2, .int .u64 b3])] _ :=
    ((RS.nil w).new (B := w.heap.size) rfl [.bool s, .int .u64 a0, .int .u64 a1, .int .u64 a2, .int .u64 a3] 25).new (B := w.heap.size + 1) (by simp) [.bool t, .int .u64 b0, .int .u64 b1, .int .u64 b2, .int .u64 b3] 25
  generalize World.alloc _ _ = W0 at hS ⊢
  refine (HQ.out _).mono ?_
  rintro e w7 ⟨rfl, hb1⟩
  replace hS := hS.after hb1
  clear hb1
  replace hS := hS.new (B := w7.heap.size) rfl [.bool sq, .int .u64 q0, .int .u64 q1, .int .u64 q2, .int .u64 q3] 25
  replace hS := hS.new (B := w7.heap.size + 1) (by simp) [.bool sr, .int .u64 r0, .int .u64 r1, .int .u64 r2, .int .u64 r3] 25
  go_wp2_with fail
  generalize World.alloc _ _ = W7 at hS ⊢
  generalize w7.heap.size = B7 at hS ⊢
  refine (num_any _ _).mono ?_
  rintro e w8 ⟨rfl, hb1⟩
  replace hS := hS.after hb1
  clear hb1
  have ea0 := hS.c 0 rfl 0 rfl
  have ea1 := hS.c 0 rfl 1 rfl
  have ea2 := hS.c 0 rfl 2 rfl
  have ea3 := hS.c 0 rfl 3 rfl
  have ea4 := hS.c 0 rfl 4 rfl
  have eb0 := hS.c 1 rfl 0 rfl
  have eb1 := hS.c 1 rfl 1 rfl
  have eb2 := hS.c 1 rfl 2 rfl
  have eb3 := hS.c 1 rfl 3 rfl
  have eb4 := hS.c 1 rfl 4 rfl
  go_wp2_with fail
  clear ea0 ea1 ea2 ea3 ea4 eb0 eb1 eb2 eb3 eb4
  refine (HG.out _ hS.2).mono ?_
  rintro e w9 ⟨rfl, hb1⟩
  replace hS := hS.after hb1
  clear hb1
  replace hS := hS.new (B := w9.heap.size) rfl [.bool false, .int .u64 0, .int .u64 0, .int .u64 0, .int .u64 0] 25
  go_wp2_with fail
  generalize World.alloc _ _ = W9 at hS ⊢
  generalize w9.heap.size = B9 at hS ⊢
  refine (num_any _ _).mono ?_
  rintro e w10 ⟨rfl, hb1⟩
  replace hS := hS.after hb1
  clear hb1
  have ea0 := hS.c 4 rfl 0 rfl
  have ea1 := hS.c 4 rfl 1 rfl
  have ea2 := hS.c 4 rfl 2 rfl
  have ea3 := hS.c 4 rfl 3 rfl
  have ea4 := hS.c 4 rfl 4 rfl
  have hT := (show ∀ W : World, (binOp .eql 25 (iv false 0 0 0 0) (iv false 0 0 0 0)).run Tryd.prog W = .ok (.bool true) W from fun W => by rw [eqlInt]; simp)
  go_wp2_with fail
  clear ea0 ea1 ea2 ea3 ea4
  clear hT
  refine (num_any _ _).mono ?_
  rintro e w11 ⟨rfl, hb1⟩
  replace hS := hS.after hb1
  clear hb1
  go_wp2_with fail
  go_ret
  exact ⟨rfl, hS.2⟩
set_option maxRecDepth 100000 in
set_option maxHeartbeats 8000000 in
theorem divides_by_nought (s t sq sr sd sx su : Bool) (a0 a1 a2 a3 b0 b1 b2 b3 q0 q1 q2 q3 r0 r1 r2 r3 d0 d1 d2 d3 x0 x1 x2 x3 u0 u1 u2 u3 : Int) (w : World) (hQ : (∀ W, Calls Tryd.prog 30 #[iv s a0 a1 a2 a3, iv t b0 b1 b2 b3] W fun e w' => e = .returned (.tuple #[iv sq q0 q1 q2 q3, iv sr r0 r1 r2 r3, .int .i64 2]) ∧ Below W.heap.size W w')) (hT : DTail w s t sd sx su a0 a1 a2 a3 b0 b1 b2 b3 d0 d1 d2 d3 x0 x1 x2 x3 u0 u1 u2 u3) :
    Calls Tryd.prog 41 #[iv s a0 a1 a2 a3, iv t b0 b1 b2 b3] w fun e w' => e = .returned (.bool true) ∧ Below w.heap.size w w' := by
  have HQ := Lib.hid hQ
  have HT := Lib.hid hT
  clear hQ hT
  go_enter Tryd.func41, Tryd.ntmps41
  go_wp2_with fail
  have hS : RS w [(w.heap.size, [.bool s, .int .u64 a0, .int .u64 a1, .int .u64 a2, .int .u64 a3]), (w.heap.size + 1, [.bool t, .int .u64 b0, .int .u64 b1, .int .u64 b2, .int .u64 b3])] _ :=
    ((RS.nil w).new (B := w.heap.size) rfl [.bool s, .int .u64 a0, .int .u64 a1, .int .u64 a2, .int .u64 a3] 25).new (B := w.heap.size + 1) (by simp) [.bool t, .int .u64 b0, .int .u64 b1, .int .u64 b2, .int .u64 b3] 25
  generalize World.alloc _ _ = W0 at hS ⊢
  obtain ⟨hG, hDz, hQ1, hQ2, hG2⟩ := HT.out
  have HG := Lib.hid hG
  have HDz := Lib.hid hDz
  have HQ1 := Lib.hid hQ1
  have HQ2 := Lib.hid hQ2
  have HG2 := Lib.hid hG2
  clear hG hDz hQ1 hQ2 hG2 HT
  refine (HQ.out _).mono ?_
  rintro e w12 ⟨rfl, hb1⟩
  replace hS := hS.after hb1
  clear hb1
  replace hS := hS.new (B := w12.heap.size) rfl [.bool sq, .int .u64 q0, .int .u64 q1, .int .u64 q2, .int .u64 q3] 25
  replace hS := hS.new (B := w12.heap.size + 1) (by simp) [.bool sr, .int .u64 r0, .int .u64 r1, .int .u64 r2, .int .u64 r3] 25
  go_wp2_with fail
  generalize World.alloc _ _ = W12 at hS ⊢
  generalize w12.heap.size = B12 at hS ⊢
  refine (num_any _ _).mono ?_
  rintro e w13 ⟨rfl, hb1⟩
  replace hS := hS.after hb1
  clear hb1
  have ea0 := hS.c 0 rfl 0 rfl
  have ea1 := hS.c 0 rfl 1 rfl
  have ea2 := hS.c 0 rfl 2 rfl
  have ea3 := hS.c 0 rfl 3 rfl
  have ea4 := hS.c 0 rfl 4 rfl
  have eb0 := hS.c 1 rfl 0 rfl
  have eb1 := hS.c 1 rfl 1 rfl
  have eb2 := hS.c 1 rfl 2 rfl
  have eb3 := hS.c 1 rfl 3 rfl
  have eb4 := hS.c 1 rfl 4 rfl
  go_wp2_with fail
  clear ea0 ea1 ea2 ea3 ea4 eb0 eb1 eb2 eb3 eb4
  refine (HG.out _ hS.2).mono ?_
  rintro e w14 ⟨rfl, hb1⟩
  replace hS := hS.after hb1
  clear hb1
  replace hS := hS.new (B := w14.heap.size) rfl [.bool sd, .int .u64 d0, .int .u64 d1, .int .u64 d2, .int .u64 d3] 25
  go_wp2_with fail
  generalize World.alloc _ _ = W14 at hS ⊢
  generalize w14.heap.size = B14 at hS ⊢
  refine (num_any _ _).mono ?_
  rintro e w15 ⟨rfl, hb1⟩
  replace hS := hS.after hb1
  clear hb1
  have ea0 := hS.c 4 rfl 0 rfl
  have ea1 := hS.c 4 rfl 1 rfl
  have ea2 := hS.c 4 rfl 2 rfl
  have ea3 := hS.c 4 rfl 3 rfl
  have ea4 := hS.c 4 rfl 4 rfl
  have eb0 := hS.c 0 rfl 0 rfl
  have eb1 := hS.c 0 rfl 1 rfl
  have eb2 := hS.c 0 rfl 2 rfl
  have eb3 := hS.c 0 rfl 3 rfl
  have eb4 := hS.c 0 rfl 4 rfl
  have hDz := HDz.out
  go_wp2_with fail
  clear ea0 ea1 ea2 ea3 ea4 eb0 eb1 eb2 eb3 eb4
  clear hDz
  refine (HQ1.out _).mono ?_
  rintro e w16 ⟨rfl, hb1⟩
  replace hS := hS.after hb1
  clear hb1
  replace hS := hS.new (B := w16.heap.size) rfl [.bool sx, .int .u64 x0, .int .u64 x1, .int .u64 x2, .int .u64 x3] 25
  replace hS := hS.new (B := w16.heap.size + 1) (by simp) [.bool false, .int .u64 0, .int .u64 0, .int .u64 0, .int .u64 0] 25
  have ea0 := hS.c 1 rfl 0 rfl
  have ea1 := hS.c 1 rfl 1 rfl
  have ea2 := hS.c 1 rfl 2 rfl
  have ea3 := hS.c 1 rfl 3 rfl
  have ea4 := hS.c 1 rfl 4 rfl
  have eb0 := hS.c 4 rfl 0 rfl
  have eb1 := hS.c 4 rfl 1 rfl
  have eb2 := hS.c 4 rfl 2 rfl
  have eb3 := hS.c 4 rfl 3 rfl
  have eb4 := hS.c 4 rfl 4 rfl
  go_wp2_with fail
  clear ea0 ea1 ea2 ea3 ea4 eb0 eb1 eb2 eb3 eb4
  generalize World.alloc _ _ = W16 at hS ⊢
  generalize w16.heap.size = B16 at hS ⊢
  refine (HQ2.out _).mono ?_
  rintro e w17 ⟨rfl, hb1⟩
  replace hS := hS.after hb1
  clear hb1
  replace hS := hS.new (B := w17.heap.size) rfl [.bool su, .int .u64 u0, .int .u64 u1, .int .u64 u2, .int .u64 u3] 25
  replace hS := hS.new (B := w17.heap.size + 1) (by simp) [.bool false, .int .u64 0, .int .u64 0, .int .u64 0, .int .u64 0] 25
  have ea0 := hS.c 5 rfl 0 rfl
  have ea1 := hS.c 5 rfl 1 rfl
  have ea2 := hS.c 5 rfl 2 rfl
  have ea3 := hS.c 5 rfl 3 rfl
  have ea4 := hS.c 5 rfl 4 rfl
  have eb0 := hS.c 7 rfl 0 rfl
  have eb1 := hS.c 7 rfl 1 rfl
  have eb2 := hS.c 7 rfl 2 rfl
  have eb3 := hS.c 7 rfl 3 rfl
  have eb4 := hS.c 7 rfl 4 rfl
  go_wp2_with fail
  clear ea0 ea1 ea2 ea3 ea4 eb0 eb1 eb2 eb3 eb4
  generalize World.alloc _ _ = W17 at hS ⊢
  generalize w17.heap.size = B17 at hS ⊢
  refine (HG2.out _ hS.2).mono ?_
  rintro e w18 ⟨rfl, hb1⟩
  replace hS := hS.after hb1
  clear hb1
  replace hS := hS.new (B := w18.heap.size) rfl [.bool false, .int .u64 1, .int .u64 0, .int .u64 0, .int .u64 0] 25
  go_wp2_with fail
  generalize World.alloc _ _ = W18 at hS ⊢
  generalize w18.heap.size = B18 at hS ⊢
  have ea0 := cell_regrown (hS.c 6 rfl 0 rfl)
  have ea1 := cell_regrown (hS.c 6 rfl 1 rfl)
  have ea2 := cell_regrown (hS.c 6 rfl 2 rfl)
  have ea3 := cell_regrown (hS.c 6 rfl 3 rfl)
  have ea4 := cell_regrown (hS.c 6 rfl 4 rfl)
  have eb0 := cell_regrown (hS.c 8 rfl 0 rfl)
  have eb1 := cell_regrown (hS.c 8 rfl 1 rfl)
  have eb2 := cell_regrown (hS.c 8 rfl 2 rfl)
  have eb3 := cell_regrown (hS.c 8 rfl 3 rfl)
  have eb4 := cell_regrown (hS.c 8 rfl 4 rfl)
  have ec0 := cell_regrown (hS.c 9 rfl 0 rfl)
  have ec1 := cell_regrown (hS.c 9 rfl 1 rfl)
  have ec2 := cell_regrown (hS.c 9 rfl 2 rfl)
  have ec3 := cell_regrown (hS.c 9 rfl 3 rfl)
  have ec4 := cell_regrown (hS.c 9 rfl 4 rfl)
  have e1 : ∀ w, (binOp .eql 25 (iv false 0 0 0 0) (iv false 0 0 0 0)).run Tryd.prog w = .ok (.bool true) w := fun w => eqlInt _ _ _ _ _ _ _ _ _ _ w
  have e2 : ∀ w, (binOp .eql 25 (iv false 1 0 0 0) (iv false 1 0 0 0)).run Tryd.prog w = .ok (.bool true) w := fun w => eqlInt _ _ _ _ _ _ _ _ _ _ w
  have e3 : ∀ w, (binOp .neq 25 (iv false 1 0 0 0) (iv false 0 0 0 0)).run Tryd.prog w = .ok (.bool true) w := fun w => neqInt _ _ _ _ _ _ _ _ _ _ w
  have C1 := Lib.hid (fun d os => Calls.regrown_of (of_one (grow (redrawn W18 d) os)))
  have C4 := Lib.hid (fun k d os => Calls.regrown_of (num_any k (grow (redrawn W18 d) os)))
  have hb1 := Lib.hid hS.2
  clear hS
  refine wp_region_quiet_below (by kernel_rfl) (by kernel_rfl) ?_
  repeat (first | go_big_quiet_step ((first | with_reducible exact C1.out _ _ | with_reducible exact C4.out _ _ _)) | quiet_step ((first | with_reducible exact C1.out _ _ | with_reducible exact C4.out _ _ _)))
  refine wpQuiet_nil ?_
  intro _ hw'
  obtain ⟨⟨dq, osq⟩, hw''⟩ := hw'
  subst hw''
  go_wp2
  go_ret
  exact ⟨rfl, hb1.out.trans ((below_regrown W18 dq osq).mono hb1.out.size)⟩
set_option maxRecDepth 100000 in
set_option maxHeartbeats 8000000 in
theorem divides_yes (s t sq sr sp sd sx su : Bool) (a0 a1 a2 a3 b0 b1 b2 b3 q0 q1 q2 q3 r0 r1 r2 r3 p0 p1 p2 p3 d0 d1 d2 d3 x0 x1 x2 x3 u0 u1 u2 u3 : Int) (w : World) (hQ : (∀ W, Calls Tryd.prog 30 #[iv s a0 a1 a2 a3, iv t b0 b1 b2 b3] W fun e w' => e = .returned (.tuple #[iv sq q0 q1 q2 q3, iv sr r0 r1 r2 r3, .int .i64 0]) ∧ Below W.heap.size W w')) (hM : (∀ b c W, Row W b [.bool sq, .int .u64 q0, .int .u64 q1, .int .u64 q2, .int .u64 q3, .bool t, .int .u64 b0, .int .u64 b1, .int .u64 b2, .int .u64 b3] → Calls Tryd.prog 23 #[.slice (some ⟨b, 0, none⟩) 2 c] W fun e w' => e = .returned (.tuple #[iv sp p0 p1 p2 p3, .int .i64 0]) ∧ Below W.heap.size W w')) (hA : (∀ b c W, Row W b [.bool sp, .int .u64 p0, .int .u64 p1, .int .u64 p2, .int .u64 p3, .bool sr, .int .u64 r0, .int .u64 r1, .int .u64 r2, .int .u64 r3] → Calls Tryd.prog 22 #[.slice (some ⟨b, 0, none⟩) 2 c] W fun e w' => e = .returned (.tuple #[iv s a0 a1 a2 a3, .int .i64 0]) ∧ Below W.heap.size W w')) (hC : (∀ W, Calls Tryd.prog 34 #[iv false r0 r1 r2 r3, iv false b0 b1 b2 b3] W fun e w' => e = .returned (.tuple #[.int .i64 (-1), .int .i64 0]) ∧ Below W.heap.size W w')) (hT : DTail w s false sd sx su a0 a1 a2 a3 b0 b1 b2 b3 d0 d1 d2 d3 x0 x1 x2 x3 u0 u1 u2 u3) :
    Calls Tryd.prog 41 #[iv s a0 a1 a2 a3, iv t b0 b1 b2 b3] w fun e w' => e = .returned (.bool true) ∧ Below w.heap.size w w' := by
  have HQ := Lib.hid hQ
  have HM := Lib.hid hM
  have HA := Lib.hid hA
  have HC := Lib.hid hC
  have HT := Lib.hid hT
  clear hQ hM hA hC hT
  go_enter Tryd.func41, Tryd.ntmps41
  go_wp2_with fail
  have hS : RS w [(w.heap.size, [.bool s, .int .u64 a0, .int .u64 a1, .int .u64 a2, .int .u64 a3]), (w.heap.size + 1, [.bool t, .int .u64 b0, .int .u64 b1, .int .u64 b2, .int .u64 b3])] _ :=
    ((RS.nil w).new (B := w.heap.size) rfl [.bool s, .int .u64 a0, .int .u64 a1, .int .u64 a2, .int .u64 a3] 25).new (B := w.heap.size + 1) (by simp) [.bool t, .int .u64 b0, .int .u64 b1, .int .u64 b2, .int .u64 b3] 25
  generalize World.alloc _ _ = W0 at hS ⊢
  obtain ⟨hG, hDz, hQ1, hQ2, hG2⟩ := HT.out
  have HG := Lib.hid hG
  have HDz := Lib.hid hDz
  have HQ1 := Lib.hid hQ1
  have HQ2 := Lib.hid hQ2
  have HG2 := Lib.hid hG2
  clear hG hDz hQ1 hQ2 hG2 HT
  refine (HQ.out _).mono ?_
  rintro e w19 ⟨rfl, hb1⟩
  replace hS := hS.after hb1
  clear hb1
  have l1 := (hS.row 1 rfl).lt
  replace hS := hS.new (B := w19.heap.size) rfl [.bool sq, .int .u64 q0, .int .u64 q1, .int .u64 q2, .int .u64 q3] 25
  replace hS := hS.new (B := w19.heap.size + 1) (by simp) [.bool sr, .int .u64 r0, .int .u64 r1, .int .u64 r2, .int .u64 r3] 25
  go_wp2_with fail
  generalize World.alloc _ _ = W19 at hS ⊢
  generalize w19.heap.size = B19 at hS l1 ⊢
  refine (num_any _ _).mono ?_
  rintro e w20 ⟨rfl, hb1⟩
  replace hS := hS.after hb1
  clear hb1
  have ea0 := hS.c 2 rfl 0 rfl
  have ea1 := hS.c 2 rfl 1 rfl
  have ea2 := hS.c 2 rfl 2 rfl
  have ea3 := hS.c 2 rfl 3 rfl
  have ea4 := hS.c 2 rfl 4 rfl
  have eb0 := hS.c 1 rfl 0 rfl
  have eb1 := hS.c 1 rfl 1 rfl
  have eb2 := hS.c 1 rfl 2 rfl
  have eb3 := hS.c 1 rfl 3 rfl
  have eb4 := hS.c 1 rfl 4 rfl
  replace hS := hS.new (B := w20.heap.size) rfl [.bool sq, .int .u64 q0, .int .u64 q1, .int .u64 q2, .int .u64 q3, .bool t, .int .u64 b0, .int .u64 b1, .int .u64 b2, .int .u64 b3] 25
  go_wp2_with fail
  clear ea0 ea1 ea2 ea3 ea4 eb0 eb1 eb2 eb3 eb4
  generalize World.alloc _ _ = W20 at hS ⊢
  generalize w20.heap.size = B20 at hS ⊢
  refine (HM.out _ _ _ (hS.row 4 rfl)).mono ?_
  rintro e w21 ⟨rfl, hb1⟩
  replace hS := hS.after hb1
  clear hb1
  replace hS := hS.new (B := w21.heap.size) rfl [.bool sp, .int .u64 p0, .int .u64 p1, .int .u64 p2, .int .u64 p3] 25
  have ea0 := hS.c 5 rfl 0 rfl
  have ea1 := hS.c 5 rfl 1 rfl
  have ea2 := hS.c 5 rfl 2 rfl
  have ea3 := hS.c 5 rfl 3 rfl
  have ea4 := hS.c 5 rfl 4 rfl
  have eb0 := hS.c 3 rfl 0 rfl
  have eb1 := hS.c 3 rfl 1 rfl
  have eb2 := hS.c 3 rfl 2 rfl
  have eb3 := hS.c 3 rfl 3 rfl
  have eb4 := hS.c 3 rfl 4 rfl
  replace hS := hS.new (B := w21.heap.size + 1) (by simp) [.bool sp, .int .u64 p0, .int .u64 p1, .int .u64 p2, .int .u64 p3, .bool sr, .int .u64 r0, .int .u64 r1, .int .u64 r2, .int .u64 r3] 25
  go_wp2_with fail
  clear ea0 ea1 ea2 ea3 ea4 eb0 eb1 eb2 eb3 eb4
  generalize World.alloc _ _ = W21 at hS ⊢
  generalize w21.heap.size = B21 at hS ⊢
  refine (HA.out _ _ _ (hS.row 6 rfl)).mono ?_
  rintro e w22 ⟨rfl, hb1⟩
  replace hS := hS.after hb1
  clear hb1
  have l2 := (hS.row 3 rfl).lt
  have n1 : ¬ B19 = w.heap.size := by omega
  have n2 : ¬ w.heap.size = B19 := by omega
  have ea0 := hS.c 3 rfl 0 rfl
  have ea1 := hS.c 3 rfl 1 rfl
  have ea2 := hS.c 3 rfl 2 rfl
  have ea3 := hS.c 3 rfl 3 rfl
  have ea4 := hS.c 3 rfl 4 rfl
  have eb0 := hS.c 1 rfl 0 rfl
  have eb1 := hS.c 1 rfl 1 rfl
  have eb2 := hS.c 1 rfl 2 rfl
  have eb3 := hS.c 1 rfl 3 rfl
  have eb4 := hS.c 1 rfl 4 rfl
  have fa := (hS.row 3 rfl).f 0 rfl
  have fb := (hS.row 1 rfl).f 0 rfl
  have l3 := (hS.row 1 rfl).lt
  go_wp2_with fail
  clear ea0 ea1 ea2 ea3 ea4 eb0 eb1 eb2 eb3 eb4
  clear fa fb n1 n2
  have ra := hS.row 0 rfl
  have rb := hS.row 1 rfl
  have rr := hS.row 3 rfl
  have hb := hS.2
  have hS2 : RS w [(w.heap.size, [.bool s, .int .u64 a0, .int .u64 a1, .int .u64 a2, .int .u64 a3]), (w.heap.size + 1, [.bool false, .int .u64 b0, .int .u64 b1, .int .u64 b2, .int .u64 b3]), (B19 + 1, [.bool false, .int .u64 r0, .int .u64 r1, .int .u64 r2, .int .u64 r3])] ((w22.setCell ⟨B19 + 1, 0, none⟩ (.bool false)).setCell ⟨w.heap.size + 1, 0, none⟩ (.bool false)) := by
    refine ⟨fun p hp => ?_, below_put1 (below_put1 hb (by omega) _ _) (by omega) _ _⟩
    rcases List.mem_cons.1 hp with rfl | hp
    · exact (ra.other (p := ⟨B19 + 1, 0, none⟩) (by show B19 + 1 ≠ w.heap.size; omega) _).other (p := ⟨w.heap.size + 1, 0, none⟩) (by show w.heap.size + 1 ≠ w.heap.size; omega) _
    · rcases List.mem_cons.1 hp with rfl | hp
      · exact (rb.other (p := ⟨B19 + 1, 0, none⟩) (by show B19 + 1 ≠ w.heap.size + 1; omega) _).set 0 (by simp) _
      · obtain rfl := List.mem_singleton.1 hp
        exact (rr.set 0 (by simp) _).other (p := ⟨w.heap.size + 1, 0, none⟩) (by show w.heap.size + 1 ≠ B19 + 1; omega) _
  replace hS := hS2.new (B := w22.heap.size) (by simp [World.setCell]) [.bool s, .int .u64 a0, .int .u64 a1, .int .u64 a2, .int .u64 a3] 25
  clear hS2 ra rb rr hb l1 l2 l3
  generalize World.alloc _ _ = W22 at hS ⊢
  generalize w22.heap.size = B22 at hS ⊢
  refine (HC.out _).mono ?_
  rintro e w23 ⟨rfl, hb1⟩
  replace hS := hS.after hb1
  clear hb1
  go_wp2_with fail
  refine (num_any _ _).mono ?_
  rintro e w24 ⟨rfl, hb1⟩
  replace hS := hS.after hb1
  clear hb1
  go_wp2_with fail
  refine (num_any _ _).mono ?_
  rintro e w25 ⟨rfl, hb1⟩
  replace hS := hS.after hb1
  clear hb1
  go_wp2_with fail
  refine (num_any _ _).mono ?_
  rintro e w26 ⟨rfl, hb1⟩
  replace hS := hS.after hb1
  clear hb1
  have ea0 := hS.c 3 rfl 0 rfl
  have ea1 := hS.c 3 rfl 1 rfl
  have ea2 := hS.c 3 rfl 2 rfl
  have ea3 := hS.c 3 rfl 3 rfl
  have ea4 := hS.c 3 rfl 4 rfl
  have eb0 := hS.c 0 rfl 0 rfl
  have eb1 := hS.c 0 rfl 1 rfl
  have eb2 := hS.c 0 rfl 2 rfl
  have eb3 := hS.c 0 rfl 3 rfl
  have eb4 := hS.c 0 rfl 4 rfl
  have ec0 := hS.c 1 rfl 0 rfl
  have ec1 := hS.c 1 rfl 1 rfl
  have ec2 := hS.c 1 rfl 2 rfl
  have ec3 := hS.c 1 rfl 3 rfl
  have ec4 := hS.c 1 rfl 4 rfl
  have hT := (show ∀ W : World, (binOp .neq 25 (iv s a0 a1 a2 a3) (iv s a0 a1 a2 a3)).run Tryd.prog W = .ok (.bool false) W from fun W => by rw [neqInt]; simp)
  go_wp2_with fail
  clear ea0 ea1 ea2 ea3 ea4 eb0 eb1 eb2 eb3 eb4 ec0 ec1 ec2 ec3 ec4
  clear hT
  refine (HG.out _ hS.2).mono ?_
  rintro e w27 ⟨rfl, hb1⟩
  replace hS := hS.after hb1
  clear hb1
  replace hS := hS.new (B := w27.heap.size) rfl [.bool sd, .int .u64 d0, .int .u64 d1, .int .u64 d2, .int .u64 d3] 25
  go_wp2_with fail
  generalize World.alloc _ _ = W27 at hS ⊢
  generalize w27.heap.size = B27 at hS ⊢
  refine (num_any _ _).mono ?_
  rintro e w28 ⟨rfl, hb1⟩
  replace hS := hS.after hb1
  clear hb1
  have ea0 := hS.c 4 rfl 0 rfl
  have ea1 := hS.c 4 rfl 1 rfl
  have ea2 := hS.c 4 rfl 2 rfl
  have ea3 := hS.c 4 rfl 3 rfl
  have ea4 := hS.c 4 rfl 4 rfl
  have eb0 := hS.c 0 rfl 0 rfl
  have eb1 := hS.c 0 rfl 1 rfl
  have eb2 := hS.c 0 rfl 2 rfl
  have eb3 := hS.c 0 rfl 3 rfl
  have eb4 := hS.c 0 rfl 4 rfl
  have hDz := HDz.out
  go_wp2_with fail
  clear ea0 ea1 ea2 ea3 ea4 eb0 eb1 eb2 eb3 eb4
  clear hDz
  refine (HQ1.out _).mono ?_
  rintro e w29 ⟨rfl, hb1⟩
  replace hS := hS.after hb1
  clear hb1
  replace hS := hS.new (B := w29.heap.size) rfl [.bool sx, .int .u64 x0, .int .u64 x1, .int .u64 x2, .int .u64 x3] 25
  replace hS := hS.new (B := w29.heap.size + 1) (by simp) [.bool false, .int .u64 0, .int .u64 0, .int .u64 0, .int .u64 0] 25
  have ea0 := hS.c 1 rfl 0 rfl
  have ea1 := hS.c 1 rfl 1 rfl
  have ea2 := hS.c 1 rfl 2 rfl
  have ea3 := hS.c 1 rfl 3 rfl
  have ea4 := hS.c 1 rfl 4 rfl
  have eb0 := hS.c 4 rfl 0 rfl
  have eb1 := hS.c 4 rfl 1 rfl
  have eb2 := hS.c 4 rfl 2 rfl
  have eb3 := hS.c 4 rfl 3 rfl
  have eb4 := hS.c 4 rfl 4 rfl
  go_wp2_with fail
  clear ea0 ea1 ea2 ea3 ea4 eb0 eb1 eb2 eb3 eb4
  generalize World.alloc _ _ = W29 at hS ⊢
  generalize w29.heap.size = B29 at hS ⊢
  refine (HQ2.out _).mono ?_
  rintro e w30 ⟨rfl, hb1⟩
  replace hS := hS.after hb1
  clear hb1
  replace hS := hS.new (B := w30.heap.size) rfl [.bool su, .int .u64 u0, .int .u64 u1, .int .u64 u2, .int .u64 u3] 25
  replace hS := hS.new (B := w30.heap.size + 1) (by simp) [.bool false, .int .u64 0, .int .u64 0, .int .u64 0, .int .u64 0] 25
  have ea0 := hS.c 5 rfl 0 rfl
  have ea1 := hS.c 5 rfl 1 rfl
  have ea2 := hS.c 5 rfl 2 rfl
  have ea3 := hS.c 5 rfl 3 rfl
  have ea4 := hS.c 5 rfl 4 rfl
  have eb0 := hS.c 7 rfl 0 rfl
  have eb1 := hS.c 7 rfl 1 rfl
  have eb2 := hS.c 7 rfl 2 rfl
  have eb3 := hS.c 7 rfl 3 rfl
  have eb4 := hS.c 7 rfl 4 rfl
  go_wp2_with fail
  clear ea0 ea1 ea2 ea3 ea4 eb0 eb1 eb2 eb3 eb4
  generalize World.alloc _ _ = W30 at hS ⊢
  generalize w30.heap.size = B30 at hS ⊢
  refine (HG2.out _ hS.2).mono ?_
  rintro e w31 ⟨rfl, hb1⟩
  replace hS := hS.after hb1
  clear hb1
  replace hS := hS.new (B := w31.heap.size) rfl [.bool false, .int .u64 1, .int .u64 0, .int .u64 0, .int .u64 0] 25
  go_wp2_with fail
  generalize World.alloc _ _ = W31 at hS ⊢
  generalize w31.heap.size = B31 at hS ⊢
  have ea0 := cell_regrown (hS.c 6 rfl 0 rfl)
  have ea1 := cell_regrown (hS.c 6 rfl 1 rfl)
  have ea2 := cell_regrown (hS.c 6 rfl 2 rfl)
  have ea3 := cell_regrown (hS.c 6 rfl 3 rfl)
  have ea4 := cell_regrown (hS.c 6 rfl 4 rfl)
  have eb0 := cell_regrown (hS.c 8 rfl 0 rfl)
  have eb1 := cell_regrown (hS.c 8 rfl 1 rfl)
  have eb2 := cell_regrown (hS.c 8 rfl 2 rfl)
  have eb3 := cell_regrown (hS.c 8 rfl 3 rfl)
  have eb4 := cell_regrown (hS.c 8 rfl 4 rfl)
  have ec0 := cell_regrown (hS.c 9 rfl 0 rfl)
  have ec1 := cell_regrown (hS.c 9 rfl 1 rfl)
  have ec2 := cell_regrown (hS.c 9 rfl 2 rfl)
  have ec3 := cell_regrown (hS.c 9 rfl 3 rfl)
  have ec4 := cell_regrown (hS.c 9 rfl 4 rfl)
  have e1 : ∀ w, (binOp .eql 25 (iv false 0 0 0 0) (iv false 0 0 0 0)).run Tryd.prog w = .ok (.bool true) w := fun w => eqlInt _ _ _ _ _ _ _ _ _ _ w
  have e2 : ∀ w, (binOp .eql 25 (iv false 1 0 0 0) (iv false 1 0 0 0)).run Tryd.prog w = .ok (.bool true) w := fun w => eqlInt _ _ _ _ _ _ _ _ _ _ w
  have e3 : ∀ w, (binOp .neq 25 (iv false 1 0 0 0) (iv false 0 0 0 0)).run Tryd.prog w = .ok (.bool true) w := fun w => neqInt _ _ _ _ _ _ _ _ _ _ w
  have C1 := Lib.hid (fun d os => Calls.regrown_of (of_one (grow (redrawn W31 d) os)))
  have C4 := Lib.hid (fun k d os => Calls.regrown_of (num_any k (grow (redrawn W31 d) os)))
  have hb1 := Lib.hid hS.2
  clear hS
  refine wp_region_quiet_below (by kernel_rfl) (by kernel_rfl) ?_
  repeat (first | go_big_quiet_step ((first | with_reducible exact C1.out _ _ | with_reducible exact C4.out _ _ _)) | quiet_step ((first | with_reducible exact C1.out _ _ | with_reducible exact C4.out _ _ _)))
  refine wpQuiet_nil ?_
  intro _ hw'
  obtain ⟨⟨dq, osq⟩, hw''⟩ := hw'
  subst hw''
  go_wp2
  go_ret
  exact ⟨rfl, hb1.out.trans ((below_regrown W31 dq osq).mono hb1.out.size)⟩
end Go.Proofs.YtpbdhhdmnnelhaaDoor
