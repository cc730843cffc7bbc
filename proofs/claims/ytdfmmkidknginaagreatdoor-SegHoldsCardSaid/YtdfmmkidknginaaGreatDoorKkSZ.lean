import Derived.Test.YtdfmmkidknginaaGreatDoorZKkZG
namespace Go.Proofs.YtdfmmkidknginaaGreatDoor
open Go.RowKit Go.Sort CrossMath

theorem eqlE (a b c d : Int) (W : World) : (binOp .eql 25 (.agg #[.int .i64 a, .int .i64 b, .int .i64 c, .int .i64 d]) (.agg #[.int .i64 a, .int .i64 b, .int .i64 c, .int .i64 d])).run Tryz.prog W = .ok (.bool true) W := by
 have u := Tryz.underlying25
 rw [run_eql_struct]
 go_simp
attribute [local irreducible] wpQuiet
set_option maxRecDepth 100000 in
set_option maxHeartbeats 600000 in
theorem same_core (ax ay bx bY cx cy dx dY lx ly mx mY : Int) (w : World)
 (H1 : Hid (∀ W, Calls Tryz.prog 11 #[.agg (segA ax ay bx bY)] W fun e w' => e = .returned (.tuple #[.agg (segA lx ly mx mY), .int .i64 0]) ∧ Below W.heap.size W w'))
 (H2 : Hid (∀ W, Calls Tryz.prog 11 #[.agg (segA cx cy dx dY)] W fun e w' => e = .returned (.tuple #[.agg (segA lx ly mx mY), .int .i64 0]) ∧ Below W.heap.size W w')) :
 Calls Tryz.prog 28 #[.agg (segA ax ay bx bY), .agg (segA cx cy dx dY)] w fun e w' => e = .returned (.bool true) ∧ Below w.heap.size w w' := by
 have rS : Row ((w.alloc (.cells (segA ax ay bx bY) 25)).alloc (.cells (segA cx cy dx dY) 25)) w.heap.size [.int .i64 ax, .int .i64 ay, .int .i64 bx, .int .i64 bY] := (Row.at rfl (segA ax ay bx bY).toList _).alloc _
 have rC : Row ((w.alloc (.cells (segA ax ay bx bY) 25)).alloc (.cells (segA cx cy dx dY) 25)) (w.heap.size + 1) [.int .i64 cx, .int .i64 cy, .int .i64 dx, .int .i64 dY] := Row.at (by simp) (segA cx cy dx dY).toList _
 have hB : Below w.heap.size w ((w.alloc (.cells (segA ax ay bx bY) 25)).alloc (.cells (segA cx cy dx dY) 25)) := ((Below.refl w.heap.size w).alloc (Nat.le_refl _) _).alloc (by simp) _
 go_enter Tryz.func28, Tryz.ntmps28
 have a0 := rS.c 0 rfl
 have a1 := rS.c 1 rfl
 have a2 := rS.c 2 rfl
 have a3 := rS.c 3 rfl
 have c0 := rC.c 0 rfl
 have c1 := rC.c 1 rfl
 have c2 := rC.c 2 rfl
 have c3 := rC.c 3 rfl
 go_wp2_with fail
 refine (H1.out _).mono ?_
 rintro e w1 ⟨rfl, hb⟩
 clear a0 a1 a2 a3 c0 c1 c2 c3
 replace rS := rS.after hb
 replace rC := rC.after hb
 replace hB := hB.trans (hb.mono hB.size)
 clear hb
 go_upto_region 2 with fail
 generalize hW : World.alloc _ _ = w2
 have rL : Row w2 w1.heap.size [.int .i64 lx, .int .i64 ly, .int .i64 mx, .int .i64 mY] := by rw [← hW]; exact Row.at rfl [.int .i64 lx, .int .i64 ly, .int .i64 mx, .int .i64 mY] _
 have hb : Below w1.heap.size w1 w2 := by rw [← hW]; exact (Below.refl _ _).alloc (Nat.le_refl _) _
 clear hW
 replace rS := rS.after hb
 replace rC := rC.after hb
 replace hB := hB.trans (hb.mono hB.size)
 clear hb
 generalize w1.heap.size = l at *
 have a0 := rS.c 0 rfl
 have a1 := rS.c 1 rfl
 have a2 := rS.c 2 rfl
 have a3 := rS.c 3 rfl
 have c0 := rC.c 0 rfl
 have c1 := rC.c 1 rfl
 have c2 := rC.c 2 rfl
 have c3 := rC.c 3 rfl
 go_wp2_with fail
 refine (H2.out _).mono ?_
 rintro e w3 ⟨rfl, hb⟩
 clear a0 a1 a2 a3 c0 c1 c2 c3
 replace rS := rS.after hb
 replace rC := rC.after hb
 replace rL := rL.after hb
 replace hB := hB.trans (hb.mono hB.size)
 clear hb
 go_upto_region 3 with fail
 generalize hW : World.alloc _ _ = w4
 have rM : Row w4 w3.heap.size [.int .i64 lx, .int .i64 ly, .int .i64 mx, .int .i64 mY] := by rw [← hW]; exact Row.at rfl [.int .i64 lx, .int .i64 ly, .int .i64 mx, .int .i64 mY] _
 have hb : Below w3.heap.size w3 w4 := by rw [← hW]; exact (Below.refl _ _).alloc (Nat.le_refl _) _
 clear hW
 replace rS := rS.after hb
 replace rC := rC.after hb
 replace rL := rL.after hb
 replace hB := hB.trans (hb.mono hB.size)
 clear hb
 generalize w3.heap.size = m at *
 have y0 := rL.c 0 rfl
 have y1 := rL.c 1 rfl
 have y2 := rL.c 2 rfl
 have y3 := rL.c 3 rfl
 have z0 := rM.c 0 rfl
 have z1 := rM.c 1 rfl
 have z2 := rM.c 2 rfl
 have z3 := rM.c 3 rfl
 have nz := eqlE lx ly mx mY
 go_wp2_with fail
 go_ret
 exact ⟨rfl, hB⟩
set_option maxRecDepth 100000 in
set_option maxHeartbeats 6400000 in
theorem holds4_no (ax ay bx bY cx cy x z er : Int) (hz : IntKind.i64.wrap (-z) = x) (P : Array Value) (_gP : AggTy Tryz.prog 46 P.size) (w : World)
 (T1 : Hid (∀ W, Calls Tryz.prog 10 #[.agg (nodeA ax ay), .agg (nodeA bx bY), .agg (nodeA cx cy)] W fun e w' => e = .returned (.tuple #[.int .i64 x, .int .i64 er]) ∧ Below W.heap.size W w'))
 (T2 : Hid (∀ W, Calls Tryz.prog 10 #[.agg (nodeA bx bY), .agg (nodeA cx cy), .agg (nodeA ax ay)] W fun e w' => e = .returned (.tuple #[.int .i64 x, .int .i64 er]) ∧ Below W.heap.size W w'))
 (T3 : Hid (∀ W, Calls Tryz.prog 10 #[.agg (nodeA bx bY), .agg (nodeA ax ay), .agg (nodeA cx cy)] W fun e w' => e = .returned (.tuple #[.int .i64 z, .int .i64 er]) ∧ Below W.heap.size W w'))
 (HC : Hid (∀ W, Calls Tryz.prog 14 #[.agg (segA ax ay bx bY)] W fun e w' => e = .returned (.int .i64 2) ∧ Below W.heap.size W w'))
 (HW : Hid (∀ W, Below w.heap.size w W → Calls Tryz.prog 17 #[] W fun e w' => e = .returned (.bool true) ∧ Below W.heap.size W w')) :
 Calls Tryz.prog 7 #[.agg (segA ax ay bx bY), .agg (nodeA cx cy), .agg P] w fun e w' => e = .returned (.bool true) ∧ Below w.heap.size w w' := by
 have rS : Row (((w.alloc (.cells (segA ax ay bx bY) 25)).alloc (.cells (nodeA cx cy) 23)).alloc (.cells P 46)) w.heap.size [.int .i64 ax, .int .i64 ay, .int .i64 bx, .int .i64 bY] := ((Row.at rfl (segA ax ay bx bY).toList _).alloc _).alloc _
 have rC : Row (((w.alloc (.cells (segA ax ay bx bY) 25)).alloc (.cells (nodeA cx cy) 23)).alloc (.cells P 46)) (w.heap.size + 1) [.int .i64 cx, .int .i64 cy] := (Row.at (by simp) (nodeA cx cy).toList _).alloc _
 have rP : Row (((w.alloc (.cells (segA ax ay bx bY) 25)).alloc (.cells (nodeA cx cy) 23)).alloc (.cells P 46)) (w.heap.size + 1 + 1) P.toList := Row.at (by simp) P.toList _
 have hB : Below w.heap.size w (((w.alloc (.cells (segA ax ay bx bY) 25)).alloc (.cells (nodeA cx cy) 23)).alloc (.cells P 46)) := (((Below.refl w.heap.size w).alloc (Nat.le_refl _) _).alloc (by simp) _).alloc (by simp; omega) _
 go_enter Tryz.func7, Tryz.ntmps7
 have a0 := rS.c 0 rfl
 have a1 := rS.c 1 rfl
 have a2 := rS.c 2 rfl
 have a3 := rS.c 3 rfl
 have c0 := rC.c 0 rfl
 have c1 := rC.c 1 rfl
 go_wp2_with fail
 refine (T1.out _).mono ?_
 rintro e w1 ⟨rfl, hb⟩
 clear a0 a1 a2 a3 c0 c1
 replace rS := rS.after hb
 replace rC := rC.after hb
 replace rP := rP.after hb
 replace hB := hB.trans (hb.mono hB.size)
 clear hb
 have a0 := rS.c 0 rfl
 have a1 := rS.c 1 rfl
 have a2 := rS.c 2 rfl
 have a3 := rS.c 3 rfl
 have c0 := rC.c 0 rfl
 have c1 := rC.c 1 rfl
 go_wp2_with fail
 refine (T2.out _).mono ?_
 rintro e w2 ⟨rfl, hb⟩
 clear a0 a1 a2 a3 c0 c1
 replace rS := rS.after hb
 replace rC := rC.after hb
 replace rP := rP.after hb
 replace hB := hB.trans (hb.mono hB.size)
 clear hb
 have a0 := rS.c 0 rfl
 have a1 := rS.c 1 rfl
 have a2 := rS.c 2 rfl
 have a3 := rS.c 3 rfl
 have c0 := rC.c 0 rfl
 have c1 := rC.c 1 rfl
 go_wp2_with fail
 refine (T3.out _).mono ?_
 rintro e w3 ⟨rfl, hb⟩
 clear a0 a1 a2 a3 c0 c1
 replace rS := rS.after hb
 replace rC := rC.after hb
 replace rP := rP.after hb
 replace hB := hB.trans (hb.mono hB.size)
 clear hb
 have a0 := rS.c 0 rfl
 have a1 := rS.c 1 rfl
 have a2 := rS.c 2 rfl
 have a3 := rS.c 3 rfl
 have c0 := rC.c 0 rfl
 have c1 := rC.c 1 rfl
 go_wp2_with fail
 refine (HC.out _).mono ?_
 rintro e w4 ⟨rfl, hb⟩
 clear a0 a1 a2 a3 c0 c1
 replace rS := rS.after hb
 replace rC := rC.after hb
 replace rP := rP.after hb
 replace hB := hB.trans (hb.mono hB.size)
 clear hb
 have a0 := rS.c 0 rfl
 have a1 := rS.c 1 rfl
 have a2 := rS.c 2 rfl
 have a3 := rS.c 3 rfl
 have c0 := rC.c 0 rfl
 have c1 := rC.c 1 rfl
 go_wp2_with fail
 refine (num4_any _ _).mono ?_
 rintro e w5 ⟨rfl, hb⟩
 clear a0 a1 a2 a3 c0 c1
 replace rS := rS.after hb
 replace rC := rC.after hb
 replace rP := rP.after hb
 replace hB := hB.trans (hb.mono hB.size)
 clear hb
 have a0 := rS.c 0 rfl
 have a1 := rS.c 1 rfl
 have a2 := rS.c 2 rfl
 have a3 := rS.c 3 rfl
 have c0 := rC.c 0 rfl
 have c1 := rC.c 1 rfl
 go_wp2_with fail
 refine (HW.out _ hB).mono ?_
 rintro e w6 ⟨rfl, hb⟩
 clear a0 a1 a2 a3 c0 c1
 replace rS := rS.after hb
 replace rC := rC.after hb
 replace rP := rP.after hb
 replace hB := hB.trans (hb.mono hB.size)
 clear hb
 have a0 := rS.c 0 rfl
 have a1 := rS.c 1 rfl
 have a2 := rS.c 2 rfl
 have a3 := rS.c 3 rfl
 have c0 := rC.c 0 rfl
 have c1 := rC.c 1 rfl
 go_wp2_with fail
 go_ret
 exact ⟨rfl, hB⟩
set_option maxRecDepth 100000 in
set_option maxHeartbeats 6400000 in
theorem holds4_yes (lx ly mx mY v eo : Int) (b : Bool) (hbv : b = true → v = 0) (tx : ByteArray) (D1 D2 : Array Value) (ax ay bx bY cx cy x z er : Int) (hz : IntKind.i64.wrap (-z) = x) (P : Array Value) (gP : AggTy Tryz.prog 46 P.size) (w : World)
 (T1 : Hid (∀ W, Calls Tryz.prog 10 #[.agg (nodeA ax ay), .agg (nodeA bx bY), .agg (nodeA cx cy)] W fun e w' => e = .returned (.tuple #[.int .i64 x, .int .i64 er]) ∧ Below W.heap.size W w'))
 (T2 : Hid (∀ W, Calls Tryz.prog 10 #[.agg (nodeA bx bY), .agg (nodeA cx cy), .agg (nodeA ax ay)] W fun e w' => e = .returned (.tuple #[.int .i64 x, .int .i64 er]) ∧ Below W.heap.size W w'))
 (T3 : Hid (∀ W, Calls Tryz.prog 10 #[.agg (nodeA bx bY), .agg (nodeA ax ay), .agg (nodeA cx cy)] W fun e w' => e = .returned (.tuple #[.int .i64 z, .int .i64 er]) ∧ Below W.heap.size W w'))
 (HC : Hid (∀ W, Calls Tryz.prog 14 #[.agg (segA ax ay bx bY)] W fun e w' => e = .returned (.int .i64 0) ∧ Below W.heap.size W w'))
 (A1 : Hid (∀ W, Calls Tryz.prog 31 #[.int .i64 ax, .int .i64 ay] W fun e w' => e = .returned (.agg D1) ∧ Below W.heap.size W w'))
 (A2 : Hid (∀ W, Calls Tryz.prog 31 #[.int .i64 bx, .int .i64 bY] W fun e w' => e = .returned (.agg D2) ∧ Below W.heap.size W w'))
 (O1 : Hid (∀ W, Below w.heap.size w W → Calls Tryz.prog 20 #[.agg (segA ax ay bx bY), .agg D1] W fun e w' => e = .returned (.tuple #[.bool true, .int .i64 0]) ∧ Below W.heap.size W w'))
 (O2 : Hid (∀ W, Below w.heap.size w W → Calls Tryz.prog 20 #[.agg (segA ax ay bx bY), .agg D2] W fun e w' => e = .returned (.tuple #[.bool true, .int .i64 0]) ∧ Below W.heap.size W w'))
 (HL : Hid (∀ W, Calls Tryz.prog 11 #[.agg (segA ax ay bx bY)] W fun e w' => e = .returned (.tuple #[.agg (segA lx ly mx mY), .int .i64 0]) ∧ Below W.heap.size W w'))
 (HX : Hid (∀ W, Below w.heap.size w W → Calls Tryz.prog 25 #[.agg (segA ax ay bx bY)] W fun e w' => e = .returned (.tuple #[.string tx, .int .i64 0]) ∧ Below W.heap.size W w'))
 (HR : Hid (∀ W, Below w.heap.size w W → Calls Tryz.prog 26 #[.string tx] W fun e w' => e = .returned (.tuple #[.agg (segA ax ay bx bY), .int .i64 0]) ∧ Below W.heap.size W w'))
 (HS : Hid (∀ W, Calls Tryz.prog 28 #[.agg (segA lx ly mx mY), .agg (segA ax ay bx bY)] W fun e w' => e = .returned (.bool true) ∧ Below W.heap.size W w'))
 (O3 : Hid (∀ W, Below w.heap.size w W → Calls Tryz.prog 20 #[.agg (segA ax ay bx bY), .agg P] W fun e w' => e = .returned (.tuple #[.bool b, .int .i64 eo]) ∧ Below W.heap.size W w'))
 (O4 : Hid (∀ W, Below w.heap.size w W → Calls Tryz.prog 20 #[.agg (segA lx ly mx mY), .agg P] W fun e w' => e = .returned (.tuple #[.bool b, .int .i64 eo]) ∧ Below W.heap.size W w'))
 (HD : Hid (∀ W, Below w.heap.size w W → Calls Tryz.prog 19 #[.agg (segA ax ay bx bY), .agg P] W fun e w' => e = .returned (.tuple #[.int .i64 v, .int .i64 eo]) ∧ Below W.heap.size W w'))
 (HW : Hid (∀ W, Below w.heap.size w W → Calls Tryz.prog 17 #[] W fun e w' => e = .returned (.bool true) ∧ Below W.heap.size W w')) :
 Calls Tryz.prog 7 #[.agg (segA ax ay bx bY), .agg (nodeA cx cy), .agg P] w fun e w' => e = .returned (.bool true) ∧ Below w.heap.size w w' := by
 have rS : Row (((w.alloc (.cells (segA ax ay bx bY) 25)).alloc (.cells (nodeA cx cy) 23)).alloc (.cells P 46)) w.heap.size [.int .i64 ax, .int .i64 ay, .int .i64 bx, .int .i64 bY] := ((Row.at rfl (segA ax ay bx bY).toList _).alloc _).alloc _
 have rC : Row (((w.alloc (.cells (segA ax ay bx bY) 25)).alloc (.cells (nodeA cx cy) 23)).alloc (.cells P 46)) (w.heap.size + 1) [.int .i64 cx, .int .i64 cy] := (Row.at (by simp) (nodeA cx cy).toList _).alloc _
 have rP : Row (((w.alloc (.cells (segA ax ay bx bY) 25)).alloc (.cells (nodeA cx cy) 23)).alloc (.cells P 46)) (w.heap.size + 1 + 1) P.toList := Row.at (by simp) P.toList _
 have hB : Below w.heap.size w (((w.alloc (.cells (segA ax ay bx bY) 25)).alloc (.cells (nodeA cx cy) 23)).alloc (.cells P 46)) := (((Below.refl w.heap.size w).alloc (Nat.le_refl _) _).alloc (by simp) _).alloc (by simp; omega) _
 go_enter Tryz.func7, Tryz.ntmps7
 have a0 := rS.c 0 rfl
 have a1 := rS.c 1 rfl
 have a2 := rS.c 2 rfl
 have a3 := rS.c 3 rfl
 have c0 := rC.c 0 rfl
 have c1 := rC.c 1 rfl
 go_wp2_with fail
 refine (T1.out _).mono ?_
 rintro e w1 ⟨rfl, hb⟩
 clear a0 a1 a2 a3 c0 c1
 replace rS := rS.after hb
 replace rC := rC.after hb
 replace rP := rP.after hb
 replace hB := hB.trans (hb.mono hB.size)
 clear hb
 have a0 := rS.c 0 rfl
 have a1 := rS.c 1 rfl
 have a2 := rS.c 2 rfl
 have a3 := rS.c 3 rfl
 have c0 := rC.c 0 rfl
 have c1 := rC.c 1 rfl
 go_wp2_with fail
 refine (T2.out _).mono ?_
 rintro e w2 ⟨rfl, hb⟩
 clear a0 a1 a2 a3 c0 c1
 replace rS := rS.after hb
 replace rC := rC.after hb
 replace rP := rP.after hb
 replace hB := hB.trans (hb.mono hB.size)
 clear hb
 have a0 := rS.c 0 rfl
 have a1 := rS.c 1 rfl
 have a2 := rS.c 2 rfl
 have a3 := rS.c 3 rfl
 have c0 := rC.c 0 rfl
 have c1 := rC.c 1 rfl
 go_wp2_with fail
 refine (T3.out _).mono ?_
 rintro e w3 ⟨rfl, hb⟩
 clear a0 a1 a2 a3 c0 c1
 replace rS := rS.after hb
 replace rC := rC.after hb
 replace rP := rP.after hb
 replace hB := hB.trans (hb.mono hB.size)
 clear hb
 have a0 := rS.c 0 rfl
 have a1 := rS.c 1 rfl
 have a2 := rS.c 2 rfl
 have a3 := rS.c 3 rfl
 have c0 := rC.c 0 rfl
 have c1 := rC.c 1 rfl
 go_wp2_with fail
 refine (HC.out _).mono ?_
 rintro e w4 ⟨rfl, hb⟩
 clear a0 a1 a2 a3 c0 c1
 replace rS := rS.after hb
 replace rC := rC.after hb
 replace rP := rP.after hb
 replace hB := hB.trans (hb.mono hB.size)
 clear hb
 have a0 := rS.c 0 rfl
 have a1 := rS.c 1 rfl
 have a2 := rS.c 2 rfl
 have a3 := rS.c 3 rfl
 have c0 := rC.c 0 rfl
 have c1 := rC.c 1 rfl
 go_wp2_with fail
 refine (num4_any _ _).mono ?_
 rintro e w5 ⟨rfl, hb⟩
 clear a0 a1 a2 a3 c0 c1
 replace rS := rS.after hb
 replace rC := rC.after hb
 replace rP := rP.after hb
 replace hB := hB.trans (hb.mono hB.size)
 clear hb
 clear T1 T2 T3 hz HC
 go_upto_region 8 with fail
 have a0 := cell_regrown (rS.c 0 rfl)
 have a1 := cell_regrown (rS.c 1 rfl)
 have a2 := cell_regrown (rS.c 2 rfl)
 have a3 := cell_regrown (rS.c 3 rfl)
 have C0 := Lib.hid (fun d os => Calls.regrown_of (A1.out (grow (redrawn w5 d) os)))
 have C1 := Lib.hid (fun d os => Calls.regrown_of (O1.out (grow (redrawn w5 d) os) (hB.trans ((below_regrown w5 d os).mono hB.size))))
 have KR := Lib.hid (And.intro hB (And.intro rS (And.intro rC (And.intro rP trivial))))
 clear hB rS rC rP
 refine wp_region_quiet_below (by kernel_rfl) (by kernel_rfl) ?_
 repeat (quiet_step ((first | with_reducible exact C0.out _ _ | with_reducible exact C1.out _ _)))
 refine wpQuiet_nil ?_
 intro _ hw'
 obtain ⟨⟨dq, osq⟩, hw''⟩ := hw'
 subst hw''
 clear a0 a1 a2 a3
 clear C0 C1
 obtain ⟨hB, rS, rC, rP, _⟩ := KR.out
 clear KR
 have hb := below_regrown w5 dq osq
 replace rS := rS.after hb
 replace rC := rC.after hb
 replace rP := rP.after hb
 replace hB := hB.trans (hb.mono hB.size)
 clear hb
 generalize grow (redrawn w5 dq) osq = w6 at *
 go_upto_region 9 with fail
 have a0 := cell_regrown (rS.c 0 rfl)
 have a1 := cell_regrown (rS.c 1 rfl)
 have a2 := cell_regrown (rS.c 2 rfl)
 have a3 := cell_regrown (rS.c 3 rfl)
 have C0 := Lib.hid (fun d os => Calls.regrown_of (A2.out (grow (redrawn w6 d) os)))
 have C1 := Lib.hid (fun d os => Calls.regrown_of (O2.out (grow (redrawn w6 d) os) (hB.trans ((below_regrown w6 d os).mono hB.size))))
 have KR := Lib.hid (And.intro hB (And.intro rS (And.intro rC (And.intro rP trivial))))
 clear hB rS rC rP
 refine wp_region_quiet_below (by kernel_rfl) (by kernel_rfl) ?_
 repeat (quiet_step ((first | with_reducible exact C0.out _ _ | with_reducible exact C1.out _ _)))
 refine wpQuiet_nil ?_
 intro _ hw'
 obtain ⟨⟨dq, osq⟩, hw''⟩ := hw'
 subst hw''
 clear a0 a1 a2 a3
 clear C0 C1
 obtain ⟨hB, rS, rC, rP, _⟩ := KR.out
 clear KR
 have hb := below_regrown w6 dq osq
 replace rS := rS.after hb
 replace rC := rC.after hb
 replace rP := rP.after hb
 replace hB := hB.trans (hb.mono hB.size)
 clear hb
 generalize grow (redrawn w6 dq) osq = w7 at *
 have a0 := rS.c 0 rfl
 have a1 := rS.c 1 rfl
 have a2 := rS.c 2 rfl
 have a3 := rS.c 3 rfl
 go_wp2_with fail
 refine (HL.out _).mono ?_
 rintro e w8 ⟨rfl, hb⟩
 clear a0 a1 a2 a3
 replace rS := rS.after hb
 replace rC := rC.after hb
 replace rP := rP.after hb
 replace hB := hB.trans (hb.mono hB.size)
 clear hb
 go_upto_region 11 with fail
 generalize hW : World.alloc _ _ = w9
 have rL : Row w9 w8.heap.size [.int .i64 lx, .int .i64 ly, .int .i64 mx, .int .i64 mY] := by rw [← hW]; exact Row.at rfl [.int .i64 lx, .int .i64 ly, .int .i64 mx, .int .i64 mY] _
 have hb : Below w8.heap.size w8 w9 := by rw [← hW]; exact (Below.refl _ _).alloc (Nat.le_refl _) _
 clear hW
 replace rS := rS.after hb
 replace rC := rC.after hb
 replace rP := rP.after hb
 replace hB := hB.trans (hb.mono hB.size)
 clear hb
 generalize w8.heap.size = l at *
 have a0 := rS.c 0 rfl
 have a1 := rS.c 1 rfl
 have a2 := rS.c 2 rfl
 have a3 := rS.c 3 rfl
 go_wp2_with fail
 refine (HX.out _ hB).mono ?_
 rintro e w10 ⟨rfl, hb⟩
 clear a0 a1 a2 a3
 replace rS := rS.after hb
 replace rC := rC.after hb
 replace rP := rP.after hb
 replace rL := rL.after hb
 replace hB := hB.trans (hb.mono hB.size)
 clear hb
 have a0 := rS.c 0 rfl
 have a1 := rS.c 1 rfl
 have a2 := rS.c 2 rfl
 have a3 := rS.c 3 rfl
 go_wp2_with fail
 refine (HR.out _ hB).mono ?_
 rintro e w11 ⟨rfl, hb⟩
 clear a0 a1 a2 a3
 replace rS := rS.after hb
 replace rC := rC.after hb
 replace rP := rP.after hb
 replace rL := rL.after hb
 replace hB := hB.trans (hb.mono hB.size)
 clear hb
 go_upto_region 13 with fail
 generalize hW : World.alloc _ _ = w12
 have rM : Row w12 w11.heap.size [.int .i64 ax, .int .i64 ay, .int .i64 bx, .int .i64 bY] := by rw [← hW]; exact Row.at rfl [.int .i64 ax, .int .i64 ay, .int .i64 bx, .int .i64 bY] _
 have hb : Below w11.heap.size w11 w12 := by rw [← hW]; exact (Below.refl _ _).alloc (Nat.le_refl _) _
 clear hW
 replace rS := rS.after hb
 replace rC := rC.after hb
 replace rP := rP.after hb
 replace rL := rL.after hb
 replace hB := hB.trans (hb.mono hB.size)
 clear hb
 generalize w11.heap.size = m at *
 have a0 := rS.c 0 rfl
 have a1 := rS.c 1 rfl
 have a2 := rS.c 2 rfl
 have a3 := rS.c 3 rfl
 go_wp2_with fail
 refine (num4_any _ _).mono ?_
 rintro e w13 ⟨rfl, hb⟩
 clear a0 a1 a2 a3
 replace rS := rS.after hb
 replace rC := rC.after hb
 replace rP := rP.after hb
 replace rL := rL.after hb
 replace rM := rM.after hb
 replace hB := hB.trans (hb.mono hB.size)
 clear hb
 have a0 := rS.c 0 rfl
 have a1 := rS.c 1 rfl
 have a2 := rS.c 2 rfl
 have a3 := rS.c 3 rfl
 go_wp2_with fail
 refine (num4_any _ _).mono ?_
 rintro e w14 ⟨rfl, hb⟩
 clear a0 a1 a2 a3
 replace rS := rS.after hb
 replace rC := rC.after hb
 replace rP := rP.after hb
 replace rL := rL.after hb
 replace rM := rM.after hb
 replace hB := hB.trans (hb.mono hB.size)
 clear hb
 have a0 := rS.c 0 rfl
 have a1 := rS.c 1 rfl
 have a2 := rS.c 2 rfl
 have a3 := rS.c 3 rfl
 go_wp2_with fail
 refine (num4_any _ _).mono ?_
 rintro e w15 ⟨rfl, hb⟩
 clear a0 a1 a2 a3
 replace rS := rS.after hb
 replace rC := rC.after hb
 replace rP := rP.after hb
 replace rL := rL.after hb
 replace rM := rM.after hb
 replace hB := hB.trans (hb.mono hB.size)
 clear hb
 have a0 := rS.c 0 rfl
 have a1 := rS.c 1 rfl
 have a2 := rS.c 2 rfl
 have a3 := rS.c 3 rfl
 go_wp2_with fail
 refine (num4_any _ _).mono ?_
 rintro e w16 ⟨rfl, hb⟩
 clear a0 a1 a2 a3
 replace rS := rS.after hb
 replace rC := rC.after hb
 replace rP := rP.after hb
 replace rL := rL.after hb
 replace rM := rM.after hb
 replace hB := hB.trans (hb.mono hB.size)
 clear hb
 have a0 := rS.c 0 rfl
 have a1 := rS.c 1 rfl
 have a2 := rS.c 2 rfl
 have a3 := rS.c 3 rfl
 go_wp2_with fail
 refine (num4_any _ _).mono ?_
 rintro e w17 ⟨rfl, hb⟩
 clear a0 a1 a2 a3
 replace rS := rS.after hb
 replace rC := rC.after hb
 replace rP := rP.after hb
 replace rL := rL.after hb
 replace rM := rM.after hb
 replace hB := hB.trans (hb.mono hB.size)
 clear hb
 have nz := neqE ax ay bx bY
 have a0 := rS.c 0 rfl
 have a1 := rS.c 1 rfl
 have a2 := rS.c 2 rfl
 have a3 := rS.c 3 rfl
 have y0 := rL.c 0 rfl
 have y1 := rL.c 1 rfl
 have y2 := rL.c 2 rfl
 have y3 := rL.c 3 rfl
 have z0 := rM.c 0 rfl
 have z1 := rM.c 1 rfl
 have z2 := rM.c 2 rfl
 have z3 := rM.c 3 rfl
 go_wp2_with fail
 refine (HS.out _).mono ?_
 rintro e w18 ⟨rfl, hb⟩
 clear a0 a1 a2 a3 y0 y1 y2 y3 z0 z1 z2 z3
 replace rS := rS.after hb
 replace rC := rC.after hb
 replace rP := rP.after hb
 replace rL := rL.after hb
 replace rM := rM.after hb
 replace hB := hB.trans (hb.mono hB.size)
 clear hb
 clear nz
 have a0 := rS.c 0 rfl
 have a1 := rS.c 1 rfl
 have a2 := rS.c 2 rfl
 have a3 := rS.c 3 rfl
 have y0 := rL.c 0 rfl
 have y1 := rL.c 1 rfl
 have y2 := rL.c 2 rfl
 have y3 := rL.c 3 rfl
 go_wp2_with (first | (refine wpList_load_R rfl _ _ rfl (w.heap.size + 1 + 1) rfl P rP gP ?_))
 refine (O3.out _ hB).mono ?_
 rintro e w19 ⟨rfl, hb⟩
 clear a0 a1 a2 a3 y0 y1 y2 y3
 replace rS := rS.after hb
 replace rC := rC.after hb
 replace rP := rP.after hb
 replace rL := rL.after hb
 replace rM := rM.after hb
 replace hB := hB.trans (hb.mono hB.size)
 clear hb
 have a0 := rS.c 0 rfl
 have a1 := rS.c 1 rfl
 have a2 := rS.c 2 rfl
 have a3 := rS.c 3 rfl
 have y0 := rL.c 0 rfl
 have y1 := rL.c 1 rfl
 have y2 := rL.c 2 rfl
 have y3 := rL.c 3 rfl
 go_wp2_with (first | (refine wpList_load_R rfl _ _ rfl (w.heap.size + 1 + 1) rfl P rP gP ?_))
 refine (O4.out _ hB).mono ?_
 rintro e w20 ⟨rfl, hb⟩
 clear a0 a1 a2 a3 y0 y1 y2 y3
 replace rS := rS.after hb
 replace rC := rC.after hb
 replace rP := rP.after hb
 replace rL := rL.after hb
 replace rM := rM.after hb
 replace hB := hB.trans (hb.mono hB.size)
 clear hb
 have a0 := rS.c 0 rfl
 have a1 := rS.c 1 rfl
 have a2 := rS.c 2 rfl
 have a3 := rS.c 3 rfl
 have y0 := rL.c 0 rfl
 have y1 := rL.c 1 rfl
 have y2 := rL.c 2 rfl
 have y3 := rL.c 3 rfl
 go_wp2_with (first | (refine wpList_load_R rfl _ _ rfl (w.heap.size + 1 + 1) rfl P rP gP ?_))
 refine (HD.out _ hB).mono ?_
 rintro e w21 ⟨rfl, hb⟩
 clear a0 a1 a2 a3 y0 y1 y2 y3
 replace rS := rS.after hb
 replace rC := rC.after hb
 replace rP := rP.after hb
 replace rL := rL.after hb
 replace rM := rM.after hb
 replace hB := hB.trans (hb.mono hB.size)
 clear hb
 cases b with
 | false =>
   go_wp2_with fail
   refine (HW.out _ hB).mono ?_
   rintro e w22 ⟨rfl, hb⟩
   replace rS := rS.after hb
   replace hB := hB.trans (hb.mono hB.size)
   clear hb
   go_wp2_with fail
   go_ret
   exact ⟨rfl, hB⟩
 | true =>
   obtain rfl := hbv rfl
   go_wp2_with fail
   refine (HW.out _ hB).mono ?_
   rintro e w22 ⟨rfl, hb⟩
   replace rS := rS.after hb
   replace hB := hB.trans (hb.mono hB.size)
   clear hb
   go_wp2_with fail
   go_ret
   exact ⟨rfl, hB⟩
theorem turnE_rot (ax ay bx bY cx cy : Int) : turnE bx bY cx cy ax ay = turnE ax ay bx bY cx cy ∧ turnE bx bY ax ay cx cy = turnE ax ay bx bY cx cy := by
 unfold turnE
 cases ndB (ax, ay) <;> cases ndB (bx, bY) <;> cases ndB (cx, cy) <;> exact ⟨rfl, rfl⟩
theorem turnV_rot (ax ay bx bY cx cy : Int) : turnV bx bY cx cy ax ay = turnV ax ay bx bY cx cy := by
 unfold turnV
 have e : cmpI ((cx - bx) * (ay - bY)) ((cy - bY) * (ax - bx)) = cmpI ((bx - ax) * (cy - ay)) ((bY - ay) * (cx - ax)) := by
  rw [cmpI_sign, cmpI_sign]
  congr 1; grind
 rw [e]
 cases ndB (ax, ay) <;> cases ndB (bx, bY) <;> cases ndB (cx, cy) <;> rfl
theorem turnV_swap (ax ay bx bY cx cy : Int) : IntKind.i64.wrap (-turnV bx bY ax ay cx cy) = turnV ax ay bx bY cx cy := by
 have e : cmpI ((bx - ax) * (cy - ay)) ((bY - ay) * (cx - ax)) = -cmpI ((ax - bx) * (cy - bY)) ((ay - bY) * (cx - bx)) := by
  rw [cmpI_sign, cmpI_sign, ← Int.sign_neg]
  congr 1; grind
 have h3 : cmpI ((ax - bx) * (cy - bY)) ((ay - bY) * (cx - bx)) = -1 ∨ cmpI ((ax - bx) * (cy - bY)) ((ay - bY) * (cx - bx)) = 0 ∨ cmpI ((ax - bx) * (cy - bY)) ((ay - bY) * (cx - bx)) = 1 := by rw [cmpI_sign]; exact sign3 _
 unfold turnV
 rw [e, IntKind.wrap_i64]
 generalize cmpI ((ax - bx) * (cy - bY)) ((ay - bY) * (cx - bx)) = q at *
 cases ndB (ax, ay) <;> cases ndB (bx, bY) <;> cases ndB (cx, cy) <;> simp only [Bool.and_true, Bool.and_false, if_true, Bool.false_eq_true, if_false] <;> omega
theorem laid_bd4 {s : Sg} (h : BdS s) : BdS (laidS s) := by
 rcases laid_or s with e | e <;> rw [e]
 ·exact h
 ·exact ⟨h.2.2.1, h.2.2.2, h.1, h.2.1⟩
theorem laid_ne {s : Sg} (h : NeS s) : NeS (laidS s) := by
 rcases laid_or s with e | e <;> rw [e]
 ·exact h
 ·exact fun q => h ⟨q.1.symm, q.2.symm⟩
theorem laid_laid (s : Sg) : laidS (laidS s) = laidS s := by
 have h : turned (laidS s) = false ∨ laidS s = s ∧ turned s = true ∨ True := .inr (.inr trivial)
 unfold laidS
 by_cases ht : turned s = true
 ·rw [if_pos ht]
  have : turned (flipS s) = false := by
   unfold turned at ht ⊢
   unfold flipS
   simp only [Bool.or_eq_true, Bool.and_eq_true, decide_eq_true_eq, Bool.or_eq_false_iff, Bool.and_eq_false_iff, decide_eq_false_iff_not] at ht ⊢
   omega
  rw [this]; rfl
 ·rw [if_neg ht, if_neg ht]
theorem on_ends (s : Sg) (hne : NeS s) : onB s (dotP s.ax s.ay) = true ∧ onB s (dotP s.bx s.bY) = true := by
 have hA : valS s (dotP s.ax s.ay) = 0 := by unfold valS dotP; grind
 have hB : valS s (dotP s.bx s.bY) = 0 := by unfold valS dotP; grind
 have z : ∀ x y : Int, cmpPt (dotP x y) x y = 0 := fun x y => by
  rw [cmpPt_lex]; unfold dotP; rw [Int.mul_one, Int.mul_one, Int.sub_self, Int.sub_self]; rfl
 have nz : ∀ x y a b : Int, ¬ (x = a ∧ y = b) → cmpPt (dotP x y) a b ≠ 0 := fun x y a b h q => by
  rw [cmpPt_lex] at q
  obtain ⟨h1, h2⟩ := lex_zero q
  unfold dotP at h1 h2
  exact h ⟨by simp only [Int.mul_one] at h1; omega, by simp only [Int.mul_one] at h2; omega⟩
 unfold onB
 refine ⟨?_, ?_⟩
 ·rw [decide_eq_true hA, Bool.true_and, decide_eq_true_eq, z]
  exact fun q => nz _ _ _ _ hne q.symm
 ·rw [decide_eq_true hB, Bool.true_and, decide_eq_true_eq, z]
  exact nz _ _ _ _ (fun q => hne ⟨q.1.symm, q.2.symm⟩)
theorem Same_laid (s : Sg) (w : World) (hs : BdS s) (hne : NeS s) : Calls Tryz.prog 28 #[.agg (sgA (laidS s)), .agg (sgA s)] w fun e w' => e = .returned (.bool true) ∧ Below w.heap.size w w' := by
 have h1 := laid_bd4 hs
 have h2 := laid_ne hne
 have L1 := Lib.hid (fun W => Laid_any (laidS s).ax (laidS s).ay (laidS s).bx (laidS s).bY W h1.1 h1.2.1 h1.2.2.1 h1.2.2.2 h2)
 have L2 := Lib.hid (fun W => Laid_any s.ax s.ay s.bx s.bY W hs.1 hs.2.1 hs.2.2.1 hs.2.2.2 hne)
 rw [laid_sg4, laid_laid] at L1
 rw [laid_sg4] at L2
 exact same_core _ _ _ _ _ _ _ _ _ _ _ _ w L1 L2
theorem holds4_true (s : Sg) (cx cy : Int) (a b c d : Option Int) (w : World) (ha : oM a < T256) (hb : oM b < T256) (hc : oM c < T256) (hd : oM d < T256) (htab : Tab10 w) (ht : TabTz w) (hcu : CutOk w) (hw0 : 3 < w.heap.size) :
 Calls Tryz.prog 7 #[.agg (sgA s), .agg (nodeA cx cy), .agg (pO a b c d)] w fun e w' => e = .returned (.bool true) ∧ Below w.heap.size w w' := by
 have HW : Hid (∀ W, Below w.heap.size w W → Calls Tryz.prog 17 #[] W fun e w' => e = .returned (.bool true) ∧ Below W.heap.size W w') := Lib.hid (fun W hW => works4_true W (htab.below hW) (ht.below hw0 hW) (hcu.below hW) (Nat.lt_of_lt_of_le hw0 hW.size))
 have gP : AggTy Tryz.prog 46 (pO a b c d).size := agg_point
 have T1 := Lib.hid (fun W => Turn_any s.ax s.ay s.bx s.bY cx cy W)
 have T2 := Lib.hid (fun W => Turn_any s.bx s.bY cx cy s.ax s.ay W)
 have T3 := Lib.hid (fun W => Turn_any s.bx s.bY s.ax s.ay cx cy W)
 rw [turnV_rot, (turnE_rot _ _ _ _ _ _).1] at T2
 rw [(turnE_rot _ _ _ _ _ _).2] at T3
 have hz := turnV_swap s.ax s.ay s.bx s.bY cx cy
 have HC := Lib.hid (fun W => check_any4 s.ax s.ay s.bx s.bY W)
 cases hr : rightS s with
 | false =>
   rw [ck_right, hr] at HC
   exact holds4_no _ _ _ _ _ _ _ _ _ hz _ gP w T1 T2 T3 HC HW
 | true =>
   rw [ck_right, hr] at HC
   obtain ⟨hs, hne⟩ := rightS_iff.1 hr
   have at0 : ∀ {W : World}, Below w.heap.size w W → TabTz W ∧ 3 < W.heap.size := fun hW => ⟨ht.below hw0 hW, Nat.lt_of_lt_of_le hw0 hW.size⟩
   have hon := on_ends s hne
   have hl := laid_bd4 hs
   have hln := laid_ne hne
   have A1 := Lib.hid (fun W => at4_any s.ax s.ay W hs.1 hs.2.1)
   have A2 := Lib.hid (fun W => at4_any s.bx s.bY W hs.2.2.1 hs.2.2.2)
   have O1 := Lib.hid (fun W (hW : Below w.heap.size w W) => On_num s (dotP s.ax s.ay) W hs hne (rtdot hs.1 hs.2.1) (at0 hW).1 (at0 hW).2)
   have O2 := Lib.hid (fun W (hW : Below w.heap.size w W) => On_num s (dotP s.bx s.bY) W hs hne (rtdot hs.2.2.1 hs.2.2.2) (at0 hW).1 (at0 hW).2)
   rw [hon.1] at O1
   rw [hon.2] at O2
   have L2 := Lib.hid (fun W => Laid_any s.ax s.ay s.bx s.bY W hs.1 hs.2.1 hs.2.2.1 hs.2.2.2 hne)
   rw [laid_sg4] at L2
   have HX := Lib.hid (fun W (hW : Below w.heap.size w W) => Text_num s W hs hne (htab.below hW) (at0 hW).1 (at0 hW).2)
   have HP := Lib.hid (fun W (hW : Below w.heap.size w W) => Parse_node s.ax s.ay s.bx s.bY W hs.1 hs.2.1 hs.2.2.1 hs.2.2.2 (hcu.below hW) (at0 hW).1 (at0 hW).2)
   have eG : (segG s.ax s.ay s.bx s.bY).ans zero_seg = .tuple #[.agg (sgA s), .int .i64 0] := by
    unfold segG


    rw [if_neg hne]; rfl
   rw [eG] at HP
   cases ho : (okB a b && okB c d) with
   | false =>
     exact holds4_yes _ _ _ _ 0 2 false (fun h => by cases h) _ _ _ _ _ _ _ _ _ _ _ _ hz _ gP w T1 T2 T3 HC A1 A2 O1 O2 L2 HX HP (Lib.hid (fun W => Same_laid s W hs hne))
      (Lib.hid (fun W hW => On_nopoint s a b c d W hs hne ha hb hc hd ho (at0 hW).1 (at0 hW).2)) (Lib.hid (fun W hW => On_nopoint (laidS s) a b c d W hl hln ha hb hc hd ho (at0 hW).1 (at0 hW).2)) (Lib.hid (fun W hW => Side_nopoint s a b c d W hs hne ha hb hc hd ho (at0 hW).1 (at0 hW).2)) HW
   | true =>
     obtain ⟨p, hp, rfl, rfl, rfl, rfl⟩ := ok_pt4 ho
     have O4 := Lib.hid (fun W (hW : Below w.heap.size w W) => On_num (laidS s) p W hl hln hp (at0 hW).1 (at0 hW).2)
     rw [on_laid] at O4
     have hv : onB s p = true → sideV s p = 0 := fun h => by
      unfold onB at h
      rw [sideV_val, of_decide_eq_true (Bool.and_eq_true_iff.1 h).1]; rfl
     exact holds4_yes _ _ _ _ (sideV s p) 0 (onB s p) hv _ _ _ _ _ _ _ _ _ _ _ _ hz _ gP w T1 T2 T3 HC A1 A2 O1 O2 L2 HX HP (Lib.hid (fun W => Same_laid s W hs hne))
      (Lib.hid (fun W hW => On_num s p W hs hne hp (at0 hW).1 (at0 hW).2)) O4 (Lib.hid (fun W hW => Side_num s p W hs hne hp (at0 hW).1 (at0 hW).2)) HW
end Go.Proofs.YtdfmmkidknginaaGreatDoor
