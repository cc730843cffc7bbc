import Derived.Test.YtongeeggaigepaaGreatDoorZKkZF
import Derived.Test.YtongeeggaigepaaGreatDoorZKkZB
namespace Go.Proofs.YtongeeggaigepaaGreatDoor
open Go.RowKit Go.Sort CrossMath

theorem TabTz.kb {w W : World} {X : Nat} (h : TabTz w) (hk : KB w.heap.size X w W) (hw0 : 3 < w.heap.size) (hX : 3 ≠ X) : TabTz W := fun j hj => by
 rw [hk.cell (p := ⟨3, j, none⟩) hw0 hX]; exact h j hj
theorem CutOk.kb {w W : World} {X : Nat} (h : CutOk w) (hk : KB w.heap.size X w W) (hX : 0 ≠ X) : CutOk W := by
 obtain ⟨m, hm⟩ := h
 exact ⟨m, (hk.cell (p := ⟨0, 0, none⟩) (block_lt_of_cell hm) hX).trans hm⟩
end Go.Proofs.YtongeeggaigepaaGreatDoor

namespace Go.Proofs.YtongeeggaigepaaGreatDoor
open Go.RowKit Go.Sort CrossMath

end Go.Proofs.YtongeeggaigepaaGreatDoor

namespace Go.Proofs.YtongeeggaigepaaGreatDoor
open Go.RowKit Go.Sort CrossMath
theorem num4_any (n : Int) (w : World) : Calls Tryz.prog 13 #[.int .i64 n] w fun e w' => e = .returned (.int .i64 n) ∧ Below w.heap.size w w' := by
 have hb := Below.refl w.heap.size w
 go_enter Tryz.func13, Tryz.ntmps13
 go_wp2
 go_ret
 exact ⟨rfl, hb⟩
set_option maxRecDepth 100000 in
theorem of4_any (a b c d : Int) (w : World) : Calls Tryz.prog 46 #[.int .i64 a, .int .i64 b, .int .i64 c, .int .i64 d] w fun e w' => e = .returned (.agg (segA a b c d)) ∧ Below w.heap.size w w' := by
 have hb := Lib.hid ((Below.refl w.heap.size w).alloc (Nat.le_refl _) (.cells zero_seg 25))
 have oS : OneC (segA a b c d) := by simp [OneC, Value.oneCell']
 go_enter Tryz.func46, Tryz.ntmps46
 go_wp2_with (refine wpList_store_R rfl _ _ _ rfl _ (segA a b c d) rfl rfl _ (Row.at rfl zero_seg.toList _) (by rfl) agg_seg oS ?_; intro w3 r3 o3)
 exact bodyPost_ret (results_R1 (cs := segA a b c d) rfl rfl r3 agg_seg) rfl ⟨rfl, below_on hb.out o3 (Nat.le_refl _)⟩
theorem small4_L {m k : Nat} (h : m < 65536 ^ k) : L16 m ≤ k := L16_le h
theorem rout4_any (n : Int) (A B : Option Addr) (c d : Nat) (w : World) (hn : n.natAbs < T256) (hd : DS w n.natAbs A) (hd1 : DS w 1 B) :
 Calls Tryz.prog 43 #[.agg #[.bool (decide (n < 0)), .slice A (L16 n.natAbs) c, .bool false, .slice B (L16 1) d]] w fun e w' => e = .returned (.tuple #[.agg (ratA n 1), .int .i64 0]) ∧ Below w.heap.size w w' := by
 refine rout_core _ _ _ _ _ _ _ _ _ _ _ _ A B _ c _ d w (fun W hW => ?_) (fun W hW => ?_)
 ·have := out_z n A c W (hd.below hW)
  rw [outV, if_pos hn] at this
  exact this
 ·have := out_z 1 B d W (hd1.below hW)
  rw [outV, if_pos (by decide)] at this
  exact this
theorem ptout4_any (x y : Int) (A B E G : Option Addr) (c d f h : Nat) (w : World) (hx : Bd x) (hy : Bd y) (hA : DS w x.natAbs A) (hB : DS w 1 B) (hE : DS w y.natAbs E) (hG : DS w 1 G) :
 Calls Tryz.prog 71 #[.agg #[.bool (decide (x < 0)), .slice A (L16 x.natAbs) c, .bool false, .slice B (L16 1) d, .bool (decide (y < 0)), .slice E (L16 y.natAbs) f, .bool false, .slice G (L16 1) h]] w fun e w' => e = .returned (.tuple #[.agg (dotA x y), .int .i64 0]) ∧ Below w.heap.size w w' := by
 have bx : x.natAbs < 65536 ^ 2 := by unfold Bd at hx; omega
 have by' : y.natAbs < 65536 ^ 2 := by unfold Bd at hy; omega
 have h1 : L16 1 ≤ 4 := small4_L (by decide)
 have kx : L16 x.natAbs ≤ 6 := Nat.le_trans (small4_L bx) (by decide)
 have ky : L16 y.natAbs ≤ 6 := Nat.le_trans (small4_L by') (by decide)
 have tx : x.natAbs < T256 := Nat.lt_trans bx (by decide)
 have ty : y.natAbs < T256 := Nat.lt_trans by' (by decide)
 exact ptout_core _ _ _ _ A B E G _ c _ d _ f _ h (ratA x 1) (ratA y 1) rfl rfl (ratA_one _ _) (ratA_one _ _) w (fun W hW => rout4_any x A B c d W tx (hA.below hW) (hB.below hW)) (fun W hW => rout4_any y E G f h W ty (hE.below hW) (hG.below hW))
  (fun W => fits_any _ _ A B _ c _ d W kx h1) (fun W => fits_any _ _ E G _ f _ h W ky h1)
set_option maxRecDepth 100000 in
set_option maxHeartbeats 3200000 in
theorem at4_any (x y : Int) (w : World) (hx : Bd x) (hy : Bd y) : Calls Tryz.prog 31 #[.int .i64 x, .int .i64 y] w fun e w' => e = .returned (.agg (dotA x y)) ∧ Below w.heap.size w w' := by
 have H1 : Hid (∀ W, Calls Tryz.prog 61 #[.agg (nodeA x y)] W (PtPost W (decide (x < 0)) (decide (y < 0)) x.natAbs y.natAbs (L16 x.natAbs) (L16 y.natAbs) (L16 1))) := Lib.hid (fun W => ptof_any x y W hx hy)
 have H2 := Lib.hid (fun A B E G c d f h W hA hB hE hG => ptout4_any x y A B E G c d f h W hx hy hA hB hE hG)
 have hD : (dotA x y).size = 20 := rfl
 have oD := Lib.hid (dotA_one x y)
 have tD : AggTy Tryz.prog 46 (dotA x y).size := by rw [hD]; exact agg_point
 have HD := Lib.hid hD
 clear hx hy
 generalize dotA x y = D at *
 generalize decide (x < 0) = s at *
 generalize decide (y < 0) = t at *
 generalize L16 x.natAbs = k at *
 generalize L16 y.natAbs = i at *
 generalize L16 1 = j at *
 generalize x.natAbs = m at *
 generalize y.natAbs = n at *
 go_enter Tryz.func31, Tryz.ntmps31
 go_upto_region 1 with fail
 generalize hW : World.alloc _ _ = W0
 have rZ : Row W0 w.heap.size zero_point.toList := by rw [← hW]; exact Row.at rfl _ _
 have hB : Below w.heap.size w W0 := by rw [← hW]; exact (Below.refl w.heap.size w).alloc (Nat.le_refl _) _
 clear hW
 go_wp2_with fail
 refine (H1.out _).mono ?_
 rintro e w1 ⟨A, c, B, d, E, f, G, h, rfl, ⟨d1, d2, d3, d4⟩, hb⟩
 replace rZ := rZ.after hb
 replace hB := hB.trans (hb.mono hB.size)
 clear hb
 have HDS := Lib.hid (And.intro d1 (And.intro d2 (And.intro d3 d4)))
 clear d1 d2 d3 d4
 go_wp2_with fail
 refine (H2.out A B E G c d f h _ HDS.out.1 HDS.out.2.1 HDS.out.2.2.1 HDS.out.2.2.2).mono ?_
 rintro e w2 ⟨rfl, hb⟩
 replace rZ := rZ.after hb
 replace hB := hB.trans (hb.mono hB.size)
 clear hb HDS
 go_upto_region 2 with (refine wpList_store_R rfl _ _ _ rfl _ D rfl rfl _ (Row.at rfl zero_point.toList _) (by rw [HD.out]; rfl) tD oD.out ?_; intro w3 r3 o3)
 have l1 : w.heap.size < w2.heap.size := rZ.lt
 replace rZ := o3.row (by omega) (rZ.alloc _)
 replace hB := below_on (hB.alloc hB.size _) o3 hB.size
 clear o3 l1
 generalize w2.heap.size = C at *
 have HB := Lib.hid hB
 clear hB
 go_wp2_with (first
  | (refine wpList_load_R rfl _ _ rfl C rfl D r3 tD ?_)
  | (refine wpList_store_R rfl _ _ _ rfl _ D rfl rfl _ rZ (by rw [HD.out]; rfl) tD oD.out ?_; intro w4 r4 o4))
 exact bodyPost_ret (results_R1 (cs := D) rfl rfl r4 tD) rfl ⟨rfl, below_on HB.out o4 (Nat.le_refl _)⟩
theorem at_nd0 (ax ay bx bY cx cy : Int) (W : World) : (Instr.index 86 (.agg #[.int .i64 ax, .int .i64 ay, .int .i64 bx, .int .i64 bY, .int .i64 cx, .int .i64 cy]) (.int .i64 0)).run Tryz.prog W = .ok (.agg #[.int .i64 ax, .int .i64 ay]) W := by kernel_rfl
theorem at_nd1 (ax ay bx bY cx cy : Int) (W : World) : (Instr.index 86 (.agg #[.int .i64 ax, .int .i64 ay, .int .i64 bx, .int .i64 bY, .int .i64 cx, .int .i64 cy]) (.int .i64 1)).run Tryz.prog W = .ok (.agg #[.int .i64 bx, .int .i64 bY]) W := by kernel_rfl
theorem at_nd2 (ax ay bx bY cx cy : Int) (W : World) : (Instr.index 86 (.agg #[.int .i64 ax, .int .i64 ay, .int .i64 bx, .int .i64 bY, .int .i64 cx, .int .i64 cy]) (.int .i64 2)).run Tryz.prog W = .ok (.agg #[.int .i64 cx, .int .i64 cy]) W := by kernel_rfl
set_option maxRecDepth 100000 in
set_option maxHeartbeats 3200000 in
theorem Turn_ok (ax ay bx bY cx cy r u v : Int) (w : World)
 (H1 : Hid (∀ W, Calls Tryz.prog 37 #[.agg #[.int .i64 ax, .int .i64 ay]] W fun e w' => e = .returned (.int .i64 0) ∧ Below W.heap.size W w'))
 (H2 : Hid (∀ W, Calls Tryz.prog 37 #[.agg #[.int .i64 bx, .int .i64 bY]] W fun e w' => e = .returned (.int .i64 0) ∧ Below W.heap.size W w'))
 (H3 : Hid (∀ W, Calls Tryz.prog 37 #[.agg #[.int .i64 cx, .int .i64 cy]] W fun e w' => e = .returned (.int .i64 0) ∧ Below W.heap.size W w'))
 (HF : Hid (∀ W, Calls Tryz.prog 38 #[.agg (segA ax ay bx bY)] W fun e w' => e = .returned (.agg (lineA ax ay bx bY r u)) ∧ Below W.heap.size W w'))
 (HT : Hid (∀ W, Calls Tryz.prog 39 #[.agg (lineA ax ay bx bY r u), .agg #[.int .i64 cx, .int .i64 cy]] W fun e w' => e = .returned (.int .i64 v) ∧ Below W.heap.size W w')) :
 Calls Tryz.prog 10 #[.agg (nodeA ax ay), .agg (nodeA bx bY), .agg (nodeA cx cy)] w fun e w' => e = .returned (.tuple #[.int .i64 v, .int .i64 0]) ∧ Below w.heap.size w w' := by
 have ix0 := at_nd0 ax ay bx bY cx cy
 have ix1 := at_nd1 ax ay bx bY cx cy
 have ix2 := at_nd2 ax ay bx bY cx cy
 go_enter Tryz.func10, Tryz.ntmps10
 go_upto_region 1 with fail
 generalize hW : World.alloc _ _ = W0
 have rA : Row W0 w.heap.size (nodeA ax ay).toList := by rw [← hW]; exact ((Row.at rfl (nodeA ax ay).toList _).alloc _).alloc _
 have rB : Row W0 (w.heap.size + 1) (nodeA bx bY).toList := by rw [← hW]; exact (Row.at (by simp) (nodeA bx bY).toList _).alloc _
 have rC : Row W0 (w.heap.size + 1 + 1) (nodeA cx cy).toList := by rw [← hW]; exact Row.at (by simp) _ _
 have hB : Below w.heap.size w W0 := by rw [← hW]; exact (((Below.refl _ _).alloc (Nat.le_refl _) _).alloc (by simp) _).alloc (by simp; omega) _
 clear hW
 have x0 := rA.c 0 rfl
 have x1 := rA.c 1 rfl
 have y0 := rB.c 0 rfl
 have y1 := rB.c 1 rfl
 have z0 := rC.c 0 rfl
 have z1 := rC.c 1 rfl
 go_wp2_with fail
 refine wp_loop_rounds 4 ?_
 rw [rounds_succ]
 go_wp2_with fail
 refine (H1.out _).mono ?_
 rintro e w1 ⟨rfl, hb⟩
 replace hb := ((Below.refl _ _).alloc (Nat.le_refl _) _).trans (hb.mono (by simp))
 replace rA := rA.after hb
 replace rB := rB.after hb
 replace rC := rC.after hb
 replace hB := hB.trans (hb.mono hB.size)
 clear hb x0 x1 y0 y1 z0 z1
 go_wp2_with fail
 rw [rounds_succ]
 go_wp2_with fail
 refine (H2.out _).mono ?_
 rintro e w2 ⟨rfl, hb⟩
 replace hb := ((Below.refl _ _).alloc (Nat.le_refl _) _).trans (hb.mono (by simp))
 replace rA := rA.after hb
 replace rB := rB.after hb
 replace rC := rC.after hb
 replace hB := hB.trans (hb.mono hB.size)
 clear hb
 go_wp2_with fail
 rw [rounds_succ]
 go_wp2_with fail
 refine (H3.out _).mono ?_
 rintro e w3 ⟨rfl, hb⟩
 replace hb := ((Below.refl _ _).alloc (Nat.le_refl _) _).trans (hb.mono (by simp))
 replace rA := rA.after hb
 replace rB := rB.after hb
 replace rC := rC.after hb
 replace hB := hB.trans (hb.mono hB.size)
 clear hb
 go_wp2_with fail
 rw [rounds_succ]
 go_upto_region 8 with fail
 have n0 := cell_regrown (rA.c 0 rfl)
 have n1 := cell_regrown (rA.c 1 rfl)
 have n2 := cell_regrown (rB.c 0 rfl)
 have n3 := cell_regrown (rB.c 1 rfl)
 have n4 := cell_regrown (rC.c 0 rfl)
 have n5 := cell_regrown (rC.c 1 rfl)
 have C1 := Lib.hid (fun d os => Calls.regrown_of (HF.out (grow (redrawn w3 d) os)))
 have C2 := Lib.hid (fun d os => Calls.regrown_of (HT.out (grow (redrawn w3 d) os)))
 clear rA rB rC H1 H2 H3 HF HT
 refine wp_region_quiet_below (by kernel_rfl) (by kernel_rfl) ?_
 repeat (quiet_step ((first | with_reducible exact C1.out _ _ | with_reducible exact C2.out _ _)))
 refine wpQuiet_nil ?_
 intro _ hw'
 obtain ⟨⟨dq, osq⟩, hw''⟩ := hw'
 subst hw''
 go_wp2
 go_ret2
 exact ⟨rfl, hB.trans ((below_regrown w3 dq osq).mono hB.size)⟩
set_option maxRecDepth 100000 in
set_option maxHeartbeats 3200000 in
theorem Turn_no1 (ax ay bx bY cx cy : Int) (w : World)
 (H1 : Hid (∀ W, Calls Tryz.prog 37 #[.agg #[.int .i64 ax, .int .i64 ay]] W fun e w' => e = .returned (.int .i64 2) ∧ Below W.heap.size W w')) :
 Calls Tryz.prog 10 #[.agg (nodeA ax ay), .agg (nodeA bx bY), .agg (nodeA cx cy)] w fun e w' => e = .returned (.tuple #[.int .i64 0, .int .i64 2]) ∧ Below w.heap.size w w' := by
 have ix0 := at_nd0 ax ay bx bY cx cy
 have ix1 := at_nd1 ax ay bx bY cx cy
 have ix2 := at_nd2 ax ay bx bY cx cy
 go_enter Tryz.func10, Tryz.ntmps10
 go_upto_region 1 with fail
 generalize hW : World.alloc _ _ = W0
 have rA : Row W0 w.heap.size (nodeA ax ay).toList := by rw [← hW]; exact ((Row.at rfl (nodeA ax ay).toList _).alloc _).alloc _
 have rB : Row W0 (w.heap.size + 1) (nodeA bx bY).toList := by rw [← hW]; exact (Row.at (by simp) (nodeA bx bY).toList _).alloc _
 have rC : Row W0 (w.heap.size + 1 + 1) (nodeA cx cy).toList := by rw [← hW]; exact Row.at (by simp) _ _
 have hB : Below w.heap.size w W0 := by rw [← hW]; exact (((Below.refl _ _).alloc (Nat.le_refl _) _).alloc (by simp) _).alloc (by simp; omega) _
 clear hW
 have x0 := rA.c 0 rfl
 have x1 := rA.c 1 rfl
 have y0 := rB.c 0 rfl
 have y1 := rB.c 1 rfl
 have z0 := rC.c 0 rfl
 have z1 := rC.c 1 rfl
 go_wp2_with fail
 refine wp_loop_rounds 4 ?_
 rw [rounds_succ]
 go_wp2_with fail
 refine (H1.out _).mono ?_
 rintro e w1 ⟨rfl, hb⟩
 replace hb := ((Below.refl _ _).alloc (Nat.le_refl _) _).trans (hb.mono (by simp))
 replace rA := rA.after hb
 replace rB := rB.after hb
 replace rC := rC.after hb
 replace hB := hB.trans (hb.mono hB.size)
 clear hb x0 x1 y0 y1 z0 z1
 go_wp2_with fail
 go_ret2
 exact ⟨rfl, hB⟩
set_option maxRecDepth 100000 in
set_option maxHeartbeats 3200000 in
theorem Turn_no2 (ax ay bx bY cx cy : Int) (w : World)
 (H1 : Hid (∀ W, Calls Tryz.prog 37 #[.agg #[.int .i64 ax, .int .i64 ay]] W fun e w' => e = .returned (.int .i64 0) ∧ Below W.heap.size W w'))
 (H2 : Hid (∀ W, Calls Tryz.prog 37 #[.agg #[.int .i64 bx, .int .i64 bY]] W fun e w' => e = .returned (.int .i64 2) ∧ Below W.heap.size W w')) :
 Calls Tryz.prog 10 #[.agg (nodeA ax ay), .agg (nodeA bx bY), .agg (nodeA cx cy)] w fun e w' => e = .returned (.tuple #[.int .i64 0, .int .i64 2]) ∧ Below w.heap.size w w' := by
 have ix0 := at_nd0 ax ay bx bY cx cy
 have ix1 := at_nd1 ax ay bx bY cx cy
 have ix2 := at_nd2 ax ay bx bY cx cy
 go_enter Tryz.func10, Tryz.ntmps10
 go_upto_region 1 with fail
 generalize hW : World.alloc _ _ = W0
 have rA : Row W0 w.heap.size (nodeA ax ay).toList := by rw [← hW]; exact ((Row.at rfl (nodeA ax ay).toList _).alloc _).alloc _
 have rB : Row W0 (w.heap.size + 1) (nodeA bx bY).toList := by rw [← hW]; exact (Row.at (by simp) (nodeA bx bY).toList _).alloc _
 have rC : Row W0 (w.heap.size + 1 + 1) (nodeA cx cy).toList := by rw [← hW]; exact Row.at (by simp) _ _
 have hB : Below w.heap.size w W0 := by rw [← hW]; exact (((Below.refl _ _).alloc (Nat.le_refl _) _).alloc (by simp) _).alloc (by simp; omega) _
 clear hW
 have x0 := rA.c 0 rfl
 have x1 := rA.c 1 rfl
 have y0 := rB.c 0 rfl
 have y1 := rB.c 1 rfl
 have z0 := rC.c 0 rfl
 have z1 := rC.c 1 rfl
 go_wp2_with fail
 refine wp_loop_rounds 4 ?_
 rw [rounds_succ]
 go_wp2_with fail
 refine (H1.out _).mono ?_
 rintro e w1 ⟨rfl, hb⟩
 replace hb := ((Below.refl _ _).alloc (Nat.le_refl _) _).trans (hb.mono (by simp))
 replace rA := rA.after hb
 replace rB := rB.after hb
 replace rC := rC.after hb
 replace hB := hB.trans (hb.mono hB.size)
 clear hb x0 x1 y0 y1 z0 z1
 go_wp2_with fail
 rw [rounds_succ]
 go_wp2_with fail
 refine (H2.out _).mono ?_
 rintro e w2 ⟨rfl, hb⟩
 replace hb := ((Below.refl _ _).alloc (Nat.le_refl _) _).trans (hb.mono (by simp))
 replace rA := rA.after hb
 replace rB := rB.after hb
 replace rC := rC.after hb
 replace hB := hB.trans (hb.mono hB.size)
 clear hb
 go_wp2_with fail
 go_ret2
 exact ⟨rfl, hB⟩
set_option maxRecDepth 100000 in
set_option maxHeartbeats 3200000 in
theorem Turn_no3 (ax ay bx bY cx cy : Int) (w : World)
 (H1 : Hid (∀ W, Calls Tryz.prog 37 #[.agg #[.int .i64 ax, .int .i64 ay]] W fun e w' => e = .returned (.int .i64 0) ∧ Below W.heap.size W w'))
 (H2 : Hid (∀ W, Calls Tryz.prog 37 #[.agg #[.int .i64 bx, .int .i64 bY]] W fun e w' => e = .returned (.int .i64 0) ∧ Below W.heap.size W w'))
 (H3 : Hid (∀ W, Calls Tryz.prog 37 #[.agg #[.int .i64 cx, .int .i64 cy]] W fun e w' => e = .returned (.int .i64 2) ∧ Below W.heap.size W w')) :
 Calls Tryz.prog 10 #[.agg (nodeA ax ay), .agg (nodeA bx bY), .agg (nodeA cx cy)] w fun e w' => e = .returned (.tuple #[.int .i64 0, .int .i64 2]) ∧ Below w.heap.size w w' := by
 have ix0 := at_nd0 ax ay bx bY cx cy
 have ix1 := at_nd1 ax ay bx bY cx cy
 have ix2 := at_nd2 ax ay bx bY cx cy
 go_enter Tryz.func10, Tryz.ntmps10
 go_upto_region 1 with fail
 generalize hW : World.alloc _ _ = W0
 have rA : Row W0 w.heap.size (nodeA ax ay).toList := by rw [← hW]; exact ((Row.at rfl (nodeA ax ay).toList _).alloc _).alloc _
 have rB : Row W0 (w.heap.size + 1) (nodeA bx bY).toList := by rw [← hW]; exact (Row.at (by simp) (nodeA bx bY).toList _).alloc _
 have rC : Row W0 (w.heap.size + 1 + 1) (nodeA cx cy).toList := by rw [← hW]; exact Row.at (by simp) _ _
 have hB : Below w.heap.size w W0 := by rw [← hW]; exact (((Below.refl _ _).alloc (Nat.le_refl _) _).alloc (by simp) _).alloc (by simp; omega) _
 clear hW
 have x0 := rA.c 0 rfl
 have x1 := rA.c 1 rfl
 have y0 := rB.c 0 rfl
 have y1 := rB.c 1 rfl
 have z0 := rC.c 0 rfl
 have z1 := rC.c 1 rfl
 go_wp2_with fail
 refine wp_loop_rounds 4 ?_
 rw [rounds_succ]
 go_wp2_with fail
 refine (H1.out _).mono ?_
 rintro e w1 ⟨rfl, hb⟩
 replace hb := ((Below.refl _ _).alloc (Nat.le_refl _) _).trans (hb.mono (by simp))
 replace rA := rA.after hb
 replace rB := rB.after hb
 replace rC := rC.after hb
 replace hB := hB.trans (hb.mono hB.size)
 clear hb x0 x1 y0 y1 z0 z1
 go_wp2_with fail
 rw [rounds_succ]
 go_wp2_with fail
 refine (H2.out _).mono ?_
 rintro e w2 ⟨rfl, hb⟩
 replace hb := ((Below.refl _ _).alloc (Nat.le_refl _) _).trans (hb.mono (by simp))
 replace rA := rA.after hb
 replace rB := rB.after hb
 replace rC := rC.after hb
 replace hB := hB.trans (hb.mono hB.size)
 clear hb
 go_wp2_with fail
 rw [rounds_succ]
 go_wp2_with fail
 refine (H3.out _).mono ?_
 rintro e w3 ⟨rfl, hb⟩
 replace hb := ((Below.refl _ _).alloc (Nat.le_refl _) _).trans (hb.mono (by simp))
 replace rA := rA.after hb
 replace rB := rB.after hb
 replace rC := rC.after hb
 replace hB := hB.trans (hb.mono hB.size)
 clear hb
 go_wp2_with fail
 go_ret2
 exact ⟨rfl, hB⟩
def turnV (ax ay bx bY cx cy : Int) : Int := if (ndB (ax, ay) && (ndB (bx, bY) && ndB (cx, cy))) = true then cmpI ((bx - ax) * (cy - ay)) ((bY - ay) * (cx - ax)) else 0
def turnE (ax ay bx bY cx cy : Int) : Int := if (ndB (ax, ay) && (ndB (bx, bY) && ndB (cx, cy))) = true then 0 else 2
theorem Turn_any (ax ay bx bY cx cy : Int) (w : World) :
 Calls Tryz.prog 10 #[.agg (nodeA ax ay), .agg (nodeA bx bY), .agg (nodeA cx cy)] w fun e w' => e = .returned (.tuple #[.int .i64 (turnV ax ay bx bY cx cy), .int .i64 (turnE ax ay bx bY cx cy)]) ∧ Below w.heap.size w w' := by
 have q : ∀ {x y : Int}, ndB (x, y) = true → Bd x ∧ Bd y := fun {x y} h => by
  unfold ndB at h
  simp only [] at h
  rw [Bool.and_eq_true] at h
  exact ⟨(inB_iff x).1 h.1, (inB_iff y).1 h.2⟩
 have N : ∀ (x y : Int) W, Calls Tryz.prog 37 #[.agg #[.int .i64 x, .int .i64 y]] W fun e w' => e = .returned (.int .i64 (if ndB (x, y) = true then 0 else 2)) ∧ Below W.heap.size W w' := fun x y W => nodes_any x y W
 have N1 := N ax ay
 have N2 := N bx bY
 have N3 := N cx cy
 unfold turnV turnE
 cases h1 : ndB (ax, ay) with
 | false =>
   rw [h1] at N1
   exact Turn_no1 ax ay bx bY cx cy w (Lib.hid N1)
 | true =>
   rw [h1] at N1
   cases h2 : ndB (bx, bY) with
   | false =>
     rw [h2] at N2
     exact Turn_no2 ax ay bx bY cx cy w (Lib.hid N1) (Lib.hid N2)
   | true =>
     rw [h2] at N2
     cases h3 : ndB (cx, cy) with
     | false =>
       rw [h3] at N3
       exact Turn_no3 ax ay bx bY cx cy w (Lib.hid N1) (Lib.hid N2) (Lib.hid N3)
     | true =>
       rw [h3] at N3
       obtain ⟨a1, a2⟩ := q h1
       obtain ⟨b1, b2⟩ := q h2
       obtain ⟨c1, c2⟩ := q h3
       exact Turn_ok ax ay bx bY cx cy _ _ _ w (Lib.hid N1) (Lib.hid N2) (Lib.hid N3) (Lib.hid (fun W => segfrom_any ax ay bx bY W a1 a2 b1 b2)) (Lib.hid (fun W => turn_any ax ay bx bY cx cy W a1 a2 b1 b2 c1 c2))
end Go.Proofs.YtongeeggaigepaaGreatDoor

namespace Go.Proofs.YtongeeggaigepaaGreatDoor
open Go.RowKit Go.Sort CrossMath

end Go.Proofs.YtongeeggaigepaaGreatDoor
