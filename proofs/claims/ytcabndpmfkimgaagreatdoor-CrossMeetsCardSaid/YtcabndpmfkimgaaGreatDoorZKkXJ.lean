import Derived.Test.YtcabndpmfkimgaaGreatDoorZKkXD
import Derived.Test.YtcabndpmfkimgaaGreatDoorZKkXF
import Derived.Test.YtcabndpmfkimgaaGreatDoorZKkUB
import Derived.BigQuiet
namespace Go.Proofs.YtcabndpmfkimgaaGreatDoor
open Go.RowKit Go.Sort CrossMath

theorem agg_rmeet : AggTy Tryz.prog 53 17 := .of _ Tryz.underlying53 rfl (by kernel_rfl)
set_option maxRecDepth 100000 in
set_option maxHeartbeats 6400000 in
theorem of_apart (ax ay bx bY cx cy dx dY ux uy vx vy zx zy d e : Int) (w : World)
 (e1 : IntKind.i64.wrap (bx - ax) = ux) (e2 : IntKind.i64.wrap (bY - ay) = uy) (e3 : IntKind.i64.wrap (dx - cx) = vx) (e4 : IntKind.i64.wrap (dY - cy) = vy) (e5 : IntKind.i64.wrap (cx - ax) = zx) (e6 : IntKind.i64.wrap (cy - ay) = zy) (hd : (d == 0) = true) (he : (e == 0) = false)
 (h1 : ∀ W, Below w.heap.size w W → Calls Tryz.prog 32 #[.int .i64 ux, .int .i64 uy, .int .i64 vx, .int .i64 vy] W fun e' w' => e' = .returned (.int .i64 d) ∧ Below W.heap.size W w')
 (h2 : ∀ W, Below w.heap.size w W → Calls Tryz.prog 32 #[.int .i64 zx, .int .i64 zy, .int .i64 ux, .int .i64 uy] W fun e' w' => e' = .returned (.int .i64 e) ∧ Below W.heap.size W w') :
 Calls Tryz.prog 12 #[.agg #[.int .i64 ax, .int .i64 ay, .int .i64 bx, .int .i64 bY], .agg #[.int .i64 cx, .int .i64 cy, .int .i64 dx, .int .i64 dY]] w fun e' w' => e' = .returned (.agg #[.int .i64 0, .bool false, .slice none 0 0, .bool false, .slice none 0 0, .bool false, .slice none 0 0, .bool false, .slice none 0 0, .bool false, .slice none 0 0, .bool false, .slice none 0 0, .bool false, .slice none 0 0, .bool false, .slice none 0 0]) ∧ Below w.heap.size w w' := by
 have H1 := Lib.hid h1; clear h1
 have H2 := Lib.hid h2; clear h2
 go_enter Tryz.func12, Tryz.ntmps12
 go_upto_region 1 with fail
 generalize hW : World.alloc _ _ = W0
 have rS : Row W0 w.heap.size [.int .i64 ax, .int .i64 ay, .int .i64 bx, .int .i64 bY] := by rw [← hW]; exact ((Row.at rfl [_, _, _, _] _).alloc _).alloc _
 have rT : Row W0 (w.heap.size + 1) [.int .i64 cx, .int .i64 cy, .int .i64 dx, .int .i64 dY] := by rw [← hW]; exact (Row.at (by simp) [_, _, _, _] _).alloc _
 have rZ : Row W0 (w.heap.size + 2) [.int .i64 0, .bool false, .slice none 0 0, .bool false, .slice none 0 0, .bool false, .slice none 0 0, .bool false, .slice none 0 0, .bool false, .slice none 0 0, .bool false, .slice none 0 0, .bool false, .slice none 0 0, .bool false, .slice none 0 0] := by rw [← hW]; exact Row.at (by simp) _ _
 have hB : Below w.heap.size w W0 := by rw [← hW]; exact (((Below.refl w.heap.size w).alloc (Nat.le_refl _) _).alloc (by simp) _).alloc (by simp; omega) _
 clear hW
 have x0 := rS.c 0 rfl
 have x1 := rS.c 1 rfl
 have x2 := rS.c 2 rfl
 have x3 := rS.c 3 rfl
 have y0 := rT.c 0 rfl
 have y1 := rT.c 1 rfl
 have y2 := rT.c 2 rfl
 have y3 := rT.c 3 rfl
 go_quiet (fail)
 have hb := below_drewN (Below.refl W0.heap.size W0) nq
 generalize World.drewN _ nq = W1 at hb ⊢
 clear nq x0 x1 x2 x3 y0 y1 y2 y3
 replace rS := rS.after hb
 replace rT := rT.after hb
 replace rZ := rZ.after hb
 replace hB := hB.trans (hb.mono hB.size)
 clear hb
 have x0 := rS.c 0 rfl
 have x1 := rS.c 1 rfl
 have x2 := rS.c 2 rfl
 have x3 := rS.c 3 rfl
 have y0 := rT.c 0 rfl
 have y1 := rT.c 1 rfl
 have y2 := rT.c 2 rfl
 have y3 := rT.c 3 rfl
 go_upto_region 2 with fail
 go_quiet (fail)
 have hb := below_drewN (Below.refl W1.heap.size W1) nq
 generalize World.drewN _ nq = W2 at hb ⊢
 clear nq x0 x1 x2 x3 y0 y1 y2 y3
 replace rS := rS.after hb
 replace rT := rT.after hb
 replace rZ := rZ.after hb
 replace hB := hB.trans (hb.mono hB.size)
 clear hb
 have x0 := rS.c 0 rfl
 have x1 := rS.c 1 rfl
 have x2 := rS.c 2 rfl
 have x3 := rS.c 3 rfl
 have y0 := rT.c 0 rfl
 have y1 := rT.c 1 rfl
 have y2 := rT.c 2 rfl
 have y3 := rT.c 3 rfl
 go_upto_region 3 with fail
 go_quiet (fail)
 have hb := below_drewN (Below.refl W2.heap.size W2) nq
 generalize World.drewN _ nq = W3 at hb ⊢
 clear nq x0 x1 x2 x3 y0 y1 y2 y3
 replace rS := rS.after hb
 replace rT := rT.after hb
 replace rZ := rZ.after hb
 replace hB := hB.trans (hb.mono hB.size)
 clear hb
 go_wp2_with fail
 refine (H1.out _ hB).mono ?_
 rintro e' W4 ⟨rfl, hb⟩
 replace rS := rS.after hb
 replace rT := rT.after hb
 replace rZ := rZ.after hb
 replace hB := hB.trans (hb.mono hB.size)
 clear hb
 go_wp2_with fail
 refine (H2.out _ hB).mono ?_
 rintro e' W5 ⟨rfl, hb⟩
 replace rS := rS.after hb
 replace rT := rT.after hb
 replace rZ := rZ.after hb
 replace hB := hB.trans (hb.mono hB.size)
 clear hb
 go_wp2_with (refine wpList_store_R rfl _ _ _ rfl _ #[.int .i64 0, .bool false, .slice none 0 0, .bool false, .slice none 0 0, .bool false, .slice none 0 0, .bool false, .slice none 0 0, .bool false, .slice none 0 0, .bool false, .slice none 0 0, .bool false, .slice none 0 0, .bool false, .slice none 0 0] rfl rfl _ rZ (by rfl) agg_rmeet (by simp [OneC, Value.oneCell']) ?_; intro w7 r7 o7)
 exact bodyPost_ret (results_R1 (cs := #[.int .i64 0, .bool false, .slice none 0 0, .bool false, .slice none 0 0, .bool false, .slice none 0 0, .bool false, .slice none 0 0, .bool false, .slice none 0 0, .bool false, .slice none 0 0, .bool false, .slice none 0 0, .bool false, .slice none 0 0]) rfl rfl r7 agg_rmeet) rfl ⟨rfl, below_on hB o7 (by omega)⟩
set_option maxRecDepth 100000 in
set_option maxHeartbeats 6400000 in
theorem of_out (ax ay bx bY cx cy dx dY ux uy vx vy zx zy d p q : Int) (sp sq sd u1 u2 : Bool) (mp mq md kp kq kd m1 n1 k1 j1 m2 n2 k2 j2 : Nat) (b1 b2 : Bool) (hw : (!b1 || !b2) = true) (w : World) (e1 : IntKind.i64.wrap (bx - ax) = ux) (e2 : IntKind.i64.wrap (bY - ay) = uy) (e3 : IntKind.i64.wrap (dx - cx) = vx) (e4 : IntKind.i64.wrap (dY - cy) = vy) (e5 : IntKind.i64.wrap (cx - ax) = zx) (e6 : IntKind.i64.wrap (cy - ay) = zy) (hd : (d == 0) = false)
 (h1 : ∀ W, Below w.heap.size w W → Calls Tryz.prog 32 #[.int .i64 ux, .int .i64 uy, .int .i64 vx, .int .i64 vy] W fun e' w' => e' = .returned (.int .i64 d) ∧ Below W.heap.size W w')
 (h2 : ∀ W, Below w.heap.size w W → Calls Tryz.prog 32 #[.int .i64 zx, .int .i64 zy, .int .i64 vx, .int .i64 vy] W fun e' w' => e' = .returned (.int .i64 p) ∧ Below W.heap.size W w')
 (h3 : ∀ W, Calls Tryz.prog 34 #[.int .i64 p] W (BgPost W sp mp kp))
 (h4 : ∀ W, Calls Tryz.prog 34 #[.int .i64 d] W (BgPost W sd md kd))
 (h5 : ∀ X x Y y W, DS W mp X → DS W md Y → kp ≤ x → kd ≤ y → Calls Tryz.prog 33 #[.agg #[.bool sp, .slice X kp x], .agg #[.bool sd, .slice Y kd y]] W (RqPost W u1 false m1 n1 k1 j1))
 (h6 : ∀ W, Below w.heap.size w W → Calls Tryz.prog 32 #[.int .i64 zx, .int .i64 zy, .int .i64 ux, .int .i64 uy] W fun e' w' => e' = .returned (.int .i64 q) ∧ Below W.heap.size W w')
 (h7 : ∀ W, Calls Tryz.prog 34 #[.int .i64 q] W (BgPost W sq mq kq))
 (h8 : ∀ X x Y y W, DS W mq X → DS W md Y → kq ≤ x → kd ≤ y → Calls Tryz.prog 33 #[.agg #[.bool sq, .slice X kq x], .agg #[.bool sd, .slice Y kd y]] W (RqPost W u2 false m2 n2 k2 j2))
 (h9 : ∀ A1 c1 D1 d1 W, Below w.heap.size w W → DS W m1 A1 → DS W n1 D1 → Calls Tryz.prog 35 #[.agg #[.bool u1, .slice A1 k1 c1, .bool false, .slice D1 j1 d1]] W fun e' w' => e' = .returned (.bool b1) ∧ Below W.heap.size W w')
 (h10 : ∀ A2 c2 D2 d2 W, Below w.heap.size w W → DS W m2 A2 → DS W n2 D2 → Calls Tryz.prog 35 #[.agg #[.bool u2, .slice A2 k2 c2, .bool false, .slice D2 j2 d2]] W fun e' w' => e' = .returned (.bool b2) ∧ Below W.heap.size W w') :
 Calls Tryz.prog 12 #[.agg #[.int .i64 ax, .int .i64 ay, .int .i64 bx, .int .i64 bY], .agg #[.int .i64 cx, .int .i64 cy, .int .i64 dx, .int .i64 dY]] w fun e' w' => e' = .returned (.agg #[.int .i64 0, .bool false, .slice none 0 0, .bool false, .slice none 0 0, .bool false, .slice none 0 0, .bool false, .slice none 0 0, .bool false, .slice none 0 0, .bool false, .slice none 0 0, .bool false, .slice none 0 0, .bool false, .slice none 0 0]) ∧ Below w.heap.size w w' := by
 have H1 := Lib.hid h1; clear h1
 have H2 := Lib.hid h2; clear h2
 have H3 := Lib.hid h3; clear h3
 have H4 := Lib.hid h4; clear h4
 have H5 := Lib.hid h5; clear h5
 have H6 := Lib.hid h6; clear h6
 have H7 := Lib.hid h7; clear h7
 have H8 := Lib.hid h8; clear h8
 have H9 := Lib.hid h9; clear h9
 have H10 := Lib.hid h10; clear h10
 go_enter Tryz.func12, Tryz.ntmps12
 go_upto_region 1 with fail
 generalize hW : World.alloc _ _ = W0
 have rS : Row W0 w.heap.size [.int .i64 ax, .int .i64 ay, .int .i64 bx, .int .i64 bY] := by rw [← hW]; exact ((Row.at rfl [_, _, _, _] _).alloc _).alloc _
 have rT : Row W0 (w.heap.size + 1) [.int .i64 cx, .int .i64 cy, .int .i64 dx, .int .i64 dY] := by rw [← hW]; exact (Row.at (by simp) [_, _, _, _] _).alloc _
 have rZ : Row W0 (w.heap.size + 2) [.int .i64 0, .bool false, .slice none 0 0, .bool false, .slice none 0 0, .bool false, .slice none 0 0, .bool false, .slice none 0 0, .bool false, .slice none 0 0, .bool false, .slice none 0 0, .bool false, .slice none 0 0, .bool false, .slice none 0 0] := by rw [← hW]; exact Row.at (by simp) _ _
 have hB : Below w.heap.size w W0 := by rw [← hW]; exact (((Below.refl w.heap.size w).alloc (Nat.le_refl _) _).alloc (by simp) _).alloc (by simp; omega) _
 clear hW
 have x0 := rS.c 0 rfl
 have x1 := rS.c 1 rfl
 have x2 := rS.c 2 rfl
 have x3 := rS.c 3 rfl
 have y0 := rT.c 0 rfl
 have y1 := rT.c 1 rfl
 have y2 := rT.c 2 rfl
 have y3 := rT.c 3 rfl
 go_quiet (fail)
 have hb := below_drewN (Below.refl W0.heap.size W0) nq
 generalize World.drewN _ nq = W1 at hb ⊢
 clear nq x0 x1 x2 x3 y0 y1 y2 y3
 replace rS := rS.after hb
 replace rT := rT.after hb
 replace rZ := rZ.after hb
 replace hB := hB.trans (hb.mono hB.size)
 clear hb
 have x0 := rS.c 0 rfl
 have x1 := rS.c 1 rfl
 have x2 := rS.c 2 rfl
 have x3 := rS.c 3 rfl
 have y0 := rT.c 0 rfl
 have y1 := rT.c 1 rfl
 have y2 := rT.c 2 rfl
 have y3 := rT.c 3 rfl
 go_upto_region 2 with fail
 go_quiet (fail)
 have hb := below_drewN (Below.refl W1.heap.size W1) nq
 generalize World.drewN _ nq = W2 at hb ⊢
 clear nq x0 x1 x2 x3 y0 y1 y2 y3
 replace rS := rS.after hb
 replace rT := rT.after hb
 replace rZ := rZ.after hb
 replace hB := hB.trans (hb.mono hB.size)
 clear hb
 have x0 := rS.c 0 rfl
 have x1 := rS.c 1 rfl
 have x2 := rS.c 2 rfl
 have x3 := rS.c 3 rfl
 have y0 := rT.c 0 rfl
 have y1 := rT.c 1 rfl
 have y2 := rT.c 2 rfl
 have y3 := rT.c 3 rfl
 go_upto_region 3 with fail
 go_quiet (fail)
 have hb := below_drewN (Below.refl W2.heap.size W2) nq
 generalize World.drewN _ nq = W3 at hb ⊢
 clear nq x0 x1 x2 x3 y0 y1 y2 y3
 replace rS := rS.after hb
 replace rT := rT.after hb
 replace rZ := rZ.after hb
 replace hB := hB.trans (hb.mono hB.size)
 clear hb
 go_wp2_with fail
 refine (H1.out _ hB).mono ?_
 rintro e' W4 ⟨rfl, hb⟩
 replace rS := rS.after hb
 replace rT := rT.after hb
 replace rZ := rZ.after hb
 replace hB := hB.trans (hb.mono hB.size)
 clear hb
 go_wp2_with fail
 refine (H2.out _ hB).mono ?_
 rintro e' W5 ⟨rfl, hb⟩
 replace rS := rS.after hb
 replace rT := rT.after hb
 replace rZ := rZ.after hb
 replace hB := hB.trans (hb.mono hB.size)
 clear hb
 go_wp2_with fail
 refine (H3.out _).mono ?_
 rintro e' W6 ⟨X1, x1, rfl, g1, f1, hb⟩
 replace rS := rS.after hb
 replace rT := rT.after hb
 replace rZ := rZ.after hb
 replace hB := hB.trans (hb.mono hB.size)
 clear hb
 go_wp2_with fail
 refine (H4.out _).mono ?_
 rintro e' W7 ⟨Y1, y1, rfl, g2, f2, hb⟩
 replace rS := rS.after hb
 replace rT := rT.after hb
 replace rZ := rZ.after hb
 replace hB := hB.trans (hb.mono hB.size)
 replace f1 := f1.below hb
 clear hb
 go_wp2_with fail
 refine (H5.out _ _ _ _ _ f1 f2 g1 g2).mono ?_
 rintro e' W8 ⟨A1, c1, D1, d1, rfl, -, ⟨hA1, hD1⟩, hb⟩
 replace rS := rS.after hb
 replace rT := rT.after hb
 replace rZ := rZ.after hb
 replace hB := hB.trans (hb.mono hB.size)
 clear hb f1 f2 g1 g2
 go_wp2_with fail
 generalize hW : World.alloc _ _ = W9
 have rA : Row W9 W8.heap.size [.bool u1, .slice A1 k1 c1, .bool false, .slice D1 j1 d1] := by rw [← hW]; exact Row.at rfl [.bool u1, .slice A1 k1 c1, .bool false, .slice D1 j1 d1] _
 have hb : Below W8.heap.size W8 W9 := by rw [← hW]; exact (Below.refl _ _).alloc (Nat.le_refl _) _
 replace rS := rS.after hb
 replace rT := rT.after hb
 replace rZ := rZ.after hb
 replace hA1 := hA1.below hb
 replace hD1 := hD1.below hb
 replace hB := hB.trans (hb.mono hB.size)
 clear hW hb
 refine (H6.out _ hB).mono ?_
 rintro e' W10 ⟨rfl, hb⟩
 replace rS := rS.after hb
 replace rT := rT.after hb
 replace rZ := rZ.after hb
 replace rA := rA.after hb
 replace hA1 := hA1.below hb
 replace hD1 := hD1.below hb
 replace hB := hB.trans (hb.mono hB.size)
 clear hb
 go_wp2_with fail
 refine (H7.out _).mono ?_
 rintro e' W11 ⟨X1, x1, rfl, g1, f1, hb⟩
 replace rS := rS.after hb
 replace rT := rT.after hb
 replace rZ := rZ.after hb
 replace rA := rA.after hb
 replace hA1 := hA1.below hb
 replace hD1 := hD1.below hb
 replace hB := hB.trans (hb.mono hB.size)
 clear hb
 go_wp2_with fail
 refine (H4.out _).mono ?_
 rintro e' W12 ⟨Y1, y1, rfl, g2, f2, hb⟩
 replace rS := rS.after hb
 replace rT := rT.after hb
 replace rZ := rZ.after hb
 replace rA := rA.after hb
 replace hA1 := hA1.below hb
 replace hD1 := hD1.below hb
 replace hB := hB.trans (hb.mono hB.size)
 replace f1 := f1.below hb
 clear hb
 go_wp2_with fail
 refine (H8.out _ _ _ _ _ f1 f2 g1 g2).mono ?_
 rintro e' W13 ⟨A2, c2, D2, d2, rfl, -, ⟨hA2, hD2⟩, hb⟩
 replace rS := rS.after hb
 replace rT := rT.after hb
 replace rZ := rZ.after hb
 replace rA := rA.after hb
 replace hA1 := hA1.below hb
 replace hD1 := hD1.below hb
 replace hB := hB.trans (hb.mono hB.size)
 clear hb f1 f2 g1 g2
 go_upto_region 8 with fail
 generalize hW : World.alloc _ _ = W14
 have rB : Row W14 W13.heap.size [.bool u2, .slice A2 k2 c2, .bool false, .slice D2 j2 d2] := by rw [← hW]; exact Row.at rfl [.bool u2, .slice A2 k2 c2, .bool false, .slice D2 j2 d2] _
 have hb : Below W13.heap.size W13 W14 := by rw [← hW]; exact (Below.refl _ _).alloc (Nat.le_refl _) _
 replace rS := rS.after hb
 replace rT := rT.after hb
 replace rZ := rZ.after hb
 replace rA := rA.after hb
 replace hA1 := hA1.below hb
 replace hD1 := hD1.below hb
 replace hA2 := hA2.below hb
 replace hD2 := hD2.below hb
 replace hB := hB.trans (hb.mono hB.size)
 clear hW hb
 have aa0 := rA.c 0 rfl
 have aa1 := rA.c 1 rfl
 have aa2 := rA.c 2 rfl
 have aa3 := rA.c 3 rfl
 have bb0 := rB.c 0 rfl
 have bb1 := rB.c 1 rfl
 have bb2 := rB.c 2 rfl
 have bb3 := rB.c 3 rfl
 go_wp2_with fail
 refine (H9.out _ _ _ _ _ hB hA1 hD1).mono ?_
 rintro e' W15 ⟨rfl, hb⟩
 replace rS := rS.after hb
 replace rT := rT.after hb
 replace rZ := rZ.after hb
 replace rA := rA.after hb
 replace rB := rB.after hb
 replace hA1 := hA1.below hb
 replace hD1 := hD1.below hb
 replace hA2 := hA2.below hb
 replace hD2 := hD2.below hb
 replace hB := hB.trans (hb.mono hB.size)
 clear hb
 clear aa0 aa1 aa2 aa3 bb0 bb1 bb2 bb3
 cases b1
 ·go_wp2_with (refine wpList_store_R rfl _ _ _ rfl _ #[.int .i64 0, .bool false, .slice none 0 0, .bool false, .slice none 0 0, .bool false, .slice none 0 0, .bool false, .slice none 0 0, .bool false, .slice none 0 0, .bool false, .slice none 0 0, .bool false, .slice none 0 0, .bool false, .slice none 0 0] rfl rfl _ rZ (by rfl) agg_rmeet (by simp [OneC, Value.oneCell']) ?_; intro w7 r7 o7)
  exact bodyPost_ret (results_R1 (cs := #[.int .i64 0, .bool false, .slice none 0 0, .bool false, .slice none 0 0, .bool false, .slice none 0 0, .bool false, .slice none 0 0, .bool false, .slice none 0 0, .bool false, .slice none 0 0, .bool false, .slice none 0 0, .bool false, .slice none 0 0]) rfl rfl r7 agg_rmeet) rfl ⟨rfl, below_on hB o7 (by omega)⟩
 ·cases b2
  ·have bb0 := rB.c 0 rfl
   have bb1 := rB.c 1 rfl
   have bb2 := rB.c 2 rfl
   have bb3 := rB.c 3 rfl
   go_wp2_with fail
   refine (H10.out _ _ _ _ _ hB hA2 hD2).mono ?_
   rintro e' W16 ⟨rfl, hb⟩
   replace rS := rS.after hb
   replace rT := rT.after hb
   replace rZ := rZ.after hb
   replace rA := rA.after hb
   replace rB := rB.after hb
   replace hA1 := hA1.below hb
   replace hD1 := hD1.below hb
   replace hA2 := hA2.below hb
   replace hD2 := hD2.below hb
   replace hB := hB.trans (hb.mono hB.size)
   clear hb
   clear bb0 bb1 bb2 bb3
   go_wp2_with (refine wpList_store_R rfl _ _ _ rfl _ #[.int .i64 0, .bool false, .slice none 0 0, .bool false, .slice none 0 0, .bool false, .slice none 0 0, .bool false, .slice none 0 0, .bool false, .slice none 0 0, .bool false, .slice none 0 0, .bool false, .slice none 0 0, .bool false, .slice none 0 0] rfl rfl _ rZ (by rfl) agg_rmeet (by simp [OneC, Value.oneCell']) ?_; intro w7 r7 o7)
   exact bodyPost_ret (results_R1 (cs := #[.int .i64 0, .bool false, .slice none 0 0, .bool false, .slice none 0 0, .bool false, .slice none 0 0, .bool false, .slice none 0 0, .bool false, .slice none 0 0, .bool false, .slice none 0 0, .bool false, .slice none 0 0, .bool false, .slice none 0 0]) rfl rfl r7 agg_rmeet) rfl ⟨rfl, below_on hB o7 (by omega)⟩
  ·cases hw
end Go.Proofs.YtcabndpmfkimgaaGreatDoor

namespace Go.Proofs.YtcabndpmfkimgaaGreatDoor
open Go.RowKit Go.Sort CrossMath

theorem DS.onM {W W' : World} {m X : Nat} {A : Option Addr} {s : Bool} {k : Int} (h : DS W m A) (ho : On W W' X) (h0 : W.cell? ⟨X, 0, none⟩ = some (.int .i64 k)) (h1 : W.cell? ⟨X, 1, none⟩ = some (.bool s)) (hk : k = 0 := by rfl) : DS W' m A := fun hm => by
 obtain ⟨b, rfl, hl, hx⟩ := h hm
 have hne : b ≠ X := fun e => by
  subst e
  by_cases h2 : 1 < L16 m
  ·have := hx 1 h2
   rw [h1] at this
   cases this
  ·have h3 := hx 0 hm
   rw [h0, hk] at h3
   have h4 : L16 m - 1 = 0 := by omega
   have h5 := D16_top hm
   rw [h4] at h5
   injection h3 with h6
   injection h6 with _ h7
   unfold digR at h7
   omega
 exact ⟨b, rfl, by rw [ho.size]; exact hl, fun i hi => (ho.cell (p := ⟨b, i, none⟩) hne).trans (hx i hi)⟩
def rqFct (idx slot : Nat) (s : Bool) (m n k j : Nat) : Fct := ⟨idx, slot, fun v W => ∃ A c D d, v = .agg #[.bool s, .slice A k c, .bool false, .slice D j d] ∧ DS W m A ∧ DS W n D, fun v X Y h hb => by
 obtain ⟨A, c, D, d, h1, h2, h3⟩ := h
 exact ⟨A, c, D, d, h1, h2.below hb, h3.below hb⟩⟩
def ptFct (idx slot : Nat) (s t : Bool) (m n p q k j i l : Nat) : Fct := ⟨idx, slot, fun v W => ∃ A c D d E f G g, v = .agg #[.bool s, .slice A k c, .bool false, .slice D j d, .bool t, .slice E i f, .bool false, .slice G l g] ∧ DS W m A ∧ DS W n D ∧ DS W p E ∧ DS W q G, fun v X Y h hb => by
 obtain ⟨A, c, D, d, E, f, G, g, h1, h2, h3, h4, h5⟩ := h
 exact ⟨A, c, D, d, E, f, G, g, h1, h2.below hb, h3.below hb, h4.below hb, h5.below hb⟩⟩
def newFct (idx slot B : Nat) (zs : List Value) : Fct := ⟨idx, slot, fun v W => ∃ C, v = .pointer (some ⟨C, 0, none⟩) ∧ B ≤ C ∧ Row W C zs, fun v X Y h hb => by
 obtain ⟨C, h1, h2, h3⟩ := h
 exact ⟨C, h1, h2, h3.after hb⟩⟩
def TcPost (w : World) (s t : Bool) (m n p q k j i l : Nat) (e : Ending) (w' : World) : Prop := ∃ A c D d E f G g, e = .returned (.agg #[.int .i64 1, .bool s, .slice A k c, .bool false, .slice D j d, .bool t, .slice E i f, .bool false, .slice G l g, .bool s, .slice A k c, .bool false, .slice D j d, .bool t, .slice E i f, .bool false, .slice G l g]) ∧ (DS w' m A ∧ DS w' n D ∧ DS w' p E ∧ DS w' q G) ∧ Below w.heap.size w w'
set_option maxRecDepth 100000 in
set_option maxHeartbeats 12800000 in
theorem of_touch (ax ay bx bY cx cy dx dY ux uy vx vy zx zy d p q : Int) (sp sq sd u1 u2 : Bool) (mp mq md kp kq kd m1 n1 k1 j1 m2 n2 k2 j2 : Nat) (ta tu tc tv s3 s4 s5 s6 : Bool) (ma mu mc mv ka ku kc kv l m3 n3 k3 j3 m4 n4 k4 j4 m5 n5 k5 j5 m6 n6 k6 j6 : Nat) (w : World) (e1 : IntKind.i64.wrap (bx - ax) = ux) (e2 : IntKind.i64.wrap (bY - ay) = uy) (e3 : IntKind.i64.wrap (dx - cx) = vx) (e4 : IntKind.i64.wrap (dY - cy) = vy) (e5 : IntKind.i64.wrap (cx - ax) = zx) (e6 : IntKind.i64.wrap (cy - ay) = zy) (hd : (d == 0) = false)
 (h1 : ∀ W, Below w.heap.size w W → Calls Tryz.prog 32 #[.int .i64 ux, .int .i64 uy, .int .i64 vx, .int .i64 vy] W fun e' w' => e' = .returned (.int .i64 d) ∧ Below W.heap.size W w')
 (h2 : ∀ W, Below w.heap.size w W → Calls Tryz.prog 32 #[.int .i64 zx, .int .i64 zy, .int .i64 vx, .int .i64 vy] W fun e' w' => e' = .returned (.int .i64 p) ∧ Below W.heap.size W w')
 (h3 : ∀ W, Calls Tryz.prog 34 #[.int .i64 p] W (BgPost W sp mp kp))
 (h4 : ∀ W, Calls Tryz.prog 34 #[.int .i64 d] W (BgPost W sd md kd))
 (h5 : ∀ X x Y y W, DS W mp X → DS W md Y → kp ≤ x → kd ≤ y → Calls Tryz.prog 33 #[.agg #[.bool sp, .slice X kp x], .agg #[.bool sd, .slice Y kd y]] W (RqPost W u1 false m1 n1 k1 j1))
 (h6 : ∀ W, Below w.heap.size w W → Calls Tryz.prog 32 #[.int .i64 zx, .int .i64 zy, .int .i64 ux, .int .i64 uy] W fun e' w' => e' = .returned (.int .i64 q) ∧ Below W.heap.size W w')
 (h7 : ∀ W, Calls Tryz.prog 34 #[.int .i64 q] W (BgPost W sq mq kq))
 (h8 : ∀ X x Y y W, DS W mq X → DS W md Y → kq ≤ x → kd ≤ y → Calls Tryz.prog 33 #[.agg #[.bool sq, .slice X kq x], .agg #[.bool sd, .slice Y kd y]] W (RqPost W u2 false m2 n2 k2 j2))
 (h9 : ∀ A1 c1 D1 d1 W, Below w.heap.size w W → DS W m1 A1 → DS W n1 D1 → Calls Tryz.prog 35 #[.agg #[.bool u1, .slice A1 k1 c1, .bool false, .slice D1 j1 d1]] W fun e' w' => e' = .returned (.bool true) ∧ Below W.heap.size W w')
 (h10 : ∀ A2 c2 D2 d2 W, Below w.heap.size w W → DS W m2 A2 → DS W n2 D2 → Calls Tryz.prog 35 #[.agg #[.bool u2, .slice A2 k2 c2, .bool false, .slice D2 j2 d2]] W fun e' w' => e' = .returned (.bool true) ∧ Below W.heap.size W w')
 (h11 : ∀ W, Calls Tryz.prog 37 #[.int .i64 ax] W (RatPost W ta ma ka l))
 (h12 : ∀ W, Calls Tryz.prog 37 #[.int .i64 ux] W (RatPost W tu mu ku l))
 (h15 : ∀ W, Calls Tryz.prog 37 #[.int .i64 ay] W (RatPost W tc mc kc l))
 (h16 : ∀ W, Calls Tryz.prog 37 #[.int .i64 uy] W (RatPost W tv mv kv l))
 (h13 : ∀ A c D d E f G g W, Below w.heap.size w W → DS W m1 A → DS W n1 D → DS W mu E → DS W 1 G → Calls Tryz.prog 38 #[.agg #[.bool u1, .slice A k1 c, .bool false, .slice D j1 d], .agg #[.bool tu, .slice E ku f, .bool false, .slice G l g]] W (RqPost W s3 false m3 n3 k3 j3))
 (h14 : ∀ A c D d E f G g W, Below w.heap.size w W → DS W ma A → DS W 1 D → DS W m3 E → DS W n3 G → Calls Tryz.prog 36 #[.agg #[.bool ta, .slice A ka c, .bool false, .slice D l d], .agg #[.bool s3, .slice E k3 f, .bool false, .slice G j3 g]] W (RqPost W s5 false m5 n5 k5 j5))
 (h17 : ∀ A c D d E f G g W, Below w.heap.size w W → DS W m1 A → DS W n1 D → DS W mv E → DS W 1 G → Calls Tryz.prog 38 #[.agg #[.bool u1, .slice A k1 c, .bool false, .slice D j1 d], .agg #[.bool tv, .slice E kv f, .bool false, .slice G l g]] W (RqPost W s4 false m4 n4 k4 j4))
 (h18 : ∀ A c D d E f G g W, Below w.heap.size w W → DS W mc A → DS W 1 D → DS W m4 E → DS W n4 G → Calls Tryz.prog 36 #[.agg #[.bool tc, .slice A kc c, .bool false, .slice D l d], .agg #[.bool s4, .slice E k4 f, .bool false, .slice G j4 g]] W (RqPost W s6 false m6 n6 k6 j6))
 : Calls Tryz.prog 12 #[.agg #[.int .i64 ax, .int .i64 ay, .int .i64 bx, .int .i64 bY], .agg #[.int .i64 cx, .int .i64 cy, .int .i64 dx, .int .i64 dY]] w (TcPost w s5 s6 m5 n5 m6 n6 k5 j5 k6 j6) := by
 have H1 := Lib.hid h1; clear h1
 have H2 := Lib.hid h2; clear h2
 have H3 := Lib.hid h3; clear h3
 have H4 := Lib.hid h4; clear h4
 have H5 := Lib.hid h5; clear h5
 have H6 := Lib.hid h6; clear h6
 have H7 := Lib.hid h7; clear h7
 have H8 := Lib.hid h8; clear h8
 have H9 := Lib.hid h9; clear h9
 have H10 := Lib.hid h10; clear h10
 have H11 := Lib.hid h11; clear h11
 have H12 := Lib.hid h12; clear h12
 have H13 := Lib.hid h13; clear h13
 have H14 := Lib.hid h14; clear h14
 have H15 := Lib.hid h15; clear h15
 have H16 := Lib.hid h16; clear h16
 have H17 := Lib.hid h17; clear h17
 have H18 := Lib.hid h18; clear h18
 go_enter Tryz.func12, Tryz.ntmps12
 go_upto_region 1 with fail
 generalize hW : World.alloc _ _ = W0
 have rS : Row W0 w.heap.size [.int .i64 ax, .int .i64 ay, .int .i64 bx, .int .i64 bY] := by rw [← hW]; exact ((Row.at rfl [_, _, _, _] _).alloc _).alloc _
 have rT : Row W0 (w.heap.size + 1) [.int .i64 cx, .int .i64 cy, .int .i64 dx, .int .i64 dY] := by rw [← hW]; exact (Row.at (by simp) [_, _, _, _] _).alloc _
 have rZ : Row W0 (w.heap.size + 2) [.int .i64 0, .bool false, .slice none 0 0, .bool false, .slice none 0 0, .bool false, .slice none 0 0, .bool false, .slice none 0 0, .bool false, .slice none 0 0, .bool false, .slice none 0 0, .bool false, .slice none 0 0, .bool false, .slice none 0 0] := by rw [← hW]; exact Row.at (by simp) _ _
 have hB : Below w.heap.size w W0 := by rw [← hW]; exact (((Below.refl w.heap.size w).alloc (Nat.le_refl _) _).alloc (by simp) _).alloc (by simp; omega) _
 clear hW
 have x0 := rS.c 0 rfl
 have x1 := rS.c 1 rfl
 have x2 := rS.c 2 rfl
 have x3 := rS.c 3 rfl
 have y0 := rT.c 0 rfl
 have y1 := rT.c 1 rfl
 have y2 := rT.c 2 rfl
 have y3 := rT.c 3 rfl
 go_quiet (fail)
 have hb := below_drewN (Below.refl W0.heap.size W0) nq
 generalize World.drewN _ nq = W1 at hb ⊢
 clear nq x0 x1 x2 x3 y0 y1 y2 y3
 replace rS := rS.after hb
 replace rT := rT.after hb
 replace rZ := rZ.after hb
 replace hB := hB.trans (hb.mono hB.size)
 clear hb
 have x0 := rS.c 0 rfl
 have x1 := rS.c 1 rfl
 have x2 := rS.c 2 rfl
 have x3 := rS.c 3 rfl
 have y0 := rT.c 0 rfl
 have y1 := rT.c 1 rfl
 have y2 := rT.c 2 rfl
 have y3 := rT.c 3 rfl
 go_upto_region 2 with fail
 go_quiet (fail)
 have hb := below_drewN (Below.refl W1.heap.size W1) nq
 generalize World.drewN _ nq = W2 at hb ⊢
 clear nq x0 x1 x2 x3 y0 y1 y2 y3
 replace rS := rS.after hb
 replace rT := rT.after hb
 replace rZ := rZ.after hb
 replace hB := hB.trans (hb.mono hB.size)
 clear hb
 have x0 := rS.c 0 rfl
 have x1 := rS.c 1 rfl
 have x2 := rS.c 2 rfl
 have x3 := rS.c 3 rfl
 have y0 := rT.c 0 rfl
 have y1 := rT.c 1 rfl
 have y2 := rT.c 2 rfl
 have y3 := rT.c 3 rfl
 go_upto_region 3 with fail
 go_quiet (fail)
 have hb := below_drewN (Below.refl W2.heap.size W2) nq
 generalize World.drewN _ nq = W3 at hb ⊢
 clear nq x0 x1 x2 x3 y0 y1 y2 y3
 replace rS := rS.after hb
 replace rT := rT.after hb
 replace rZ := rZ.after hb
 replace hB := hB.trans (hb.mono hB.size)
 clear hb
 go_wp2_with fail
 refine (H1.out _ hB).mono ?_
 rintro e' W4 ⟨rfl, hb⟩
 replace rS := rS.after hb
 replace rT := rT.after hb
 replace rZ := rZ.after hb
 replace hB := hB.trans (hb.mono hB.size)
 clear hb
 go_wp2_with fail
 refine (H2.out _ hB).mono ?_
 rintro e' W5 ⟨rfl, hb⟩
 replace rS := rS.after hb
 replace rT := rT.after hb
 replace rZ := rZ.after hb
 replace hB := hB.trans (hb.mono hB.size)
 clear hb
 go_wp2_with fail
 refine (H3.out _).mono ?_
 rintro e' W6 ⟨X1, x1, rfl, g1, f1, hb⟩
 replace rS := rS.after hb
 replace rT := rT.after hb
 replace rZ := rZ.after hb
 replace hB := hB.trans (hb.mono hB.size)
 clear hb
 go_wp2_with fail
 refine (H4.out _).mono ?_
 rintro e' W7 ⟨Y1, y1, rfl, g2, f2, hb⟩
 replace rS := rS.after hb
 replace rT := rT.after hb
 replace rZ := rZ.after hb
 replace hB := hB.trans (hb.mono hB.size)
 replace f1 := f1.below hb
 clear hb
 go_wp2_with fail
 refine (H5.out _ _ _ _ _ f1 f2 g1 g2).mono ?_
 rintro e' W8 ⟨A1, c1, D1, d1, rfl, -, ⟨hA1, hD1⟩, hb⟩
 replace rS := rS.after hb
 replace rT := rT.after hb
 replace rZ := rZ.after hb
 replace hB := hB.trans (hb.mono hB.size)
 clear hb f1 f2 g1 g2
 go_wp2_with fail
 generalize hW : World.alloc _ _ = W9
 have rA : Row W9 W8.heap.size [.bool u1, .slice A1 k1 c1, .bool false, .slice D1 j1 d1] := by rw [← hW]; exact Row.at rfl [.bool u1, .slice A1 k1 c1, .bool false, .slice D1 j1 d1] _
 have hb : Below W8.heap.size W8 W9 := by rw [← hW]; exact (Below.refl _ _).alloc (Nat.le_refl _) _
 replace rS := rS.after hb
 replace rT := rT.after hb
 replace rZ := rZ.after hb
 replace hA1 := hA1.below hb
 replace hD1 := hD1.below hb
 replace hB := hB.trans (hb.mono hB.size)
 clear hW hb
 refine (H6.out _ hB).mono ?_
 rintro e' W10 ⟨rfl, hb⟩
 replace rS := rS.after hb
 replace rT := rT.after hb
 replace rZ := rZ.after hb
 replace rA := rA.after hb
 replace hA1 := hA1.below hb
 replace hD1 := hD1.below hb
 replace hB := hB.trans (hb.mono hB.size)
 clear hb
 go_wp2_with fail
 refine (H7.out _).mono ?_
 rintro e' W11 ⟨X1, x1, rfl, g1, f1, hb⟩
 replace rS := rS.after hb
 replace rT := rT.after hb
 replace rZ := rZ.after hb
 replace rA := rA.after hb
 replace hA1 := hA1.below hb
 replace hD1 := hD1.below hb
 replace hB := hB.trans (hb.mono hB.size)
 clear hb
 go_wp2_with fail
 refine (H4.out _).mono ?_
 rintro e' W12 ⟨Y1, y1, rfl, g2, f2, hb⟩
 replace rS := rS.after hb
 replace rT := rT.after hb
 replace rZ := rZ.after hb
 replace rA := rA.after hb
 replace hA1 := hA1.below hb
 replace hD1 := hD1.below hb
 replace hB := hB.trans (hb.mono hB.size)
 replace f1 := f1.below hb
 clear hb
 go_wp2_with fail
 refine (H8.out _ _ _ _ _ f1 f2 g1 g2).mono ?_
 rintro e' W13 ⟨A2, c2, D2, d2, rfl, -, ⟨hA2, hD2⟩, hb⟩
 replace rS := rS.after hb
 replace rT := rT.after hb
 replace rZ := rZ.after hb
 replace rA := rA.after hb
 replace hA1 := hA1.below hb
 replace hD1 := hD1.below hb
 replace hB := hB.trans (hb.mono hB.size)
 clear hb f1 f2 g1 g2
 go_upto_region 8 with fail
 generalize hW : World.alloc _ _ = W14
 have rB : Row W14 W13.heap.size [.bool u2, .slice A2 k2 c2, .bool false, .slice D2 j2 d2] := by rw [← hW]; exact Row.at rfl [.bool u2, .slice A2 k2 c2, .bool false, .slice D2 j2 d2] _
 have hb : Below W13.heap.size W13 W14 := by rw [← hW]; exact (Below.refl _ _).alloc (Nat.le_refl _) _
 replace rS := rS.after hb
 replace rT := rT.after hb
 replace rZ := rZ.after hb
 replace rA := rA.after hb
 replace hA1 := hA1.below hb
 replace hD1 := hD1.below hb
 replace hA2 := hA2.below hb
 replace hD2 := hD2.below hb
 replace hB := hB.trans (hb.mono hB.size)
 clear hW hb
 have aa0 := rA.c 0 rfl
 have aa1 := rA.c 1 rfl
 have aa2 := rA.c 2 rfl
 have aa3 := rA.c 3 rfl
 have bb0 := rB.c 0 rfl
 have bb1 := rB.c 1 rfl
 have bb2 := rB.c 2 rfl
 have bb3 := rB.c 3 rfl
 go_wp2_with fail
 refine (H9.out _ _ _ _ _ hB hA1 hD1).mono ?_
 rintro e' W15 ⟨rfl, hb⟩
 replace rS := rS.after hb
 replace rT := rT.after hb
 replace rZ := rZ.after hb
 replace rA := rA.after hb
 replace rB := rB.after hb
 replace hA1 := hA1.below hb
 replace hD1 := hD1.below hb
 replace hA2 := hA2.below hb
 replace hD2 := hD2.below hb
 replace hB := hB.trans (hb.mono hB.size)
 clear hb
 clear aa0 aa1 aa2 aa3 bb0 bb1 bb2 bb3
 have bb0 := rB.c 0 rfl
 have bb1 := rB.c 1 rfl
 have bb2 := rB.c 2 rfl
 have bb3 := rB.c 3 rfl
 go_wp2_with fail
 refine (H10.out _ _ _ _ _ hB hA2 hD2).mono ?_
 rintro e' W16 ⟨rfl, hb⟩
 replace rS := rS.after hb
 replace rT := rT.after hb
 replace rZ := rZ.after hb
 replace rA := rA.after hb
 replace rB := rB.after hb
 replace hA1 := hA1.below hb
 replace hD1 := hD1.below hb
 replace hA2 := hA2.below hb
 replace hD2 := hD2.below hb
 replace hB := hB.trans (hb.mono hB.size)
 clear hb bb0 bb1 bb2 bb3
 go_upto_region 10 with fail
 have HS := Lib.hid rS
 have HA := Lib.hid rA
 have HZ := Lib.hid rZ
 have hb0 := hB
 clear hB rS rT rA rB rZ hA2 hD2 H1 H2 H3 H4 H5 H6 H7 H8 H9 H10
 refine wp_region_fct (by kernel_rfl) [] (fun ix => match ix with
  | 0 => some (Value.pointer (some ⟨w.heap.size, 0, none⟩))
  | 1 => some (Value.pointer (some ⟨w.heap.size, 0, none⟩))
  | 2 => some (Value.int .i64 ax)
  | 4 => some (Value.agg #[.bool u1, .slice A1 k1 c1, .bool false, .slice D1 j1 d1])
  | 5 => some (Value.int .i64 ux)
  | 9 => some (Value.pointer (some ⟨w.heap.size, 0, none⟩))
  | 10 => some (Value.pointer (some ⟨w.heap.size, 1, none⟩))
  | 11 => some (Value.int .i64 ay)
  | 13 => some (Value.agg #[.bool u1, .slice A1 k1 c1, .bool false, .slice D1 j1 d1])
  | 14 => some (Value.int .i64 uy)
  | _ => none) (by intro j hj; cases hj) 20 [rqFct 3 98 ta ma 1 ka l, rqFct 6 101 tu mu 1 ku l, rqFct 7 102 s3 m3 n3 k3 j3, rqFct 8 103 s5 m5 n5 k5 j5, rqFct 12 107 tc mc 1 kc l, rqFct 15 110 tv mv 1 kv l, rqFct 16 111 s4 m4 n4 k4 j4, rqFct 17 112 s6 m6 n6 k6 j6, ptFct 18 113 s5 s6 m5 n5 m6 n6 k5 j5 k6 j6, newFct 19 14 W16.heap.size [.bool false, .slice none 0 0, .bool false, .slice none 0 0, .bool false, .slice none 0 0, .bool false, .slice none 0 0]] (fun sl W => ∃ C A c D d E f G g, sl 14 = .pointer (some ⟨C, 0, none⟩) ∧ W16.heap.size ≤ C ∧ Row W C [.bool s5, .slice A k5 c, .bool false, .slice D j5 d, .bool s6, .slice E k6 f, .bool false, .slice G j6 g] ∧ (DS W m5 A ∧ DS W n5 D ∧ DS W m6 E ∧ DS W n6 G) ∧ Below W16.heap.size W16 W) (by kernel_rfl) (by kernel_rfl) (by rfl) ?_ ?_
 ·intro listed a W ix o hI ho hdep hB hF K hK hKf
  have hi : ix < 21 := (Array.getElem?_eq_some_iff.1 ho).1
  have hcase : ix = 0 ∨ ix = 1 ∨ ix = 2 ∨ ix = 3 ∨ ix = 4 ∨ ix = 5 ∨ ix = 6 ∨ ix = 7 ∨ ix = 8 ∨ ix = 9 ∨ ix = 10 ∨ ix = 11 ∨ ix = 12 ∨ ix = 13 ∨ ix = 14 ∨ ix = 15 ∨ ix = 16 ∨ ix = 17 ∨ ix = 18 ∨ ix = 19 ∨ ix = 20 := by omega
  clear hi
  rcases hcase with rfl | rfl | rfl | rfl | rfl | rfl | rfl | rfl | rfl | rfl | rfl | rfl | rfl | rfl | rfl | rfl | rfl | rfl | rfl | rfl | rfl
  ·obtain rfl := oI ho
   have q2 : a.tmps[2]?.getD undef = Value.pointer (some ⟨w.heap.size, 0, none⟩) := hI.old 2 (noDst_spec (by kernel_rfl))
   clear hdep hI ho hF
   go_simp
   exact hK (by decide) (Value.pointer (some ⟨w.heap.size, 0, none⟩)) _ (fun u hu => oV hu) (Below.refl _ _) (fct_none rfl)
  ·obtain rfl := oI ho
   have d0 : listed.getD 0 false = true := hdep ⟨0, .data⟩ (by simp) rfl
   have q95 : a.tmps[95]?.getD undef = Value.pointer (some ⟨w.heap.size, 0, none⟩) := hI.val 0 _ 95 _ rfl rfl rfl d0
   clear hdep hI ho hF
   go_simp
   exact hK (by decide) (Value.pointer (some ⟨w.heap.size, 0, none⟩)) _ (fun u hu => oV hu) (Below.refl _ _) (fct_none rfl)
  ·obtain rfl := oI ho
   have d1 : listed.getD 1 false = true := hdep ⟨1, .data⟩ (by simp) rfl
   have q96 : a.tmps[96]?.getD undef = Value.pointer (some ⟨w.heap.size, 0, none⟩) := hI.val 1 _ 96 _ rfl rfl rfl d1
   have x0 := (HS.out.after hB).c 0 rfl
   clear hdep hI ho hF
   go_simp
   exact hK (by decide) (Value.int .i64 ax) _ (fun u hu => oV hu) (Below.refl _ _) (fct_none rfl)
  ·obtain rfl := oI ho
   have d2 : listed.getD 2 false = true := hdep ⟨2, .data⟩ (by simp) rfl
   have q97 : a.tmps[97]?.getD undef = Value.int .i64 ax := hI.val 2 _ 97 _ rfl rfl rfl d2
   clear hdep hI ho hF
   go_simp
   refine (H11.out _).mono ?_
   rintro e W2 ⟨E, f, G, g, rfl, hE, hG, hb⟩
   exact hK (by decide) (.agg #[.bool ta, .slice E ka f, .bool false, .slice G l g]) _ (fun u hu => nV hu) hb (fun p hp e => by
    simp only [List.mem_cons, List.not_mem_nil, or_false] at hp
    rcases hp with rfl | rfl | rfl | rfl | rfl | rfl | rfl | rfl | rfl | rfl
    ·exact ⟨E, f, G, g, rfl, hE, hG⟩
    ·exact absurd e (fct_ne (i := 6) rfl)
    ·exact absurd e (fct_ne (i := 7) rfl)
    ·exact absurd e (fct_ne (i := 8) rfl)
    ·exact absurd e (fct_ne (i := 12) rfl)
    ·exact absurd e (fct_ne (i := 15) rfl)
    ·exact absurd e (fct_ne (i := 16) rfl)
    ·exact absurd e (fct_ne (i := 17) rfl)
    ·exact absurd e (fct_ne (i := 18) rfl)
    ·exact absurd e (fct_ne (i := 19) rfl))
  ·obtain rfl := oI ho
   have q12 : a.tmps[12]?.getD undef = Value.pointer (some ⟨W8.heap.size, 0, none⟩) := hI.old 12 (noDst_spec (by kernel_rfl))
   have x0 := (HA.out.after hB).c 0 rfl
   have x1 := (HA.out.after hB).c 1 rfl
   have x2 := (HA.out.after hB).c 2 rfl
   have x3 := (HA.out.after hB).c 3 rfl
   clear hdep hI ho hF
   go_simp
   exact hK (by decide) (Value.agg #[.bool u1, .slice A1 k1 c1, .bool false, .slice D1 j1 d1]) _ (fun u hu => oV hu) (Below.refl _ _) (fct_none rfl)
  ·obtain rfl := oI ho
   have q5 : a.tmps[5]?.getD undef = Value.int .i64 ux := hI.old 5 (noDst_spec (by kernel_rfl))
   clear hdep hI ho hF
   go_simp
   exact hK (by decide) (Value.int .i64 ux) _ (fun u hu => oV hu) (Below.refl _ _) (fct_none rfl)
  ·obtain rfl := oI ho
   have d5 : listed.getD 5 false = true := hdep ⟨5, .data⟩ (by simp) rfl
   have q100 : a.tmps[100]?.getD undef = Value.int .i64 ux := hI.val 5 _ 100 _ rfl rfl rfl d5
   clear hdep hI ho hF
   go_simp
   refine (H12.out _).mono ?_
   rintro e W2 ⟨E, f, G, g, rfl, hE, hG, hb⟩
   exact hK (by decide) (.agg #[.bool tu, .slice E ku f, .bool false, .slice G l g]) _ (fun u hu => nV hu) hb (fun p hp e => by
    simp only [List.mem_cons, List.not_mem_nil, or_false] at hp
    rcases hp with rfl | rfl | rfl | rfl | rfl | rfl | rfl | rfl | rfl | rfl
    ·exact absurd e (fct_ne (i := 3) rfl)
    ·exact ⟨E, f, G, g, rfl, hE, hG⟩
    ·exact absurd e (fct_ne (i := 7) rfl)
    ·exact absurd e (fct_ne (i := 8) rfl)
    ·exact absurd e (fct_ne (i := 12) rfl)
    ·exact absurd e (fct_ne (i := 15) rfl)
    ·exact absurd e (fct_ne (i := 16) rfl)
    ·exact absurd e (fct_ne (i := 17) rfl)
    ·exact absurd e (fct_ne (i := 18) rfl)
    ·exact absurd e (fct_ne (i := 19) rfl))
  ·obtain rfl := oI ho
   have d4 : listed.getD 4 false = true := hdep ⟨4, .data⟩ (by simp) rfl
   have q99 : a.tmps[99]?.getD undef = Value.agg #[.bool u1, .slice A1 k1 c1, .bool false, .slice D1 j1 d1] := hI.val 4 _ 99 _ rfl rfl rfl d4
   have d6 : listed.getD 6 false = true := hdep ⟨6, .data⟩ (by simp) rfl
   obtain ⟨E, f, G, g, hq2, hx2, hy2⟩ := hF (rqFct 6 101 tu mu 1 ku l) (by simp) d6
   have q101 : a.tmps[101]?.getD undef = .agg #[.bool tu, .slice E ku f, .bool false, .slice G l g] := hq2
   have HC := Lib.hid (H13.out A1 c1 D1 d1 E f G g W (hb0.trans (hB.mono hb0.size)) (hA1.below hB) (hD1.below hB) hx2 hy2)
   clear hdep hI ho hF
   go_simp
   refine HC.out.mono ?_
   rintro e W2 ⟨A', c', D', d', rfl, -, ⟨hA', hD'⟩, hb⟩
   exact hK (by decide) (.agg #[.bool s3, .slice A' k3 c', .bool false, .slice D' j3 d']) _ (fun u hu => nV hu) hb (fun p hp e => by
    simp only [List.mem_cons, List.not_mem_nil, or_false] at hp
    rcases hp with rfl | rfl | rfl | rfl | rfl | rfl | rfl | rfl | rfl | rfl
    ·exact absurd e (fct_ne (i := 3) rfl)
    ·exact absurd e (fct_ne (i := 6) rfl)
    ·exact ⟨A', c', D', d', rfl, hA', hD'⟩
    ·exact absurd e (fct_ne (i := 8) rfl)
    ·exact absurd e (fct_ne (i := 12) rfl)
    ·exact absurd e (fct_ne (i := 15) rfl)
    ·exact absurd e (fct_ne (i := 16) rfl)
    ·exact absurd e (fct_ne (i := 17) rfl)
    ·exact absurd e (fct_ne (i := 18) rfl)
    ·exact absurd e (fct_ne (i := 19) rfl))
  ·obtain rfl := oI ho
   have d3 : listed.getD 3 false = true := hdep ⟨3, .data⟩ (by simp) rfl
   obtain ⟨A, c, D, d, hq1, hx1, hy1⟩ := hF (rqFct 3 98 ta ma 1 ka l) (by simp) d3
   have q98 : a.tmps[98]?.getD undef = .agg #[.bool ta, .slice A ka c, .bool false, .slice D l d] := hq1
   have d7 : listed.getD 7 false = true := hdep ⟨7, .data⟩ (by simp) rfl
   obtain ⟨E, f, G, g, hq2, hx2, hy2⟩ := hF (rqFct 7 102 s3 m3 n3 k3 j3) (by simp) d7
   have q102 : a.tmps[102]?.getD undef = .agg #[.bool s3, .slice E k3 f, .bool false, .slice G j3 g] := hq2
   have HC := Lib.hid (H14.out A c D d E f G g W (hb0.trans (hB.mono hb0.size)) hx1 hy1 hx2 hy2)
   clear hdep hI ho hF
   go_simp
   refine HC.out.mono ?_
   rintro e W2 ⟨A', c', D', d', rfl, -, ⟨hA', hD'⟩, hb⟩
   exact hK (by decide) (.agg #[.bool s5, .slice A' k5 c', .bool false, .slice D' j5 d']) _ (fun u hu => nV hu) hb (fun p hp e => by
    simp only [List.mem_cons, List.not_mem_nil, or_false] at hp
    rcases hp with rfl | rfl | rfl | rfl | rfl | rfl | rfl | rfl | rfl | rfl
    ·exact absurd e (fct_ne (i := 3) rfl)
    ·exact absurd e (fct_ne (i := 6) rfl)
    ·exact absurd e (fct_ne (i := 7) rfl)
    ·exact ⟨A', c', D', d', rfl, hA', hD'⟩
    ·exact absurd e (fct_ne (i := 12) rfl)
    ·exact absurd e (fct_ne (i := 15) rfl)
    ·exact absurd e (fct_ne (i := 16) rfl)
    ·exact absurd e (fct_ne (i := 17) rfl)
    ·exact absurd e (fct_ne (i := 18) rfl)
    ·exact absurd e (fct_ne (i := 19) rfl))
  ·obtain rfl := oI ho
   have q2 : a.tmps[2]?.getD undef = Value.pointer (some ⟨w.heap.size, 0, none⟩) := hI.old 2 (noDst_spec (by kernel_rfl))
   clear hdep hI ho hF
   go_simp
   exact hK (by decide) (Value.pointer (some ⟨w.heap.size, 0, none⟩)) _ (fun u hu => oV hu) (Below.refl _ _) (fct_none rfl)
  ·obtain rfl := oI ho
   have d9 : listed.getD 9 false = true := hdep ⟨9, .data⟩ (by simp) rfl
   have q104 : a.tmps[104]?.getD undef = Value.pointer (some ⟨w.heap.size, 0, none⟩) := hI.val 9 _ 104 _ rfl rfl rfl d9
   clear hdep hI ho hF
   go_simp
   exact hK (by decide) (Value.pointer (some ⟨w.heap.size, 1, none⟩)) _ (fun u hu => oV hu) (Below.refl _ _) (fct_none rfl)
  ·obtain rfl := oI ho
   have d10 : listed.getD 10 false = true := hdep ⟨10, .data⟩ (by simp) rfl
   have q105 : a.tmps[105]?.getD undef = Value.pointer (some ⟨w.heap.size, 1, none⟩) := hI.val 10 _ 105 _ rfl rfl rfl d10
   have x1 := (HS.out.after hB).c 1 rfl
   clear hdep hI ho hF
   go_simp
   exact hK (by decide) (Value.int .i64 ay) _ (fun u hu => oV hu) (Below.refl _ _) (fct_none rfl)
  ·obtain rfl := oI ho
   have d11 : listed.getD 11 false = true := hdep ⟨11, .data⟩ (by simp) rfl
   have q106 : a.tmps[106]?.getD undef = Value.int .i64 ay := hI.val 11 _ 106 _ rfl rfl rfl d11
   clear hdep hI ho hF
   go_simp
   refine (H15.out _).mono ?_
   rintro e W2 ⟨E, f, G, g, rfl, hE, hG, hb⟩
   exact hK (by decide) (.agg #[.bool tc, .slice E kc f, .bool false, .slice G l g]) _ (fun u hu => nV hu) hb (fun p hp e => by
    simp only [List.mem_cons, List.not_mem_nil, or_false] at hp
    rcases hp with rfl | rfl | rfl | rfl | rfl | rfl | rfl | rfl | rfl | rfl
    ·exact absurd e (fct_ne (i := 3) rfl)
    ·exact absurd e (fct_ne (i := 6) rfl)
    ·exact absurd e (fct_ne (i := 7) rfl)
    ·exact absurd e (fct_ne (i := 8) rfl)
    ·exact ⟨E, f, G, g, rfl, hE, hG⟩
    ·exact absurd e (fct_ne (i := 15) rfl)
    ·exact absurd e (fct_ne (i := 16) rfl)
    ·exact absurd e (fct_ne (i := 17) rfl)
    ·exact absurd e (fct_ne (i := 18) rfl)
    ·exact absurd e (fct_ne (i := 19) rfl))
  ·obtain rfl := oI ho
   have q12 : a.tmps[12]?.getD undef = Value.pointer (some ⟨W8.heap.size, 0, none⟩) := hI.old 12 (noDst_spec (by kernel_rfl))
   have x0 := (HA.out.after hB).c 0 rfl
   have x1 := (HA.out.after hB).c 1 rfl
   have x2 := (HA.out.after hB).c 2 rfl
   have x3 := (HA.out.after hB).c 3 rfl
   clear hdep hI ho hF
   go_simp
   exact hK (by decide) (Value.agg #[.bool u1, .slice A1 k1 c1, .bool false, .slice D1 j1 d1]) _ (fun u hu => oV hu) (Below.refl _ _) (fct_none rfl)
  ·obtain rfl := oI ho
   have q6 : a.tmps[6]?.getD undef = Value.int .i64 uy := hI.old 6 (noDst_spec (by kernel_rfl))
   clear hdep hI ho hF
   go_simp
   exact hK (by decide) (Value.int .i64 uy) _ (fun u hu => oV hu) (Below.refl _ _) (fct_none rfl)
  ·obtain rfl := oI ho
   have d14 : listed.getD 14 false = true := hdep ⟨14, .data⟩ (by simp) rfl
   have q109 : a.tmps[109]?.getD undef = Value.int .i64 uy := hI.val 14 _ 109 _ rfl rfl rfl d14
   clear hdep hI ho hF
   go_simp
   refine (H16.out _).mono ?_
   rintro e W2 ⟨E, f, G, g, rfl, hE, hG, hb⟩
   exact hK (by decide) (.agg #[.bool tv, .slice E kv f, .bool false, .slice G l g]) _ (fun u hu => nV hu) hb (fun p hp e => by
    simp only [List.mem_cons, List.not_mem_nil, or_false] at hp
    rcases hp with rfl | rfl | rfl | rfl | rfl | rfl | rfl | rfl | rfl | rfl
    ·exact absurd e (fct_ne (i := 3) rfl)
    ·exact absurd e (fct_ne (i := 6) rfl)
    ·exact absurd e (fct_ne (i := 7) rfl)
    ·exact absurd e (fct_ne (i := 8) rfl)
    ·exact absurd e (fct_ne (i := 12) rfl)
    ·exact ⟨E, f, G, g, rfl, hE, hG⟩
    ·exact absurd e (fct_ne (i := 16) rfl)
    ·exact absurd e (fct_ne (i := 17) rfl)
    ·exact absurd e (fct_ne (i := 18) rfl)
    ·exact absurd e (fct_ne (i := 19) rfl))
  ·obtain rfl := oI ho
   have d13 : listed.getD 13 false = true := hdep ⟨13, .data⟩ (by simp) rfl
   have q108 : a.tmps[108]?.getD undef = Value.agg #[.bool u1, .slice A1 k1 c1, .bool false, .slice D1 j1 d1] := hI.val 13 _ 108 _ rfl rfl rfl d13
   have d15 : listed.getD 15 false = true := hdep ⟨15, .data⟩ (by simp) rfl
   obtain ⟨E, f, G, g, hq2, hx2, hy2⟩ := hF (rqFct 15 110 tv mv 1 kv l) (by simp) d15
   have q110 : a.tmps[110]?.getD undef = .agg #[.bool tv, .slice E kv f, .bool false, .slice G l g] := hq2
   have HC := Lib.hid (H17.out A1 c1 D1 d1 E f G g W (hb0.trans (hB.mono hb0.size)) (hA1.below hB) (hD1.below hB) hx2 hy2)
   clear hdep hI ho hF
   go_simp
   refine HC.out.mono ?_
   rintro e W2 ⟨A', c', D', d', rfl, -, ⟨hA', hD'⟩, hb⟩
   exact hK (by decide) (.agg #[.bool s4, .slice A' k4 c', .bool false, .slice D' j4 d']) _ (fun u hu => nV hu) hb (fun p hp e => by
    simp only [List.mem_cons, List.not_mem_nil, or_false] at hp
    rcases hp with rfl | rfl | rfl | rfl | rfl | rfl | rfl | rfl | rfl | rfl
    ·exact absurd e (fct_ne (i := 3) rfl)
    ·exact absurd e (fct_ne (i := 6) rfl)
    ·exact absurd e (fct_ne (i := 7) rfl)
    ·exact absurd e (fct_ne (i := 8) rfl)
    ·exact absurd e (fct_ne (i := 12) rfl)
    ·exact absurd e (fct_ne (i := 15) rfl)
    ·exact ⟨A', c', D', d', rfl, hA', hD'⟩
    ·exact absurd e (fct_ne (i := 17) rfl)
    ·exact absurd e (fct_ne (i := 18) rfl)
    ·exact absurd e (fct_ne (i := 19) rfl))
  ·obtain rfl := oI ho
   have d12 : listed.getD 12 false = true := hdep ⟨12, .data⟩ (by simp) rfl
   obtain ⟨A, c, D, d, hq1, hx1, hy1⟩ := hF (rqFct 12 107 tc mc 1 kc l) (by simp) d12
   have q107 : a.tmps[107]?.getD undef = .agg #[.bool tc, .slice A kc c, .bool false, .slice D l d] := hq1
   have d16 : listed.getD 16 false = true := hdep ⟨16, .data⟩ (by simp) rfl
   obtain ⟨E, f, G, g, hq2, hx2, hy2⟩ := hF (rqFct 16 111 s4 m4 n4 k4 j4) (by simp) d16
   have q111 : a.tmps[111]?.getD undef = .agg #[.bool s4, .slice E k4 f, .bool false, .slice G j4 g] := hq2
   have HC := Lib.hid (H18.out A c D d E f G g W (hb0.trans (hB.mono hb0.size)) hx1 hy1 hx2 hy2)
   clear hdep hI ho hF
   go_simp
   refine HC.out.mono ?_
   rintro e W2 ⟨A', c', D', d', rfl, -, ⟨hA', hD'⟩, hb⟩
   exact hK (by decide) (.agg #[.bool s6, .slice A' k6 c', .bool false, .slice D' j6 d']) _ (fun u hu => nV hu) hb (fun p hp e => by
    simp only [List.mem_cons, List.not_mem_nil, or_false] at hp
    rcases hp with rfl | rfl | rfl | rfl | rfl | rfl | rfl | rfl | rfl | rfl
    ·exact absurd e (fct_ne (i := 3) rfl)
    ·exact absurd e (fct_ne (i := 6) rfl)
    ·exact absurd e (fct_ne (i := 7) rfl)
    ·exact absurd e (fct_ne (i := 8) rfl)
    ·exact absurd e (fct_ne (i := 12) rfl)
    ·exact absurd e (fct_ne (i := 15) rfl)
    ·exact absurd e (fct_ne (i := 16) rfl)
    ·exact ⟨A', c', D', d', rfl, hA', hD'⟩
    ·exact absurd e (fct_ne (i := 18) rfl)
    ·exact absurd e (fct_ne (i := 19) rfl))
  ·obtain rfl := oI ho
   have d8 : listed.getD 8 false = true := hdep ⟨8, .data⟩ (by simp) rfl
   have d17 : listed.getD 17 false = true := hdep ⟨17, .data⟩ (by simp) rfl
   obtain ⟨A, c, D, d, hq1, hx1, hy1⟩ := hF (rqFct 8 103 s5 m5 n5 k5 j5) (by simp) d8
   obtain ⟨E, f, G, g, hq2, hx2, hy2⟩ := hF (rqFct 17 112 s6 m6 n6 k6 j6) (by simp) d17
   have q103 : a.tmps[103]?.getD undef = .agg #[.bool s5, .slice A k5 c, .bool false, .slice D j5 d] := hq1
   have q112 : a.tmps[112]?.getD undef = .agg #[.bool s6, .slice E k6 f, .bool false, .slice G j6 g] := hq2
   clear hdep hI ho hF
   go_simp
   exact hK (by decide) (.agg #[.bool s5, .slice A k5 c, .bool false, .slice D j5 d, .bool s6, .slice E k6 f, .bool false, .slice G j6 g]) _ (fun u hu => nV hu) (Below.refl _ _) (fun p hp e => by
    simp only [List.mem_cons, List.not_mem_nil, or_false] at hp
    rcases hp with rfl | rfl | rfl | rfl | rfl | rfl | rfl | rfl | rfl | rfl
    ·exact absurd e (fct_ne (i := 3) rfl)
    ·exact absurd e (fct_ne (i := 6) rfl)
    ·exact absurd e (fct_ne (i := 7) rfl)
    ·exact absurd e (fct_ne (i := 8) rfl)
    ·exact absurd e (fct_ne (i := 12) rfl)
    ·exact absurd e (fct_ne (i := 15) rfl)
    ·exact absurd e (fct_ne (i := 16) rfl)
    ·exact absurd e (fct_ne (i := 17) rfl)
    ·exact ⟨A, c, D, d, E, f, G, g, rfl, hx1, hy1, hx2, hy2⟩
    ·exact absurd e (fct_ne (i := 19) rfl))
  ·obtain rfl := oI ho
   clear hdep hI ho hF
   go_simp
   exact hK (by decide) (.pointer (some ⟨W.heap.size, 0, none⟩)) _ (fun u hu => nV hu) ((Below.refl _ _).alloc (Nat.le_refl _) _) (fun p hp e => by
    simp only [List.mem_cons, List.not_mem_nil, or_false] at hp
    rcases hp with rfl | rfl | rfl | rfl | rfl | rfl | rfl | rfl | rfl | rfl
    ·exact absurd e (fct_ne (i := 3) rfl)
    ·exact absurd e (fct_ne (i := 6) rfl)
    ·exact absurd e (fct_ne (i := 7) rfl)
    ·exact absurd e (fct_ne (i := 8) rfl)
    ·exact absurd e (fct_ne (i := 12) rfl)
    ·exact absurd e (fct_ne (i := 15) rfl)
    ·exact absurd e (fct_ne (i := 16) rfl)
    ·exact absurd e (fct_ne (i := 17) rfl)
    ·exact absurd e (fct_ne (i := 18) rfl)
    ·exact ⟨W.heap.size, rfl, hB.size, Row.at rfl _ _⟩)
  ·obtain rfl := oI ho
   have d18 : listed.getD 18 false = true := hdep ⟨18, .data⟩ (by simp) rfl
   have d19 : listed.getD 19 false = true := hdep ⟨19, .data⟩ (by simp) rfl
   obtain ⟨A, c, D, d, E, f, G, g, hq1, hx1, hy1, hx2, hy2⟩ := hF (ptFct 18 113 s5 s6 m5 n5 m6 n6 k5 j5 k6 j6) (by simp) d18
   obtain ⟨C, hq2, hl, hr⟩ := hF (newFct 19 14 W16.heap.size [.bool false, .slice none 0 0, .bool false, .slice none 0 0, .bool false, .slice none 0 0, .bool false, .slice none 0 0]) (by simp) d19
   have q113 : a.tmps[113]?.getD undef = .agg #[.bool s5, .slice A k5 c, .bool false, .slice D j5 d, .bool s6, .slice E k6 f, .bool false, .slice G j6 g] := hq1
   have q14 : a.tmps[14]?.getD undef = Value.pointer (some ⟨C, 0, none⟩) := hq2
   have z0 := hr.c 0 rfl
   have z1 := hr.c 1 rfl
   have z2 := hr.c 2 rfl
   have z3 := hr.c 3 rfl
   have z4 := hr.c 4 rfl
   have z5 := hr.c 5 rfl
   have z6 := hr.c 6 rfl
   have z7 := hr.c 7 rfl
   have w0 := hr.f 0 rfl
   have w1 := hr.f 1 rfl
   have w2 := hr.f 2 rfl
   have w3 := hr.f 3 rfl
   have w4 := hr.f 4 rfl
   have w5 := hr.f 5 rfl
   have w6 := hr.f 6 rfl
   have w7 := hr.f 7 rfl
   clear hdep hI ho hF
   go_simp
   exact hKf rfl undef _ (fun u hu => nV hu) ⟨C, A, c, D, d, E, f, G, g, hq2, hl, hr.putAll [_, _, _, _, _, _, _, _] rfl, ⟨hx1.put8 z0 _ _ _ _ _ _ _ _, hy1.put8 z0 _ _ _ _ _ _ _ _, hx2.put8 z0 _ _ _ _ _ _ _ _, hy2.put8 z0 _ _ _ _ _ _ _ _⟩, below_on hB (On.setCells _ C [_, _, _, _, _, _, _, _] 0 _ (On.refl _ C)) hl⟩
 ·intro listed a W hI hall hfin hend
  obtain ⟨C, A, c, D, d, E, f, G, g, hq, hl, hr, ⟨v1, v2, v3, v4⟩, hbW⟩ := hfin (by decide)
  have q14 : a.tmps[14]?.getD undef = Value.pointer (some ⟨C, 0, none⟩) := hq
  have q4 : a.tmps[4]?.getD undef = Value.pointer (some ⟨w.heap.size + 2, 0, none⟩) := hI.old 4 (noDst_spec (by kernel_rfl))
  have hdf : a.defers = [] := hI.defers
  have hsz : a.tmps.size = 166 := hI.size
  have rZ := HZ.out.after hbW
  have hB := hb0.trans (hbW.mono hb0.size)
  clear hall hfin hend hI hq hbW hb0 HS HA HZ
  obtain ⟨tm, df⟩ := a
  simp only at hdf q14 q4 hsz
  subst hdf
  have h114 : 114 < tm.size := by omega
  have h115 : 115 < tm.size := by omega
  have h116 : 116 < tm.size := by omega
  clear hsz
  have p0 := hr.c 0 rfl
  have p1 := hr.c 1 rfl
  have p2 := hr.c 2 rfl
  have p3 := hr.c 3 rfl
  have p4 := hr.c 4 rfl
  have p5 := hr.c 5 rfl
  have p6 := hr.c 6 rfl
  have p7 := hr.c 7 rfl
  have zi := rZ.c 0 rfl
  have zb := rZ.c 1 rfl
  go_wp2_with (refine wpList_store_R rfl _ _ _ rfl _ #[.int .i64 1, .bool s5, .slice A k5 c, .bool false, .slice D j5 d, .bool s6, .slice E k6 f, .bool false, .slice G j6 g, .bool s5, .slice A k5 c, .bool false, .slice D j5 d, .bool s6, .slice E k6 f, .bool false, .slice G j6 g] (by rw [act_tmp]; simp [q4]) (by rw [act_tmp]; simp [h116]) _ rZ (by rfl) agg_rmeet (by simp [OneC, Value.oneCell']) ?_; intro w7 r7 o7)
  exact bodyPost_ret (results_R1 (cs := #[.int .i64 1, .bool s5, .slice A k5 c, .bool false, .slice D j5 d, .bool s6, .slice E k6 f, .bool false, .slice G j6 g, .bool s5, .slice A k5 c, .bool false, .slice D j5 d, .bool s6, .slice E k6 f, .bool false, .slice G j6 g]) rfl (by simp [q4]) r7 agg_rmeet) rfl ⟨A, c, D, d, E, f, G, g, rfl, ⟨v1.onM o7 zi zb, v2.onM o7 zi zb, v3.onM o7 zi zb, v4.onM o7 zi zb⟩, below_on hB o7 (by omega)⟩

end Go.Proofs.YtcabndpmfkimgaaGreatDoor

namespace Go.Proofs.YtcabndpmfkimgaaGreatDoor
open Go.RowKit Go.Sort CrossMath

theorem new_ne {v : Value} {W : World} {C : Nat} {zs : List Value} (hc : v = .pointer (some ⟨C, 0, none⟩)) (hr : Row W C zs) : Value.pointer (some ⟨W.heap.size, 0, none⟩) ≠ v := by
 subst hc
 intro e
 have := hr.lt
 injection e with e
 injection e with e
 injection e with e
 omega
theorem two_ne {u v : Value} {C D : Nat} (h : u ≠ v) (hc : u = .pointer (some ⟨C, 0, none⟩)) (hd : v = .pointer (some ⟨D, 0, none⟩)) : C ≠ D := fun e => h (by rw [hc, hd, e])
def ShPost (w : World) (c3 c4 s1 t1 : Bool) (m1 n1 k1 i1 : Nat) (s2 t2 : Bool) (m2 n2 k2 i2 l : Nat) (e : Ending) (w' : World) : Prop := ∃ A1 a1 B1 b1 E1 f1 G1 g1 A2 a2 B2 b2 E2 f2 G2 g2, e = .returned (cond c3 (.agg #[.int .i64 2, .bool s1, .slice A1 k1 a1, .bool false, .slice B1 l b1, .bool t1, .slice E1 i1 f1, .bool false, .slice G1 l g1, .bool s2, .slice A2 k2 a2, .bool false, .slice B2 l b2, .bool t2, .slice E2 i2 f2, .bool false, .slice G2 l g2]) (cond c4 (.agg #[.int .i64 1, .bool s1, .slice A1 k1 a1, .bool false, .slice B1 l b1, .bool t1, .slice E1 i1 f1, .bool false, .slice G1 l g1, .bool s1, .slice A1 k1 a1, .bool false, .slice B1 l b1, .bool t1, .slice E1 i1 f1, .bool false, .slice G1 l g1]) (.agg #[.int .i64 0, .bool false, .slice none 0 0, .bool false, .slice none 0 0, .bool false, .slice none 0 0, .bool false, .slice none 0 0, .bool false, .slice none 0 0, .bool false, .slice none 0 0, .bool false, .slice none 0 0, .bool false, .slice none 0 0]))) ∧ (DS w' m1 A1 ∧ DS w' 1 B1 ∧ DS w' n1 E1 ∧ DS w' 1 G1) ∧ (DS w' m2 A2 ∧ DS w' 1 B2 ∧ DS w' n2 E2 ∧ DS w' 1 G2) ∧ Below w.heap.size w w'
set_option maxRecDepth 100000 in
set_option maxHeartbeats 25600000 in
theorem of_shared (ax ay bx bY cx cy dx dY ux uy vx vy zx zy d q pa pb pc pd qa qb qc qd r1 r2 r3 : Int) (c1 c2 c3 c4 : Bool) (hc3 : (r3 == -1) = c3) (hc4 : (r3 == 0) = c4) (hc1 : decide (0 < r1) = c1) (hc2 : decide (r2 < 0) = c2) (s1 t1 s2 t2 s3 t3 s4 t4 : Bool) (m1 n1 k1 i1 m2 n2 k2 i2 m3 n3 k3 i3 m4 n4 k4 i4 l : Nat) (w : World) (e1 : IntKind.i64.wrap (bx - ax) = ux) (e2 : IntKind.i64.wrap (bY - ay) = uy) (e3 : IntKind.i64.wrap (dx - cx) = vx) (e4 : IntKind.i64.wrap (dY - cy) = vy) (e5 : IntKind.i64.wrap (cx - ax) = zx) (e6 : IntKind.i64.wrap (cy - ay) = zy) (hd : (d == 0) = true) (hq : (q == 0) = true)
 (h1 : ∀ W, Below w.heap.size w W → Calls Tryz.prog 32 #[.int .i64 ux, .int .i64 uy, .int .i64 vx, .int .i64 vy] W fun e' w' => e' = .returned (.int .i64 d) ∧ Below W.heap.size W w')
 (h6 : ∀ W, Below w.heap.size w W → Calls Tryz.prog 32 #[.int .i64 zx, .int .i64 zy, .int .i64 ux, .int .i64 uy] W fun e' w' => e' = .returned (.int .i64 q) ∧ Below W.heap.size W w')
 (h19 : ∀ W, Calls Tryz.prog 39 #[Value.agg #[.int .i64 ax, .int .i64 ay, .int .i64 bx, .int .i64 bY]] W fun e' w' => e' = .returned (Value.agg #[.int .i64 pa, .int .i64 pb, .int .i64 pc, .int .i64 pd]) ∧ Below W.heap.size W w')
 (h20 : ∀ W, Calls Tryz.prog 39 #[Value.agg #[.int .i64 cx, .int .i64 cy, .int .i64 dx, .int .i64 dY]] W fun e' w' => e' = .returned (Value.agg #[.int .i64 qa, .int .i64 qb, .int .i64 qc, .int .i64 qd]) ∧ Below W.heap.size W w')
 (h21 : ∀ W, Calls Tryz.prog 14 #[.agg #[.int .i64 pa, .int .i64 pb]] W (PtPost W s1 t1 m1 n1 k1 i1 l))
 (h22 : ∀ W, Calls Tryz.prog 14 #[.agg #[.int .i64 pc, .int .i64 pd]] W (PtPost W s2 t2 m2 n2 k2 i2 l))
 (h23 : ∀ W, Calls Tryz.prog 14 #[.agg #[.int .i64 qa, .int .i64 qb]] W (PtPost W s3 t3 m3 n3 k3 i3 l))
 (h24 : ∀ W, Calls Tryz.prog 14 #[.agg #[.int .i64 qc, .int .i64 qd]] W (PtPost W s4 t4 m4 n4 k4 i4 l))
 (h25 : ∀ A3 a3 B3 b3 E3 f3 G3 g3 A1 a1 B1 b1 E1 f1 G1 g1 W, Below w.heap.size w W → (DS W m3 A3 ∧ DS W 1 B3 ∧ DS W n3 E3 ∧ DS W 1 G3) → (DS W m1 A1 ∧ DS W 1 B1 ∧ DS W n1 E1 ∧ DS W 1 G1) → Calls Tryz.prog 13 #[.agg #[.bool s3, .slice A3 k3 a3, .bool false, .slice B3 l b3, .bool t3, .slice E3 i3 f3, .bool false, .slice G3 l g3], .agg #[.bool s1, .slice A1 k1 a1, .bool false, .slice B1 l b1, .bool t1, .slice E1 i1 f1, .bool false, .slice G1 l g1]] W fun e' w' => e' = .returned (.int .i64 r1) ∧ Below W.heap.size W w')
 (h26 : ∀ A4 a4 B4 b4 E4 f4 G4 g4 A2 a2 B2 b2 E2 f2 G2 g2 W, Below w.heap.size w W → (DS W m4 A4 ∧ DS W 1 B4 ∧ DS W n4 E4 ∧ DS W 1 G4) → (DS W m2 A2 ∧ DS W 1 B2 ∧ DS W n2 E2 ∧ DS W 1 G2) → Calls Tryz.prog 13 #[.agg #[.bool s4, .slice A4 k4 a4, .bool false, .slice B4 l b4, .bool t4, .slice E4 i4 f4, .bool false, .slice G4 l g4], .agg #[.bool s2, .slice A2 k2 a2, .bool false, .slice B2 l b2, .bool t2, .slice E2 i2 f2, .bool false, .slice G2 l g2]] W fun e' w' => e' = .returned (.int .i64 r2) ∧ Below W.heap.size W w')
 (h27 : c1 = false → c2 = false → ∀ A1 a1 B1 b1 E1 f1 G1 g1 A2 a2 B2 b2 E2 f2 G2 g2 W, Below w.heap.size w W → (DS W m1 A1 ∧ DS W 1 B1 ∧ DS W n1 E1 ∧ DS W 1 G1) → (DS W m2 A2 ∧ DS W 1 B2 ∧ DS W n2 E2 ∧ DS W 1 G2) → Calls Tryz.prog 13 #[.agg #[.bool s1, .slice A1 k1 a1, .bool false, .slice B1 l b1, .bool t1, .slice E1 i1 f1, .bool false, .slice G1 l g1], .agg #[.bool s2, .slice A2 k2 a2, .bool false, .slice B2 l b2, .bool t2, .slice E2 i2 f2, .bool false, .slice G2 l g2]] W fun e' w' => e' = .returned (.int .i64 r3) ∧ Below W.heap.size W w')
 (h28 : c1 = true → c2 = false → ∀ A3 a3 B3 b3 E3 f3 G3 g3 A2 a2 B2 b2 E2 f2 G2 g2 W, Below w.heap.size w W → (DS W m3 A3 ∧ DS W 1 B3 ∧ DS W n3 E3 ∧ DS W 1 G3) → (DS W m2 A2 ∧ DS W 1 B2 ∧ DS W n2 E2 ∧ DS W 1 G2) → Calls Tryz.prog 13 #[.agg #[.bool s3, .slice A3 k3 a3, .bool false, .slice B3 l b3, .bool t3, .slice E3 i3 f3, .bool false, .slice G3 l g3], .agg #[.bool s2, .slice A2 k2 a2, .bool false, .slice B2 l b2, .bool t2, .slice E2 i2 f2, .bool false, .slice G2 l g2]] W fun e' w' => e' = .returned (.int .i64 r3) ∧ Below W.heap.size W w')
 (h29 : c1 = false → c2 = true → ∀ A1 a1 B1 b1 E1 f1 G1 g1 A4 a4 B4 b4 E4 f4 G4 g4 W, Below w.heap.size w W → (DS W m1 A1 ∧ DS W 1 B1 ∧ DS W n1 E1 ∧ DS W 1 G1) → (DS W m4 A4 ∧ DS W 1 B4 ∧ DS W n4 E4 ∧ DS W 1 G4) → Calls Tryz.prog 13 #[.agg #[.bool s1, .slice A1 k1 a1, .bool false, .slice B1 l b1, .bool t1, .slice E1 i1 f1, .bool false, .slice G1 l g1], .agg #[.bool s4, .slice A4 k4 a4, .bool false, .slice B4 l b4, .bool t4, .slice E4 i4 f4, .bool false, .slice G4 l g4]] W fun e' w' => e' = .returned (.int .i64 r3) ∧ Below W.heap.size W w')
 (h30 : c1 = true → c2 = true → ∀ A3 a3 B3 b3 E3 f3 G3 g3 A4 a4 B4 b4 E4 f4 G4 g4 W, Below w.heap.size w W → (DS W m3 A3 ∧ DS W 1 B3 ∧ DS W n3 E3 ∧ DS W 1 G3) → (DS W m4 A4 ∧ DS W 1 B4 ∧ DS W n4 E4 ∧ DS W 1 G4) → Calls Tryz.prog 13 #[.agg #[.bool s3, .slice A3 k3 a3, .bool false, .slice B3 l b3, .bool t3, .slice E3 i3 f3, .bool false, .slice G3 l g3], .agg #[.bool s4, .slice A4 k4 a4, .bool false, .slice B4 l b4, .bool t4, .slice E4 i4 f4, .bool false, .slice G4 l g4]] W fun e' w' => e' = .returned (.int .i64 r3) ∧ Below W.heap.size W w')
 : Calls Tryz.prog 12 #[.agg #[.int .i64 ax, .int .i64 ay, .int .i64 bx, .int .i64 bY], .agg #[.int .i64 cx, .int .i64 cy, .int .i64 dx, .int .i64 dY]] w (ShPost w c3 c4 (cond c1 s3 s1) (cond c1 t3 t1) (cond c1 m3 m1) (cond c1 n3 n1) (cond c1 k3 k1) (cond c1 i3 i1) (cond c2 s4 s2) (cond c2 t4 t2) (cond c2 m4 m2) (cond c2 n4 n2) (cond c2 k4 k2) (cond c2 i4 i2) l) := by
 have H1 := Lib.hid h1; clear h1
 have H6 := Lib.hid h6; clear h6
 have H19 := Lib.hid h19; clear h19
 have H20 := Lib.hid h20; clear h20
 have H21 := Lib.hid h21; clear h21
 have H22 := Lib.hid h22; clear h22
 have H23 := Lib.hid h23; clear h23
 have H24 := Lib.hid h24; clear h24
 have H25 := Lib.hid h25; clear h25
 have H26 := Lib.hid h26; clear h26
 have H27 := Lib.hid h27; clear h27
 have H28 := Lib.hid h28; clear h28
 have H29 := Lib.hid h29; clear h29
 have H30 := Lib.hid h30; clear h30
 go_enter Tryz.func12, Tryz.ntmps12
 go_upto_region 1 with fail
 generalize hW : World.alloc _ _ = W0
 have rS : Row W0 w.heap.size [.int .i64 ax, .int .i64 ay, .int .i64 bx, .int .i64 bY] := by rw [← hW]; exact ((Row.at rfl [_, _, _, _] _).alloc _).alloc _
 have rT : Row W0 (w.heap.size + 1) [.int .i64 cx, .int .i64 cy, .int .i64 dx, .int .i64 dY] := by rw [← hW]; exact (Row.at (by simp) [_, _, _, _] _).alloc _
 have rZ : Row W0 (w.heap.size + 2) [.int .i64 0, .bool false, .slice none 0 0, .bool false, .slice none 0 0, .bool false, .slice none 0 0, .bool false, .slice none 0 0, .bool false, .slice none 0 0, .bool false, .slice none 0 0, .bool false, .slice none 0 0, .bool false, .slice none 0 0] := by rw [← hW]; exact Row.at (by simp) _ _
 have hB : Below w.heap.size w W0 := by rw [← hW]; exact (((Below.refl w.heap.size w).alloc (Nat.le_refl _) _).alloc (by simp) _).alloc (by simp; omega) _
 clear hW
 have x0 := rS.c 0 rfl
 have x1 := rS.c 1 rfl
 have x2 := rS.c 2 rfl
 have x3 := rS.c 3 rfl
 have y0 := rT.c 0 rfl
 have y1 := rT.c 1 rfl
 have y2 := rT.c 2 rfl
 have y3 := rT.c 3 rfl
 go_quiet (fail)
 have hb := below_drewN (Below.refl W0.heap.size W0) nq
 generalize World.drewN _ nq = W1 at hb ⊢
 clear nq x0 x1 x2 x3 y0 y1 y2 y3
 replace rS := rS.after hb
 replace rT := rT.after hb
 replace rZ := rZ.after hb
 replace hB := hB.trans (hb.mono hB.size)
 clear hb
 have x0 := rS.c 0 rfl
 have x1 := rS.c 1 rfl
 have x2 := rS.c 2 rfl
 have x3 := rS.c 3 rfl
 have y0 := rT.c 0 rfl
 have y1 := rT.c 1 rfl
 have y2 := rT.c 2 rfl
 have y3 := rT.c 3 rfl
 go_upto_region 2 with fail
 go_quiet (fail)
 have hb := below_drewN (Below.refl W1.heap.size W1) nq
 generalize World.drewN _ nq = W2 at hb ⊢
 clear nq x0 x1 x2 x3 y0 y1 y2 y3
 replace rS := rS.after hb
 replace rT := rT.after hb
 replace rZ := rZ.after hb
 replace hB := hB.trans (hb.mono hB.size)
 clear hb
 have x0 := rS.c 0 rfl
 have x1 := rS.c 1 rfl
 have x2 := rS.c 2 rfl
 have x3 := rS.c 3 rfl
 have y0 := rT.c 0 rfl
 have y1 := rT.c 1 rfl
 have y2 := rT.c 2 rfl
 have y3 := rT.c 3 rfl
 go_upto_region 3 with fail
 go_quiet (fail)
 have hb := below_drewN (Below.refl W2.heap.size W2) nq
 generalize World.drewN _ nq = W3 at hb ⊢
 clear nq x0 x1 x2 x3 y0 y1 y2 y3
 replace rS := rS.after hb
 replace rT := rT.after hb
 replace rZ := rZ.after hb
 replace hB := hB.trans (hb.mono hB.size)
 clear hb
 go_wp2_with fail
 refine (H1.out _ hB).mono ?_
 rintro e' W4 ⟨rfl, hb⟩
 replace rS := rS.after hb
 replace rT := rT.after hb
 replace rZ := rZ.after hb
 replace hB := hB.trans (hb.mono hB.size)
 clear hb
 go_wp2_with fail
 refine (H6.out _ hB).mono ?_
 rintro e' W5 ⟨rfl, hb⟩
 replace rS := rS.after hb
 replace rT := rT.after hb
 replace rZ := rZ.after hb
 replace hB := hB.trans (hb.mono hB.size)
 clear hb
 go_upto_region 14 with fail
 have HS := Lib.hid rS
 have HT := Lib.hid rT
 have HZ := Lib.hid rZ
 have hb0 := hB
 clear hB rS rT rZ H1 H6
 refine wp_region_fct2 (by kernel_rfl) [] (fun ix => match ix with
  | 0 => some (Value.agg #[.int .i64 ax, .int .i64 ay, .int .i64 bx, .int .i64 bY])
  | 1 => some (Value.agg #[.int .i64 pa, .int .i64 pb, .int .i64 pc, .int .i64 pd])
  | 2 => some (Value.agg #[.int .i64 cx, .int .i64 cy, .int .i64 dx, .int .i64 dY])
  | 3 => some (Value.agg #[.int .i64 qa, .int .i64 qb, .int .i64 qc, .int .i64 qd])
  | _ => none) (by intro j hj; cases hj) 6 [newFct 4 15 W5.heap.size [.int .i64 0, .int .i64 0, .int .i64 0, .int .i64 0], newFct 5 16 W5.heap.size [.int .i64 0, .int .i64 0, .int .i64 0, .int .i64 0]] 4 15 5 16 (fun sl W => ∃ C D, sl 15 = .pointer (some ⟨C, 0, none⟩) ∧ sl 16 = .pointer (some ⟨D, 0, none⟩) ∧ C ≠ D ∧ W5.heap.size ≤ C ∧ W5.heap.size ≤ D ∧ Row W C [.int .i64 pa, .int .i64 pb, .int .i64 pc, .int .i64 pd] ∧ Row W D [.int .i64 0, .int .i64 0, .int .i64 0, .int .i64 0] ∧ Below W5.heap.size W5 W) (fun sl W => ∃ C D, sl 15 = .pointer (some ⟨C, 0, none⟩) ∧ sl 16 = .pointer (some ⟨D, 0, none⟩) ∧ C ≠ D ∧ W5.heap.size ≤ C ∧ W5.heap.size ≤ D ∧ Row W C [.int .i64 pa, .int .i64 pb, .int .i64 pc, .int .i64 pd] ∧ Row W D [.int .i64 qa, .int .i64 qb, .int .i64 qc, .int .i64 qd] ∧ Below W5.heap.size W5 W) (by kernel_rfl) (by kernel_rfl) (by kernel_rfl) (by kernel_rfl) ?_ ?_ ?_
 ·intro listed a W ix o hI ho hlt hdep hB hF hDD K hK hKf
  have hcase : ix = 0 ∨ ix = 1 ∨ ix = 2 ∨ ix = 3 ∨ ix = 4 ∨ ix = 5 ∨ ix = 6 := by omega
  clear hlt
  rcases hcase with rfl | rfl | rfl | rfl | rfl | rfl | rfl
  ·obtain rfl := oI ho
   have q2 : a.tmps[2]?.getD undef = Value.pointer (some ⟨w.heap.size, 0, none⟩) := hI.old 2 (noDst_spec (by kernel_rfl))
   have x0 := (HS.out.after hB).c 0 rfl
   have x1 := (HS.out.after hB).c 1 rfl
   have x2 := (HS.out.after hB).c 2 rfl
   have x3 := (HS.out.after hB).c 3 rfl
   clear hdep hI ho hF hDD
   go_simp
   exact hK (by decide) (Value.agg #[.int .i64 ax, .int .i64 ay, .int .i64 bx, .int .i64 bY]) _ (fun u hu => oV hu) (Below.refl _ _) (fct_none rfl) ⟨fun e => absurd e (by decide), fun e => absurd e (by decide)⟩
  ·obtain rfl := oI ho
   have d0 : listed.getD 0 false = true := hdep ⟨0, .data⟩ (by simp) rfl
   have q124 : a.tmps[124]?.getD undef = Value.agg #[.int .i64 ax, .int .i64 ay, .int .i64 bx, .int .i64 bY] := hI.val 0 _ 124 _ rfl rfl rfl d0
   clear hdep hI ho hF hDD
   go_simp
   refine (H19.out _).mono ?_
   rintro e W2 ⟨rfl, hb⟩
   exact hK (by decide) (Value.agg #[.int .i64 pa, .int .i64 pb, .int .i64 pc, .int .i64 pd]) _ (fun u hu => oV hu) hb (fct_none rfl) ⟨fun e => absurd e (by decide), fun e => absurd e (by decide)⟩
  ·obtain rfl := oI ho
   have q3 : a.tmps[3]?.getD undef = Value.pointer (some ⟨w.heap.size + 1, 0, none⟩) := hI.old 3 (noDst_spec (by kernel_rfl))
   have x0 := (HT.out.after hB).c 0 rfl
   have x1 := (HT.out.after hB).c 1 rfl
   have x2 := (HT.out.after hB).c 2 rfl
   have x3 := (HT.out.after hB).c 3 rfl
   clear hdep hI ho hF hDD
   go_simp
   exact hK (by decide) (Value.agg #[.int .i64 cx, .int .i64 cy, .int .i64 dx, .int .i64 dY]) _ (fun u hu => oV hu) (Below.refl _ _) (fct_none rfl) ⟨fun e => absurd e (by decide), fun e => absurd e (by decide)⟩
  ·obtain rfl := oI ho
   have d2 : listed.getD 2 false = true := hdep ⟨2, .data⟩ (by simp) rfl
   have q126 : a.tmps[126]?.getD undef = Value.agg #[.int .i64 cx, .int .i64 cy, .int .i64 dx, .int .i64 dY] := hI.val 2 _ 126 _ rfl rfl rfl d2
   clear hdep hI ho hF hDD
   go_simp
   refine (H20.out _).mono ?_
   rintro e W2 ⟨rfl, hb⟩
   exact hK (by decide) (Value.agg #[.int .i64 qa, .int .i64 qb, .int .i64 qc, .int .i64 qd]) _ (fun u hu => oV hu) hb (fct_none rfl) ⟨fun e => absurd e (by decide), fun e => absurd e (by decide)⟩
  ·obtain rfl := oI ho
   have hn : listed.getD 5 false = true → Value.pointer (some ⟨W.heap.size, 0, none⟩) ≠ slotOf a 16 := fun h2 => by
    obtain ⟨C, hc, _, hr⟩ := hF (newFct 5 16 W5.heap.size [.int .i64 0, .int .i64 0, .int .i64 0, .int .i64 0]) (by simp) h2
    exact new_ne hc hr
   clear hdep hI ho hF hDD
   go_simp
   exact hK (by decide) (.pointer (some ⟨W.heap.size, 0, none⟩)) _ (fun u hu => nV hu) ((Below.refl _ _).alloc (Nat.le_refl _) _) (fun p hp e => by
    simp only [List.mem_cons, List.not_mem_nil, or_false] at hp
    rcases hp with rfl | rfl
    ·exact ⟨W.heap.size, rfl, hB.size, Row.at rfl _ _⟩
    ·exact absurd e (fct_ne (i := 5) rfl)) ⟨fun _ h2 => hn h2, fun e => absurd e (by decide)⟩
  ·obtain rfl := oI ho
   have hn : listed.getD 4 false = true → slotOf a 15 ≠ Value.pointer (some ⟨W.heap.size, 0, none⟩) := fun h2 => by
    obtain ⟨C, hc, _, hr⟩ := hF (newFct 4 15 W5.heap.size [.int .i64 0, .int .i64 0, .int .i64 0, .int .i64 0]) (by simp) h2
    exact (new_ne hc hr).symm
   clear hdep hI ho hF hDD
   go_simp
   exact hK (by decide) (.pointer (some ⟨W.heap.size, 0, none⟩)) _ (fun u hu => nV hu) ((Below.refl _ _).alloc (Nat.le_refl _) _) (fun p hp e => by
    simp only [List.mem_cons, List.not_mem_nil, or_false] at hp
    rcases hp with rfl | rfl
    ·exact absurd e (fct_ne (i := 4) rfl)
    ·exact ⟨W.heap.size, rfl, hB.size, Row.at rfl _ _⟩) ⟨fun e => absurd e (by decide), fun _ h2 => hn h2⟩
  ·obtain rfl := oI ho
   have d4 : listed.getD 4 false = true := hdep ⟨4, .data⟩ (by simp) rfl
   have d1 : listed.getD 1 false = true := hdep ⟨1, .data⟩ (by simp) rfl
   have d5 : listed.getD 5 false = true := hdep ⟨5, .phase⟩ (by simp) rfl
   have q125 : a.tmps[125]?.getD undef = Value.agg #[.int .i64 pa, .int .i64 pb, .int .i64 pc, .int .i64 pd] := hI.val 1 _ 125 _ rfl rfl rfl d1
   obtain ⟨C, hc, hl, hr⟩ := hF (newFct 4 15 W5.heap.size [.int .i64 0, .int .i64 0, .int .i64 0, .int .i64 0]) (by simp) d4
   obtain ⟨D, hc2, hl2, hr2⟩ := hF (newFct 5 16 W5.heap.size [.int .i64 0, .int .i64 0, .int .i64 0, .int .i64 0]) (by simp) d5
   have q15 : a.tmps[15]?.getD undef = Value.pointer (some ⟨C, 0, none⟩) := hc
   have hCD : C ≠ D := two_ne (hDD d4 d5) hc hc2
   have z0 := hr.c 0 rfl
   have z1 := hr.c 1 rfl
   have z2 := hr.c 2 rfl
   have z3 := hr.c 3 rfl
   have w0 := hr.f 0 rfl
   have w1 := hr.f 1 rfl
   have w2 := hr.f 2 rfl
   have w3 := hr.f 3 rfl
   clear hdep hI ho hF hDD
   go_simp
   exact hKf rfl undef _ (fun u hu => nV hu) ⟨C, D, hc, hc2, hCD, hl, hl2, hr.putAll [_, _, _, _] rfl, (On.setCells _ C [_, _, _, _] 0 _ (On.refl _ C)).row hCD.symm hr2, below_on hB (On.setCells _ C [_, _, _, _] 0 _ (On.refl _ C)) hl⟩
 ·intro listed a W o hI ho hup hOne K hK
  obtain rfl := oI ho
  obtain ⟨C, D, hc, hc2, hCD, hl, hl2, hr, hr2, hB⟩ := hOne
  have q127 : a.tmps[127]?.getD undef = Value.agg #[.int .i64 qa, .int .i64 qb, .int .i64 qc, .int .i64 qd] := hI.val 3 _ 127 _ rfl rfl rfl (hup 3 (by decide))
  have q16 : a.tmps[16]?.getD undef = Value.pointer (some ⟨D, 0, none⟩) := hc2
  have z0 := hr2.c 0 rfl
  have w0 := hr2.f 0 rfl
  have z1 := hr2.c 1 rfl
  have w1 := hr2.f 1 rfl
  have z2 := hr2.c 2 rfl
  have w2 := hr2.f 2 rfl
  have z3 := hr2.c 3 rfl
  have w3 := hr2.f 3 rfl
  clear hI ho hup
  go_simp
  exact hK undef _ (fun u hu => nV hu) ⟨C, D, hc, hc2, hCD, hl, hl2, (On.setCells _ D [_, _, _, _] 0 _ (On.refl _ D)).row hCD hr, hr2.putAll [_, _, _, _] rfl, below_on hB (On.setCells _ D [_, _, _, _] 0 _ (On.refl _ D)) hl2⟩

 ·intro listed a W hI hall hFin
  obtain ⟨C0, D0, hc, hc2, hCD, hl, hl2, hr, hr2, hB⟩ := hFin
  have o15 : a.tmps[15]?.getD undef = Value.pointer (some ⟨C0, 0, none⟩) := hc
  have o16 : a.tmps[16]?.getD undef = Value.pointer (some ⟨D0, 0, none⟩) := hc2
  have o4 : a.tmps[4]?.getD undef = Value.pointer (some ⟨w.heap.size + 2, 0, none⟩) := hI.old 4 (noDst_spec (by kernel_rfl))
  have hdf : a.defers = [] := hI.defers
  have hsz : a.tmps.size = 166 := hI.size
  have rZ := HZ.out.after hB
  replace hB := hb0.trans (hB.mono hb0.size)
  clear hI hall hc hc2 hb0 HZ HS HT H19 H20
  obtain ⟨tm, df⟩ := a
  simp only at hdf o15 o16 o4 hsz
  subst hdf
  obtain ⟨V0, hV⟩ : ∃ V, V = W := ⟨W, rfl⟩
  subst hV
  go_upto_region 15 with fail
  have HP := Lib.hid hr
  have HQ := Lib.hid hr2
  have HZ := Lib.hid rZ
  have hb0 := hB
  clear hB hr hr2 rZ
  refine wp_region_fct2 (by kernel_rfl) [] (fun ix => match ix with
   | 0 => some (Value.pointer (some ⟨C0, 0, none⟩))
   | 1 => some (Value.agg #[.int .i64 pa, .int .i64 pb])
   | 3 => some (Value.pointer (some ⟨C0, 2, none⟩))
   | 4 => some (Value.agg #[.int .i64 pc, .int .i64 pd])
   | _ => none) (by intro j hj; cases hj) 8 [ptFct 2 130 s1 t1 m1 1 n1 1 k1 l i1 l, ptFct 5 133 s2 t2 m2 1 n2 1 k2 l i2 l, newFct 6 17 V0.heap.size [.bool false, .slice none 0 0, .bool false, .slice none 0 0, .bool false, .slice none 0 0, .bool false, .slice none 0 0], newFct 7 18 V0.heap.size [.bool false, .slice none 0 0, .bool false, .slice none 0 0, .bool false, .slice none 0 0, .bool false, .slice none 0 0]] 6 17 7 18 (fun sl W => ∃ C D A1 a1 B1 b1 E1 f1 G1 g1 A2 a2 B2 b2 E2 f2 G2 g2, sl 17 = .pointer (some ⟨C, 0, none⟩) ∧ sl 18 = .pointer (some ⟨D, 0, none⟩) ∧ sl 133 = .agg #[.bool s2, .slice A2 k2 a2, .bool false, .slice B2 l b2, .bool t2, .slice E2 i2 f2, .bool false, .slice G2 l g2] ∧ C ≠ D ∧ V0.heap.size ≤ C ∧ V0.heap.size ≤ D ∧ Row W C [.bool s1, .slice A1 k1 a1, .bool false, .slice B1 l b1, .bool t1, .slice E1 i1 f1, .bool false, .slice G1 l g1] ∧ Row W D [.bool false, .slice none 0 0, .bool false, .slice none 0 0, .bool false, .slice none 0 0, .bool false, .slice none 0 0] ∧ (DS W m1 A1 ∧ DS W 1 B1 ∧ DS W n1 E1 ∧ DS W 1 G1) ∧ (DS W m2 A2 ∧ DS W 1 B2 ∧ DS W n2 E2 ∧ DS W 1 G2) ∧ Below V0.heap.size V0 W) (fun sl W => ∃ C D A1 a1 B1 b1 E1 f1 G1 g1 A2 a2 B2 b2 E2 f2 G2 g2, sl 17 = .pointer (some ⟨C, 0, none⟩) ∧ sl 18 = .pointer (some ⟨D, 0, none⟩) ∧ C ≠ D ∧ V0.heap.size ≤ C ∧ V0.heap.size ≤ D ∧ Row W C [.bool s1, .slice A1 k1 a1, .bool false, .slice B1 l b1, .bool t1, .slice E1 i1 f1, .bool false, .slice G1 l g1] ∧ Row W D [.bool s2, .slice A2 k2 a2, .bool false, .slice B2 l b2, .bool t2, .slice E2 i2 f2, .bool false, .slice G2 l g2] ∧ (DS W m1 A1 ∧ DS W 1 B1 ∧ DS W n1 E1 ∧ DS W 1 G1) ∧ (DS W m2 A2 ∧ DS W 1 B2 ∧ DS W n2 E2 ∧ DS W 1 G2) ∧ Below V0.heap.size V0 W) (by show midOkG _ tm.size _ = true; rw [hsz]; kernel_rfl) (by kernel_rfl) (by kernel_rfl) (by kernel_rfl) ?_ ?_ ?_
  ·intro listed a W ix o hI ho hlt hdep hB hF hDD K hK hKf
   have hcase : ix = 0 ∨ ix = 1 ∨ ix = 2 ∨ ix = 3 ∨ ix = 4 ∨ ix = 5 ∨ ix = 6 ∨ ix = 7 ∨ ix = 8 := by omega
   clear hlt
   rcases hcase with rfl | rfl | rfl | rfl | rfl | rfl | rfl | rfl | rfl
   ·obtain rfl := oI ho
    have q15 : a.tmps[15]?.getD undef = Value.pointer (some ⟨C0, 0, none⟩) := (hI.old 15 (noDst_spec (by kernel_rfl))).trans o15
    clear hdep hI ho hF hDD
    go_simp
    exact hK (by decide) (Value.pointer (some ⟨C0, 0, none⟩)) _ (fun u hu => oV hu) (Below.refl _ _) (fct_none rfl) ⟨fun e => absurd e (by decide), fun e => absurd e (by decide)⟩
   ·obtain rfl := oI ho
    have d0 : listed.getD 0 false = true := hdep ⟨0, .data⟩ (by simp) rfl
    have q128 : a.tmps[128]?.getD undef = Value.pointer (some ⟨C0, 0, none⟩) := hI.val 0 _ 128 _ rfl rfl rfl d0
    have x0 := (HP.out.after hB).c 0 rfl
    have x1 := (HP.out.after hB).c 1 rfl
    clear hdep hI ho hF hDD
    go_simp
    exact hK (by decide) (Value.agg #[.int .i64 pa, .int .i64 pb]) _ (fun u hu => oV hu) (Below.refl _ _) (fct_none rfl) ⟨fun e => absurd e (by decide), fun e => absurd e (by decide)⟩
   ·obtain rfl := oI ho
    have d1 : listed.getD 1 false = true := hdep ⟨1, .data⟩ (by simp) rfl
    have q129 : a.tmps[129]?.getD undef = Value.agg #[.int .i64 pa, .int .i64 pb] := hI.val 1 _ 129 _ rfl rfl rfl d1
    clear hdep hI ho hF hDD
    go_simp
    refine (H21.out _).mono ?_
    rintro e W2 ⟨A, c, B, bb, E, f, G, g, rfl, ⟨hA, hB', hE, hG⟩, hb⟩
    exact hK (by decide) (.agg #[.bool s1, .slice A k1 c, .bool false, .slice B l bb, .bool t1, .slice E i1 f, .bool false, .slice G l g]) _ (fun u hu => nV hu) hb (fun p hp e => by
     simp only [List.mem_cons, List.not_mem_nil, or_false] at hp
     rcases hp with rfl | rfl | rfl | rfl
     ·exact ⟨A, c, B, bb, E, f, G, g, rfl, hA, hB', hE, hG⟩
     ·exact absurd e (fct_ne (i := 5) rfl)
     ·exact absurd e (fct_ne (i := 6) rfl)
     ·exact absurd e (fct_ne (i := 7) rfl)) ⟨fun e => absurd e (by decide), fun e => absurd e (by decide)⟩
   ·obtain rfl := oI ho
    have q15 : a.tmps[15]?.getD undef = Value.pointer (some ⟨C0, 0, none⟩) := (hI.old 15 (noDst_spec (by kernel_rfl))).trans o15
    clear hdep hI ho hF hDD
    go_simp
    exact hK (by decide) (Value.pointer (some ⟨C0, 2, none⟩)) _ (fun u hu => oV hu) (Below.refl _ _) (fct_none rfl) ⟨fun e => absurd e (by decide), fun e => absurd e (by decide)⟩
   ·obtain rfl := oI ho
    have d3 : listed.getD 3 false = true := hdep ⟨3, .data⟩ (by simp) rfl
    have q131 : a.tmps[131]?.getD undef = Value.pointer (some ⟨C0, 2, none⟩) := hI.val 3 _ 131 _ rfl rfl rfl d3
    have x2 := (HP.out.after hB).c 2 rfl
    have x3 := (HP.out.after hB).c 3 rfl
    clear hdep hI ho hF hDD
    go_simp
    exact hK (by decide) (Value.agg #[.int .i64 pc, .int .i64 pd]) _ (fun u hu => oV hu) (Below.refl _ _) (fct_none rfl) ⟨fun e => absurd e (by decide), fun e => absurd e (by decide)⟩
   ·obtain rfl := oI ho
    have d4 : listed.getD 4 false = true := hdep ⟨4, .data⟩ (by simp) rfl
    have q132 : a.tmps[132]?.getD undef = Value.agg #[.int .i64 pc, .int .i64 pd] := hI.val 4 _ 132 _ rfl rfl rfl d4
    clear hdep hI ho hF hDD
    go_simp
    refine (H22.out _).mono ?_
    rintro e W2 ⟨A, c, B, bb, E, f, G, g, rfl, ⟨hA, hB', hE, hG⟩, hb⟩
    exact hK (by decide) (.agg #[.bool s2, .slice A k2 c, .bool false, .slice B l bb, .bool t2, .slice E i2 f, .bool false, .slice G l g]) _ (fun u hu => nV hu) hb (fun p hp e => by
     simp only [List.mem_cons, List.not_mem_nil, or_false] at hp
     rcases hp with rfl | rfl | rfl | rfl
     ·exact absurd e (fct_ne (i := 2) rfl)
     ·exact ⟨A, c, B, bb, E, f, G, g, rfl, hA, hB', hE, hG⟩
     ·exact absurd e (fct_ne (i := 6) rfl)
     ·exact absurd e (fct_ne (i := 7) rfl)) ⟨fun e => absurd e (by decide), fun e => absurd e (by decide)⟩
   ·obtain rfl := oI ho
    have hn : listed.getD 7 false = true → Value.pointer (some ⟨W.heap.size, 0, none⟩) ≠ slotOf a 18 := fun h2 => by
     obtain ⟨C, hc, _, hr⟩ := hF (newFct 7 18 V0.heap.size [.bool false, .slice none 0 0, .bool false, .slice none 0 0, .bool false, .slice none 0 0, .bool false, .slice none 0 0]) (by simp) h2
     exact new_ne hc hr
    clear hdep hI ho hF hDD
    go_simp
    exact hK (by decide) (.pointer (some ⟨W.heap.size, 0, none⟩)) _ (fun u hu => nV hu) ((Below.refl _ _).alloc (Nat.le_refl _) _) (fun p hp e => by
     simp only [List.mem_cons, List.not_mem_nil, or_false] at hp
     rcases hp with rfl | rfl | rfl | rfl
     ·exact absurd e (fct_ne (i := 2) rfl)
     ·exact absurd e (fct_ne (i := 5) rfl)
     ·exact ⟨W.heap.size, rfl, hB.size, Row.at rfl _ _⟩
     ·exact absurd e (fct_ne (i := 7) rfl)) ⟨fun _ h2 => hn h2, fun e => absurd e (by decide)⟩
   ·obtain rfl := oI ho
    have hn : listed.getD 6 false = true → slotOf a 17 ≠ Value.pointer (some ⟨W.heap.size, 0, none⟩) := fun h2 => by
     obtain ⟨C, hc, _, hr⟩ := hF (newFct 6 17 V0.heap.size [.bool false, .slice none 0 0, .bool false, .slice none 0 0, .bool false, .slice none 0 0, .bool false, .slice none 0 0]) (by simp) h2
     exact (new_ne hc hr).symm
    clear hdep hI ho hF hDD
    go_simp
    exact hK (by decide) (.pointer (some ⟨W.heap.size, 0, none⟩)) _ (fun u hu => nV hu) ((Below.refl _ _).alloc (Nat.le_refl _) _) (fun p hp e => by
     simp only [List.mem_cons, List.not_mem_nil, or_false] at hp
     rcases hp with rfl | rfl | rfl | rfl
     ·exact absurd e (fct_ne (i := 2) rfl)
     ·exact absurd e (fct_ne (i := 5) rfl)
     ·exact absurd e (fct_ne (i := 6) rfl)
     ·exact ⟨W.heap.size, rfl, hB.size, Row.at rfl _ _⟩) ⟨fun e => absurd e (by decide), fun _ h2 => hn h2⟩
   ·obtain rfl := oI ho
    have d6 : listed.getD 6 false = true := hdep ⟨6, .data⟩ (by simp) rfl
    have d2 : listed.getD 2 false = true := hdep ⟨2, .data⟩ (by simp) rfl
    have d5 : listed.getD 5 false = true := hdep ⟨5, .chain⟩ (by simp) rfl
    have d7 : listed.getD 7 false = true := hdep ⟨7, .phase⟩ (by simp) rfl
    obtain ⟨A1, a1, B1, b1, E1, f1, G1, g1, hq1, u1, u2, u3, u4⟩ := hF (ptFct 2 130 s1 t1 m1 1 n1 1 k1 l i1 l) (by simp) d2
    obtain ⟨A2, a2, B2, b2, E2, f2, G2, g2, hq2, u5, u6, u7, u8⟩ := hF (ptFct 5 133 s2 t2 m2 1 n2 1 k2 l i2 l) (by simp) d5
    obtain ⟨C, hc, hl, hr⟩ := hF (newFct 6 17 V0.heap.size [.bool false, .slice none 0 0, .bool false, .slice none 0 0, .bool false, .slice none 0 0, .bool false, .slice none 0 0]) (by simp) d6
    obtain ⟨D, hc2, hl2, hr2⟩ := hF (newFct 7 18 V0.heap.size [.bool false, .slice none 0 0, .bool false, .slice none 0 0, .bool false, .slice none 0 0, .bool false, .slice none 0 0]) (by simp) d7
    have q130 : a.tmps[130]?.getD undef = .agg #[.bool s1, .slice A1 k1 a1, .bool false, .slice B1 l b1, .bool t1, .slice E1 i1 f1, .bool false, .slice G1 l g1] := hq1
    have q17 : a.tmps[17]?.getD undef = Value.pointer (some ⟨C, 0, none⟩) := hc
    have hCD : C ≠ D := two_ne (hDD d6 d7) hc hc2
    have z0 := hr.c 0 rfl
    have z1 := hr.c 1 rfl
    have z2 := hr.c 2 rfl
    have z3 := hr.c 3 rfl
    have z4 := hr.c 4 rfl
    have z5 := hr.c 5 rfl
    have z6 := hr.c 6 rfl
    have z7 := hr.c 7 rfl
    have w0 := hr.f 0 rfl
    have w1 := hr.f 1 rfl
    have w2 := hr.f 2 rfl
    have w3 := hr.f 3 rfl
    have w4 := hr.f 4 rfl
    have w5 := hr.f 5 rfl
    have w6 := hr.f 6 rfl
    have w7 := hr.f 7 rfl
    clear hdep hI ho hF hDD
    go_simp
    exact hKf rfl undef _ (fun u hu => nV hu) ⟨C, D, A1, a1, B1, b1, E1, f1, G1, g1, A2, a2, B2, b2, E2, f2, G2, g2, hc, hc2, hq2, hCD, hl, hl2, hr.putAll [_, _, _, _, _, _, _, _] rfl, (On.setCells _ C [_, _, _, _, _, _, _, _] 0 _ (On.refl _ C)).row hCD.symm hr2, ⟨u1.put8 z0 _ _ _ _ _ _ _ _, u2.put8 z0 _ _ _ _ _ _ _ _, u3.put8 z0 _ _ _ _ _ _ _ _, u4.put8 z0 _ _ _ _ _ _ _ _⟩, ⟨u5.put8 z0 _ _ _ _ _ _ _ _, u6.put8 z0 _ _ _ _ _ _ _ _, u7.put8 z0 _ _ _ _ _ _ _ _, u8.put8 z0 _ _ _ _ _ _ _ _⟩, below_on hB (On.setCells _ C [_, _, _, _, _, _, _, _] 0 _ (On.refl _ C)) hl⟩
  ·intro listed a W o hI ho hup hOne K hK
   obtain rfl := oI ho
   obtain ⟨C, D, A1, a1, B1, b1, E1, f1, G1, g1, A2, a2, B2, b2, E2, f2, G2, g2, hc, hc2, hq2, hCD, hl, hl2, hr, hr2, ⟨u1, u2, u3, u4⟩, ⟨u5, u6, u7, u8⟩, hB⟩ := hOne
   have q133 : a.tmps[133]?.getD undef = .agg #[.bool s2, .slice A2 k2 a2, .bool false, .slice B2 l b2, .bool t2, .slice E2 i2 f2, .bool false, .slice G2 l g2] := hq2
   have q18 : a.tmps[18]?.getD undef = Value.pointer (some ⟨D, 0, none⟩) := hc2
   have z0 := hr2.c 0 rfl
   have w0 := hr2.f 0 rfl
   have z1 := hr2.c 1 rfl
   have w1 := hr2.f 1 rfl
   have z2 := hr2.c 2 rfl
   have w2 := hr2.f 2 rfl
   have z3 := hr2.c 3 rfl
   have w3 := hr2.f 3 rfl
   have z4 := hr2.c 4 rfl
   have w4 := hr2.f 4 rfl
   have z5 := hr2.c 5 rfl
   have w5 := hr2.f 5 rfl
   have z6 := hr2.c 6 rfl
   have w6 := hr2.f 6 rfl
   have z7 := hr2.c 7 rfl
   have w7 := hr2.f 7 rfl
   clear hI ho hup
   go_simp
   exact hK undef _ (fun u hu => nV hu) ⟨C, D, A1, a1, B1, b1, E1, f1, G1, g1, A2, a2, B2, b2, E2, f2, G2, g2, hc, hc2, hCD, hl, hl2, (On.setCells _ D [_, _, _, _, _, _, _, _] 0 _ (On.refl _ D)).row hCD hr, hr2.putAll [_, _, _, _, _, _, _, _] rfl, ⟨u1.put8 z0 _ _ _ _ _ _ _ _, u2.put8 z0 _ _ _ _ _ _ _ _, u3.put8 z0 _ _ _ _ _ _ _ _, u4.put8 z0 _ _ _ _ _ _ _ _⟩, ⟨u5.put8 z0 _ _ _ _ _ _ _ _, u6.put8 z0 _ _ _ _ _ _ _ _, u7.put8 z0 _ _ _ _ _ _ _ _, u8.put8 z0 _ _ _ _ _ _ _ _⟩, below_on hB (On.setCells _ D [_, _, _, _, _, _, _, _] 0 _ (On.refl _ D)) hl2⟩

  ·intro listed a W hI hall hFin
   obtain ⟨C, D, A1, a1, B1, b1, E1, f1, G1, g1, A2, a2, B2, b2, E2, f2, G2, g2, vc, vc2, hCD, hl, hl2, hr, hr2, ⟨u1, u2, u3, u4⟩, ⟨u5, u6, u7, u8⟩, hB⟩ := hFin
   have o17 : a.tmps[17]?.getD undef = Value.pointer (some ⟨C, 0, none⟩) := vc
   have o18 : a.tmps[18]?.getD undef = Value.pointer (some ⟨D, 0, none⟩) := vc2
   have p16 : a.tmps[16]?.getD undef = Value.pointer (some ⟨D0, 0, none⟩) := (hI.old 16 (noDst_spec (by kernel_rfl))).trans o16
   have p4 : a.tmps[4]?.getD undef = Value.pointer (some ⟨w.heap.size + 2, 0, none⟩) := (hI.old 4 (noDst_spec (by kernel_rfl))).trans o4
   have hdf : a.defers = [] := hI.defers
   have hsz2 : a.tmps.size = 166 := hI.size.trans hsz
   have rZ := HZ.out.after hB
   have rQ := HQ.out.after hB
   have HZlt := HZ.out.lt
   have HQlt := HQ.out.lt
   replace hB := hb0.trans (hB.mono hb0.size)
   clear hI hall vc vc2 hb0 HZ HP HQ o15 o16 o4 hsz H21 H22
   obtain ⟨tm2, df⟩ := a
   simp only at hdf o17 o18 p16 p4 hsz2
   have o16 := p16
   have o4 := p4
   have hsz := hsz2
   clear p16 p4 hsz2
   subst hdf
   have hZC : w.heap.size + 2 < C := Nat.lt_of_lt_of_le HZlt hl
   have hZD : w.heap.size + 2 < D := Nat.lt_of_lt_of_le HZlt hl2
   have hwC : w.heap.size ≤ C := by omega
   have hQC : D0 < C := Nat.lt_of_lt_of_le HQlt hl
   have hQD : D0 < D := Nat.lt_of_lt_of_le HQlt hl2
   have hwD : w.heap.size ≤ D := by omega
   clear hl hl2 HZlt HQlt
   go_upto_region 16 with fail
   have HR := Lib.hid hr
   have HQ := Lib.hid rQ
   have hb0 := hB
   clear hB
   refine wp_region_fct (by kernel_rfl) [] (fun ix => match ix with
    | 0 => some (Value.pointer (some ⟨D0, 0, none⟩))
    | 1 => some (Value.agg #[.int .i64 qa, .int .i64 qb])
    | 3 => some (Value.agg #[.bool s1, .slice A1 k1 a1, .bool false, .slice B1 l b1, .bool t1, .slice E1 i1 f1, .bool false, .slice G1 l g1])
    | 4 => some (Value.int .i64 r1)
    | 5 => some (Value.bool c1)
    | _ => none) (by intro j hj; cases hj) 6 [ptFct 2 136 s3 t3 m3 1 n3 1 k3 l i3 l] (fun _ _ => False) (by show midOkG _ _ _ = true; rw [hsz]; kernel_rfl) (by kernel_rfl) (by rfl) ?_ ?_
   ·intro listed a W ix o hI ho hdep hB hF K hK hKf
    have hi : ix < 6 := (Array.getElem?_eq_some_iff.1 ho).1
    have hcase : ix = 0 ∨ ix = 1 ∨ ix = 2 ∨ ix = 3 ∨ ix = 4 ∨ ix = 5 := by omega
    clear hi
    rcases hcase with rfl | rfl | rfl | rfl | rfl | rfl
    ·obtain rfl := oI ho
     have q16 : a.tmps[16]?.getD undef = Value.pointer (some ⟨D0, 0, none⟩) := (hI.old 16 (noDst_spec (by kernel_rfl))).trans o16
     clear hdep hI ho hF
     go_simp
     exact hK (by decide) (Value.pointer (some ⟨D0, 0, none⟩)) _ (fun u hu => oV hu) (Below.refl _ _) (fct_none rfl)
    ·obtain rfl := oI ho
     have d0 : listed.getD 0 false = true := hdep ⟨0, .data⟩ (by simp) rfl
     have q134 : a.tmps[134]?.getD undef = Value.pointer (some ⟨D0, 0, none⟩) := hI.val 0 _ 134 _ rfl rfl rfl d0
     have x0 := (HQ.out.after hB).c 0 rfl
     have x1 := (HQ.out.after hB).c 1 rfl
     clear hdep hI ho hF
     go_simp
     exact hK (by decide) (Value.agg #[.int .i64 qa, .int .i64 qb]) _ (fun u hu => oV hu) (Below.refl _ _) (fct_none rfl)
    ·obtain rfl := oI ho
     have d1 : listed.getD 1 false = true := hdep ⟨1, .data⟩ (by simp) rfl
     have q135 : a.tmps[135]?.getD undef = Value.agg #[.int .i64 qa, .int .i64 qb] := hI.val 1 _ 135 _ rfl rfl rfl d1
     clear hdep hI ho hF
     go_simp
     refine (H23.out _).mono ?_
     rintro e W2 ⟨A, c, B, bb, E, f, G, g, rfl, ⟨hA, hB', hE, hG⟩, hb⟩
     exact hK (by decide) (.agg #[.bool s3, .slice A k3 c, .bool false, .slice B l bb, .bool t3, .slice E i3 f, .bool false, .slice G l g]) _ (fun u hu => nV hu) hb (fun p hp e => by
      simp only [List.mem_cons, List.not_mem_nil, or_false] at hp
      rcases hp with rfl
      ·exact ⟨A, c, B, bb, E, f, G, g, rfl, hA, hB', hE, hG⟩)
    ·obtain rfl := oI ho
     have q17 : a.tmps[17]?.getD undef = Value.pointer (some ⟨C, 0, none⟩) := (hI.old 17 (noDst_spec (by kernel_rfl))).trans o17
     have x0 := (HR.out.after hB).c 0 rfl
     have x1 := (HR.out.after hB).c 1 rfl
     have x2 := (HR.out.after hB).c 2 rfl
     have x3 := (HR.out.after hB).c 3 rfl
     have x4 := (HR.out.after hB).c 4 rfl
     have x5 := (HR.out.after hB).c 5 rfl
     have x6 := (HR.out.after hB).c 6 rfl
     have x7 := (HR.out.after hB).c 7 rfl
     clear hdep hI ho hF
     go_simp
     exact hK (by decide) (Value.agg #[.bool s1, .slice A1 k1 a1, .bool false, .slice B1 l b1, .bool t1, .slice E1 i1 f1, .bool false, .slice G1 l g1]) _ (fun u hu => oV hu) (Below.refl _ _) (fct_none rfl)
    ·obtain rfl := oI ho
     have d2 : listed.getD 2 false = true := hdep ⟨2, .data⟩ (by simp) rfl
     have d3 : listed.getD 3 false = true := hdep ⟨3, .data⟩ (by simp) rfl
     have q137 : a.tmps[137]?.getD undef = Value.agg #[.bool s1, .slice A1 k1 a1, .bool false, .slice B1 l b1, .bool t1, .slice E1 i1 f1, .bool false, .slice G1 l g1] := hI.val 3 _ 137 _ rfl rfl rfl d3
     obtain ⟨A, c, B, bb, E, f, G, g, hq, hA, hB', hE, hG⟩ := hF (ptFct 2 136 s3 t3 m3 1 n3 1 k3 l i3 l) (by simp) d2
     have q136 : a.tmps[136]?.getD undef = .agg #[.bool s3, .slice A k3 c, .bool false, .slice B l bb, .bool t3, .slice E i3 f, .bool false, .slice G l g] := hq
     have HC := Lib.hid (H25.out A c B bb E f G g A1 a1 B1 b1 E1 f1 G1 g1 W (hb0.trans (hB.mono hb0.size)) ⟨hA, hB', hE, hG⟩ ⟨u1.below hB, u2.below hB, u3.below hB, u4.below hB⟩)
     clear hdep hI ho hF
     go_simp
     refine HC.out.mono ?_
     rintro e W2 ⟨rfl, hb⟩
     exact hK (by decide) (Value.int .i64 r1) _ (fun u hu => oV hu) hb (fct_none rfl)
    ·obtain rfl := oI ho
     have d4 : listed.getD 4 false = true := hdep ⟨4, .data⟩ (by simp) rfl
     have q138 : a.tmps[138]?.getD undef = Value.int .i64 r1 := hI.val 4 _ 138 _ rfl rfl rfl d4
     clear hdep hI ho hF
     go_simp
     exact hK (by decide) (Value.bool c1) _ (fun u hu => oV hu) (Below.refl _ _) (fct_none rfl)
   ·intro listed a W hI hall hfin hend
    obtain ⟨hBW, _⟩ := hend rfl
    have y139 : a.tmps[139]?.getD undef = Value.bool c1 := hI.val 5 _ 139 _ rfl rfl rfl (hall 5 (by decide))
    have p4 : a.tmps[4]?.getD undef = Value.pointer (some ⟨w.heap.size + 2, 0, none⟩) := (hI.old 4 (noDst_spec (by kernel_rfl))).trans o4
    have p16 : a.tmps[16]?.getD undef = Value.pointer (some ⟨D0, 0, none⟩) := (hI.old 16 (noDst_spec (by kernel_rfl))).trans o16
    have p17 : a.tmps[17]?.getD undef = Value.pointer (some ⟨C, 0, none⟩) := (hI.old 17 (noDst_spec (by kernel_rfl))).trans o17
    have p18 : a.tmps[18]?.getD undef = Value.pointer (some ⟨D, 0, none⟩) := (hI.old 18 (noDst_spec (by kernel_rfl))).trans o18
    have hdf : a.defers = [] := hI.defers
    have hsz2 : a.tmps.size = 166 := hI.size.trans hsz
    replace hr := hr.after hBW
    replace hr2 := hr2.after hBW
    replace rZ := rZ.after hBW
    replace rQ := rQ.after hBW
    replace u1 := u1.below hBW
    replace u2 := u2.below hBW
    replace u3 := u3.below hBW
    replace u4 := u4.below hBW
    replace u5 := u5.below hBW
    replace u6 := u6.below hBW
    replace u7 := u7.below hBW
    replace u8 := u8.below hBW
    have hB := hb0.trans (hBW.mono hb0.size)
    clear hI hall hfin hend hb0 hBW HR HQ o4 o16 o17 o18 hsz
    obtain ⟨tm9, df⟩ := a
    simp only at hdf y139 p4 p16 p17 p18 hsz2
    subst hdf
    have o4 := p4
    have o16 := p16
    have o17 := p17
    have o18 := p18
    have hsz := hsz2
    clear p4 p16 p17 p18 hsz2
    cases c1
    ·go_upto_region 18 with fail
     refine wp_cond_false (by rw [act_tmp]; exact y139) ?_
     go_upto_region 18 with fail
     have HR := Lib.hid hr2
     have HQ := Lib.hid rQ
     have hb0 := hB
     clear hB
     refine wp_region_fct (by kernel_rfl) [] (fun ix => match ix with
      | 0 => some (Value.pointer (some ⟨D0, 2, none⟩))
      | 1 => some (Value.agg #[.int .i64 qc, .int .i64 qd])
      | 3 => some (Value.agg #[.bool s2, .slice A2 k2 a2, .bool false, .slice B2 l b2, .bool t2, .slice E2 i2 f2, .bool false, .slice G2 l g2])
      | 4 => some (Value.int .i64 r2)
      | 5 => some (Value.bool c2)
      | _ => none) (by intro j hj; cases hj) 6 [ptFct 2 145 s4 t4 m4 1 n4 1 k4 l i4 l] (fun _ _ => False) (by show midOkG _ _ _ = true; rw [hsz]; kernel_rfl) (by kernel_rfl) (by rfl) ?_ ?_
     ·intro listed a W ix o hI ho hdep hB hF K hK hKf
      have hi : ix < 6 := (Array.getElem?_eq_some_iff.1 ho).1
      have hcase : ix = 0 ∨ ix = 1 ∨ ix = 2 ∨ ix = 3 ∨ ix = 4 ∨ ix = 5 := by omega
      clear hi
      rcases hcase with rfl | rfl | rfl | rfl | rfl | rfl
      ·obtain rfl := oI ho
       have q16 : a.tmps[16]?.getD undef = Value.pointer (some ⟨D0, 0, none⟩) := (hI.old 16 (noDst_spec (by kernel_rfl))).trans o16
       clear hdep hI ho hF
       go_simp
       exact hK (by decide) (Value.pointer (some ⟨D0, 2, none⟩)) _ (fun u hu => oV hu) (Below.refl _ _) (fct_none rfl)
      ·obtain rfl := oI ho
       have d0 : listed.getD 0 false = true := hdep ⟨0, .data⟩ (by simp) rfl
       have q143 : a.tmps[143]?.getD undef = Value.pointer (some ⟨D0, 2, none⟩) := hI.val 0 _ 143 _ rfl rfl rfl d0
       have x2 := (HQ.out.after hB).c 2 rfl
       have x3 := (HQ.out.after hB).c 3 rfl
       clear hdep hI ho hF
       go_simp
       exact hK (by decide) (Value.agg #[.int .i64 qc, .int .i64 qd]) _ (fun u hu => oV hu) (Below.refl _ _) (fct_none rfl)
      ·obtain rfl := oI ho
       have d1 : listed.getD 1 false = true := hdep ⟨1, .data⟩ (by simp) rfl
       have q144 : a.tmps[144]?.getD undef = Value.agg #[.int .i64 qc, .int .i64 qd] := hI.val 1 _ 144 _ rfl rfl rfl d1
       clear hdep hI ho hF
       go_simp
       refine (H24.out _).mono ?_
       rintro e W2 ⟨A, c, B, bb, E, f, G, g, rfl, ⟨hA, hB', hE, hG⟩, hb⟩
       exact hK (by decide) (.agg #[.bool s4, .slice A k4 c, .bool false, .slice B l bb, .bool t4, .slice E i4 f, .bool false, .slice G l g]) _ (fun u hu => nV hu) hb (fun p hp e => by
        simp only [List.mem_cons, List.not_mem_nil, or_false] at hp
        rcases hp with rfl
        ·exact ⟨A, c, B, bb, E, f, G, g, rfl, hA, hB', hE, hG⟩)
      ·obtain rfl := oI ho
       have q18 : a.tmps[18]?.getD undef = Value.pointer (some ⟨D, 0, none⟩) := (hI.old 18 (noDst_spec (by kernel_rfl))).trans o18
       have x0 := (HR.out.after hB).c 0 rfl
       have x1 := (HR.out.after hB).c 1 rfl
       have x2 := (HR.out.after hB).c 2 rfl
       have x3 := (HR.out.after hB).c 3 rfl
       have x4 := (HR.out.after hB).c 4 rfl
       have x5 := (HR.out.after hB).c 5 rfl
       have x6 := (HR.out.after hB).c 6 rfl
       have x7 := (HR.out.after hB).c 7 rfl
       clear hdep hI ho hF
       go_simp
       exact hK (by decide) (Value.agg #[.bool s2, .slice A2 k2 a2, .bool false, .slice B2 l b2, .bool t2, .slice E2 i2 f2, .bool false, .slice G2 l g2]) _ (fun u hu => oV hu) (Below.refl _ _) (fct_none rfl)
      ·obtain rfl := oI ho
       have d2 : listed.getD 2 false = true := hdep ⟨2, .data⟩ (by simp) rfl
       have d3 : listed.getD 3 false = true := hdep ⟨3, .data⟩ (by simp) rfl
       have q146 : a.tmps[146]?.getD undef = Value.agg #[.bool s2, .slice A2 k2 a2, .bool false, .slice B2 l b2, .bool t2, .slice E2 i2 f2, .bool false, .slice G2 l g2] := hI.val 3 _ 146 _ rfl rfl rfl d3
       obtain ⟨A, c, B, bb, E, f, G, g, hq, hA, hB', hE, hG⟩ := hF (ptFct 2 145 s4 t4 m4 1 n4 1 k4 l i4 l) (by simp) d2
       have q145 : a.tmps[145]?.getD undef = .agg #[.bool s4, .slice A k4 c, .bool false, .slice B l bb, .bool t4, .slice E i4 f, .bool false, .slice G l g] := hq
       have HC := Lib.hid (H26.out A c B bb E f G g A2 a2 B2 b2 E2 f2 G2 g2 W (hb0.trans (hB.mono hb0.size)) ⟨hA, hB', hE, hG⟩ ⟨u5.below hB, u6.below hB, u7.below hB, u8.below hB⟩)
       clear hdep hI ho hF
       go_simp
       refine HC.out.mono ?_
       rintro e W2 ⟨rfl, hb⟩
       exact hK (by decide) (Value.int .i64 r2) _ (fun u hu => oV hu) hb (fct_none rfl)
      ·obtain rfl := oI ho
       have d4 : listed.getD 4 false = true := hdep ⟨4, .data⟩ (by simp) rfl
       have q147 : a.tmps[147]?.getD undef = Value.int .i64 r2 := hI.val 4 _ 147 _ rfl rfl rfl d4
       clear hdep hI ho hF
       go_simp
       exact hK (by decide) (Value.bool c2) _ (fun u hu => oV hu) (Below.refl _ _) (fct_none rfl)
     ·intro listed a W hI hall hfin hend
      obtain ⟨hBW, _⟩ := hend rfl
      have y148 : a.tmps[148]?.getD undef = Value.bool c2 := hI.val 5 _ 148 _ rfl rfl rfl (hall 5 (by decide))
      have p4 : a.tmps[4]?.getD undef = Value.pointer (some ⟨w.heap.size + 2, 0, none⟩) := (hI.old 4 (noDst_spec (by kernel_rfl))).trans o4
      have p16 : a.tmps[16]?.getD undef = Value.pointer (some ⟨D0, 0, none⟩) := (hI.old 16 (noDst_spec (by kernel_rfl))).trans o16
      have p17 : a.tmps[17]?.getD undef = Value.pointer (some ⟨C, 0, none⟩) := (hI.old 17 (noDst_spec (by kernel_rfl))).trans o17
      have p18 : a.tmps[18]?.getD undef = Value.pointer (some ⟨D, 0, none⟩) := (hI.old 18 (noDst_spec (by kernel_rfl))).trans o18
      have hdf : a.defers = [] := hI.defers
      have hsz2 : a.tmps.size = 166 := hI.size.trans hsz
      replace hr := hr.after hBW
      replace hr2 := hr2.after hBW
      replace rZ := rZ.after hBW
      replace rQ := rQ.after hBW
      replace u1 := u1.below hBW
      replace u2 := u2.below hBW
      replace u3 := u3.below hBW
      replace u4 := u4.below hBW
      replace u5 := u5.below hBW
      replace u6 := u6.below hBW
      replace u7 := u7.below hBW
      replace u8 := u8.below hBW
      have hB := hb0.trans (hBW.mono hb0.size)
      clear hI hall hfin hend hb0 hBW HR HQ o4 o16 o17 o18 hsz
      obtain ⟨tm9, df⟩ := a
      simp only at hdf y148 p4 p16 p17 p18 hsz2
      subst hdf
      have o4 := p4
      have o16 := p16
      have o17 := p17
      have o18 := p18
      have hsz := hsz2
      clear p4 p16 p17 p18 hsz2
      cases c2
      ·go_upto_region 20 with fail
       refine wp_cond_false (by rw [act_tmp]; exact y148) ?_
       go_upto_region 20 with fail
       have h152 : 152 < tm9.size := by omega
       have h153 : 153 < tm9.size := by omega
       have h154 : 154 < tm9.size := by omega
       have HSZ := Lib.hid hsz
       clear hsz
       have p0 := hr.c 0 rfl
       have v0 := hr2.c 0 rfl
       have p1 := hr.c 1 rfl
       have v1 := hr2.c 1 rfl
       have p2 := hr.c 2 rfl
       have v2 := hr2.c 2 rfl
       have p3 := hr.c 3 rfl
       have v3 := hr2.c 3 rfl
       have p4 := hr.c 4 rfl
       have v4 := hr2.c 4 rfl
       have p5 := hr.c 5 rfl
       have v5 := hr2.c 5 rfl
       have p6 := hr.c 6 rfl
       have v6 := hr2.c 6 rfl
       have p7 := hr.c 7 rfl
       have v7 := hr2.c 7 rfl
       go_wp2_with fail
       clear p0 v0 p1 v1 p2 v2 p3 v3 p4 v4 p5 v5 p6 v6 p7 v7
       refine (H27.out (by first | rfl | trivial) (by first | rfl | trivial) A1 a1 B1 b1 E1 f1 G1 g1 A2 a2 B2 b2 E2 f2 G2 g2 _ hB ⟨u1, u2, u3, u4⟩ ⟨u5, u6, u7, u8⟩).mono ?_
       rintro e W20 ⟨rfl, hb⟩
       replace hr := hr.after hb
       replace hr2 := hr2.after hb
       replace rZ := rZ.after hb
       replace u1 := u1.below hb
       replace u2 := u2.below hb
       replace u3 := u3.below hb
       replace u4 := u4.below hb
       replace u5 := u5.below hb
       replace u6 := u6.below hb
       replace u7 := u7.below hb
       replace u8 := u8.below hb
       replace hB := hB.trans (hb.mono hB.size)
       clear hb rQ
       dsimp only
       generalize hT : Array.setIfInBounds (Array.setIfInBounds (Array.setIfInBounds tm9 _ _) _ _) _ _ = tm7
       replace o4 : tm7[4]?.getD undef = Value.pointer (some ⟨w.heap.size + 2, 0, none⟩) := by rw [← hT]; simp [o4]
       replace o17 : tm7[17]?.getD undef = Value.pointer (some ⟨C, 0, none⟩) := by rw [← hT]; simp [o17]
       replace o18 : tm7[18]?.getD undef = Value.pointer (some ⟨D, 0, none⟩) := by rw [← hT]; simp [o18]
       have o154 : tm7[154]?.getD undef = Value.int .i64 r3 := by rw [← hT]; simp [h154]
       have hsz : tm7.size = 166 := by rw [← hT]; simp [HSZ.out]
       clear hT HSZ h152 h153 h154 o16
       have h155 : 155 < tm7.size := by omega
       have h156 : 156 < tm7.size := by omega
       have h157 : 157 < tm7.size := by omega
       have h158 : 158 < tm7.size := by omega
       have h159 : 159 < tm7.size := by omega
       have h160 : 160 < tm7.size := by omega
       have h161 : 161 < tm7.size := by omega
       have h162 : 162 < tm7.size := by omega
       have h163 : 163 < tm7.size := by omega
       have h164 : 164 < tm7.size := by omega
       have h165 : 165 < tm7.size := by omega
       clear hsz
       have p0 := hr.c 0 rfl
       have v0 := hr2.c 0 rfl
       have p1 := hr.c 1 rfl
       have v1 := hr2.c 1 rfl
       have p2 := hr.c 2 rfl
       have v2 := hr2.c 2 rfl
       have p3 := hr.c 3 rfl
       have v3 := hr2.c 3 rfl
       have p4 := hr.c 4 rfl
       have v4 := hr2.c 4 rfl
       have p5 := hr.c 5 rfl
       have v5 := hr2.c 5 rfl
       have p6 := hr.c 6 rfl
       have v6 := hr2.c 6 rfl
       have p7 := hr.c 7 rfl
       have v7 := hr2.c 7 rfl
       have zi := rZ.c 0 rfl
       have zb := rZ.c 1 rfl
       cases c3
       ·go_upto_region 22 with fail
        refine wp_cond_false (by rw [act_tmp]; simp [h155]) ?_
        cases c4
        ·go_upto_region 24 with fail
         refine wp_cond_false (by rw [act_tmp]; simp [h160]) ?_
         go_wp2_with (refine wpList_store_R rfl _ _ _ rfl _ #[.int .i64 0, .bool false, .slice none 0 0, .bool false, .slice none 0 0, .bool false, .slice none 0 0, .bool false, .slice none 0 0, .bool false, .slice none 0 0, .bool false, .slice none 0 0, .bool false, .slice none 0 0, .bool false, .slice none 0 0] (by rw [act_tmp]; simp [o4]) (by rw [act_tmp]; simp [h165]) _ rZ (by rfl) agg_rmeet (by simp [OneC, Value.oneCell']) ?_; intro w7 r7 o7)
         exact bodyPost_ret (results_R1 (cs := #[.int .i64 0, .bool false, .slice none 0 0, .bool false, .slice none 0 0, .bool false, .slice none 0 0, .bool false, .slice none 0 0, .bool false, .slice none 0 0, .bool false, .slice none 0 0, .bool false, .slice none 0 0, .bool false, .slice none 0 0]) rfl (by simp [o4]) r7 agg_rmeet) rfl ⟨A1, a1, B1, b1, E1, f1, G1, g1, A2, a2, B2, b2, E2, f2, G2, g2, rfl, ⟨u1.onM o7 zi zb, u2.onM o7 zi zb, u3.onM o7 zi zb, u4.onM o7 zi zb⟩, ⟨u5.onM o7 zi zb, u6.onM o7 zi zb, u7.onM o7 zi zb, u8.onM o7 zi zb⟩, below_on hB o7 (by omega)⟩
        ·go_upto_region 24 with fail
         refine wp_cond_true (by rw [act_tmp]; simp [h160]) ?_
         go_wp2_with (refine wpList_store_R rfl _ _ _ rfl _ #[.int .i64 1, .bool s1, .slice A1 k1 a1, .bool false, .slice B1 l b1, .bool t1, .slice E1 i1 f1, .bool false, .slice G1 l g1, .bool s1, .slice A1 k1 a1, .bool false, .slice B1 l b1, .bool t1, .slice E1 i1 f1, .bool false, .slice G1 l g1] (by rw [act_tmp]; simp [o4]) (by rw [act_tmp]; simp [h164]) _ rZ (by rfl) agg_rmeet (by simp [OneC, Value.oneCell']) ?_; intro w7 r7 o7)
         exact bodyPost_ret (results_R1 (cs := #[.int .i64 1, .bool s1, .slice A1 k1 a1, .bool false, .slice B1 l b1, .bool t1, .slice E1 i1 f1, .bool false, .slice G1 l g1, .bool s1, .slice A1 k1 a1, .bool false, .slice B1 l b1, .bool t1, .slice E1 i1 f1, .bool false, .slice G1 l g1]) rfl (by simp [o4]) r7 agg_rmeet) rfl ⟨A1, a1, B1, b1, E1, f1, G1, g1, A2, a2, B2, b2, E2, f2, G2, g2, rfl, ⟨u1.onM o7 zi zb, u2.onM o7 zi zb, u3.onM o7 zi zb, u4.onM o7 zi zb⟩, ⟨u5.onM o7 zi zb, u6.onM o7 zi zb, u7.onM o7 zi zb, u8.onM o7 zi zb⟩, below_on hB o7 (by omega)⟩
       ·go_upto_region 22 with fail
        refine wp_cond_true (by rw [act_tmp]; simp [h155]) ?_
        go_wp2_with (refine wpList_store_R rfl _ _ _ rfl _ #[.int .i64 2, .bool s1, .slice A1 k1 a1, .bool false, .slice B1 l b1, .bool t1, .slice E1 i1 f1, .bool false, .slice G1 l g1, .bool s2, .slice A2 k2 a2, .bool false, .slice B2 l b2, .bool t2, .slice E2 i2 f2, .bool false, .slice G2 l g2] (by rw [act_tmp]; simp [o4]) (by rw [act_tmp]; simp [h159]) _ rZ (by rfl) agg_rmeet (by simp [OneC, Value.oneCell']) ?_; intro w7 r7 o7)
        exact bodyPost_ret (results_R1 (cs := #[.int .i64 2, .bool s1, .slice A1 k1 a1, .bool false, .slice B1 l b1, .bool t1, .slice E1 i1 f1, .bool false, .slice G1 l g1, .bool s2, .slice A2 k2 a2, .bool false, .slice B2 l b2, .bool t2, .slice E2 i2 f2, .bool false, .slice G2 l g2]) rfl (by simp [o4]) r7 agg_rmeet) rfl ⟨A1, a1, B1, b1, E1, f1, G1, g1, A2, a2, B2, b2, E2, f2, G2, g2, rfl, ⟨u1.onM o7 zi zb, u2.onM o7 zi zb, u3.onM o7 zi zb, u4.onM o7 zi zb⟩, ⟨u5.onM o7 zi zb, u6.onM o7 zi zb, u7.onM o7 zi zb, u8.onM o7 zi zb⟩, below_on hB o7 (by omega)⟩
      ·go_upto_region 20 with fail
       refine wp_cond_true (by rw [act_tmp]; exact y148) ?_
       have h149 : 149 < tm9.size := by omega
       have h150 : 150 < tm9.size := by omega
       have h151 : 151 < tm9.size := by omega
       have HSZ := Lib.hid hsz
       clear hsz
       have x2 := rQ.c 2 rfl
       have x3 := rQ.c 3 rfl
       go_wp2_with fail
       clear x2 x3
       refine (H24.out _).mono ?_
       rintro e W18 ⟨A4, a4, B4, b4, E4, f4, G4, g4, rfl, ⟨y1, y2, y3, y4⟩, hb⟩
       replace hr := hr.after hb
       replace hr2 := hr2.after hb
       replace rZ := rZ.after hb
       replace rQ := rQ.after hb
       replace u1 := u1.below hb
       replace u2 := u2.below hb
       replace u3 := u3.below hb
       replace u4 := u4.below hb
       replace u5 := u5.below hb
       replace u6 := u6.below hb
       replace u7 := u7.below hb
       replace u8 := u8.below hb
       replace hB := hB.trans (hb.mono hB.size)
       clear hb
       have z0 := hr2.c 0 rfl
       go_upto_region 20 with (refine wpList_store_R rfl _ _ _ rfl _ #[.bool s4, .slice A4 k4 a4, .bool false, .slice B4 l b4, .bool t4, .slice E4 i4 f4, .bool false, .slice G4 l g4] (by rw [act_tmp]; simp [o18]) (by rw [act_tmp]; simp [h151]) _ hr2 (by rfl) agg_rpoint (by simp [OneC, Value.oneCell']) ?_; intro w7 r7 o7)
       replace hr := o7.row hCD hr
       replace rZ := o7.row (Nat.ne_of_lt hZD) rZ
       replace rQ := o7.row (Nat.ne_of_lt hQD) rQ
       replace u1 := u1.on o7 z0
       replace u2 := u2.on o7 z0
       replace u3 := u3.on o7 z0
       replace u4 := u4.on o7 z0
       replace u5 := u5.on o7 z0
       replace u6 := u6.on o7 z0
       replace u7 := u7.on o7 z0
       replace u8 := u8.on o7 z0
       clear u5 u6 u7 u8
       have u5 := y1.on o7 z0
       have u6 := y2.on o7 z0
       have u7 := y3.on o7 z0
       have u8 := y4.on o7 z0
       replace hB := below_on hB o7 hwD
       clear y1 y2 y3 y4 z0 hr2
       have hr2 := r7
       clear r7 o7
       generalize hT : Array.setIfInBounds (Array.setIfInBounds (Array.setIfInBounds tm9 _ _) _ _) _ _ = tm8
       change Code.wp _ _ _ { tmps := tm8, defers := [] } _
       replace o4 : tm8[4]?.getD undef = Value.pointer (some ⟨w.heap.size + 2, 0, none⟩) := by rw [← hT]; simp [o4]
       replace o16 : tm8[16]?.getD undef = Value.pointer (some ⟨D0, 0, none⟩) := by rw [← hT]; simp [o16]
       replace o17 : tm8[17]?.getD undef = Value.pointer (some ⟨C, 0, none⟩) := by rw [← hT]; simp [o17]
       replace o18 : tm8[18]?.getD undef = Value.pointer (some ⟨D, 0, none⟩) := by rw [← hT]; simp [o18]
       have hsz : tm8.size = 166 := by rw [← hT]; simp [HSZ.out]
       clear hT HSZ
       have h152 : 152 < tm8.size := by omega
       have h153 : 153 < tm8.size := by omega
       have h154 : 154 < tm8.size := by omega
       have HSZ := Lib.hid hsz
       clear hsz
       have p0 := hr.c 0 rfl
       have v0 := hr2.c 0 rfl
       have p1 := hr.c 1 rfl
       have v1 := hr2.c 1 rfl
       have p2 := hr.c 2 rfl
       have v2 := hr2.c 2 rfl
       have p3 := hr.c 3 rfl
       have v3 := hr2.c 3 rfl
       have p4 := hr.c 4 rfl
       have v4 := hr2.c 4 rfl
       have p5 := hr.c 5 rfl
       have v5 := hr2.c 5 rfl
       have p6 := hr.c 6 rfl
       have v6 := hr2.c 6 rfl
       have p7 := hr.c 7 rfl
       have v7 := hr2.c 7 rfl
       go_wp2_with fail
       clear p0 v0 p1 v1 p2 v2 p3 v3 p4 v4 p5 v5 p6 v6 p7 v7
       refine (H29.out (by first | rfl | trivial) (by first | rfl | trivial) A1 a1 B1 b1 E1 f1 G1 g1 A4 a4 B4 b4 E4 f4 G4 g4 _ hB ⟨u1, u2, u3, u4⟩ ⟨u5, u6, u7, u8⟩).mono ?_
       rintro e W20 ⟨rfl, hb⟩
       replace hr := hr.after hb
       replace hr2 := hr2.after hb
       replace rZ := rZ.after hb
       replace u1 := u1.below hb
       replace u2 := u2.below hb
       replace u3 := u3.below hb
       replace u4 := u4.below hb
       replace u5 := u5.below hb
       replace u6 := u6.below hb
       replace u7 := u7.below hb
       replace u8 := u8.below hb
       replace hB := hB.trans (hb.mono hB.size)
       clear hb rQ
       dsimp only
       generalize hT : Array.setIfInBounds (Array.setIfInBounds (Array.setIfInBounds tm8 _ _) _ _) _ _ = tm7
       replace o4 : tm7[4]?.getD undef = Value.pointer (some ⟨w.heap.size + 2, 0, none⟩) := by rw [← hT]; simp [o4]
       replace o17 : tm7[17]?.getD undef = Value.pointer (some ⟨C, 0, none⟩) := by rw [← hT]; simp [o17]
       replace o18 : tm7[18]?.getD undef = Value.pointer (some ⟨D, 0, none⟩) := by rw [← hT]; simp [o18]
       have o154 : tm7[154]?.getD undef = Value.int .i64 r3 := by rw [← hT]; simp [h154]
       have hsz : tm7.size = 166 := by rw [← hT]; simp [HSZ.out]
       clear hT HSZ h152 h153 h154 o16
       have h155 : 155 < tm7.size := by omega
       have h156 : 156 < tm7.size := by omega
       have h157 : 157 < tm7.size := by omega
       have h158 : 158 < tm7.size := by omega
       have h159 : 159 < tm7.size := by omega
       have h160 : 160 < tm7.size := by omega
       have h161 : 161 < tm7.size := by omega
       have h162 : 162 < tm7.size := by omega
       have h163 : 163 < tm7.size := by omega
       have h164 : 164 < tm7.size := by omega
       have h165 : 165 < tm7.size := by omega
       clear hsz
       have p0 := hr.c 0 rfl
       have v0 := hr2.c 0 rfl
       have p1 := hr.c 1 rfl
       have v1 := hr2.c 1 rfl
       have p2 := hr.c 2 rfl
       have v2 := hr2.c 2 rfl
       have p3 := hr.c 3 rfl
       have v3 := hr2.c 3 rfl
       have p4 := hr.c 4 rfl
       have v4 := hr2.c 4 rfl
       have p5 := hr.c 5 rfl
       have v5 := hr2.c 5 rfl
       have p6 := hr.c 6 rfl
       have v6 := hr2.c 6 rfl
       have p7 := hr.c 7 rfl
       have v7 := hr2.c 7 rfl
       have zi := rZ.c 0 rfl
       have zb := rZ.c 1 rfl
       cases c3
       ·go_upto_region 22 with fail
        refine wp_cond_false (by rw [act_tmp]; simp [h155]) ?_
        cases c4
        ·go_upto_region 24 with fail
         refine wp_cond_false (by rw [act_tmp]; simp [h160]) ?_
         go_wp2_with (refine wpList_store_R rfl _ _ _ rfl _ #[.int .i64 0, .bool false, .slice none 0 0, .bool false, .slice none 0 0, .bool false, .slice none 0 0, .bool false, .slice none 0 0, .bool false, .slice none 0 0, .bool false, .slice none 0 0, .bool false, .slice none 0 0, .bool false, .slice none 0 0] (by rw [act_tmp]; simp [o4]) (by rw [act_tmp]; simp [h165]) _ rZ (by rfl) agg_rmeet (by simp [OneC, Value.oneCell']) ?_; intro w7 r7 o7)
         exact bodyPost_ret (results_R1 (cs := #[.int .i64 0, .bool false, .slice none 0 0, .bool false, .slice none 0 0, .bool false, .slice none 0 0, .bool false, .slice none 0 0, .bool false, .slice none 0 0, .bool false, .slice none 0 0, .bool false, .slice none 0 0, .bool false, .slice none 0 0]) rfl (by simp [o4]) r7 agg_rmeet) rfl ⟨A1, a1, B1, b1, E1, f1, G1, g1, A4, a4, B4, b4, E4, f4, G4, g4, rfl, ⟨u1.onM o7 zi zb, u2.onM o7 zi zb, u3.onM o7 zi zb, u4.onM o7 zi zb⟩, ⟨u5.onM o7 zi zb, u6.onM o7 zi zb, u7.onM o7 zi zb, u8.onM o7 zi zb⟩, below_on hB o7 (by omega)⟩
        ·go_upto_region 24 with fail
         refine wp_cond_true (by rw [act_tmp]; simp [h160]) ?_
         go_wp2_with (refine wpList_store_R rfl _ _ _ rfl _ #[.int .i64 1, .bool s1, .slice A1 k1 a1, .bool false, .slice B1 l b1, .bool t1, .slice E1 i1 f1, .bool false, .slice G1 l g1, .bool s1, .slice A1 k1 a1, .bool false, .slice B1 l b1, .bool t1, .slice E1 i1 f1, .bool false, .slice G1 l g1] (by rw [act_tmp]; simp [o4]) (by rw [act_tmp]; simp [h164]) _ rZ (by rfl) agg_rmeet (by simp [OneC, Value.oneCell']) ?_; intro w7 r7 o7)
         exact bodyPost_ret (results_R1 (cs := #[.int .i64 1, .bool s1, .slice A1 k1 a1, .bool false, .slice B1 l b1, .bool t1, .slice E1 i1 f1, .bool false, .slice G1 l g1, .bool s1, .slice A1 k1 a1, .bool false, .slice B1 l b1, .bool t1, .slice E1 i1 f1, .bool false, .slice G1 l g1]) rfl (by simp [o4]) r7 agg_rmeet) rfl ⟨A1, a1, B1, b1, E1, f1, G1, g1, A4, a4, B4, b4, E4, f4, G4, g4, rfl, ⟨u1.onM o7 zi zb, u2.onM o7 zi zb, u3.onM o7 zi zb, u4.onM o7 zi zb⟩, ⟨u5.onM o7 zi zb, u6.onM o7 zi zb, u7.onM o7 zi zb, u8.onM o7 zi zb⟩, below_on hB o7 (by omega)⟩
       ·go_upto_region 22 with fail
        refine wp_cond_true (by rw [act_tmp]; simp [h155]) ?_
        go_wp2_with (refine wpList_store_R rfl _ _ _ rfl _ #[.int .i64 2, .bool s1, .slice A1 k1 a1, .bool false, .slice B1 l b1, .bool t1, .slice E1 i1 f1, .bool false, .slice G1 l g1, .bool s4, .slice A4 k4 a4, .bool false, .slice B4 l b4, .bool t4, .slice E4 i4 f4, .bool false, .slice G4 l g4] (by rw [act_tmp]; simp [o4]) (by rw [act_tmp]; simp [h159]) _ rZ (by rfl) agg_rmeet (by simp [OneC, Value.oneCell']) ?_; intro w7 r7 o7)
        exact bodyPost_ret (results_R1 (cs := #[.int .i64 2, .bool s1, .slice A1 k1 a1, .bool false, .slice B1 l b1, .bool t1, .slice E1 i1 f1, .bool false, .slice G1 l g1, .bool s4, .slice A4 k4 a4, .bool false, .slice B4 l b4, .bool t4, .slice E4 i4 f4, .bool false, .slice G4 l g4]) rfl (by simp [o4]) r7 agg_rmeet) rfl ⟨A1, a1, B1, b1, E1, f1, G1, g1, A4, a4, B4, b4, E4, f4, G4, g4, rfl, ⟨u1.onM o7 zi zb, u2.onM o7 zi zb, u3.onM o7 zi zb, u4.onM o7 zi zb⟩, ⟨u5.onM o7 zi zb, u6.onM o7 zi zb, u7.onM o7 zi zb, u8.onM o7 zi zb⟩, below_on hB o7 (by omega)⟩

    ·go_upto_region 18 with fail
     refine wp_cond_true (by rw [act_tmp]; exact y139) ?_
     have h140 : 140 < tm9.size := by omega
     have h141 : 141 < tm9.size := by omega
     have h142 : 142 < tm9.size := by omega
     have HSZ := Lib.hid hsz
     clear hsz
     have x0 := rQ.c 0 rfl
     have x1 := rQ.c 1 rfl
     go_wp2_with fail
     clear x0 x1
     refine (H23.out _).mono ?_
     rintro e W17 ⟨A3, a3, B3, b3, E3, f3, G3, g3, rfl, ⟨y1, y2, y3, y4⟩, hb⟩
     replace hr := hr.after hb
     replace hr2 := hr2.after hb
     replace rZ := rZ.after hb
     replace rQ := rQ.after hb
     replace u1 := u1.below hb
     replace u2 := u2.below hb
     replace u3 := u3.below hb
     replace u4 := u4.below hb
     replace u5 := u5.below hb
     replace u6 := u6.below hb
     replace u7 := u7.below hb
     replace u8 := u8.below hb
     replace hB := hB.trans (hb.mono hB.size)
     clear hb
     have z0 := hr.c 0 rfl
     go_upto_region 18 with (refine wpList_store_R rfl _ _ _ rfl _ #[.bool s3, .slice A3 k3 a3, .bool false, .slice B3 l b3, .bool t3, .slice E3 i3 f3, .bool false, .slice G3 l g3] (by rw [act_tmp]; simp [o17]) (by rw [act_tmp]; simp [h142]) _ hr (by rfl) agg_rpoint (by simp [OneC, Value.oneCell']) ?_; intro w7 r7 o7)
     replace hr2 := o7.row hCD.symm hr2
     replace rZ := o7.row (Nat.ne_of_lt hZC) rZ
     replace rQ := o7.row (Nat.ne_of_lt hQC) rQ
     replace u1 := u1.on o7 z0
     replace u2 := u2.on o7 z0
     replace u3 := u3.on o7 z0
     replace u4 := u4.on o7 z0
     replace u5 := u5.on o7 z0
     replace u6 := u6.on o7 z0
     replace u7 := u7.on o7 z0
     replace u8 := u8.on o7 z0
     clear u1 u2 u3 u4
     have u1 := y1.on o7 z0
     have u2 := y2.on o7 z0
     have u3 := y3.on o7 z0
     have u4 := y4.on o7 z0
     replace hB := below_on hB o7 hwC
     clear y1 y2 y3 y4 z0 hr
     have hr := r7
     clear r7 o7
     generalize hT : Array.setIfInBounds (Array.setIfInBounds (Array.setIfInBounds tm9 _ _) _ _) _ _ = tm8
     change Code.wp _ _ _ { tmps := tm8, defers := [] } _
     replace o4 : tm8[4]?.getD undef = Value.pointer (some ⟨w.heap.size + 2, 0, none⟩) := by rw [← hT]; simp [o4]
     replace o16 : tm8[16]?.getD undef = Value.pointer (some ⟨D0, 0, none⟩) := by rw [← hT]; simp [o16]
     replace o17 : tm8[17]?.getD undef = Value.pointer (some ⟨C, 0, none⟩) := by rw [← hT]; simp [o17]
     replace o18 : tm8[18]?.getD undef = Value.pointer (some ⟨D, 0, none⟩) := by rw [← hT]; simp [o18]
     have hsz : tm8.size = 166 := by rw [← hT]; simp [HSZ.out]
     clear hT HSZ
     have HR := Lib.hid hr2
     have HQ := Lib.hid rQ
     have hb0 := hB
     clear hB
     refine wp_region_fct (by kernel_rfl) [] (fun ix => match ix with
      | 0 => some (Value.pointer (some ⟨D0, 2, none⟩))
      | 1 => some (Value.agg #[.int .i64 qc, .int .i64 qd])
      | 3 => some (Value.agg #[.bool s2, .slice A2 k2 a2, .bool false, .slice B2 l b2, .bool t2, .slice E2 i2 f2, .bool false, .slice G2 l g2])
      | 4 => some (Value.int .i64 r2)
      | 5 => some (Value.bool c2)
      | _ => none) (by intro j hj; cases hj) 6 [ptFct 2 145 s4 t4 m4 1 n4 1 k4 l i4 l] (fun _ _ => False) (by show midOkG _ _ _ = true; rw [hsz]; kernel_rfl) (by kernel_rfl) (by rfl) ?_ ?_
     ·intro listed a W ix o hI ho hdep hB hF K hK hKf
      have hi : ix < 6 := (Array.getElem?_eq_some_iff.1 ho).1
      have hcase : ix = 0 ∨ ix = 1 ∨ ix = 2 ∨ ix = 3 ∨ ix = 4 ∨ ix = 5 := by omega
      clear hi
      rcases hcase with rfl | rfl | rfl | rfl | rfl | rfl
      ·obtain rfl := oI ho
       have q16 : a.tmps[16]?.getD undef = Value.pointer (some ⟨D0, 0, none⟩) := (hI.old 16 (noDst_spec (by kernel_rfl))).trans o16
       clear hdep hI ho hF
       go_simp
       exact hK (by decide) (Value.pointer (some ⟨D0, 2, none⟩)) _ (fun u hu => oV hu) (Below.refl _ _) (fct_none rfl)
      ·obtain rfl := oI ho
       have d0 : listed.getD 0 false = true := hdep ⟨0, .data⟩ (by simp) rfl
       have q143 : a.tmps[143]?.getD undef = Value.pointer (some ⟨D0, 2, none⟩) := hI.val 0 _ 143 _ rfl rfl rfl d0
       have x2 := (HQ.out.after hB).c 2 rfl
       have x3 := (HQ.out.after hB).c 3 rfl
       clear hdep hI ho hF
       go_simp
       exact hK (by decide) (Value.agg #[.int .i64 qc, .int .i64 qd]) _ (fun u hu => oV hu) (Below.refl _ _) (fct_none rfl)
      ·obtain rfl := oI ho
       have d1 : listed.getD 1 false = true := hdep ⟨1, .data⟩ (by simp) rfl
       have q144 : a.tmps[144]?.getD undef = Value.agg #[.int .i64 qc, .int .i64 qd] := hI.val 1 _ 144 _ rfl rfl rfl d1
       clear hdep hI ho hF
       go_simp
       refine (H24.out _).mono ?_
       rintro e W2 ⟨A, c, B, bb, E, f, G, g, rfl, ⟨hA, hB', hE, hG⟩, hb⟩
       exact hK (by decide) (.agg #[.bool s4, .slice A k4 c, .bool false, .slice B l bb, .bool t4, .slice E i4 f, .bool false, .slice G l g]) _ (fun u hu => nV hu) hb (fun p hp e => by
        simp only [List.mem_cons, List.not_mem_nil, or_false] at hp
        rcases hp with rfl
        ·exact ⟨A, c, B, bb, E, f, G, g, rfl, hA, hB', hE, hG⟩)
      ·obtain rfl := oI ho
       have q18 : a.tmps[18]?.getD undef = Value.pointer (some ⟨D, 0, none⟩) := (hI.old 18 (noDst_spec (by kernel_rfl))).trans o18
       have x0 := (HR.out.after hB).c 0 rfl
       have x1 := (HR.out.after hB).c 1 rfl
       have x2 := (HR.out.after hB).c 2 rfl
       have x3 := (HR.out.after hB).c 3 rfl
       have x4 := (HR.out.after hB).c 4 rfl
       have x5 := (HR.out.after hB).c 5 rfl
       have x6 := (HR.out.after hB).c 6 rfl
       have x7 := (HR.out.after hB).c 7 rfl
       clear hdep hI ho hF
       go_simp
       exact hK (by decide) (Value.agg #[.bool s2, .slice A2 k2 a2, .bool false, .slice B2 l b2, .bool t2, .slice E2 i2 f2, .bool false, .slice G2 l g2]) _ (fun u hu => oV hu) (Below.refl _ _) (fct_none rfl)
      ·obtain rfl := oI ho
       have d2 : listed.getD 2 false = true := hdep ⟨2, .data⟩ (by simp) rfl
       have d3 : listed.getD 3 false = true := hdep ⟨3, .data⟩ (by simp) rfl
       have q146 : a.tmps[146]?.getD undef = Value.agg #[.bool s2, .slice A2 k2 a2, .bool false, .slice B2 l b2, .bool t2, .slice E2 i2 f2, .bool false, .slice G2 l g2] := hI.val 3 _ 146 _ rfl rfl rfl d3
       obtain ⟨A, c, B, bb, E, f, G, g, hq, hA, hB', hE, hG⟩ := hF (ptFct 2 145 s4 t4 m4 1 n4 1 k4 l i4 l) (by simp) d2
       have q145 : a.tmps[145]?.getD undef = .agg #[.bool s4, .slice A k4 c, .bool false, .slice B l bb, .bool t4, .slice E i4 f, .bool false, .slice G l g] := hq
       have HC := Lib.hid (H26.out A c B bb E f G g A2 a2 B2 b2 E2 f2 G2 g2 W (hb0.trans (hB.mono hb0.size)) ⟨hA, hB', hE, hG⟩ ⟨u5.below hB, u6.below hB, u7.below hB, u8.below hB⟩)
       clear hdep hI ho hF
       go_simp
       refine HC.out.mono ?_
       rintro e W2 ⟨rfl, hb⟩
       exact hK (by decide) (Value.int .i64 r2) _ (fun u hu => oV hu) hb (fct_none rfl)
      ·obtain rfl := oI ho
       have d4 : listed.getD 4 false = true := hdep ⟨4, .data⟩ (by simp) rfl
       have q147 : a.tmps[147]?.getD undef = Value.int .i64 r2 := hI.val 4 _ 147 _ rfl rfl rfl d4
       clear hdep hI ho hF
       go_simp
       exact hK (by decide) (Value.bool c2) _ (fun u hu => oV hu) (Below.refl _ _) (fct_none rfl)
     ·intro listed a W hI hall hfin hend
      obtain ⟨hBW, _⟩ := hend rfl
      have y148 : a.tmps[148]?.getD undef = Value.bool c2 := hI.val 5 _ 148 _ rfl rfl rfl (hall 5 (by decide))
      have p4 : a.tmps[4]?.getD undef = Value.pointer (some ⟨w.heap.size + 2, 0, none⟩) := (hI.old 4 (noDst_spec (by kernel_rfl))).trans o4
      have p16 : a.tmps[16]?.getD undef = Value.pointer (some ⟨D0, 0, none⟩) := (hI.old 16 (noDst_spec (by kernel_rfl))).trans o16
      have p17 : a.tmps[17]?.getD undef = Value.pointer (some ⟨C, 0, none⟩) := (hI.old 17 (noDst_spec (by kernel_rfl))).trans o17
      have p18 : a.tmps[18]?.getD undef = Value.pointer (some ⟨D, 0, none⟩) := (hI.old 18 (noDst_spec (by kernel_rfl))).trans o18
      have hdf : a.defers = [] := hI.defers
      have hsz2 : a.tmps.size = 166 := hI.size.trans hsz
      replace hr := hr.after hBW
      replace hr2 := hr2.after hBW
      replace rZ := rZ.after hBW
      replace rQ := rQ.after hBW
      replace u1 := u1.below hBW
      replace u2 := u2.below hBW
      replace u3 := u3.below hBW
      replace u4 := u4.below hBW
      replace u5 := u5.below hBW
      replace u6 := u6.below hBW
      replace u7 := u7.below hBW
      replace u8 := u8.below hBW
      have hB := hb0.trans (hBW.mono hb0.size)
      clear hI hall hfin hend hb0 hBW HR HQ o4 o16 o17 o18 hsz
      obtain ⟨tm9, df⟩ := a
      simp only at hdf y148 p4 p16 p17 p18 hsz2
      subst hdf
      have o4 := p4
      have o16 := p16
      have o17 := p17
      have o18 := p18
      have hsz := hsz2
      clear p4 p16 p17 p18 hsz2
      cases c2
      ·go_upto_region 20 with fail
       refine wp_cond_false (by rw [act_tmp]; exact y148) ?_
       go_upto_region 20 with fail
       have h152 : 152 < tm9.size := by omega
       have h153 : 153 < tm9.size := by omega
       have h154 : 154 < tm9.size := by omega
       have HSZ := Lib.hid hsz
       clear hsz
       have p0 := hr.c 0 rfl
       have v0 := hr2.c 0 rfl
       have p1 := hr.c 1 rfl
       have v1 := hr2.c 1 rfl
       have p2 := hr.c 2 rfl
       have v2 := hr2.c 2 rfl
       have p3 := hr.c 3 rfl
       have v3 := hr2.c 3 rfl
       have p4 := hr.c 4 rfl
       have v4 := hr2.c 4 rfl
       have p5 := hr.c 5 rfl
       have v5 := hr2.c 5 rfl
       have p6 := hr.c 6 rfl
       have v6 := hr2.c 6 rfl
       have p7 := hr.c 7 rfl
       have v7 := hr2.c 7 rfl
       go_wp2_with fail
       clear p0 v0 p1 v1 p2 v2 p3 v3 p4 v4 p5 v5 p6 v6 p7 v7
       refine (H28.out (by first | rfl | trivial) (by first | rfl | trivial) A3 a3 B3 b3 E3 f3 G3 g3 A2 a2 B2 b2 E2 f2 G2 g2 _ hB ⟨u1, u2, u3, u4⟩ ⟨u5, u6, u7, u8⟩).mono ?_
       rintro e W20 ⟨rfl, hb⟩
       replace hr := hr.after hb
       replace hr2 := hr2.after hb
       replace rZ := rZ.after hb
       replace u1 := u1.below hb
       replace u2 := u2.below hb
       replace u3 := u3.below hb
       replace u4 := u4.below hb
       replace u5 := u5.below hb
       replace u6 := u6.below hb
       replace u7 := u7.below hb
       replace u8 := u8.below hb
       replace hB := hB.trans (hb.mono hB.size)
       clear hb rQ
       dsimp only
       generalize hT : Array.setIfInBounds (Array.setIfInBounds (Array.setIfInBounds tm9 _ _) _ _) _ _ = tm7
       replace o4 : tm7[4]?.getD undef = Value.pointer (some ⟨w.heap.size + 2, 0, none⟩) := by rw [← hT]; simp [o4]
       replace o17 : tm7[17]?.getD undef = Value.pointer (some ⟨C, 0, none⟩) := by rw [← hT]; simp [o17]
       replace o18 : tm7[18]?.getD undef = Value.pointer (some ⟨D, 0, none⟩) := by rw [← hT]; simp [o18]
       have o154 : tm7[154]?.getD undef = Value.int .i64 r3 := by rw [← hT]; simp [h154]
       have hsz : tm7.size = 166 := by rw [← hT]; simp [HSZ.out]
       clear hT HSZ h152 h153 h154 o16
       have h155 : 155 < tm7.size := by omega
       have h156 : 156 < tm7.size := by omega
       have h157 : 157 < tm7.size := by omega
       have h158 : 158 < tm7.size := by omega
       have h159 : 159 < tm7.size := by omega
       have h160 : 160 < tm7.size := by omega
       have h161 : 161 < tm7.size := by omega
       have h162 : 162 < tm7.size := by omega
       have h163 : 163 < tm7.size := by omega
       have h164 : 164 < tm7.size := by omega
       have h165 : 165 < tm7.size := by omega
       clear hsz
       have p0 := hr.c 0 rfl
       have v0 := hr2.c 0 rfl
       have p1 := hr.c 1 rfl
       have v1 := hr2.c 1 rfl
       have p2 := hr.c 2 rfl
       have v2 := hr2.c 2 rfl
       have p3 := hr.c 3 rfl
       have v3 := hr2.c 3 rfl
       have p4 := hr.c 4 rfl
       have v4 := hr2.c 4 rfl
       have p5 := hr.c 5 rfl
       have v5 := hr2.c 5 rfl
       have p6 := hr.c 6 rfl
       have v6 := hr2.c 6 rfl
       have p7 := hr.c 7 rfl
       have v7 := hr2.c 7 rfl
       have zi := rZ.c 0 rfl
       have zb := rZ.c 1 rfl
       cases c3
       ·go_upto_region 22 with fail
        refine wp_cond_false (by rw [act_tmp]; simp [h155]) ?_
        cases c4
        ·go_upto_region 24 with fail
         refine wp_cond_false (by rw [act_tmp]; simp [h160]) ?_
         go_wp2_with (refine wpList_store_R rfl _ _ _ rfl _ #[.int .i64 0, .bool false, .slice none 0 0, .bool false, .slice none 0 0, .bool false, .slice none 0 0, .bool false, .slice none 0 0, .bool false, .slice none 0 0, .bool false, .slice none 0 0, .bool false, .slice none 0 0, .bool false, .slice none 0 0] (by rw [act_tmp]; simp [o4]) (by rw [act_tmp]; simp [h165]) _ rZ (by rfl) agg_rmeet (by simp [OneC, Value.oneCell']) ?_; intro w7 r7 o7)
         exact bodyPost_ret (results_R1 (cs := #[.int .i64 0, .bool false, .slice none 0 0, .bool false, .slice none 0 0, .bool false, .slice none 0 0, .bool false, .slice none 0 0, .bool false, .slice none 0 0, .bool false, .slice none 0 0, .bool false, .slice none 0 0, .bool false, .slice none 0 0]) rfl (by simp [o4]) r7 agg_rmeet) rfl ⟨A3, a3, B3, b3, E3, f3, G3, g3, A2, a2, B2, b2, E2, f2, G2, g2, rfl, ⟨u1.onM o7 zi zb, u2.onM o7 zi zb, u3.onM o7 zi zb, u4.onM o7 zi zb⟩, ⟨u5.onM o7 zi zb, u6.onM o7 zi zb, u7.onM o7 zi zb, u8.onM o7 zi zb⟩, below_on hB o7 (by omega)⟩
        ·go_upto_region 24 with fail
         refine wp_cond_true (by rw [act_tmp]; simp [h160]) ?_
         go_wp2_with (refine wpList_store_R rfl _ _ _ rfl _ #[.int .i64 1, .bool s3, .slice A3 k3 a3, .bool false, .slice B3 l b3, .bool t3, .slice E3 i3 f3, .bool false, .slice G3 l g3, .bool s3, .slice A3 k3 a3, .bool false, .slice B3 l b3, .bool t3, .slice E3 i3 f3, .bool false, .slice G3 l g3] (by rw [act_tmp]; simp [o4]) (by rw [act_tmp]; simp [h164]) _ rZ (by rfl) agg_rmeet (by simp [OneC, Value.oneCell']) ?_; intro w7 r7 o7)
         exact bodyPost_ret (results_R1 (cs := #[.int .i64 1, .bool s3, .slice A3 k3 a3, .bool false, .slice B3 l b3, .bool t3, .slice E3 i3 f3, .bool false, .slice G3 l g3, .bool s3, .slice A3 k3 a3, .bool false, .slice B3 l b3, .bool t3, .slice E3 i3 f3, .bool false, .slice G3 l g3]) rfl (by simp [o4]) r7 agg_rmeet) rfl ⟨A3, a3, B3, b3, E3, f3, G3, g3, A2, a2, B2, b2, E2, f2, G2, g2, rfl, ⟨u1.onM o7 zi zb, u2.onM o7 zi zb, u3.onM o7 zi zb, u4.onM o7 zi zb⟩, ⟨u5.onM o7 zi zb, u6.onM o7 zi zb, u7.onM o7 zi zb, u8.onM o7 zi zb⟩, below_on hB o7 (by omega)⟩
       ·go_upto_region 22 with fail
        refine wp_cond_true (by rw [act_tmp]; simp [h155]) ?_
        go_wp2_with (refine wpList_store_R rfl _ _ _ rfl _ #[.int .i64 2, .bool s3, .slice A3 k3 a3, .bool false, .slice B3 l b3, .bool t3, .slice E3 i3 f3, .bool false, .slice G3 l g3, .bool s2, .slice A2 k2 a2, .bool false, .slice B2 l b2, .bool t2, .slice E2 i2 f2, .bool false, .slice G2 l g2] (by rw [act_tmp]; simp [o4]) (by rw [act_tmp]; simp [h159]) _ rZ (by rfl) agg_rmeet (by simp [OneC, Value.oneCell']) ?_; intro w7 r7 o7)
        exact bodyPost_ret (results_R1 (cs := #[.int .i64 2, .bool s3, .slice A3 k3 a3, .bool false, .slice B3 l b3, .bool t3, .slice E3 i3 f3, .bool false, .slice G3 l g3, .bool s2, .slice A2 k2 a2, .bool false, .slice B2 l b2, .bool t2, .slice E2 i2 f2, .bool false, .slice G2 l g2]) rfl (by simp [o4]) r7 agg_rmeet) rfl ⟨A3, a3, B3, b3, E3, f3, G3, g3, A2, a2, B2, b2, E2, f2, G2, g2, rfl, ⟨u1.onM o7 zi zb, u2.onM o7 zi zb, u3.onM o7 zi zb, u4.onM o7 zi zb⟩, ⟨u5.onM o7 zi zb, u6.onM o7 zi zb, u7.onM o7 zi zb, u8.onM o7 zi zb⟩, below_on hB o7 (by omega)⟩
      ·go_upto_region 20 with fail
       refine wp_cond_true (by rw [act_tmp]; exact y148) ?_
       have h149 : 149 < tm9.size := by omega
       have h150 : 150 < tm9.size := by omega
       have h151 : 151 < tm9.size := by omega
       have HSZ := Lib.hid hsz
       clear hsz
       have x2 := rQ.c 2 rfl
       have x3 := rQ.c 3 rfl
       go_wp2_with fail
       clear x2 x3
       refine (H24.out _).mono ?_
       rintro e W18 ⟨A4, a4, B4, b4, E4, f4, G4, g4, rfl, ⟨y1, y2, y3, y4⟩, hb⟩
       replace hr := hr.after hb
       replace hr2 := hr2.after hb
       replace rZ := rZ.after hb
       replace rQ := rQ.after hb
       replace u1 := u1.below hb
       replace u2 := u2.below hb
       replace u3 := u3.below hb
       replace u4 := u4.below hb
       replace u5 := u5.below hb
       replace u6 := u6.below hb
       replace u7 := u7.below hb
       replace u8 := u8.below hb
       replace hB := hB.trans (hb.mono hB.size)
       clear hb
       have z0 := hr2.c 0 rfl
       go_upto_region 20 with (refine wpList_store_R rfl _ _ _ rfl _ #[.bool s4, .slice A4 k4 a4, .bool false, .slice B4 l b4, .bool t4, .slice E4 i4 f4, .bool false, .slice G4 l g4] (by rw [act_tmp]; simp [o18]) (by rw [act_tmp]; simp [h151]) _ hr2 (by rfl) agg_rpoint (by simp [OneC, Value.oneCell']) ?_; intro w7 r7 o7)
       replace hr := o7.row hCD hr
       replace rZ := o7.row (Nat.ne_of_lt hZD) rZ
       replace rQ := o7.row (Nat.ne_of_lt hQD) rQ
       replace u1 := u1.on o7 z0
       replace u2 := u2.on o7 z0
       replace u3 := u3.on o7 z0
       replace u4 := u4.on o7 z0
       replace u5 := u5.on o7 z0
       replace u6 := u6.on o7 z0
       replace u7 := u7.on o7 z0
       replace u8 := u8.on o7 z0
       clear u5 u6 u7 u8
       have u5 := y1.on o7 z0
       have u6 := y2.on o7 z0
       have u7 := y3.on o7 z0
       have u8 := y4.on o7 z0
       replace hB := below_on hB o7 hwD
       clear y1 y2 y3 y4 z0 hr2
       have hr2 := r7
       clear r7 o7
       generalize hT : Array.setIfInBounds (Array.setIfInBounds (Array.setIfInBounds tm9 _ _) _ _) _ _ = tm8
       change Code.wp _ _ _ { tmps := tm8, defers := [] } _
       replace o4 : tm8[4]?.getD undef = Value.pointer (some ⟨w.heap.size + 2, 0, none⟩) := by rw [← hT]; simp [o4]
       replace o16 : tm8[16]?.getD undef = Value.pointer (some ⟨D0, 0, none⟩) := by rw [← hT]; simp [o16]
       replace o17 : tm8[17]?.getD undef = Value.pointer (some ⟨C, 0, none⟩) := by rw [← hT]; simp [o17]
       replace o18 : tm8[18]?.getD undef = Value.pointer (some ⟨D, 0, none⟩) := by rw [← hT]; simp [o18]
       have hsz : tm8.size = 166 := by rw [← hT]; simp [HSZ.out]
       clear hT HSZ
       have h152 : 152 < tm8.size := by omega
       have h153 : 153 < tm8.size := by omega
       have h154 : 154 < tm8.size := by omega
       have HSZ := Lib.hid hsz
       clear hsz
       have p0 := hr.c 0 rfl
       have v0 := hr2.c 0 rfl
       have p1 := hr.c 1 rfl
       have v1 := hr2.c 1 rfl
       have p2 := hr.c 2 rfl
       have v2 := hr2.c 2 rfl
       have p3 := hr.c 3 rfl
       have v3 := hr2.c 3 rfl
       have p4 := hr.c 4 rfl
       have v4 := hr2.c 4 rfl
       have p5 := hr.c 5 rfl
       have v5 := hr2.c 5 rfl
       have p6 := hr.c 6 rfl
       have v6 := hr2.c 6 rfl
       have p7 := hr.c 7 rfl
       have v7 := hr2.c 7 rfl
       go_wp2_with fail
       clear p0 v0 p1 v1 p2 v2 p3 v3 p4 v4 p5 v5 p6 v6 p7 v7
       refine (H30.out (by first | rfl | trivial) (by first | rfl | trivial) A3 a3 B3 b3 E3 f3 G3 g3 A4 a4 B4 b4 E4 f4 G4 g4 _ hB ⟨u1, u2, u3, u4⟩ ⟨u5, u6, u7, u8⟩).mono ?_
       rintro e W20 ⟨rfl, hb⟩
       replace hr := hr.after hb
       replace hr2 := hr2.after hb
       replace rZ := rZ.after hb
       replace u1 := u1.below hb
       replace u2 := u2.below hb
       replace u3 := u3.below hb
       replace u4 := u4.below hb
       replace u5 := u5.below hb
       replace u6 := u6.below hb
       replace u7 := u7.below hb
       replace u8 := u8.below hb
       replace hB := hB.trans (hb.mono hB.size)
       clear hb rQ
       dsimp only
       generalize hT : Array.setIfInBounds (Array.setIfInBounds (Array.setIfInBounds tm8 _ _) _ _) _ _ = tm7
       replace o4 : tm7[4]?.getD undef = Value.pointer (some ⟨w.heap.size + 2, 0, none⟩) := by rw [← hT]; simp [o4]
       replace o17 : tm7[17]?.getD undef = Value.pointer (some ⟨C, 0, none⟩) := by rw [← hT]; simp [o17]
       replace o18 : tm7[18]?.getD undef = Value.pointer (some ⟨D, 0, none⟩) := by rw [← hT]; simp [o18]
       have o154 : tm7[154]?.getD undef = Value.int .i64 r3 := by rw [← hT]; simp [h154]
       have hsz : tm7.size = 166 := by rw [← hT]; simp [HSZ.out]
       clear hT HSZ h152 h153 h154 o16
       have h155 : 155 < tm7.size := by omega
       have h156 : 156 < tm7.size := by omega
       have h157 : 157 < tm7.size := by omega
       have h158 : 158 < tm7.size := by omega
       have h159 : 159 < tm7.size := by omega
       have h160 : 160 < tm7.size := by omega
       have h161 : 161 < tm7.size := by omega
       have h162 : 162 < tm7.size := by omega
       have h163 : 163 < tm7.size := by omega
       have h164 : 164 < tm7.size := by omega
       have h165 : 165 < tm7.size := by omega
       clear hsz
       have p0 := hr.c 0 rfl
       have v0 := hr2.c 0 rfl
       have p1 := hr.c 1 rfl
       have v1 := hr2.c 1 rfl
       have p2 := hr.c 2 rfl
       have v2 := hr2.c 2 rfl
       have p3 := hr.c 3 rfl
       have v3 := hr2.c 3 rfl
       have p4 := hr.c 4 rfl
       have v4 := hr2.c 4 rfl
       have p5 := hr.c 5 rfl
       have v5 := hr2.c 5 rfl
       have p6 := hr.c 6 rfl
       have v6 := hr2.c 6 rfl
       have p7 := hr.c 7 rfl
       have v7 := hr2.c 7 rfl
       have zi := rZ.c 0 rfl
       have zb := rZ.c 1 rfl
       cases c3
       ·go_upto_region 22 with fail
        refine wp_cond_false (by rw [act_tmp]; simp [h155]) ?_
        cases c4
        ·go_upto_region 24 with fail
         refine wp_cond_false (by rw [act_tmp]; simp [h160]) ?_
         go_wp2_with (refine wpList_store_R rfl _ _ _ rfl _ #[.int .i64 0, .bool false, .slice none 0 0, .bool false, .slice none 0 0, .bool false, .slice none 0 0, .bool false, .slice none 0 0, .bool false, .slice none 0 0, .bool false, .slice none 0 0, .bool false, .slice none 0 0, .bool false, .slice none 0 0] (by rw [act_tmp]; simp [o4]) (by rw [act_tmp]; simp [h165]) _ rZ (by rfl) agg_rmeet (by simp [OneC, Value.oneCell']) ?_; intro w7 r7 o7)
         exact bodyPost_ret (results_R1 (cs := #[.int .i64 0, .bool false, .slice none 0 0, .bool false, .slice none 0 0, .bool false, .slice none 0 0, .bool false, .slice none 0 0, .bool false, .slice none 0 0, .bool false, .slice none 0 0, .bool false, .slice none 0 0, .bool false, .slice none 0 0]) rfl (by simp [o4]) r7 agg_rmeet) rfl ⟨A3, a3, B3, b3, E3, f3, G3, g3, A4, a4, B4, b4, E4, f4, G4, g4, rfl, ⟨u1.onM o7 zi zb, u2.onM o7 zi zb, u3.onM o7 zi zb, u4.onM o7 zi zb⟩, ⟨u5.onM o7 zi zb, u6.onM o7 zi zb, u7.onM o7 zi zb, u8.onM o7 zi zb⟩, below_on hB o7 (by omega)⟩
        ·go_upto_region 24 with fail
         refine wp_cond_true (by rw [act_tmp]; simp [h160]) ?_
         go_wp2_with (refine wpList_store_R rfl _ _ _ rfl _ #[.int .i64 1, .bool s3, .slice A3 k3 a3, .bool false, .slice B3 l b3, .bool t3, .slice E3 i3 f3, .bool false, .slice G3 l g3, .bool s3, .slice A3 k3 a3, .bool false, .slice B3 l b3, .bool t3, .slice E3 i3 f3, .bool false, .slice G3 l g3] (by rw [act_tmp]; simp [o4]) (by rw [act_tmp]; simp [h164]) _ rZ (by rfl) agg_rmeet (by simp [OneC, Value.oneCell']) ?_; intro w7 r7 o7)
         exact bodyPost_ret (results_R1 (cs := #[.int .i64 1, .bool s3, .slice A3 k3 a3, .bool false, .slice B3 l b3, .bool t3, .slice E3 i3 f3, .bool false, .slice G3 l g3, .bool s3, .slice A3 k3 a3, .bool false, .slice B3 l b3, .bool t3, .slice E3 i3 f3, .bool false, .slice G3 l g3]) rfl (by simp [o4]) r7 agg_rmeet) rfl ⟨A3, a3, B3, b3, E3, f3, G3, g3, A4, a4, B4, b4, E4, f4, G4, g4, rfl, ⟨u1.onM o7 zi zb, u2.onM o7 zi zb, u3.onM o7 zi zb, u4.onM o7 zi zb⟩, ⟨u5.onM o7 zi zb, u6.onM o7 zi zb, u7.onM o7 zi zb, u8.onM o7 zi zb⟩, below_on hB o7 (by omega)⟩
       ·go_upto_region 22 with fail
        refine wp_cond_true (by rw [act_tmp]; simp [h155]) ?_
        go_wp2_with (refine wpList_store_R rfl _ _ _ rfl _ #[.int .i64 2, .bool s3, .slice A3 k3 a3, .bool false, .slice B3 l b3, .bool t3, .slice E3 i3 f3, .bool false, .slice G3 l g3, .bool s4, .slice A4 k4 a4, .bool false, .slice B4 l b4, .bool t4, .slice E4 i4 f4, .bool false, .slice G4 l g4] (by rw [act_tmp]; simp [o4]) (by rw [act_tmp]; simp [h159]) _ rZ (by rfl) agg_rmeet (by simp [OneC, Value.oneCell']) ?_; intro w7 r7 o7)
        exact bodyPost_ret (results_R1 (cs := #[.int .i64 2, .bool s3, .slice A3 k3 a3, .bool false, .slice B3 l b3, .bool t3, .slice E3 i3 f3, .bool false, .slice G3 l g3, .bool s4, .slice A4 k4 a4, .bool false, .slice B4 l b4, .bool t4, .slice E4 i4 f4, .bool false, .slice G4 l g4]) rfl (by simp [o4]) r7 agg_rmeet) rfl ⟨A3, a3, B3, b3, E3, f3, G3, g3, A4, a4, B4, b4, E4, f4, G4, g4, rfl, ⟨u1.onM o7 zi zb, u2.onM o7 zi zb, u3.onM o7 zi zb, u4.onM o7 zi zb⟩, ⟨u5.onM o7 zi zb, u6.onM o7 zi zb, u7.onM o7 zi zb, u8.onM o7 zi zb⟩, below_on hB o7 (by omega)⟩




end Go.Proofs.YtcabndpmfkimgaaGreatDoor
