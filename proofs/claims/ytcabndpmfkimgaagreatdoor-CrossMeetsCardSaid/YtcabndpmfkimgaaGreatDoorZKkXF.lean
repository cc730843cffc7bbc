import Derived.Test.YtcabndpmfkimgaaGreatDoorZKkXD
import Derived.Test.YtcabndpmfkimgaaGreatDoorZKkSO
namespace Go.Proofs.YtcabndpmfkimgaaGreatDoor
open Go.RowKit CrossMath

set_option maxRecDepth 100000 in
set_option maxHeartbeats 3200000 in
theorem pcmp_core (p0 p1 p2 p3 p4 p5 p6 p7 q0 q1 q2 q3 q4 q5 q6 q7 : Value) (r1 r2 : Int) (w : World)
 (h1 : ∀ W, Below w.heap.size w W → Calls Tryz.prog 40 #[.agg #[p0, p1, p2, p3], .agg #[q0, q1, q2, q3]] W fun e w' => e = .returned (.int .i64 r1) ∧ Below W.heap.size W w')
 (h2 : ∀ W, Below w.heap.size w W → Calls Tryz.prog 40 #[.agg #[p4, p5, p6, p7], .agg #[q4, q5, q6, q7]] W fun e w' => e = .returned (.int .i64 r2) ∧ Below W.heap.size W w') :
 Calls Tryz.prog 13 #[.agg #[p0, p1, p2, p3, p4, p5, p6, p7], .agg #[q0, q1, q2, q3, q4, q5, q6, q7]] w fun e w' => e = .returned (.int .i64 (if r1 = 0 then r2 else r1)) ∧ Below w.heap.size w w' := by
 have H1 := Lib.hid h1; clear h1
 have H2 := Lib.hid h2; clear h2
 by_cases h0 : r1 = 0
 ·subst h0
  rw [if_pos rfl]
  go_enter Tryz.func13, Tryz.ntmps13
  go_upto_region 1 with fail
  generalize hW : World.alloc _ _ = W0
  have rP : Row W0 w.heap.size [p0, p1, p2, p3, p4, p5, p6, p7] := by rw [← hW]; exact (Row.at rfl [p0, p1, p2, p3, p4, p5, p6, p7] _).alloc _
  have rQ : Row W0 (w.heap.size + 1) [q0, q1, q2, q3, q4, q5, q6, q7] := by rw [← hW]; exact Row.at (by simp) [q0, q1, q2, q3, q4, q5, q6, q7] _
  have hB : Below w.heap.size w W0 := by rw [← hW]; exact ((Below.refl w.heap.size w).alloc (Nat.le_refl _) _).alloc (by simp) _
  clear hW
  have x0 := rP.c 0 rfl
  have y0 := rQ.c 0 rfl
  have x1 := rP.c 1 rfl
  have y1 := rQ.c 1 rfl
  have x2 := rP.c 2 rfl
  have y2 := rQ.c 2 rfl
  have x3 := rP.c 3 rfl
  have y3 := rQ.c 3 rfl
  go_wp2_with fail
  refine (H1.out _ hB).mono ?_
  rintro e w1 ⟨rfl, hb⟩
  replace hB := hB.trans (hb.mono hB.size)
  replace rP := rP.after hb
  replace rQ := rQ.after hb
  clear hb x0 y0 x1 y1 x2 y2 x3 y3
  have x4 := rP.c 4 rfl
  have y4 := rQ.c 4 rfl
  have x5 := rP.c 5 rfl
  have y5 := rQ.c 5 rfl
  have x6 := rP.c 6 rfl
  have y6 := rQ.c 6 rfl
  have x7 := rP.c 7 rfl
  have y7 := rQ.c 7 rfl
  have HB := Lib.hid hB
  have HR := Lib.hid (And.intro rP rQ)
  clear rP rQ hB
  go_wp2_with fail
  refine (H2.out _ HB.out).mono ?_
  rintro e w2 ⟨rfl, hb⟩
  have HZ := Lib.hid (HB.out.trans (hb.mono HB.out.size))
  clear hb
  go_wp2_with fail
  go_ret
  exact ⟨rfl, HZ.out⟩
 ·rw [if_neg h0]
  have h0' : (r1 == 0) = false := by simpa using h0
  clear h0
  go_enter Tryz.func13, Tryz.ntmps13
  go_upto_region 1 with fail
  generalize hW : World.alloc _ _ = W0
  have rP : Row W0 w.heap.size [p0, p1, p2, p3, p4, p5, p6, p7] := by rw [← hW]; exact (Row.at rfl [p0, p1, p2, p3, p4, p5, p6, p7] _).alloc _
  have rQ : Row W0 (w.heap.size + 1) [q0, q1, q2, q3, q4, q5, q6, q7] := by rw [← hW]; exact Row.at (by simp) [q0, q1, q2, q3, q4, q5, q6, q7] _
  have hB : Below w.heap.size w W0 := by rw [← hW]; exact ((Below.refl w.heap.size w).alloc (Nat.le_refl _) _).alloc (by simp) _
  clear hW
  have x0 := rP.c 0 rfl
  have y0 := rQ.c 0 rfl
  have x1 := rP.c 1 rfl
  have y1 := rQ.c 1 rfl
  have x2 := rP.c 2 rfl
  have y2 := rQ.c 2 rfl
  have x3 := rP.c 3 rfl
  have y3 := rQ.c 3 rfl
  go_wp2_with fail
  refine (H1.out _ hB).mono ?_
  rintro e w1 ⟨rfl, hb⟩
  replace hB := hB.trans (hb.mono hB.size)
  replace rP := rP.after hb
  replace rQ := rQ.after hb
  clear hb x0 y0 x1 y1 x2 y2 x3 y3
  have HB := Lib.hid hB
  clear rP rQ hB H1 H2
  go_wp2_with fail
  go_ret
  exact ⟨rfl, HB.out⟩
theorem mout_zero (p0 p1 p2 p3 p4 p5 p6 p7 q0 q1 q2 q3 q4 q5 q6 q7 : Value) (w : World) :
 Calls Tryz.prog 15 #[.agg #[.int .i64 0, p0, p1, p2, p3, p4, p5, p6, p7, q0, q1, q2, q3, q4, q5, q6, q7]] w fun e w' => e = .returned (.agg zero_meet) ∧ Below w.heap.size w w' := by
 go_enter Tryz.func15, Tryz.ntmps15
 go_upto_region 1 with fail
 generalize hW : World.alloc _ _ = W0
 have rX : Row W0 w.heap.size [.int .i64 0, p0, p1, p2, p3, p4, p5, p6, p7, q0, q1, q2, q3, q4, q5, q6, q7] := by rw [← hW]; exact (Row.at rfl [.int .i64 0, p0, p1, p2, p3, p4, p5, p6, p7, q0, q1, q2, q3, q4, q5, q6, q7] _).alloc _
 have rZ : Row W0 (w.heap.size + 1) zero_meet.toList := by rw [← hW]; exact Row.at (by simp) _ _
 have hB : Below w.heap.size w W0 := by rw [← hW]; exact ((Below.refl w.heap.size w).alloc (Nat.le_refl _) _).alloc (by simp) _
 clear hW
 have x0 := rX.c 0 rfl
 have tZ : AggTy Tryz.prog 36 zero_meet.size := by rw [show zero_meet.size = 41 from rfl]; exact agg_meet
 have oZ : OneC zero_meet := by rw [← mtA_zero]; exact mtA_one _
 go_wp2_with (refine wpList_store_R rfl _ _ _ rfl _ zero_meet rfl rfl _ rZ (by rfl) tZ oZ ?_; intro w7 r7 o7)
 exact bodyPost_ret (results_R1 (cs := zero_meet) rfl rfl r7 tZ) rfl ⟨rfl, below_on hB o7 (by omega)⟩
set_option maxRecDepth 100000 in
set_option maxHeartbeats 6400000 in
theorem mout_core (k : Int) (hk : k ≠ 0) (p0 p1 p2 p3 p4 p5 p6 p7 q0 q1 q2 q3 q4 q5 q6 q7 : Value) (R S : Array Value) (hR : R.size = 20) (hS : S.size = 20) (oR : OneC R) (oS : OneC S) (w : World)
 (h1 : ∀ W, Below w.heap.size w W → Calls Tryz.prog 41 #[.agg #[p0, p1, p2, p3, p4, p5, p6, p7]] W fun e w' => e = .returned (.tuple #[.agg R, .int .i64 0]) ∧ Below W.heap.size W w')
 (h2 : ∀ W, Below w.heap.size w W → Calls Tryz.prog 41 #[.agg #[q0, q1, q2, q3, q4, q5, q6, q7]] W fun e w' => e = .returned (.tuple #[.agg S, .int .i64 0]) ∧ Below W.heap.size W w') :
 Calls Tryz.prog 15 #[.agg #[.int .i64 k, p0, p1, p2, p3, p4, p5, p6, p7, q0, q1, q2, q3, q4, q5, q6, q7]] w fun e w' => e = .returned (.agg (meetA k R S)) ∧ Below w.heap.size w w' := by
 have H1 := Lib.hid h1; clear h1
 have H2 := Lib.hid h2; clear h2
 have hk' : (k == 0) = false := by simpa using hk
 clear hk
 have hz1 := meet_size (.int .i64 k) R hR
 have hz2 := meet_made (.int .i64 k) R S hR hS
 have tR : AggTy Tryz.prog 34 R.size := by rw [hR]; exact agg_point
 have tS : AggTy Tryz.prog 34 S.size := by rw [hS]; exact agg_point
 have tP : AggTy Tryz.prog 36 (meetA k R S).size := by rw [meetA_size k R S hR hS]; exact agg_meet
 have oRS := Lib.hid (meetA_one k R S oR oS)
 have HRS : Hid ((meetA k R S).size = 41) := Lib.hid (meetA_size k R S hR hS)
 have OR := Lib.hid oR
 have OS := Lib.hid oS
 have HR := Lib.hid hR
 have HS := Lib.hid hS
 clear oR oS
 go_enter Tryz.func15, Tryz.ntmps15
 go_upto_region 1 with fail
 generalize hW : World.alloc _ _ = W0
 have rX : Row W0 w.heap.size [.int .i64 k, p0, p1, p2, p3, p4, p5, p6, p7, q0, q1, q2, q3, q4, q5, q6, q7] := by rw [← hW]; exact (Row.at rfl [.int .i64 k, p0, p1, p2, p3, p4, p5, p6, p7, q0, q1, q2, q3, q4, q5, q6, q7] _).alloc _
 have rZ : Row W0 (w.heap.size + 1) zero_meet.toList := by rw [← hW]; exact Row.at (by simp) _ _
 have hB : Below w.heap.size w W0 := by rw [← hW]; exact ((Below.refl w.heap.size w).alloc (Nat.le_refl _) _).alloc (by simp) _
 clear hW
 have x0 := rX.c 0 rfl
 have x1 := rX.c 1 rfl
 have x2 := rX.c 2 rfl
 have x3 := rX.c 3 rfl
 have x4 := rX.c 4 rfl
 have x5 := rX.c 5 rfl
 have x6 := rX.c 6 rfl
 have x7 := rX.c 7 rfl
 have x8 := rX.c 8 rfl
 go_wp2_with fail
 clear x0 x1 x2 x3 x4 x5 x6 x7 x8
 refine (H1.out _ hB).mono ?_
 rintro e w1 ⟨rfl, hb⟩
 replace rX := rX.after hb
 replace rZ := rZ.after hb
 replace hB := hB.trans (hb.mono hB.size)
 clear hb
 go_upto_region 4 with (refine wpList_store_R rfl _ _ _ rfl _ R rfl rfl _ (Row.at rfl zero_point.toList _) (by rw [HR.out]; rfl) tR OR.out ?_; intro w2 r2 o2)
 have l1 : w.heap.size + 1 < w1.heap.size := rZ.lt
 replace rX := o2.row (by omega) (rX.alloc _)
 replace rZ := o2.row (by omega) (rZ.alloc _)
 replace hB := below_on (hB.alloc hB.size _) o2 hB.size
 clear o2
 generalize w1.heap.size = C at *
 have x9 := rX.c 9 rfl
 have x10 := rX.c 10 rfl
 have x11 := rX.c 11 rfl
 have x12 := rX.c 12 rfl
 have x13 := rX.c 13 rfl
 have x14 := rX.c 14 rfl
 have x15 := rX.c 15 rfl
 have x16 := rX.c 16 rfl
 go_wp2_with fail
 clear x9 x10 x11 x12 x13 x14 x15 x16
 refine (H2.out _ hB).mono ?_
 rintro e w3 ⟨rfl, hb⟩
 replace rX := rX.after hb
 replace rZ := rZ.after hb
 replace r2 := r2.after hb
 replace hB := hB.trans (hb.mono hB.size)
 clear hb
 go_upto_region 5 with (refine wpList_store_R rfl _ _ _ rfl _ S rfl rfl _ (Row.at rfl zero_point.toList _) (by rw [HS.out]; rfl) tS OS.out ?_; intro w4 r4 o4)
 have l3 : C < w3.heap.size := r2.lt
 have l4 : w.heap.size + 1 < w3.heap.size := rZ.lt
 replace rX := o4.row (by omega) (rX.alloc _)
 replace rZ := o4.row (by omega) (rZ.alloc _)
 replace r2 := o4.row (by omega) (r2.alloc _)
 replace hB := below_on (hB.alloc hB.size _) o4 hB.size
 clear o4 l3 l4 l1
 generalize w3.heap.size = D at *
 have x0 := rX.c 0 rfl
 have HB := Lib.hid hB
 clear rX hB
 go_wp2_with (first
  | (refine wpList_load_R rfl _ _ rfl C rfl R r2 tR ?_)
  | (refine wpList_load_R rfl _ _ rfl D rfl S r4 tS ?_)
  | (refine wpList_store_R rfl _ _ _ rfl _ (meetA k R S) rfl rfl _ rZ (by rw [HRS.out]; rfl) tP oRS.out ?_; intro w7 r7 o7))
 exact bodyPost_ret (results_R1 (cs := meetA k R S) rfl rfl r7 tP) rfl ⟨rfl, below_on HB.out o7 (by omega)⟩
end Go.Proofs.YtcabndpmfkimgaaGreatDoor
