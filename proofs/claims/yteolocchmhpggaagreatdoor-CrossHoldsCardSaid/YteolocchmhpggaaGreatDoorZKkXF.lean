import Derived.Test.YteolocchmhpggaaGreatDoorZKkXD
import Derived.Test.YteolocchmhpggaaGreatDoorZKkSO
namespace Go.Proofs.YteolocchmhpggaaGreatDoor
open Go.RowKit CrossMath

set_option maxRecDepth 100000 in
set_option maxHeartbeats 3200000 in
theorem pcmp_core (p0 p1 p2 p3 p4 p5 p6 p7 q0 q1 q2 q3 q4 q5 q6 q7 : Value) (r1 r2 : Int) (w : World)
 (h1 : ∀ W, Below w.heap.size w W → Calls Tryz.prog 33 #[.agg #[p0, p1, p2, p3], .agg #[q0, q1, q2, q3]] W fun e w' => e = .returned (.int .i64 r1) ∧ Below W.heap.size W w')
 (h2 : ∀ W, Below w.heap.size w W → Calls Tryz.prog 33 #[.agg #[p4, p5, p6, p7], .agg #[q4, q5, q6, q7]] W fun e w' => e = .returned (.int .i64 r2) ∧ Below W.heap.size W w') :
 Calls Tryz.prog 12 #[.agg #[p0, p1, p2, p3, p4, p5, p6, p7], .agg #[q0, q1, q2, q3, q4, q5, q6, q7]] w fun e w' => e = .returned (.int .i64 (if r1 = 0 then r2 else r1)) ∧ Below w.heap.size w w' := by
 have H1 := Lib.hid h1; clear h1
 have H2 := Lib.hid h2; clear h2
 by_cases h0 : r1 = 0
 ·subst h0
  rw [if_pos rfl]
  go_enter Tryz.func12, Tryz.ntmps12
  go_upto_region 1 with fail
  generalize hW : World.alloc _ _ = W0
  have rP : Row W0 w.heap.size [p0, p1, p2, p3, p4, p5, p6, p7] := by rw [← hW]; exact (Row.at rfl [p0, p1, p2, p3, p4, p5, p6, p7] _).alloc _
  have rQ : Row W0 (w.heap.size + 1) [q0, q1, q2, q3, q4, q5, q6, q7] := by rw [← hW]; exact Row.at (by simp) [q0, q1, q2, q3, q4, q5, q6, q7] _
  have hB : Below w.heap.size w W0 := by rw [← hW]; exact ((Below.refl w.heap.size w).alloc (Nat.le_refl _) _).alloc (by simp) _
  clear hW
  have x0 := rP.c 0 rfl
  have y0 := rQ.c 0 rfl
  have x1 := rP.c 1 rfl
  have y1 := rQ.c 1 rfl
  have x2 := rP.c 2 rfl
  have y2 := rQ.c 2 rfl
  have x3 := rP.c 3 rfl
  have y3 := rQ.c 3 rfl
  go_wp2_with fail
  refine (H1.out _ hB).mono ?_
  rintro e w1 ⟨rfl, hb⟩
  replace hB := hB.trans (hb.mono hB.size)
  replace rP := rP.after hb
  replace rQ := rQ.after hb
  clear hb x0 y0 x1 y1 x2 y2 x3 y3
  have x4 := rP.c 4 rfl
  have y4 := rQ.c 4 rfl
  have x5 := rP.c 5 rfl
  have y5 := rQ.c 5 rfl
  have x6 := rP.c 6 rfl
  have y6 := rQ.c 6 rfl
  have x7 := rP.c 7 rfl
  have y7 := rQ.c 7 rfl
  have HB := Lib.hid hB
  have HR := Lib.hid (And.intro rP rQ)
  clear rP rQ hB
  go_wp2_with fail
  refine (H2.out _ HB.out).mono ?_
  rintro e w2 ⟨rfl, hb⟩
  have HZ := Lib.hid (HB.out.trans (hb.mono HB.out.size))
  clear hb
  go_wp2_with fail
  go_ret
  exact ⟨rfl, HZ.out⟩
 ·rw [if_neg h0]
  have h0' : (r1 == 0) = false := by simpa using h0
  clear h0
  go_enter Tryz.func12, Tryz.ntmps12
  go_upto_region 1 with fail
  generalize hW : World.alloc _ _ = W0
  have rP : Row W0 w.heap.size [p0, p1, p2, p3, p4, p5, p6, p7] := by rw [← hW]; exact (Row.at rfl [p0, p1, p2, p3, p4, p5, p6, p7] _).alloc _
  have rQ : Row W0 (w.heap.size + 1) [q0, q1, q2, q3, q4, q5, q6, q7] := by rw [← hW]; exact Row.at (by simp) [q0, q1, q2, q3, q4, q5, q6, q7] _
  have hB : Below w.heap.size w W0 := by rw [← hW]; exact ((Below.refl w.heap.size w).alloc (Nat.le_refl _) _).alloc (by simp) _
  clear hW
  have x0 := rP.c 0 rfl
  have y0 := rQ.c 0 rfl
  have x1 := rP.c 1 rfl
  have y1 := rQ.c 1 rfl
  have x2 := rP.c 2 rfl
  have y2 := rQ.c 2 rfl
  have x3 := rP.c 3 rfl
  have y3 := rQ.c 3 rfl
  go_wp2_with fail
  refine (H1.out _ hB).mono ?_
  rintro e w1 ⟨rfl, hb⟩
  replace hB := hB.trans (hb.mono hB.size)
  replace rP := rP.after hb
  replace rQ := rQ.after hb
  clear hb x0 y0 x1 y1 x2 y2 x3 y3
  have HB := Lib.hid hB
  clear rP rQ hB H1 H2
  go_wp2_with fail
  go_ret
  exact ⟨rfl, HB.out⟩
end Go.Proofs.YteolocchmhpggaaGreatDoor
