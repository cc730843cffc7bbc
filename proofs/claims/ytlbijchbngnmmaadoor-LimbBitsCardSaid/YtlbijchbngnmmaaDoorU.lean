/- Contract of package limb's Gcd, out of the contract of shared; the Ints may be. -/
import Derived.Test.YtlbijchbngnmmaaDoorE
namespace Go.Proofs.YtlbijchbngnmmaaDoor
open Go.RowKit

set_option maxHeartbeats 2000000 in
theorem gcd_of (s t : Bool) (a0 a1 a2 a3 b0 b1 b2 b3 g0 g1 g2 g3 : Int) (w : World)
    (hs : (s && zeroB a0 a1 a2 a3) = false) (ht : (t && zeroB b0 b1 b2 b3) = false)
    (hp : ∀ W, Below w.heap.size w W → Calls Tryd.prog 52 #[wv a0 a1 a2 a3, wv b0 b1 b2 b3] W fun e w' => e = .returned (wv g0 g1 g2 g3) ∧ Below W.heap.size W w') :
    Calls Tryd.prog 31 #[iv s a0 a1 a2 a3, iv t b0 b1 b2 b3] w fun e w' => e = .returned (.tuple #[iv false g0 g1 g2 g3, .int .i64 0]) ∧ Below w.heap.size w w' := by
  have HE := Lib.hid (show errAll (fun i => if i = 0 then s else t) (fun i => if i = 0 then row4 a0 a1 a2 a3 else row4 b0 b1 b2 b3) 2 = 0 by rw [errAll_two, errArg_ok hs, if_pos rfl, errArg_ok ht])
  have Hp := Lib.hid hp
  clear hp hs ht
  go_enter Tryd.func31, Tryd.ntmps31
  go_wp2_with fail
  generalize hW : World.alloc _ _ = W0
  have hB : Below w.heap.size w W0 := by
    rw [← hW]; exact ((((Below.refl w.heap.size w).alloc (Nat.le_refl _) _).alloc (by simp) _).alloc (by simp; omega) _).alloc (by simp; omega) _
  have rA : Row W0 w.heap.size [.bool s, .int .u64 a0, .int .u64 a1, .int .u64 a2, .int .u64 a3] := by
    rw [← hW]; exact (((Row.at rfl _ _).alloc _).alloc _).alloc _
  have rB : Row W0 (w.heap.size + 1) [.bool t, .int .u64 b0, .int .u64 b1, .int .u64 b2, .int .u64 b3] := by
    rw [← hW]; exact ((Row.at (by simp) _ _).alloc _).alloc _
  have rC : Row W0 (w.heap.size + 1 + 1) [.bool false, .int .u64 0, .int .u64 0, .int .u64 0, .int .u64 0] := by
    rw [← hW]; exact (Row.at (by simp) _ _).alloc _
  have rE : Row W0 (w.heap.size + 1 + 1 + 1) [.bool s, .int .u64 a0, .int .u64 a1, .int .u64 a2, .int .u64 a3, .bool t, .int .u64 b0, .int .u64 b1, .int .u64 b2, .int .u64 b3] := by
    rw [← hW]; exact Row.at (by simp) _ _
  clear hW
  refine (checkAll_any _ _ 2 _ 0 2 W0 (by omega) rE.lt (two_ints rE)).mono ?_
  rintro e w1 ⟨rfl, hb1⟩
  rw [HE.out]
  replace hB := hB.trans (hb1.mono hB.size)
  replace rA := rA.after hb1
  replace rB := rB.after hb1
  replace rC := rC.after hb1
  clear rE hb1
  have i1 := rA.c 1 rfl
  have i2 := rA.c 2 rfl
  have i3 := rA.c 3 rfl
  have i4 := rA.c 4 rfl
  have j1 := rB.c 1 rfl
  have j2 := rB.c 2 rfl
  have j3 := rB.c 3 rfl
  have j4 := rB.c 4 rfl
  go_wp2_with fail
  refine (Hp.out _ hB).mono ?_
  rintro e w2 ⟨rfl, hb2⟩
  replace hB := hB.trans (hb2.mono hB.size)
  replace rC := rC.after hb2
  clear rA rB hb2 i1 i2 i3 i4 j1 j2 j3 j4
  go_wp2_with fail
  refine (signed_any _ _ _ _ _ _).mono ?_
  rintro e w3 ⟨rfl, hb3⟩
  rw [show (false && !zeroB g0 g1 g2 g3) = false from rfl]
  replace hB := hB.trans (hb3.mono hB.size)
  replace rC := rC.after hb3
  clear hb3
  have c0 := rC.c 0 rfl
  have c1 := rC.c 1 rfl
  have c2 := rC.c 2 rfl
  have c3 := rC.c 3 rfl
  have c4 := rC.c 4 rfl
  have f0 := rC.f 0 rfl
  have f1 := rC.f 1 rfl
  have f2 := rC.f 2 rfl
  have f3 := rC.f 3 rfl
  have f4 := rC.f 4 rfl
  go_wp2
  clear c0 c1 c2 c3 c4 f0 f1 f2 f3 f4
  generalize hW : World.setCell _ _ _ = W8
  have rR : Row W8 (w.heap.size + 1 + 1) [.bool false, .int .u64 g0, .int .u64 g1, .int .u64 g2, .int .u64 g3] := by rw [← hW]; exact rC.put5 _ _ _ _ _
  replace hB : Below w.heap.size w W8 := by rw [← hW]; exact below_put5 hB (by omega) _ _ _ _ _
  clear hW rC
  exact bodyPost_ret (v := .tuple #[iv false g0 g1 g2 g3, .int .i64 0]) (by simp [results, Tryd.results31, go_sem, rR.c 0 rfl, rR.c 1 rfl, rR.c 2 rfl, rR.c 3 rfl, rR.c 4 rfl]) rfl ⟨rfl, hB⟩

set_option maxHeartbeats 2000000 in
/-- By nought. -/
theorem quo_zero (s : Bool) (a0 a1 a2 a3 : Int) (w : World) (hs : (s && zeroB a0 a1 a2 a3) = false) :
    Calls Tryd.prog 30 #[iv s a0 a1 a2 a3, iv false 0 0 0 0] w fun e w' => e = .returned (.tuple #[iv false 0 0 0 0, iv false 0 0 0 0, .int .i64 2]) ∧ Below w.heap.size w w' := by
  have HE := Lib.hid (show errAll (fun i => if i = 0 then s else false) (fun i => if i = 0 then row4 a0 a1 a2 a3 else row4 0 0 0 0) 2 = 0 by rw [errAll_two, errArg_ok hs, if_pos rfl, errArg_ok rfl])
  have HG := Lib.hid (show sgnB false 0 0 0 0 = 0 from rfl)
  clear hs
  go_enter Tryd.func30, Tryd.ntmps30
  go_wp2_with fail
  generalize hW : World.alloc _ _ = W0
  have hB : Below w.heap.size w W0 := by
    rw [← hW]; exact (((((Below.refl w.heap.size w).alloc (Nat.le_refl _) _).alloc (by simp) _).alloc (by simp; omega) _).alloc (by simp; omega) _).alloc (by simp; omega) _
  have rB : Row W0 (w.heap.size + 1) [.bool false, .int .u64 0, .int .u64 0, .int .u64 0, .int .u64 0] := by
    rw [← hW]; exact (((Row.at (by simp) _ _).alloc _).alloc _).alloc _
  have rC : Row W0 (w.heap.size + 1 + 1) [.bool false, .int .u64 0, .int .u64 0, .int .u64 0, .int .u64 0] := by
    rw [← hW]; exact ((Row.at (by simp) _ _).alloc _).alloc _
  have rD : Row W0 (w.heap.size + 1 + 1 + 1) [.bool false, .int .u64 0, .int .u64 0, .int .u64 0, .int .u64 0] := by
    rw [← hW]; exact (Row.at (by simp) _ _).alloc _
  have rE : Row W0 (w.heap.size + 1 + 1 + 1 + 1) [.bool s, .int .u64 a0, .int .u64 a1, .int .u64 a2, .int .u64 a3, .bool false, .int .u64 0, .int .u64 0, .int .u64 0, .int .u64 0] := by
    rw [← hW]; exact Row.at (by simp) _ _
  clear hW
  refine (checkAll_any _ _ 2 _ 0 2 W0 (by omega) rE.lt (two_ints rE)).mono ?_
  rintro e w1 ⟨rfl, hb1⟩
  rw [HE.out]
  replace hB := hB.trans (hb1.mono hB.size)
  replace rB := rB.after hb1
  replace rC := rC.after hb1
  replace rD := rD.after hb1
  clear rE hb1
  have i0 := rB.c 0 rfl
  have i1 := rB.c 1 rfl
  have i2 := rB.c 2 rfl
  have i3 := rB.c 3 rfl
  have i4 := rB.c 4 rfl
  go_wp2_with fail
  refine (sign_any _ _ _ _ _ _).mono ?_
  rintro e w2 ⟨rfl, hb1⟩
  rw [HG.out]
  replace hB := hB.trans (hb1.mono hB.size)
  replace rC := rC.after hb1
  replace rD := rD.after hb1
  clear hb1 i0 i1 i2 i3 i4 rB
  have c0 := rC.c 0 rfl
  have c1 := rC.c 1 rfl
  have c2 := rC.c 2 rfl
  have c3 := rC.c 3 rfl
  have c4 := rC.c 4 rfl
  have f0 := rC.f 0 rfl
  have f1 := rC.f 1 rfl
  have f2 := rC.f 2 rfl
  have f3 := rC.f 3 rfl
  have f4 := rC.f 4 rfl
  have d0 := rD.c 0 rfl
  have d1 := rD.c 1 rfl
  have d2 := rD.c 2 rfl
  have d3 := rD.c 3 rfl
  have d4 := rD.c 4 rfl
  have e0 := rD.f 0 rfl
  have e1 := rD.f 1 rfl
  have e2 := rD.f 2 rfl
  have e3 := rD.f 3 rfl
  have e4 := rD.f 4 rfl
  go_wp2
  clear c0 c1 c2 c3 c4 f0 f1 f2 f3 f4 d0 d1 d2 d3 d4 e0 e1 e2 e3 e4
  generalize hW : World.setCell _ _ _ = W8
  have rR : Row W8 (w.heap.size + 1 + 1) [.bool false, .int .u64 0, .int .u64 0, .int .u64 0, .int .u64 0] := by rw [← hW]; exact (rC.put5 _ _ _ _ _).other5 (by omega) _ _ _ _ _
  have rS : Row W8 (w.heap.size + 1 + 1 + 1) [.bool false, .int .u64 0, .int .u64 0, .int .u64 0, .int .u64 0] := by rw [← hW]; exact (rD.other5 (by omega) _ _ _ _ _).put5 _ _ _ _ _
  replace hB : Below w.heap.size w W8 := by rw [← hW]; exact below_put5 (below_put5 hB (by omega) _ _ _ _ _) (by omega) _ _ _ _ _
  clear hW rC rD
  exact bodyPost_ret (v := .tuple #[iv false 0 0 0 0, iv false 0 0 0 0, .int .i64 2]) (by simp [results, Tryd.results30, go_sem, rR.c 0 rfl, rR.c 1 rfl, rR.c 2 rfl, rR.c 3 rfl, rR.c 4 rfl, rS.c 0 rfl, rS.c 1 rfl, rS.c 2 rfl, rS.c 3 rfl, rS.c 4 rfl]) rfl ⟨rfl, hB⟩
end Go.Proofs.YtlbijchbngnmmaaDoor
