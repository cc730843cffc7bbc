import Derived.Test.YtongeeggaigepaaGreatDoorZKkEF
import Derived.Test.YtongeeggaigepaaGreatDoorZKkDN
import Derived.Test.YtongeeggaigepaaGreatDoorZKkDD
import Derived.Deep.RegionHeld3
import Derived.Deep.CutBlock
import Derived.Test.YtongeeggaigepaaGreatDoorZKkCI
namespace Go.Proofs.YtongeeggaigepaaGreatDoor
open Go.RowKit
theorem gcd_z (x y : Int) (w : World) (hx : x.natAbs < T256) (hy : y.natAbs < T256) (ht : TabTz w) (hw0 : 3 < w.heap.size) :
 Calls Tryz.prog 138 #[ivz x, ivz y] w fun e w' => e = .returned (.tuple #[ivz (Int.gcd x y : Nat), .int .i64 0]) ∧ Below w.heap.size w w' := by
 have h := gcd_of (decide (x < 0)) (decide (y < 0)) _ _ _ _ _ _ _ _ _ _ _ _ w (ivz_right x hx) (ivz_right y hy) (fun W hb => shared_any x.natAbs y.natAbs W hx hy (ht.below hw0 hb) (Nat.lt_of_lt_of_le hw0 hb.size))
 rw [show ivz (Int.gcd x y : Nat) = iv false (W64 (x.natAbs.gcd y.natAbs) 0 : Nat) (W64 (x.natAbs.gcd y.natAbs) 1 : Nat) (W64 (x.natAbs.gcd y.natAbs) 2 : Nat) (W64 (x.natAbs.gcd y.natAbs) 3 : Nat) by
  rw [ivz, Int.natAbs_natCast, decide_eq_false (by omega : ¬ ((Int.gcd x y : Nat) : Int) < 0)]; rfl]
 exact h
set_option maxHeartbeats 2000000 in
theorem gcd_wrong (s t : Bool) (a0 a1 a2 a3 b0 b1 b2 b3 : Int) (w : World) (he : errAll (fun i => if i = 0 then s else t) (fun i => if i = 0 then row4 a0 a1 a2 a3 else row4 b0 b1 b2 b3) 2 = 2) :
 Calls Tryz.prog 138 #[iv s a0 a1 a2 a3, iv t b0 b1 b2 b3] w fun e w' => e = .returned (.tuple #[iv false 0 0 0 0, .int .i64 2]) ∧ Below w.heap.size w w' := by
 have HE := Lib.hid he
 clear he
 go_enter Tryz.func138, Tryz.ntmps138
 go_wp2_with fail
 generalize hW : World.alloc _ _ = W0
 have hB : Below w.heap.size w W0 := by
  rw [← hW]; exact ((((Below.refl w.heap.size w).alloc (Nat.le_refl _) _).alloc (by simp) _).alloc (by simp; omega) _).alloc (by simp; omega) _
 have rC : Row W0 (w.heap.size + 1 + 1) [.bool false, .int .u64 0, .int .u64 0, .int .u64 0, .int .u64 0] := by
  rw [← hW]; exact (Row.at (by simp) _ _).alloc _
 have rE : Row W0 (w.heap.size + 1 + 1 + 1) [.bool s, .int .u64 a0, .int .u64 a1, .int .u64 a2, .int .u64 a3, .bool t, .int .u64 b0, .int .u64 b1, .int .u64 b2, .int .u64 b3] := by
  rw [← hW]; exact Row.at (by simp) _ _
 clear hW
 refine (checkAll_any _ _ 2 _ 0 2 W0 (by omega) rE.lt (two_ints rE)).mono ?_
 rintro e w1 ⟨rfl, hb1⟩
 rw [HE.out]
 replace hB := hB.trans (hb1.mono hB.size)
 replace rC := rC.after hb1
 clear rE hb1
 have c0 := rC.c 0 rfl
 have cf0 := rC.f 0 rfl
 have c1 := rC.c 1 rfl
 have cf1 := rC.f 1 rfl
 have c2 := rC.c 2 rfl
 have cf2 := rC.f 2 rfl
 have c3 := rC.c 3 rfl
 have cf3 := rC.f 3 rfl
 have c4 := rC.c 4 rfl
 have cf4 := rC.f 4 rfl
 go_wp2
 clear c0 cf0 c1 cf1 c2 cf2 c3 cf3 c4 cf4
 generalize hW : World.setCell _ _ _ = W8
 have rR : Row W8 (w.heap.size + 1 + 1) [.bool false, .int .u64 0, .int .u64 0, .int .u64 0, .int .u64 0] := by rw [← hW]; exact rC.put5 _ _ _ _ _
 replace hB : Below w.heap.size w W8 := by rw [← hW]; exact below_put5 hB (by omega) _ _ _ _ _
 clear hW rC
 exact bodyPost_ret (v := .tuple #[iv false 0 0 0 0, .int .i64 2]) (by simp [results, Tryz.results138, go_sem, rR.c 0 rfl, rR.c 1 rfl, rR.c 2 rfl, rR.c 3 rfl, rR.c 4 rfl]) rfl ⟨rfl, hB⟩
end Go.Proofs.YtongeeggaigepaaGreatDoor
namespace Go.Proofs.YtongeeggaigepaaGreatDoor
open Go.RowKit
end Go.Proofs.YtongeeggaigepaaGreatDoor
namespace Go.Proofs.YtongeeggaigepaaGreatDoor
open Go.RowKit
end Go.Proofs.YtongeeggaigepaaGreatDoor
namespace Go.Proofs.YtongeeggaigepaaGreatDoor
open Go.RowKit
end Go.Proofs.YtongeeggaigepaaGreatDoor
