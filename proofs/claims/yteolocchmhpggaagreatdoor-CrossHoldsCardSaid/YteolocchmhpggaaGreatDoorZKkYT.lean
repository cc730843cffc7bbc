import Derived.Test.YteolocchmhpggaaGreatDoorZKkYI
import Derived.Test.YteolocchmhpggaaGreatDoorZKkWI
namespace Go.Proofs.YteolocchmhpggaaGreatDoor
open Go.RowKit Go.Sort CrossMath

set_option maxRecDepth 100000 in
set_option maxHeartbeats 12800000 in
theorem holds_wrong (P z : Array Value) (ax ay bx bY cx cy dx dY : Int) (w : World) (hsP : P.size = 20) (sz : z.size = 41) (oz : OneC z)
 (ez : ∀ W, (binOp .neq 36 (.agg z) (.agg z)).run Tryz.prog W = .ok (.bool false) W)
 (hN : ∀ n W, Calls Tryz.prog 8 #[.int .i64 n] W fun e w' => e = .returned (.int .i64 n) ∧ Below W.heap.size W w')
 (hW : ∀ W, Below w.heap.size w W → Calls Tryz.prog 9 #[] W fun e w' => e = .returned (.bool true) ∧ Below W.heap.size W w')
 (hM1 : ∀ W, Below w.heap.size w W → Calls Tryz.prog 7 #[.agg (segA ax ay bx bY), .agg (segA cx cy dx dY)] W fun e w' => e = .returned (.tuple #[.agg z, .int .i64 2]) ∧ Below W.heap.size W w')
 (hM2 : ∀ W, Below w.heap.size w W → Calls Tryz.prog 7 #[.agg (segA cx cy dx dY), .agg (segA ax ay bx bY)] W fun e w' => e = .returned (.tuple #[.agg z, .int .i64 2]) ∧ Below W.heap.size W w')
 (hM3 : ∀ W, Below w.heap.size w W → Calls Tryz.prog 7 #[.agg (segA bx bY ax ay), .agg (segA cx cy dx dY)] W fun e w' => e = .returned (.tuple #[.agg z, .int .i64 2]) ∧ Below W.heap.size W w') :
 Calls Tryz.prog 3 #[.agg (segA ax ay bx bY), .agg (segA cx cy dx dY), .agg P] w fun e w' => e = .returned (.bool true) ∧ Below w.heap.size w w' := by
 have H_N := Lib.hid hN; clear hN
 have H_W := Lib.hid hW; clear hW
 have g1 : AggTy Tryz.prog 33 P.size := by rw [hsP]; exact agg_point
 have H_1 := Lib.hid hM1; clear hM1
 have H_2 := Lib.hid hM2; clear hM2
 have H_3 := Lib.hid hM3; clear hM3
 have H_sz := Lib.hid sz
 have H_oz := Lib.hid oz; clear oz
 have H_ez := Lib.hid ez; clear ez
 have H_tz := Lib.hid (show AggTy Tryz.prog 36 z.size by rw [sz]; exact agg_meet)
 clear sz
 go_enter Tryz.func3, Tryz.ntmps3
 go_upto_region 1 with fail
 generalize hW : World.alloc _ _ = W0
 have rS : Row W0 w.heap.size (segA ax ay bx bY).toList := by rw [← hW]; exact ((Row.at rfl (segA ax ay bx bY).toList _).alloc _).alloc _
 have rT : Row W0 (w.heap.size + 1) (segA cx cy dx dY).toList := by rw [← hW]; exact (Row.at (by simp) (segA cx cy dx dY).toList _).alloc _
 have rP : Row W0 (w.heap.size + 1 + 1) P.toList := by rw [← hW]; exact Row.at (by simp) _ _
 have hB : Below w.heap.size w W0 := by rw [← hW]; exact (((Below.refl _ _).alloc (Nat.le_refl _) _).alloc (by simp) _).alloc (by simp; omega) _
 clear hW
 have x0 := rS.c 0 rfl
 have x1 := rS.c 1 rfl
 have x2 := rS.c 2 rfl
 have x3 := rS.c 3 rfl
 have z0 := rT.c 0 rfl
 have z1 := rT.c 1 rfl
 have z2 := rT.c 2 rfl
 have z3 := rT.c 3 rfl
 go_wp2_with fail
 refine (H_1.out _ hB).mono ?_
 rintro e w1 ⟨rfl, hb⟩
 replace rS := rS.after hb
 replace rT := rT.after hb
 replace rP := rP.after hb
 replace hB := hB.trans (hb.mono hB.size)
 clear hb
 clear x0 x1 x2 x3 z0 z1 z2 z3
 go_upto_region 2 with (refine wpList_store_R rfl _ _ _ rfl _ z rfl rfl _ (Row.at rfl zero_meet.toList _) (by rw [H_sz.out]; rfl) H_tz.out H_oz.out ?_; intro w2 r1 o2)
 have hm : Below w.heap.size w w2 := below_on (hB.alloc hB.size _) o2 hB.size
 replace rS := o2.row (Nat.ne_of_lt rS.1) (rS.alloc _)
 replace rT := o2.row (Nat.ne_of_lt rT.1) (rT.alloc _)
 replace rP := o2.row (Nat.ne_of_lt rP.1) (rP.alloc _)
 replace hB := hm
 clear hm o2
 generalize w1.heap.size = b1 at *
 have x0 := rS.c 0 rfl
 have x1 := rS.c 1 rfl
 have x2 := rS.c 2 rfl
 have x3 := rS.c 3 rfl
 have z0 := rT.c 0 rfl
 have z1 := rT.c 1 rfl
 have z2 := rT.c 2 rfl
 have z3 := rT.c 3 rfl
 go_wp2_with fail
 refine (H_2.out _ hB).mono ?_
 rintro e w1 ⟨rfl, hb⟩
 replace rS := rS.after hb
 replace rT := rT.after hb
 replace rP := rP.after hb
 replace r1 := r1.after hb
 replace hB := hB.trans (hb.mono hB.size)
 clear hb
 clear x0 x1 x2 x3 z0 z1 z2 z3
 go_upto_region 3 with (refine wpList_store_R rfl _ _ _ rfl _ z rfl rfl _ (Row.at rfl zero_meet.toList _) (by rw [H_sz.out]; rfl) H_tz.out H_oz.out ?_; intro w2 r2 o2)
 have hm : Below w.heap.size w w2 := below_on (hB.alloc hB.size _) o2 hB.size
 replace rS := o2.row (Nat.ne_of_lt rS.1) (rS.alloc _)
 replace rT := o2.row (Nat.ne_of_lt rT.1) (rT.alloc _)
 replace rP := o2.row (Nat.ne_of_lt rP.1) (rP.alloc _)
 replace r1 := o2.row (Nat.ne_of_lt r1.1) (r1.alloc _)
 replace hB := hm
 clear hm o2
 generalize w1.heap.size = b2 at *
 have x0 := rS.c 0 rfl
 have x1 := rS.c 1 rfl
 have x2 := rS.c 2 rfl
 have x3 := rS.c 3 rfl
 have z0 := rT.c 0 rfl
 have z1 := rT.c 1 rfl
 have z2 := rT.c 2 rfl
 have z3 := rT.c 3 rfl
 go_wp2_with fail
 refine (H_3.out _ hB).mono ?_
 rintro e w1 ⟨rfl, hb⟩
 replace rS := rS.after hb
 replace rT := rT.after hb
 replace rP := rP.after hb
 replace r1 := r1.after hb
 replace r2 := r2.after hb
 replace hB := hB.trans (hb.mono hB.size)
 clear hb
 clear x0 x1 x2 x3 z0 z1 z2 z3
 go_upto_region 4 with (refine wpList_store_R rfl _ _ _ rfl _ z rfl rfl _ (Row.at rfl zero_meet.toList _) (by rw [H_sz.out]; rfl) H_tz.out H_oz.out ?_; intro w2 r3 o2)
 have hm : Below w.heap.size w w2 := below_on (hB.alloc hB.size _) o2 hB.size
 replace rS := o2.row (Nat.ne_of_lt rS.1) (rS.alloc _)
 replace rT := o2.row (Nat.ne_of_lt rT.1) (rT.alloc _)
 replace rP := o2.row (Nat.ne_of_lt rP.1) (rP.alloc _)
 replace r1 := o2.row (Nat.ne_of_lt r1.1) (r1.alloc _)
 replace r2 := o2.row (Nat.ne_of_lt r2.1) (r2.alloc _)
 replace hB := hm
 clear hm o2
 generalize w1.heap.size = b3 at *
 refine wp_region_list ?_
 refine wpList_load_R rfl _ _ rfl b1 rfl z r1 H_tz.out ?_
 refine wpList_load_R rfl _ _ rfl b2 rfl z r2 H_tz.out ?_
 refine wpList_binM rfl .neq _ _ _ _ rfl z z false rfl rfl (neqg_meet _ _ _ _ _) (H_ez.out _) ?_
 go_upto_region 6 with (first | (refine wpList_unguard rfl ?_; refine wpList_load_R rfl _ _ rfl b1 rfl z r1 H_tz.out ?_) | (refine wpList_unguard rfl ?_; refine wpList_load_R rfl _ _ rfl b3 rfl z r3 H_tz.out ?_) | (refine wpList_unguard rfl ?_; refine wpList_binM rfl .neq _ _ _ _ rfl z z false rfl rfl (neqg_meet _ _ _ _ _) (H_ez.out _) ?_))
 clear r2 r3
 go_wp2_with fail
 refine (H_N.out _ _).mono ?_
 rintro e w3 ⟨rfl, hb⟩
 replace rS := rS.after hb
 replace rT := rT.after hb
 replace rP := rP.after hb
 replace r1 := r1.after hb
 replace hB := hB.trans (hb.mono hB.size)
 clear hb
 go_wp2_with fail
 refine (H_W.out _ hB).mono ?_
 rintro e w8 ⟨rfl, hb⟩
 go_wp2_with fail
 go_ret
 exact ⟨rfl, hB.trans (hb.mono hB.size)⟩
theorem GoodP.rt {p : Pt} (h : GoodP p) : RtP p :=
 ⟨⟨Nat.lt_trans h.1.2.2.1 (by decide), Nat.lt_trans h.1.2.2.2 (by decide), h.1.1, h.1.2.1⟩, ⟨Nat.lt_trans h.2.2.2.1 (by decide), Nat.lt_trans h.2.2.2.2 (by decide), h.2.1, h.2.2.1⟩⟩
end Go.Proofs.YteolocchmhpggaaGreatDoor
