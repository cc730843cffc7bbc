import Derived.Test.YtdfmmkidknginaaGreatDoorKkZZ
import Derived.Test.YtdfmmkidknginaaGreatDoorZKkZG
namespace Go.Proofs.YtdfmmkidknginaaGreatDoor
open Go.RowKit Go.Sort CrossMath

set_option maxRecDepth 100000 in
set_option maxHeartbeats 3200000 in
theorem sides_no1 (S P : Array Value) (gS : AggTy Tryz.prog 25 S.size) (gP : AggTy Tryz.prog 46 P.size) (w : World)
 (H1 : Hid (∀ W, Below w.heap.size w W → Calls Tryz.prog 19 #[.agg S, .agg P] W fun e w' => e = .returned (.tuple #[.int .i64 0, .int .i64 2]) ∧ Below W.heap.size W w'))
 (H2 : Hid (∀ W, Below w.heap.size w W → Calls Tryz.prog 20 #[.agg S, .agg P] W fun e w' => e = .returned (.tuple #[.bool false, .int .i64 2]) ∧ Below W.heap.size W w'))
 (H3 : Hid (∀ W, Calls Tryz.prog 12 #[.agg S] W fun e w' => e = .returned (.bool false) ∧ Below W.heap.size W w'))
 (HW : Hid (∀ W, Below w.heap.size w W → Calls Tryz.prog 17 #[] W fun e w' => e = .returned (.bool true) ∧ Below W.heap.size W w')) :
 Calls Tryz.prog 4 #[.agg S, .agg P] w fun e w' => e = .returned (.bool true) ∧ Below w.heap.size w w' := by
 have rS : Row ((w.alloc (.cells S 25)).alloc (.cells P 46)) w.heap.size S.toList := (Row.at rfl S.toList _).alloc _
 have rP : Row ((w.alloc (.cells S 25)).alloc (.cells P 46)) (w.heap.size + 1) P.toList := Row.at (by simp) P.toList _
 have hB : Below w.heap.size w ((w.alloc (.cells S 25)).alloc (.cells P 46)) := ((Below.refl w.heap.size w).alloc (Nat.le_refl _) _).alloc (by simp) _
 go_enter Tryz.func4, Tryz.ntmps4
 go_wp2_with (first | (refine wpList_load_R rfl _ _ rfl w.heap.size rfl S rS gS ?_) | (refine wpList_load_R rfl _ _ rfl (w.heap.size + 1) rfl P rP gP ?_) | (refine wpList_load_W' _ _ rfl w.heap.size 0 rfl rfl S rS.whole gS ?_) | (refine wpList_load_W' _ _ rfl (w.heap.size + 1) 0 rfl rfl P rP.whole gP ?_))
 refine (H1.out _ hB).mono ?_
 rintro e w1 ⟨rfl, hb⟩
 replace rS := rS.after hb
 replace rP := rP.after hb
 replace hB := hB.trans (hb.mono hB.size)
 clear hb
 go_wp2_with (first | (refine wpList_load_R rfl _ _ rfl w.heap.size rfl S rS gS ?_) | (refine wpList_load_R rfl _ _ rfl (w.heap.size + 1) rfl P rP gP ?_) | (refine wpList_load_W' _ _ rfl w.heap.size 0 rfl rfl S rS.whole gS ?_) | (refine wpList_load_W' _ _ rfl (w.heap.size + 1) 0 rfl rfl P rP.whole gP ?_))
 refine (H2.out _ hB).mono ?_
 rintro e w2 ⟨rfl, hb⟩
 replace rS := rS.after hb
 replace rP := rP.after hb
 replace hB := hB.trans (hb.mono hB.size)
 clear hb
 go_wp2_with (first | (refine wpList_load_R rfl _ _ rfl w.heap.size rfl S rS gS ?_) | (refine wpList_load_R rfl _ _ rfl (w.heap.size + 1) rfl P rP gP ?_) | (refine wpList_load_W' _ _ rfl w.heap.size 0 rfl rfl S rS.whole gS ?_) | (refine wpList_load_W' _ _ rfl (w.heap.size + 1) 0 rfl rfl P rP.whole gP ?_))
 refine (H3.out _).mono ?_
 rintro e w3 ⟨rfl, hb⟩
 replace rS := rS.after hb
 replace rP := rP.after hb
 replace hB := hB.trans (hb.mono hB.size)
 clear hb
 go_wp2_with (first | (refine wpList_load_R rfl _ _ rfl w.heap.size rfl S rS gS ?_) | (refine wpList_load_R rfl _ _ rfl (w.heap.size + 1) rfl P rP gP ?_) | (refine wpList_load_W' _ _ rfl w.heap.size 0 rfl rfl S rS.whole gS ?_) | (refine wpList_load_W' _ _ rfl (w.heap.size + 1) 0 rfl rfl P rP.whole gP ?_))
 refine (num4_any _ _).mono ?_
 rintro e w4 ⟨rfl, hb⟩
 replace rS := rS.after hb
 replace rP := rP.after hb
 replace hB := hB.trans (hb.mono hB.size)
 clear hb
 go_wp2_with (first | (refine wpList_load_R rfl _ _ rfl w.heap.size rfl S rS gS ?_) | (refine wpList_load_R rfl _ _ rfl (w.heap.size + 1) rfl P rP gP ?_) | (refine wpList_load_W' _ _ rfl w.heap.size 0 rfl rfl S rS.whole gS ?_) | (refine wpList_load_W' _ _ rfl (w.heap.size + 1) 0 rfl rfl P rP.whole gP ?_))
 refine (num4_any _ _).mono ?_
 rintro e w5 ⟨rfl, hb⟩
 replace rS := rS.after hb
 replace rP := rP.after hb
 replace hB := hB.trans (hb.mono hB.size)
 clear hb
 go_wp2_with (first | (refine wpList_load_R rfl _ _ rfl w.heap.size rfl S rS gS ?_) | (refine wpList_load_R rfl _ _ rfl (w.heap.size + 1) rfl P rP gP ?_) | (refine wpList_load_W' _ _ rfl w.heap.size 0 rfl rfl S rS.whole gS ?_) | (refine wpList_load_W' _ _ rfl (w.heap.size + 1) 0 rfl rfl P rP.whole gP ?_))
 refine (HW.out _ hB).mono ?_
 rintro e w6 ⟨rfl, hb⟩
 replace rS := rS.after hb
 replace rP := rP.after hb
 replace hB := hB.trans (hb.mono hB.size)
 clear hb
 go_wp2_with (first | (refine wpList_load_R rfl _ _ rfl w.heap.size rfl S rS gS ?_) | (refine wpList_load_R rfl _ _ rfl (w.heap.size + 1) rfl P rP gP ?_) | (refine wpList_load_W' _ _ rfl w.heap.size 0 rfl rfl S rS.whole gS ?_) | (refine wpList_load_W' _ _ rfl (w.heap.size + 1) 0 rfl rfl P rP.whole gP ?_))
 go_ret
 exact ⟨rfl, hB⟩
set_option maxRecDepth 100000 in
set_option maxHeartbeats 3200000 in
theorem sides_no2 (S P : Array Value) (gS : AggTy Tryz.prog 25 S.size) (gP : AggTy Tryz.prog 46 P.size) (w : World)
 (H1 : Hid (∀ W, Below w.heap.size w W → Calls Tryz.prog 19 #[.agg S, .agg P] W fun e w' => e = .returned (.tuple #[.int .i64 0, .int .i64 2]) ∧ Below W.heap.size W w'))
 (H2 : Hid (∀ W, Below w.heap.size w W → Calls Tryz.prog 20 #[.agg S, .agg P] W fun e w' => e = .returned (.tuple #[.bool false, .int .i64 2]) ∧ Below W.heap.size W w'))
 (H3 : Hid (∀ W, Calls Tryz.prog 12 #[.agg S] W fun e w' => e = .returned (.bool true) ∧ Below W.heap.size W w'))
 (H4 : Hid (∀ W, Calls Tryz.prog 21 #[.agg P] W fun e w' => e = .returned (.bool false) ∧ Below W.heap.size W w'))
 (HW : Hid (∀ W, Below w.heap.size w W → Calls Tryz.prog 17 #[] W fun e w' => e = .returned (.bool true) ∧ Below W.heap.size W w')) :
 Calls Tryz.prog 4 #[.agg S, .agg P] w fun e w' => e = .returned (.bool true) ∧ Below w.heap.size w w' := by
 have rS : Row ((w.alloc (.cells S 25)).alloc (.cells P 46)) w.heap.size S.toList := (Row.at rfl S.toList _).alloc _
 have rP : Row ((w.alloc (.cells S 25)).alloc (.cells P 46)) (w.heap.size + 1) P.toList := Row.at (by simp) P.toList _
 have hB : Below w.heap.size w ((w.alloc (.cells S 25)).alloc (.cells P 46)) := ((Below.refl w.heap.size w).alloc (Nat.le_refl _) _).alloc (by simp) _
 go_enter Tryz.func4, Tryz.ntmps4
 go_wp2_with (first | (refine wpList_load_R rfl _ _ rfl w.heap.size rfl S rS gS ?_) | (refine wpList_load_R rfl _ _ rfl (w.heap.size + 1) rfl P rP gP ?_) | (refine wpList_load_W' _ _ rfl w.heap.size 0 rfl rfl S rS.whole gS ?_) | (refine wpList_load_W' _ _ rfl (w.heap.size + 1) 0 rfl rfl P rP.whole gP ?_))
 refine (H1.out _ hB).mono ?_
 rintro e w1 ⟨rfl, hb⟩
 replace rS := rS.after hb
 replace rP := rP.after hb
 replace hB := hB.trans (hb.mono hB.size)
 clear hb
 go_wp2_with (first | (refine wpList_load_R rfl _ _ rfl w.heap.size rfl S rS gS ?_) | (refine wpList_load_R rfl _ _ rfl (w.heap.size + 1) rfl P rP gP ?_) | (refine wpList_load_W' _ _ rfl w.heap.size 0 rfl rfl S rS.whole gS ?_) | (refine wpList_load_W' _ _ rfl (w.heap.size + 1) 0 rfl rfl P rP.whole gP ?_))
 refine (H2.out _ hB).mono ?_
 rintro e w2 ⟨rfl, hb⟩
 replace rS := rS.after hb
 replace rP := rP.after hb
 replace hB := hB.trans (hb.mono hB.size)
 clear hb
 go_wp2_with (first | (refine wpList_load_R rfl _ _ rfl w.heap.size rfl S rS gS ?_) | (refine wpList_load_R rfl _ _ rfl (w.heap.size + 1) rfl P rP gP ?_) | (refine wpList_load_W' _ _ rfl w.heap.size 0 rfl rfl S rS.whole gS ?_) | (refine wpList_load_W' _ _ rfl (w.heap.size + 1) 0 rfl rfl P rP.whole gP ?_))
 refine (H3.out _).mono ?_
 rintro e w3 ⟨rfl, hb⟩
 replace rS := rS.after hb
 replace rP := rP.after hb
 replace hB := hB.trans (hb.mono hB.size)
 clear hb
 go_wp2_with (first | (refine wpList_load_R rfl _ _ rfl w.heap.size rfl S rS gS ?_) | (refine wpList_load_R rfl _ _ rfl (w.heap.size + 1) rfl P rP gP ?_) | (refine wpList_load_W' _ _ rfl w.heap.size 0 rfl rfl S rS.whole gS ?_) | (refine wpList_load_W' _ _ rfl (w.heap.size + 1) 0 rfl rfl P rP.whole gP ?_))
 refine (H4.out _).mono ?_
 rintro e w4 ⟨rfl, hb⟩
 replace rS := rS.after hb
 replace rP := rP.after hb
 replace hB := hB.trans (hb.mono hB.size)
 clear hb
 go_wp2_with (first | (refine wpList_load_R rfl _ _ rfl w.heap.size rfl S rS gS ?_) | (refine wpList_load_R rfl _ _ rfl (w.heap.size + 1) rfl P rP gP ?_) | (refine wpList_load_W' _ _ rfl w.heap.size 0 rfl rfl S rS.whole gS ?_) | (refine wpList_load_W' _ _ rfl (w.heap.size + 1) 0 rfl rfl P rP.whole gP ?_))
 refine (num4_any _ _).mono ?_
 rintro e w5 ⟨rfl, hb⟩
 replace rS := rS.after hb
 replace rP := rP.after hb
 replace hB := hB.trans (hb.mono hB.size)
 clear hb
 go_wp2_with (first | (refine wpList_load_R rfl _ _ rfl w.heap.size rfl S rS gS ?_) | (refine wpList_load_R rfl _ _ rfl (w.heap.size + 1) rfl P rP gP ?_) | (refine wpList_load_W' _ _ rfl w.heap.size 0 rfl rfl S rS.whole gS ?_) | (refine wpList_load_W' _ _ rfl (w.heap.size + 1) 0 rfl rfl P rP.whole gP ?_))
 refine (num4_any _ _).mono ?_
 rintro e w6 ⟨rfl, hb⟩
 replace rS := rS.after hb
 replace rP := rP.after hb
 replace hB := hB.trans (hb.mono hB.size)
 clear hb
 go_wp2_with (first | (refine wpList_load_R rfl _ _ rfl w.heap.size rfl S rS gS ?_) | (refine wpList_load_R rfl _ _ rfl (w.heap.size + 1) rfl P rP gP ?_) | (refine wpList_load_W' _ _ rfl w.heap.size 0 rfl rfl S rS.whole gS ?_) | (refine wpList_load_W' _ _ rfl (w.heap.size + 1) 0 rfl rfl P rP.whole gP ?_))
 refine (HW.out _ hB).mono ?_
 rintro e w7 ⟨rfl, hb⟩
 replace rS := rS.after hb
 replace rP := rP.after hb
 replace hB := hB.trans (hb.mono hB.size)
 clear hb
 go_wp2_with (first | (refine wpList_load_R rfl _ _ rfl w.heap.size rfl S rS gS ?_) | (refine wpList_load_R rfl _ _ rfl (w.heap.size + 1) rfl P rP gP ?_) | (refine wpList_load_W' _ _ rfl w.heap.size 0 rfl rfl S rS.whole gS ?_) | (refine wpList_load_W' _ _ rfl (w.heap.size + 1) 0 rfl rfl P rP.whole gP ?_))
 go_ret
 exact ⟨rfl, hB⟩
set_option maxRecDepth 100000 in
set_option maxHeartbeats 3200000 in
theorem sides_yes (v : Int) (b : Bool) (D : Array Value → World → Prop) (kD : ∀ u X Y, D u X → Below X.heap.size X Y → D u Y) (S P : Array Value) (gS : AggTy Tryz.prog 25 S.size) (gP : AggTy Tryz.prog 46 P.size) (w : World)
 (H1 : Hid (∀ W, Below w.heap.size w W → Calls Tryz.prog 19 #[.agg S, .agg P] W fun e w' => e = .returned (.tuple #[.int .i64 v, .int .i64 0]) ∧ Below W.heap.size W w'))
 (H2 : Hid (∀ W, Below w.heap.size w W → Calls Tryz.prog 20 #[.agg S, .agg P] W fun e w' => e = .returned (.tuple #[.bool b, .int .i64 0]) ∧ Below W.heap.size W w'))
 (H3 : Hid (∀ W, Calls Tryz.prog 12 #[.agg S] W fun e w' => e = .returned (.bool true) ∧ Below W.heap.size W w'))
 (H4 : Hid (∀ W, Calls Tryz.prog 21 #[.agg P] W fun e w' => e = .returned (.bool true) ∧ Below W.heap.size W w'))
 (H5 : Hid (∀ W, Calls Tryz.prog 22 #[.agg P] W fun e w' => ∃ p0 p1 p2 p3 p4 p5 p6 p7, e = .returned (.agg #[p0, p1, p2, p3, p4, p5, p6, p7]) ∧ OneC #[p0, p1, p2, p3, p4, p5, p6, p7] ∧ D #[p0, p1, p2, p3, p4, p5, p6, p7] w' ∧ Below W.heap.size W w'))
 (H6 : Hid (∀ u W, D u W → Calls Tryz.prog 23 #[.agg S, .agg u] W fun e w' => e = .returned (.int .i64 v) ∧ Below W.heap.size W w'))
 (H7 : Hid (∀ u W, D u W → Calls Tryz.prog 24 #[.agg S, .agg u] W fun e w' => e = .returned (.bool b) ∧ Below W.heap.size W w'))
 (HW : Hid (∀ W, Below w.heap.size w W → Calls Tryz.prog 17 #[] W fun e w' => e = .returned (.bool true) ∧ Below W.heap.size W w')) :
 Calls Tryz.prog 4 #[.agg S, .agg P] w fun e w' => e = .returned (.bool true) ∧ Below w.heap.size w w' := by
 have rS : Row ((w.alloc (.cells S 25)).alloc (.cells P 46)) w.heap.size S.toList := (Row.at rfl S.toList _).alloc _
 have rP : Row ((w.alloc (.cells S 25)).alloc (.cells P 46)) (w.heap.size + 1) P.toList := Row.at (by simp) P.toList _
 have hB : Below w.heap.size w ((w.alloc (.cells S 25)).alloc (.cells P 46)) := ((Below.refl w.heap.size w).alloc (Nat.le_refl _) _).alloc (by simp) _
 go_enter Tryz.func4, Tryz.ntmps4
 go_wp2_with (first | (refine wpList_load_R rfl _ _ rfl w.heap.size rfl S rS gS ?_) | (refine wpList_load_R rfl _ _ rfl (w.heap.size + 1) rfl P rP gP ?_) | (refine wpList_load_W' _ _ rfl w.heap.size 0 rfl rfl S rS.whole gS ?_) | (refine wpList_load_W' _ _ rfl (w.heap.size + 1) 0 rfl rfl P rP.whole gP ?_))
 refine (H1.out _ hB).mono ?_
 rintro e w1 ⟨rfl, hb⟩
 replace rS := rS.after hb
 replace rP := rP.after hb
 replace hB := hB.trans (hb.mono hB.size)
 clear hb
 go_wp2_with (first | (refine wpList_load_R rfl _ _ rfl w.heap.size rfl S rS gS ?_) | (refine wpList_load_R rfl _ _ rfl (w.heap.size + 1) rfl P rP gP ?_) | (refine wpList_load_W' _ _ rfl w.heap.size 0 rfl rfl S rS.whole gS ?_) | (refine wpList_load_W' _ _ rfl (w.heap.size + 1) 0 rfl rfl P rP.whole gP ?_))
 refine (H2.out _ hB).mono ?_
 rintro e w2 ⟨rfl, hb⟩
 replace rS := rS.after hb
 replace rP := rP.after hb
 replace hB := hB.trans (hb.mono hB.size)
 clear hb
 go_wp2_with (first | (refine wpList_load_R rfl _ _ rfl w.heap.size rfl S rS gS ?_) | (refine wpList_load_R rfl _ _ rfl (w.heap.size + 1) rfl P rP gP ?_) | (refine wpList_load_W' _ _ rfl w.heap.size 0 rfl rfl S rS.whole gS ?_) | (refine wpList_load_W' _ _ rfl (w.heap.size + 1) 0 rfl rfl P rP.whole gP ?_))
 refine (H3.out _).mono ?_
 rintro e w3 ⟨rfl, hb⟩
 replace rS := rS.after hb
 replace rP := rP.after hb
 replace hB := hB.trans (hb.mono hB.size)
 clear hb
 go_wp2_with (first | (refine wpList_load_R rfl _ _ rfl w.heap.size rfl S rS gS ?_) | (refine wpList_load_R rfl _ _ rfl (w.heap.size + 1) rfl P rP gP ?_) | (refine wpList_load_W' _ _ rfl w.heap.size 0 rfl rfl S rS.whole gS ?_) | (refine wpList_load_W' _ _ rfl (w.heap.size + 1) 0 rfl rfl P rP.whole gP ?_))
 refine (H4.out _).mono ?_
 rintro e w4 ⟨rfl, hb⟩
 replace rS := rS.after hb
 replace rP := rP.after hb
 replace hB := hB.trans (hb.mono hB.size)
 clear hb
 go_wp2_with (first | (refine wpList_load_R rfl _ _ rfl w.heap.size rfl S rS gS ?_) | (refine wpList_load_R rfl _ _ rfl (w.heap.size + 1) rfl P rP gP ?_) | (refine wpList_load_W' _ _ rfl w.heap.size 0 rfl rfl S rS.whole gS ?_) | (refine wpList_load_W' _ _ rfl (w.heap.size + 1) 0 rfl rfl P rP.whole gP ?_))
 refine (H5.out _).mono ?_
 rintro e w5 ⟨p0, p1, p2, p3, p4, p5, p6, p7, rfl, o8, hE, hb⟩
 replace rS := rS.after hb
 replace rP := rP.after hb
 replace hB := hB.trans (hb.mono hB.size)
 clear hb
 have HO := Lib.hid o8
 clear o8
 have hT : AggTy Tryz.prog 57 (#[p0, p1, p2, p3, p4, p5, p6, p7] : Array Value).size := agg_rpoint
 go_upto_region 6 with (first | (refine wpList_store_R rfl _ _ _ rfl w5.heap.size #[p0, p1, p2, p3, p4, p5, p6, p7] rfl rfl _ (Row.at rfl [.bool false, .slice none 0 0, .bool false, .slice none 0 0, .bool false, .slice none 0 0, .bool false, .slice none 0 0] _) (by rfl) agg_rpoint HO.out ?_; intro w6 rQ oQ))
 have hb : Below w5.heap.size w5 w6 := below_on ((Below.refl w5.heap.size w5).alloc (Nat.le_refl _) _) oQ (Nat.le_refl _)
 replace hE := kD _ _ _ hE hb
 replace rS := rS.after hb
 replace rP := rP.after hb
 replace hB := hB.trans (hb.mono hB.size)
 clear hb oQ
 generalize w5.heap.size = q at *
 go_wp2_with (first | (refine wpList_load_R rfl _ _ rfl w.heap.size rfl S rS gS ?_) | (refine wpList_load_R rfl _ _ rfl (w.heap.size + 1) rfl P rP gP ?_) | (refine wpList_load_R rfl _ _ rfl q rfl #[p0, p1, p2, p3, p4, p5, p6, p7] rQ hT ?_) | (refine wpList_load_W' _ _ rfl w.heap.size 0 rfl rfl S rS.whole gS ?_) | (refine wpList_load_W' _ _ rfl (w.heap.size + 1) 0 rfl rfl P rP.whole gP ?_) | (refine wpList_load_W' _ _ rfl q 0 rfl rfl #[p0, p1, p2, p3, p4, p5, p6, p7] rQ.whole hT ?_))
 refine (H6.out _ _ hE).mono ?_
 rintro e w7 ⟨rfl, hb⟩
 replace rS := rS.after hb
 replace rP := rP.after hb
 replace rQ := rQ.after hb
 replace hE := kD _ _ _ hE hb
 replace hB := hB.trans (hb.mono hB.size)
 clear hb
 go_wp2_with (first | (refine wpList_load_R rfl _ _ rfl w.heap.size rfl S rS gS ?_) | (refine wpList_load_R rfl _ _ rfl (w.heap.size + 1) rfl P rP gP ?_) | (refine wpList_load_R rfl _ _ rfl q rfl #[p0, p1, p2, p3, p4, p5, p6, p7] rQ hT ?_) | (refine wpList_load_W' _ _ rfl w.heap.size 0 rfl rfl S rS.whole gS ?_) | (refine wpList_load_W' _ _ rfl (w.heap.size + 1) 0 rfl rfl P rP.whole gP ?_) | (refine wpList_load_W' _ _ rfl q 0 rfl rfl #[p0, p1, p2, p3, p4, p5, p6, p7] rQ.whole hT ?_))
 refine (H7.out _ _ hE).mono ?_
 rintro e w8 ⟨rfl, hb⟩
 replace rS := rS.after hb
 replace rP := rP.after hb
 replace rQ := rQ.after hb
 replace hE := kD _ _ _ hE hb
 replace hB := hB.trans (hb.mono hB.size)
 clear hb
 go_wp2_with (first | (refine wpList_load_R rfl _ _ rfl w.heap.size rfl S rS gS ?_) | (refine wpList_load_R rfl _ _ rfl (w.heap.size + 1) rfl P rP gP ?_) | (refine wpList_load_R rfl _ _ rfl q rfl #[p0, p1, p2, p3, p4, p5, p6, p7] rQ hT ?_) | (refine wpList_load_W' _ _ rfl w.heap.size 0 rfl rfl S rS.whole gS ?_) | (refine wpList_load_W' _ _ rfl (w.heap.size + 1) 0 rfl rfl P rP.whole gP ?_) | (refine wpList_load_W' _ _ rfl q 0 rfl rfl #[p0, p1, p2, p3, p4, p5, p6, p7] rQ.whole hT ?_))
 refine (num4_any _ _).mono ?_
 rintro e w9 ⟨rfl, hb⟩
 replace rS := rS.after hb
 replace rP := rP.after hb
 replace rQ := rQ.after hb
 replace hE := kD _ _ _ hE hb
 replace hB := hB.trans (hb.mono hB.size)
 clear hb
 go_wp2_with (first | (refine wpList_load_R rfl _ _ rfl w.heap.size rfl S rS gS ?_) | (refine wpList_load_R rfl _ _ rfl (w.heap.size + 1) rfl P rP gP ?_) | (refine wpList_load_R rfl _ _ rfl q rfl #[p0, p1, p2, p3, p4, p5, p6, p7] rQ hT ?_) | (refine wpList_load_W' _ _ rfl w.heap.size 0 rfl rfl S rS.whole gS ?_) | (refine wpList_load_W' _ _ rfl (w.heap.size + 1) 0 rfl rfl P rP.whole gP ?_) | (refine wpList_load_W' _ _ rfl q 0 rfl rfl #[p0, p1, p2, p3, p4, p5, p6, p7] rQ.whole hT ?_))
 refine (num4_any _ _).mono ?_
 rintro e w10 ⟨rfl, hb⟩
 replace rS := rS.after hb
 replace rP := rP.after hb
 replace rQ := rQ.after hb
 replace hE := kD _ _ _ hE hb
 replace hB := hB.trans (hb.mono hB.size)
 clear hb
 go_wp2_with (first | (refine wpList_load_R rfl _ _ rfl w.heap.size rfl S rS gS ?_) | (refine wpList_load_R rfl _ _ rfl (w.heap.size + 1) rfl P rP gP ?_) | (refine wpList_load_R rfl _ _ rfl q rfl #[p0, p1, p2, p3, p4, p5, p6, p7] rQ hT ?_) | (refine wpList_load_W' _ _ rfl w.heap.size 0 rfl rfl S rS.whole gS ?_) | (refine wpList_load_W' _ _ rfl (w.heap.size + 1) 0 rfl rfl P rP.whole gP ?_) | (refine wpList_load_W' _ _ rfl q 0 rfl rfl #[p0, p1, p2, p3, p4, p5, p6, p7] rQ.whole hT ?_))
 refine (HW.out _ hB).mono ?_
 rintro e w11 ⟨rfl, hb⟩
 replace rS := rS.after hb
 replace rP := rP.after hb
 replace rQ := rQ.after hb
 replace hE := kD _ _ _ hE hb
 replace hB := hB.trans (hb.mono hB.size)
 clear hb
 go_wp2_with (first | (refine wpList_load_R rfl _ _ rfl w.heap.size rfl S rS gS ?_) | (refine wpList_load_R rfl _ _ rfl (w.heap.size + 1) rfl P rP gP ?_) | (refine wpList_load_R rfl _ _ rfl q rfl #[p0, p1, p2, p3, p4, p5, p6, p7] rQ hT ?_) | (refine wpList_load_W' _ _ rfl w.heap.size 0 rfl rfl S rS.whole gS ?_) | (refine wpList_load_W' _ _ rfl (w.heap.size + 1) 0 rfl rfl P rP.whole gP ?_) | (refine wpList_load_W' _ _ rfl q 0 rfl rfl #[p0, p1, p2, p3, p4, p5, p6, p7] rQ.whole hT ?_))
 go_ret
 exact ⟨rfl, hB⟩
theorem sides_true (s : Sg) (a b c d : Option Int) (w : World) (ha : oM a < T256) (hb : oM b < T256) (hc : oM c < T256) (hd : oM d < T256) (htab : Tab10 w) (ht : TabTz w) (hcu : CutOk w) (hw0 : 3 < w.heap.size) :
 Calls Tryz.prog 4 #[.agg (sgA s), .agg (pO a b c d)] w fun e w' => e = .returned (.bool true) ∧ Below w.heap.size w w' := by
 have HW : Hid (∀ W, Below w.heap.size w W → Calls Tryz.prog 17 #[] W fun e w' => e = .returned (.bool true) ∧ Below W.heap.size W w') := Lib.hid (fun W hW => works4_true W (htab.below hW) (ht.below hw0 hW) (hcu.below hW) (Nat.lt_of_lt_of_le hw0 hW.size))
 have gS : AggTy Tryz.prog 25 (sgA s).size := agg_seg
 have gP : AggTy Tryz.prog 46 (pO a b c d).size := agg_point
 have HR := Lib.hid (fun W => refright_any s W)
 cases hr : rightS s with
 | false =>
   rw [hr] at HR
   have hk : ckI s.ax s.ay s.bx s.bY = 2 := by rw [ck_right, hr]; rfl
   exact sides_no1 _ _ gS gP w (Lib.hid (fun W _ => Side_noseg _ _ _ _ _ W hk rfl)) (Lib.hid (fun W _ => On_noseg _ _ _ _ _ W hk rfl)) HR HW
 | true =>
   rw [hr] at HR
   obtain ⟨hs, hne⟩ := rightS_iff.1 hr
   have HP := Lib.hid (fun W => refpoint_O a b c d ha hb hc hd W)
   have at0 : ∀ {W : World}, Below w.heap.size w W → TabTz W ∧ 3 < W.heap.size := fun hW => ⟨ht.below hw0 hW, Nat.lt_of_lt_of_le hw0 hW.size⟩
   cases ho : (okB a b && okB c d) with
   | false =>
     rw [ho] at HP
     exact sides_no2 _ _ gS gP w (Lib.hid (fun W hW => Side_nopoint s a b c d W hs hne ha hb hc hd ho (at0 hW).1 (at0 hW).2)) (Lib.hid (fun W hW => On_nopoint s a b c d W hs hne ha hb hc hd ho (at0 hW).1 (at0 hW).2)) HR HP HW
   | true =>
     rw [ho] at HP
     obtain ⟨p, hp, rfl, rfl, rfl, rfl⟩ := ok_pt4 ho
     exact sides_yes (sideV s p) (onB s p) (PtE p) (fun u X Y h hb => h.keep u X Y hb) _ _ gS gP w (Lib.hid (fun W hW => Side_num s p W hs hne hp (at0 hW).1 (at0 hW).2)) (Lib.hid (fun W hW => On_num s p W hs hne hp (at0 hW).1 (at0 hW).2)) HR HP
      (Lib.hid (fun W => pfrom_rt p hp W)) (Lib.hid (fun u W h => refside_any s p u W hs hp h)) (Lib.hid (fun u W h => refon_any s p u W hs hne hp h)) HW
end Go.Proofs.YtdfmmkidknginaaGreatDoor
