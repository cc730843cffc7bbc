import Derived.Test.YtdfmmkidknginaaGreatDoorKkSV
import Derived.Test.YtdfmmkidknginaaGreatDoorKkSU
import Derived.Test.YtdfmmkidknginaaGreatDoorZKkZG
namespace Go.Proofs.YtdfmmkidknginaaGreatDoor
open Go.RowKit Go.Sort CrossMath

set_option maxRecDepth 100000 in
set_option maxHeartbeats 3200000 in
theorem moves4_no1 (bb : Bool) (S P S2 P2 : Array Value) (gS : AggTy Tryz.prog 25 S.size) (gP : AggTy Tryz.prog 46 P.size) (hS2 : S2.size = 4) (hP2 : P2.size = 20) (oS2 : OneC S2) (oP2 : OneC P2) (dx dy : Int) (w : World)
 (M1 : Hid (∀ W, Calls Tryz.prog 32 #[.agg S, .int .i64 dx, .int .i64 dy] W fun e w' => e = .returned (.tuple #[.agg S2, .bool false]) ∧ Below W.heap.size W w'))
 (M2 : Hid (∀ W, Calls Tryz.prog 33 #[.agg P, .int .i64 dx, .int .i64 dy] W fun e w' => e = .returned (.tuple #[.agg P2, .bool bb]) ∧ Below W.heap.size W w'))
 (HW : Hid (∀ W, Below w.heap.size w W → Calls Tryz.prog 17 #[] W fun e w' => e = .returned (.bool true) ∧ Below W.heap.size W w')) :
 Calls Tryz.prog 8 #[.agg S, .agg P, .int .i64 dx, .int .i64 dy] w fun e w' => e = .returned (.bool true) ∧ Below w.heap.size w w' := by
 have gS2 : AggTy Tryz.prog 25 S2.size := by rw [hS2]; exact agg_seg
 have gP2 : AggTy Tryz.prog 46 P2.size := by rw [hP2]; exact agg_point
 have HS2 := Lib.hid hS2
 have HP2 := Lib.hid hP2
 have OS2 := Lib.hid oS2
 have OP2 := Lib.hid oP2
 clear hS2 hP2 oS2 oP2
 have rS : Row ((w.alloc (.cells S 25)).alloc (.cells P 46)) w.heap.size S.toList := (Row.at rfl S.toList _).alloc _
 have rP : Row ((w.alloc (.cells S 25)).alloc (.cells P 46)) (w.heap.size + 1) P.toList := Row.at (by simp) P.toList _
 have hB : Below w.heap.size w ((w.alloc (.cells S 25)).alloc (.cells P 46)) := ((Below.refl w.heap.size w).alloc (Nat.le_refl _) _).alloc (by simp) _
 go_enter Tryz.func8, Tryz.ntmps8
 go_wp2_with (first | (refine wpList_load_R rfl _ _ rfl w.heap.size rfl S rS gS ?_) | (refine wpList_load_R rfl _ _ rfl (w.heap.size + 1) rfl P rP gP ?_))
 refine (M1.out _).mono ?_
 rintro e w1 ⟨rfl, hb⟩
 replace rS := rS.after hb
 replace rP := rP.after hb
 replace hB := hB.trans (hb.mono hB.size)
 clear hb
 go_upto_region 2 with (refine wpList_store_R rfl _ _ _ rfl w1.heap.size S2 rfl rfl _ (Row.at rfl zero_seg.toList _) (by rw [HS2.out]; rfl) gS2 OS2.out ?_; intro w2 rT orT)
 have hb : Below w1.heap.size w1 w2 := below_on ((Below.refl w1.heap.size w1).alloc (Nat.le_refl _) _) orT (Nat.le_refl _)
 clear orT
 replace rS := rS.after hb
 replace rP := rP.after hb
 replace hB := hB.trans (hb.mono hB.size)
 clear hb
 generalize w1.heap.size = q at *
 go_wp2_with (first | (refine wpList_load_R rfl _ _ rfl w.heap.size rfl S rS gS ?_) | (refine wpList_load_R rfl _ _ rfl (w.heap.size + 1) rfl P rP gP ?_) | (refine wpList_load_R rfl _ _ rfl q rfl S2 rT gS2 ?_))
 refine (M2.out _).mono ?_
 rintro e w3 ⟨rfl, hb⟩
 replace rS := rS.after hb
 replace rP := rP.after hb
 replace rT := rT.after hb
 replace hB := hB.trans (hb.mono hB.size)
 clear hb
 go_upto_region 3 with (refine wpList_store_R rfl _ _ _ rfl w3.heap.size P2 rfl rfl _ (Row.at rfl zero_point.toList _) (by rw [HP2.out]; rfl) gP2 OP2.out ?_; intro w4 rU orU)
 have hb : Below w3.heap.size w3 w4 := below_on ((Below.refl w3.heap.size w3).alloc (Nat.le_refl _) _) orU (Nat.le_refl _)
 clear orU
 replace rS := rS.after hb
 replace rP := rP.after hb
 replace rT := rT.after hb
 replace hB := hB.trans (hb.mono hB.size)
 clear hb
 generalize w3.heap.size = r at *
 go_wp2_with (first | (refine wpList_load_R rfl _ _ rfl w.heap.size rfl S rS gS ?_) | (refine wpList_load_R rfl _ _ rfl (w.heap.size + 1) rfl P rP gP ?_) | (refine wpList_load_R rfl _ _ rfl q rfl S2 rT gS2 ?_) | (refine wpList_load_R rfl _ _ rfl r rfl P2 rU gP2 ?_))
 refine (HW.out _ hB).mono ?_
 rintro e w5 ⟨rfl, hb⟩
 replace rS := rS.after hb
 replace rP := rP.after hb
 replace rT := rT.after hb
 replace rU := rU.after hb
 replace hB := hB.trans (hb.mono hB.size)
 clear hb
 go_wp2_with fail
 go_ret
 exact ⟨rfl, hB⟩
set_option maxRecDepth 100000 in
set_option maxHeartbeats 3200000 in
theorem moves4_no2 (S P S2 P2 : Array Value) (gS : AggTy Tryz.prog 25 S.size) (gP : AggTy Tryz.prog 46 P.size) (hS2 : S2.size = 4) (hP2 : P2.size = 20) (oS2 : OneC S2) (oP2 : OneC P2) (dx dy : Int) (w : World)
 (M1 : Hid (∀ W, Calls Tryz.prog 32 #[.agg S, .int .i64 dx, .int .i64 dy] W fun e w' => e = .returned (.tuple #[.agg S2, .bool true]) ∧ Below W.heap.size W w'))
 (M2 : Hid (∀ W, Calls Tryz.prog 33 #[.agg P, .int .i64 dx, .int .i64 dy] W fun e w' => e = .returned (.tuple #[.agg P2, .bool false]) ∧ Below W.heap.size W w'))
 (HW : Hid (∀ W, Below w.heap.size w W → Calls Tryz.prog 17 #[] W fun e w' => e = .returned (.bool true) ∧ Below W.heap.size W w')) :
 Calls Tryz.prog 8 #[.agg S, .agg P, .int .i64 dx, .int .i64 dy] w fun e w' => e = .returned (.bool true) ∧ Below w.heap.size w w' := by
 have gS2 : AggTy Tryz.prog 25 S2.size := by rw [hS2]; exact agg_seg
 have gP2 : AggTy Tryz.prog 46 P2.size := by rw [hP2]; exact agg_point
 have HS2 := Lib.hid hS2
 have HP2 := Lib.hid hP2
 have OS2 := Lib.hid oS2
 have OP2 := Lib.hid oP2
 clear hS2 hP2 oS2 oP2
 have rS : Row ((w.alloc (.cells S 25)).alloc (.cells P 46)) w.heap.size S.toList := (Row.at rfl S.toList _).alloc _
 have rP : Row ((w.alloc (.cells S 25)).alloc (.cells P 46)) (w.heap.size + 1) P.toList := Row.at (by simp) P.toList _
 have hB : Below w.heap.size w ((w.alloc (.cells S 25)).alloc (.cells P 46)) := ((Below.refl w.heap.size w).alloc (Nat.le_refl _) _).alloc (by simp) _
 go_enter Tryz.func8, Tryz.ntmps8
 go_wp2_with (first | (refine wpList_load_R rfl _ _ rfl w.heap.size rfl S rS gS ?_) | (refine wpList_load_R rfl _ _ rfl (w.heap.size + 1) rfl P rP gP ?_))
 refine (M1.out _).mono ?_
 rintro e w1 ⟨rfl, hb⟩
 replace rS := rS.after hb
 replace rP := rP.after hb
 replace hB := hB.trans (hb.mono hB.size)
 clear hb
 go_upto_region 2 with (refine wpList_store_R rfl _ _ _ rfl w1.heap.size S2 rfl rfl _ (Row.at rfl zero_seg.toList _) (by rw [HS2.out]; rfl) gS2 OS2.out ?_; intro w2 rT orT)
 have hb : Below w1.heap.size w1 w2 := below_on ((Below.refl w1.heap.size w1).alloc (Nat.le_refl _) _) orT (Nat.le_refl _)
 clear orT
 replace rS := rS.after hb
 replace rP := rP.after hb
 replace hB := hB.trans (hb.mono hB.size)
 clear hb
 generalize w1.heap.size = q at *
 go_wp2_with (first | (refine wpList_load_R rfl _ _ rfl w.heap.size rfl S rS gS ?_) | (refine wpList_load_R rfl _ _ rfl (w.heap.size + 1) rfl P rP gP ?_) | (refine wpList_load_R rfl _ _ rfl q rfl S2 rT gS2 ?_))
 refine (M2.out _).mono ?_
 rintro e w3 ⟨rfl, hb⟩
 replace rS := rS.after hb
 replace rP := rP.after hb
 replace rT := rT.after hb
 replace hB := hB.trans (hb.mono hB.size)
 clear hb
 go_upto_region 3 with (refine wpList_store_R rfl _ _ _ rfl w3.heap.size P2 rfl rfl _ (Row.at rfl zero_point.toList _) (by rw [HP2.out]; rfl) gP2 OP2.out ?_; intro w4 rU orU)
 have hb : Below w3.heap.size w3 w4 := below_on ((Below.refl w3.heap.size w3).alloc (Nat.le_refl _) _) orU (Nat.le_refl _)
 clear orU
 replace rS := rS.after hb
 replace rP := rP.after hb
 replace rT := rT.after hb
 replace hB := hB.trans (hb.mono hB.size)
 clear hb
 generalize w3.heap.size = r at *
 go_wp2_with (first | (refine wpList_load_R rfl _ _ rfl w.heap.size rfl S rS gS ?_) | (refine wpList_load_R rfl _ _ rfl (w.heap.size + 1) rfl P rP gP ?_) | (refine wpList_load_R rfl _ _ rfl q rfl S2 rT gS2 ?_) | (refine wpList_load_R rfl _ _ rfl r rfl P2 rU gP2 ?_))
 refine (HW.out _ hB).mono ?_
 rintro e w5 ⟨rfl, hb⟩
 replace rS := rS.after hb
 replace rP := rP.after hb
 replace rT := rT.after hb
 replace rU := rU.after hb
 replace hB := hB.trans (hb.mono hB.size)
 clear hb
 go_wp2_with fail
 go_ret
 exact ⟨rfl, hB⟩
set_option maxRecDepth 100000 in
set_option maxHeartbeats 3200000 in
theorem moves4_yes (v : Int) (b : Bool) (S P S2 P2 : Array Value) (gS : AggTy Tryz.prog 25 S.size) (gP : AggTy Tryz.prog 46 P.size) (hS2 : S2.size = 4) (hP2 : P2.size = 20) (oS2 : OneC S2) (oP2 : OneC P2) (dx dy : Int) (w : World)
 (M1 : Hid (∀ W, Calls Tryz.prog 32 #[.agg S, .int .i64 dx, .int .i64 dy] W fun e w' => e = .returned (.tuple #[.agg S2, .bool true]) ∧ Below W.heap.size W w'))
 (M2 : Hid (∀ W, Calls Tryz.prog 33 #[.agg P, .int .i64 dx, .int .i64 dy] W fun e w' => e = .returned (.tuple #[.agg P2, .bool true]) ∧ Below W.heap.size W w'))
 (A1 : Hid (∀ W, Below w.heap.size w W → Calls Tryz.prog 34 #[.agg S, .agg P] W fun e w' => e = .returned (.tuple #[.int .i64 v, .bool b, .bool true]) ∧ Below W.heap.size W w'))
 (A2 : Hid (∀ W, Below w.heap.size w W → Calls Tryz.prog 34 #[.agg S2, .agg P2] W fun e w' => e = .returned (.tuple #[.int .i64 v, .bool b, .bool true]) ∧ Below W.heap.size W w'))
 (HW : Hid (∀ W, Below w.heap.size w W → Calls Tryz.prog 17 #[] W fun e w' => e = .returned (.bool true) ∧ Below W.heap.size W w')) :
 Calls Tryz.prog 8 #[.agg S, .agg P, .int .i64 dx, .int .i64 dy] w fun e w' => e = .returned (.bool true) ∧ Below w.heap.size w w' := by
 have gS2 : AggTy Tryz.prog 25 S2.size := by rw [hS2]; exact agg_seg
 have gP2 : AggTy Tryz.prog 46 P2.size := by rw [hP2]; exact agg_point
 have HS2 := Lib.hid hS2
 have HP2 := Lib.hid hP2
 have OS2 := Lib.hid oS2
 have OP2 := Lib.hid oP2
 clear hS2 hP2 oS2 oP2
 have rS : Row ((w.alloc (.cells S 25)).alloc (.cells P 46)) w.heap.size S.toList := (Row.at rfl S.toList _).alloc _
 have rP : Row ((w.alloc (.cells S 25)).alloc (.cells P 46)) (w.heap.size + 1) P.toList := Row.at (by simp) P.toList _
 have hB : Below w.heap.size w ((w.alloc (.cells S 25)).alloc (.cells P 46)) := ((Below.refl w.heap.size w).alloc (Nat.le_refl _) _).alloc (by simp) _
 go_enter Tryz.func8, Tryz.ntmps8
 go_wp2_with (first | (refine wpList_load_R rfl _ _ rfl w.heap.size rfl S rS gS ?_) | (refine wpList_load_R rfl _ _ rfl (w.heap.size + 1) rfl P rP gP ?_))
 refine (M1.out _).mono ?_
 rintro e w1 ⟨rfl, hb⟩
 replace rS := rS.after hb
 replace rP := rP.after hb
 replace hB := hB.trans (hb.mono hB.size)
 clear hb
 go_upto_region 2 with (refine wpList_store_R rfl _ _ _ rfl w1.heap.size S2 rfl rfl _ (Row.at rfl zero_seg.toList _) (by rw [HS2.out]; rfl) gS2 OS2.out ?_; intro w2 rT orT)
 have hb : Below w1.heap.size w1 w2 := below_on ((Below.refl w1.heap.size w1).alloc (Nat.le_refl _) _) orT (Nat.le_refl _)
 clear orT
 replace rS := rS.after hb
 replace rP := rP.after hb
 replace hB := hB.trans (hb.mono hB.size)
 clear hb
 generalize w1.heap.size = q at *
 go_wp2_with (first | (refine wpList_load_R rfl _ _ rfl w.heap.size rfl S rS gS ?_) | (refine wpList_load_R rfl _ _ rfl (w.heap.size + 1) rfl P rP gP ?_) | (refine wpList_load_R rfl _ _ rfl q rfl S2 rT gS2 ?_))
 refine (M2.out _).mono ?_
 rintro e w3 ⟨rfl, hb⟩
 replace rS := rS.after hb
 replace rP := rP.after hb
 replace rT := rT.after hb
 replace hB := hB.trans (hb.mono hB.size)
 clear hb
 go_upto_region 3 with (refine wpList_store_R rfl _ _ _ rfl w3.heap.size P2 rfl rfl _ (Row.at rfl zero_point.toList _) (by rw [HP2.out]; rfl) gP2 OP2.out ?_; intro w4 rU orU)
 have hb : Below w3.heap.size w3 w4 := below_on ((Below.refl w3.heap.size w3).alloc (Nat.le_refl _) _) orU (Nat.le_refl _)
 clear orU
 replace rS := rS.after hb
 replace rP := rP.after hb
 replace rT := rT.after hb
 replace hB := hB.trans (hb.mono hB.size)
 clear hb
 generalize w3.heap.size = r at *
 go_wp2_with (first | (refine wpList_load_R rfl _ _ rfl w.heap.size rfl S rS gS ?_) | (refine wpList_load_R rfl _ _ rfl (w.heap.size + 1) rfl P rP gP ?_) | (refine wpList_load_R rfl _ _ rfl q rfl S2 rT gS2 ?_) | (refine wpList_load_R rfl _ _ rfl r rfl P2 rU gP2 ?_))
 refine (A1.out _ hB).mono ?_
 rintro e w5 ⟨rfl, hb⟩
 replace rS := rS.after hb
 replace rP := rP.after hb
 replace rT := rT.after hb
 replace rU := rU.after hb
 replace hB := hB.trans (hb.mono hB.size)
 clear hb
 go_wp2_with (first | (refine wpList_load_R rfl _ _ rfl w.heap.size rfl S rS gS ?_) | (refine wpList_load_R rfl _ _ rfl (w.heap.size + 1) rfl P rP gP ?_) | (refine wpList_load_R rfl _ _ rfl q rfl S2 rT gS2 ?_) | (refine wpList_load_R rfl _ _ rfl r rfl P2 rU gP2 ?_))
 refine (A2.out _ hB).mono ?_
 rintro e w6 ⟨rfl, hb⟩
 replace rS := rS.after hb
 replace rP := rP.after hb
 replace rT := rT.after hb
 replace rU := rU.after hb
 replace hB := hB.trans (hb.mono hB.size)
 clear hb
 go_wp2_with (first | (refine wpList_load_R rfl _ _ rfl w.heap.size rfl S rS gS ?_) | (refine wpList_load_R rfl _ _ rfl (w.heap.size + 1) rfl P rP gP ?_) | (refine wpList_load_R rfl _ _ rfl q rfl S2 rT gS2 ?_) | (refine wpList_load_R rfl _ _ rfl r rfl P2 rU gP2 ?_))
 refine (HW.out _ hB).mono ?_
 rintro e w7 ⟨rfl, hb⟩
 replace rS := rS.after hb
 replace rP := rP.after hb
 replace rT := rT.after hb
 replace rU := rU.after hb
 replace hB := hB.trans (hb.mono hB.size)
 clear hb
 go_wp2_with fail
 go_ret
 exact ⟨rfl, hB⟩
theorem pmoved_O (a b c d : Option Int) (dx dy : Int) (w : World) (ha : oM a < T256) (hb : oM b < T256) (hc : oM c < T256) (hd : oM d < T256) (hno : (okB a b && okB c d) = false) :
 Calls Tryz.prog 33 #[.agg (pO a b c d), .int .i64 dx, .int .i64 dy] w fun e w' => e = .returned (.tuple #[.agg zero_point, .bool false]) ∧ Below w.heap.size w w' := by
 have gP : AggTy Tryz.prog 46 (pO a b c d).size := agg_point
 cases hw : wayB dx dy with
 | false => exact pmoved_far _ gP dx dy w hw
 | true =>
   obtain ⟨hx, hy⟩ := wayB_iff.1 hw
   unfold Bd at hx hy
   have HP := Lib.hid (fun W => refpoint_O a b c d ha hb hc hd W)
   rw [hno] at HP
   exact pmoved_noP _ gP dx dy w (by simp; omega) (by simp; omega) (by simp; omega) (by simp; omega) HP
theorem moves4_true (s : Sg) (a b c d : Option Int) (dx dy : Int) (w : World) (ha : oM a < T256) (hb : oM b < T256) (hc : oM c < T256) (hd : oM d < T256) (htab : Tab10 w) (ht : TabTz w) (hcu : CutOk w) (hw0 : 3 < w.heap.size) :
 Calls Tryz.prog 8 #[.agg (sgA s), .agg (pO a b c d), .int .i64 dx, .int .i64 dy] w fun e w' => e = .returned (.bool true) ∧ Below w.heap.size w w' := by
 have HW : Hid (∀ W, Below w.heap.size w W → Calls Tryz.prog 17 #[] W fun e w' => e = .returned (.bool true) ∧ Below W.heap.size W w') := Lib.hid (fun W hW => works4_true W (htab.below hW) (ht.below hw0 hW) (hcu.below hW) (Nat.lt_of_lt_of_le hw0 hW.size))
 have gS : AggTy Tryz.prog 25 (sgA s).size := agg_seg
 have gP : AggTy Tryz.prog 46 (pO a b c d).size := agg_point
 have oS : ∀ t : Sg, OneC (sgA t) := fun t => by simp [OneC, Value.oneCell']
 have M1 := Lib.hid (fun W => smoved_any s dx dy W)
 -- the point's Moved
 have M2 : ∃ (P2 : Array Value) (bb : Bool), P2.size = 20 ∧ OneC P2 ∧ Hid (∀ W, Calls Tryz.prog 33 #[.agg (pO a b c d), .int .i64 dx, .int .i64 dy] W fun e w' => e = .returned (.tuple #[.agg P2, .bool bb]) ∧ Below W.heap.size W w') ∧
  (bb = true → ∃ p : Pt, RtP p ∧ a = some p.xn ∧ b = some p.xd ∧ c = some p.yn ∧ d = some p.yd ∧ P2 = pP (mvP p dx dy) ∧ RtP (mvP p dx dy)) := by
  cases ho : (okB a b && okB c d) with
  | false => exact ⟨zero_point, false, rfl, zero_point_one, Lib.hid (fun W => pmoved_O a b c d dx dy W ha hb hc hd ho), fun h => by cases h⟩
  | true =>
    obtain ⟨p, hp, rfl, rfl, rfl, rfl⟩ := ok_pt4 ho
    cases hw : wayB dx dy with
    | false => exact ⟨zero_point, false, rfl, zero_point_one, Lib.hid (fun W => pmoved_far _ gP dx dy W hw), fun h => by cases h⟩
    | true =>
      obtain ⟨hx, hy⟩ := wayB_iff.1 hw
      have M := Lib.hid (fun W => pmoved_rt p dx dy W hp hx hy)
      cases hm : mvF p dx dy with
      | false =>
        rw [hm] at M
        exact ⟨zero_point, false, rfl, zero_point_one, M, fun h => by cases h⟩
      | true =>
        rw [hm] at M
        exact ⟨pP (mvP p dx dy), true, rfl, pO_one _ _ _ _, M, fun _ => ⟨p, hp, rfl, rfl, rfl, rfl, rfl, mv_rt hp hm⟩⟩
 obtain ⟨P2, bb, z2, o2, M2, hbb⟩ := M2
 cases hm : mvB s dx dy with
 | false =>
   rw [hm] at M1
   exact moves4_no1 bb _ _ _ P2 gS gP rfl z2 (oS _) o2 dx dy w M1 M2 HW
 | true =>
   rw [hm] at M1
   cases bb with
   | false => exact moves4_no2 _ _ _ P2 gS gP rfl z2 (oS _) o2 dx dy w M1 M2 HW
   | true =>
     obtain ⟨p, hp, rfl, rfl, rfl, rfl, rfl, hq⟩ := hbb rfl
     have hu : uS s dx dy = mvS s dx dy := by
      have h := hm
      unfold mvB at h
      rw [Bool.and_eq_true, Bool.and_eq_true] at h
      unfold uS
      rw [h.1, h.2.1]; rfl
     unfold mvB at hm
     rw [Bool.and_eq_true, Bool.and_eq_true] at hm
     obtain ⟨hs, hne⟩ := rightS_iff.1 hm.2.1
     obtain ⟨hs2, hne2⟩ := rightS_iff.1 hm.2.2
     rw [hu] at M1
     have at0 : ∀ {W : World}, Below w.heap.size w W → TabTz W ∧ 3 < W.heap.size := fun hW => ⟨ht.below hw0 hW, Nat.lt_of_lt_of_le hw0 hW.size⟩
     have A2 := Lib.hid (fun W (hW : Below w.heap.size w W) => asked_num (mvS s dx dy) (mvP p dx dy) W hs2 hne2 hq (at0 hW).1 (at0 hW).2)
     rw [side_mv, on_mv] at A2
     exact moves4_yes (sideV s p) (onB s p) _ _ _ _ gS gP rfl rfl (oS _) (pO_one _ _ _ _) dx dy w M1 M2 (Lib.hid (fun W hW => asked_num s p W hs hne hp (at0 hW).1 (at0 hW).2)) A2 HW
end Go.Proofs.YtdfmmkidknginaaGreatDoor
