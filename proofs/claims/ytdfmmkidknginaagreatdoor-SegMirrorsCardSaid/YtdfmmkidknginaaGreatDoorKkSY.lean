import Derived.Test.YtdfmmkidknginaaGreatDoorKkSU
import Derived.Test.YtdfmmkidknginaaGreatDoorZKkZG
namespace Go.Proofs.YtdfmmkidknginaaGreatDoor
open Go.RowKit Go.Sort CrossMath

set_option maxRecDepth 100000 in
set_option maxHeartbeats 3200000 in
theorem mirrors_no1 (S P : Array Value) (gS : AggTy Tryz.prog 25 S.size) (_gP : AggTy Tryz.prog 46 P.size) (w : World)
 (H3 : Hid (∀ W, Calls Tryz.prog 12 #[.agg S] W fun e w' => e = .returned (.bool false) ∧ Below W.heap.size W w'))
 (HW : Hid (∀ W, Below w.heap.size w W → Calls Tryz.prog 17 #[] W fun e w' => e = .returned (.bool true) ∧ Below W.heap.size W w')) :
 Calls Tryz.prog 9 #[.agg S, .agg P] w fun e w' => e = .returned (.bool true) ∧ Below w.heap.size w w' := by
 have rS : Row ((w.alloc (.cells S 25)).alloc (.cells P 46)) w.heap.size S.toList := (Row.at rfl S.toList _).alloc _
 have rP : Row ((w.alloc (.cells S 25)).alloc (.cells P 46)) (w.heap.size + 1) P.toList := Row.at (by simp) P.toList _
 have hB : Below w.heap.size w ((w.alloc (.cells S 25)).alloc (.cells P 46)) := ((Below.refl w.heap.size w).alloc (Nat.le_refl _) _).alloc (by simp) _
 go_enter Tryz.func9, Tryz.ntmps9
 go_wp2_with (first | (refine wpList_load_R rfl _ _ rfl w.heap.size rfl S rS gS ?_) | (refine wpList_load_R rfl _ _ rfl (w.heap.size + 1) rfl P rP gP ?_) | (refine wpList_load_W' _ _ rfl w.heap.size 0 rfl rfl S rS.whole gS ?_) | (refine wpList_load_W' _ _ rfl (w.heap.size + 1) 0 rfl rfl P rP.whole gP ?_))
 refine (H3.out _).mono ?_
 rintro e w1 ⟨rfl, hb⟩
 replace rS := rS.after hb
 replace rP := rP.after hb
 replace hB := hB.trans (hb.mono hB.size)
 clear hb
 go_wp2_with (first | (refine wpList_load_R rfl _ _ rfl w.heap.size rfl S rS gS ?_) | (refine wpList_load_R rfl _ _ rfl (w.heap.size + 1) rfl P rP gP ?_) | (refine wpList_load_W' _ _ rfl w.heap.size 0 rfl rfl S rS.whole gS ?_) | (refine wpList_load_W' _ _ rfl (w.heap.size + 1) 0 rfl rfl P rP.whole gP ?_))
 refine (HW.out _ hB).mono ?_
 rintro e w2 ⟨rfl, hb⟩
 replace rS := rS.after hb
 replace rP := rP.after hb
 replace hB := hB.trans (hb.mono hB.size)
 clear hb
 go_wp2_with (first | (refine wpList_load_R rfl _ _ rfl w.heap.size rfl S rS gS ?_) | (refine wpList_load_R rfl _ _ rfl (w.heap.size + 1) rfl P rP gP ?_) | (refine wpList_load_W' _ _ rfl w.heap.size 0 rfl rfl S rS.whole gS ?_) | (refine wpList_load_W' _ _ rfl (w.heap.size + 1) 0 rfl rfl P rP.whole gP ?_))
 go_ret
 exact ⟨rfl, hB⟩
set_option maxRecDepth 100000 in
set_option maxHeartbeats 3200000 in
theorem mirrors_no2 (S P : Array Value) (gS : AggTy Tryz.prog 25 S.size) (gP : AggTy Tryz.prog 46 P.size) (w : World)
 (H3 : Hid (∀ W, Calls Tryz.prog 12 #[.agg S] W fun e w' => e = .returned (.bool true) ∧ Below W.heap.size W w'))
 (H4 : Hid (∀ W, Calls Tryz.prog 21 #[.agg P] W fun e w' => e = .returned (.bool false) ∧ Below W.heap.size W w'))
 (HW : Hid (∀ W, Below w.heap.size w W → Calls Tryz.prog 17 #[] W fun e w' => e = .returned (.bool true) ∧ Below W.heap.size W w')) :
 Calls Tryz.prog 9 #[.agg S, .agg P] w fun e w' => e = .returned (.bool true) ∧ Below w.heap.size w w' := by
 have rS : Row ((w.alloc (.cells S 25)).alloc (.cells P 46)) w.heap.size S.toList := (Row.at rfl S.toList _).alloc _
 have rP : Row ((w.alloc (.cells S 25)).alloc (.cells P 46)) (w.heap.size + 1) P.toList := Row.at (by simp) P.toList _
 have hB : Below w.heap.size w ((w.alloc (.cells S 25)).alloc (.cells P 46)) := ((Below.refl w.heap.size w).alloc (Nat.le_refl _) _).alloc (by simp) _
 go_enter Tryz.func9, Tryz.ntmps9
 go_wp2_with (first | (refine wpList_load_R rfl _ _ rfl w.heap.size rfl S rS gS ?_) | (refine wpList_load_R rfl _ _ rfl (w.heap.size + 1) rfl P rP gP ?_) | (refine wpList_load_W' _ _ rfl w.heap.size 0 rfl rfl S rS.whole gS ?_) | (refine wpList_load_W' _ _ rfl (w.heap.size + 1) 0 rfl rfl P rP.whole gP ?_))
 refine (H3.out _).mono ?_
 rintro e w1 ⟨rfl, hb⟩
 replace rS := rS.after hb
 replace rP := rP.after hb
 replace hB := hB.trans (hb.mono hB.size)
 clear hb
 go_wp2_with (first | (refine wpList_load_R rfl _ _ rfl w.heap.size rfl S rS gS ?_) | (refine wpList_load_R rfl _ _ rfl (w.heap.size + 1) rfl P rP gP ?_) | (refine wpList_load_W' _ _ rfl w.heap.size 0 rfl rfl S rS.whole gS ?_) | (refine wpList_load_W' _ _ rfl (w.heap.size + 1) 0 rfl rfl P rP.whole gP ?_))
 refine (H4.out _).mono ?_
 rintro e w2 ⟨rfl, hb⟩
 replace rS := rS.after hb
 replace rP := rP.after hb
 replace hB := hB.trans (hb.mono hB.size)
 clear hb
 go_wp2_with (first | (refine wpList_load_R rfl _ _ rfl w.heap.size rfl S rS gS ?_) | (refine wpList_load_R rfl _ _ rfl (w.heap.size + 1) rfl P rP gP ?_) | (refine wpList_load_W' _ _ rfl w.heap.size 0 rfl rfl S rS.whole gS ?_) | (refine wpList_load_W' _ _ rfl (w.heap.size + 1) 0 rfl rfl P rP.whole gP ?_))
 refine (HW.out _ hB).mono ?_
 rintro e w3 ⟨rfl, hb⟩
 replace rS := rS.after hb
 replace rP := rP.after hb
 replace hB := hB.trans (hb.mono hB.size)
 clear hb
 go_wp2_with (first | (refine wpList_load_R rfl _ _ rfl w.heap.size rfl S rS gS ?_) | (refine wpList_load_R rfl _ _ rfl (w.heap.size + 1) rfl P rP gP ?_) | (refine wpList_load_W' _ _ rfl w.heap.size 0 rfl rfl S rS.whole gS ?_) | (refine wpList_load_W' _ _ rfl (w.heap.size + 1) 0 rfl rfl P rP.whole gP ?_))
 go_ret
 exact ⟨rfl, hB⟩
set_option maxRecDepth 100000 in
set_option maxHeartbeats 3200000 in
theorem mirrors_yes (v v2 : Int) (b : Bool) (S2 P2 : Array Value) (hv : IntKind.i64.wrap (-v2) = v) (S P : Array Value) (gS : AggTy Tryz.prog 25 S.size) (gP : AggTy Tryz.prog 46 P.size) (w : World)
 (H3 : Hid (∀ W, Calls Tryz.prog 12 #[.agg S] W fun e w' => e = .returned (.bool true) ∧ Below W.heap.size W w'))
 (H4 : Hid (∀ W, Calls Tryz.prog 21 #[.agg P] W fun e w' => e = .returned (.bool true) ∧ Below W.heap.size W w'))
 (H1 : Hid (∀ W, Below w.heap.size w W → Calls Tryz.prog 34 #[.agg S, .agg P] W fun e w' => e = .returned (.tuple #[.int .i64 v, .bool b, .bool true]) ∧ Below W.heap.size W w'))
 (H5 : Hid (∀ W, Calls Tryz.prog 35 #[.agg S] W fun e w' => e = .returned (.agg S2) ∧ Below W.heap.size W w'))
 (H6 : Hid (∀ W, Calls Tryz.prog 36 #[.agg P] W fun e w' => e = .returned (.agg P2) ∧ Below W.heap.size W w'))
 (H7 : Hid (∀ W, Below w.heap.size w W → Calls Tryz.prog 34 #[.agg S2, .agg P2] W fun e w' => e = .returned (.tuple #[.int .i64 v2, .bool b, .bool true]) ∧ Below W.heap.size W w'))
 (HW : Hid (∀ W, Below w.heap.size w W → Calls Tryz.prog 17 #[] W fun e w' => e = .returned (.bool true) ∧ Below W.heap.size W w')) :
 Calls Tryz.prog 9 #[.agg S, .agg P] w fun e w' => e = .returned (.bool true) ∧ Below w.heap.size w w' := by
 have rS : Row ((w.alloc (.cells S 25)).alloc (.cells P 46)) w.heap.size S.toList := (Row.at rfl S.toList _).alloc _
 have rP : Row ((w.alloc (.cells S 25)).alloc (.cells P 46)) (w.heap.size + 1) P.toList := Row.at (by simp) P.toList _
 have hB : Below w.heap.size w ((w.alloc (.cells S 25)).alloc (.cells P 46)) := ((Below.refl w.heap.size w).alloc (Nat.le_refl _) _).alloc (by simp) _
 go_enter Tryz.func9, Tryz.ntmps9
 go_wp2_with (first | (refine wpList_load_R rfl _ _ rfl w.heap.size rfl S rS gS ?_) | (refine wpList_load_R rfl _ _ rfl (w.heap.size + 1) rfl P rP gP ?_) | (refine wpList_load_W' _ _ rfl w.heap.size 0 rfl rfl S rS.whole gS ?_) | (refine wpList_load_W' _ _ rfl (w.heap.size + 1) 0 rfl rfl P rP.whole gP ?_))
 refine (H3.out _).mono ?_
 rintro e w1 ⟨rfl, hb⟩
 replace rS := rS.after hb
 replace rP := rP.after hb
 replace hB := hB.trans (hb.mono hB.size)
 clear hb
 go_wp2_with (first | (refine wpList_load_R rfl _ _ rfl w.heap.size rfl S rS gS ?_) | (refine wpList_load_R rfl _ _ rfl (w.heap.size + 1) rfl P rP gP ?_) | (refine wpList_load_W' _ _ rfl w.heap.size 0 rfl rfl S rS.whole gS ?_) | (refine wpList_load_W' _ _ rfl (w.heap.size + 1) 0 rfl rfl P rP.whole gP ?_))
 refine (H4.out _).mono ?_
 rintro e w2 ⟨rfl, hb⟩
 replace rS := rS.after hb
 replace rP := rP.after hb
 replace hB := hB.trans (hb.mono hB.size)
 clear hb
 go_wp2_with (first | (refine wpList_load_R rfl _ _ rfl w.heap.size rfl S rS gS ?_) | (refine wpList_load_R rfl _ _ rfl (w.heap.size + 1) rfl P rP gP ?_) | (refine wpList_load_W' _ _ rfl w.heap.size 0 rfl rfl S rS.whole gS ?_) | (refine wpList_load_W' _ _ rfl (w.heap.size + 1) 0 rfl rfl P rP.whole gP ?_))
 refine (H1.out _ hB).mono ?_
 rintro e w3 ⟨rfl, hb⟩
 replace rS := rS.after hb
 replace rP := rP.after hb
 replace hB := hB.trans (hb.mono hB.size)
 clear hb
 go_upto_region 4 with fail
 have HS := Lib.hid rS
 have HP := Lib.hid rP
 have hb0 := hB
 clear hB rS rP H1 H3 H4
 refine wp_region_fct (by kernel_rfl) [] (fun ix => match ix with
  | 0 => some (Value.agg S)
  | 1 => some (Value.agg S2)
  | 2 => some (Value.agg P)
  | 3 => some (Value.agg P2)
  | 4 => some (Value.tuple #[.int .i64 v2, .bool b, .bool true])
  | 5 => some (Value.tuple #[.int .i64 v2, .bool b, .bool true])
  | 6 => some (Value.int .i64 v2)
  | 7 => some (Value.bool b)
  | 8 => some (Value.bool true)
  | 9 => some (Value.int .i64 v2)
  | 10 => some (Value.bool b)
  | 11 => some (Value.bool true)
  | _ => none) (by intro j hj; cases hj) 12 [] (fun _ _ => False) (by kernel_rfl) (by kernel_rfl) (by rfl) ?_ ?_
 ·intro listed a W ix o hI ho hdep hB hF K hK hKf
  have hi : ix < 12 := (Array.getElem?_eq_some_iff.1 ho).1
  have hcase : ix = 0 ∨ ix = 1 ∨ ix = 2 ∨ ix = 3 ∨ ix = 4 ∨ ix = 5 ∨ ix = 6 ∨ ix = 7 ∨ ix = 8 ∨ ix = 9 ∨ ix = 10 ∨ ix = 11 := by omega
  clear hi
  rcases hcase with rfl | rfl | rfl | rfl | rfl | rfl | rfl | rfl | rfl | rfl | rfl | rfl
  ·obtain rfl := oI ho
   have q2 : a.tmps[2]?.getD undef = Value.pointer (some ⟨w.heap.size, 0, none⟩) := hI.old 2 (noDst_spec (by kernel_rfl))
   clear hdep hI ho hF
   exact wp_loadM _ _ rfl w.heap.size (by rw [act_tmp']; exact q2) S (HS.out.after hB) gS (hK (by decide) (Value.agg S) _ (fun u hu => oV hu) (Below.refl _ _) (fct_none rfl))
  ·obtain rfl := oI ho
   have d0 : listed.getD 0 false = true := hdep ⟨0, .data⟩ (by simp) rfl
   have q28 : a.tmps[28]?.getD undef = Value.agg S := hI.val 0 _ 28 _ rfl rfl rfl d0
   clear hdep hI ho hF
   go_simp
   refine (H5.out _).mono ?_
   rintro e W2 ⟨rfl, hb⟩
   exact hK (by decide) (Value.agg S2) _ (fun u hu => oV hu) hb (fct_none rfl)
  ·obtain rfl := oI ho
   have q3 : a.tmps[3]?.getD undef = Value.pointer (some ⟨(w.heap.size + 1), 0, none⟩) := hI.old 3 (noDst_spec (by kernel_rfl))
   clear hdep hI ho hF
   exact wp_loadM _ _ rfl (w.heap.size + 1) (by rw [act_tmp']; exact q3) P (HP.out.after hB) gP (hK (by decide) (Value.agg P) _ (fun u hu => oV hu) (Below.refl _ _) (fct_none rfl))
  ·obtain rfl := oI ho
   have d2 : listed.getD 2 false = true := hdep ⟨2, .data⟩ (by simp) rfl
   have q30 : a.tmps[30]?.getD undef = Value.agg P := hI.val 2 _ 30 _ rfl rfl rfl d2
   clear hdep hI ho hF
   go_simp
   refine (H6.out _).mono ?_
   rintro e W2 ⟨rfl, hb⟩
   exact hK (by decide) (Value.agg P2) _ (fun u hu => oV hu) hb (fct_none rfl)
  ·obtain rfl := oI ho
   have d1 : listed.getD 1 false = true := hdep ⟨1, .data⟩ (by simp) rfl
   have q29 : a.tmps[29]?.getD undef = Value.agg S2 := hI.val 1 _ 29 _ rfl rfl rfl d1
   have d3 : listed.getD 3 false = true := hdep ⟨3, .data⟩ (by simp) rfl
   have q31 : a.tmps[31]?.getD undef = Value.agg P2 := hI.val 3 _ 31 _ rfl rfl rfl d3
   have HC := Lib.hid (H7.out W (hb0.trans (hB.mono hb0.size)))
   clear hdep hI ho hF
   go_simp
   refine HC.out.mono ?_
   rintro e W2 ⟨rfl, hb⟩
   exact hK (by decide) (Value.tuple #[.int .i64 v2, .bool b, .bool true]) _ (fun u hu => oV hu) hb (fct_none rfl)
  ·obtain rfl := oI ho
   have d4 : listed.getD 4 false = true := hdep ⟨4, .data⟩ (by simp) rfl
   have q32 : a.tmps[32]?.getD undef = Value.tuple #[.int .i64 v2, .bool b, .bool true] := hI.val 4 _ 32 _ rfl rfl rfl d4
   clear hdep hI ho hF
   go_simp
   exact hK (by decide) (Value.tuple #[.int .i64 v2, .bool b, .bool true]) _ (fun u hu => oV hu) (Below.refl _ _) (fct_none rfl)
  ·obtain rfl := oI ho
   have d5 : listed.getD 5 false = true := hdep ⟨5, .data⟩ (by simp) rfl
   have q27 : a.tmps[27]?.getD undef = Value.tuple #[.int .i64 v2, .bool b, .bool true] := hI.val 5 _ 27 _ rfl rfl rfl d5
   clear hdep hI ho hF
   go_simp
   exact hK (by decide) (Value.int .i64 v2) _ (fun u hu => oV hu) (Below.refl _ _) (fct_none rfl)
  ·obtain rfl := oI ho
   have d5 : listed.getD 5 false = true := hdep ⟨5, .data⟩ (by simp) rfl
   have q27 : a.tmps[27]?.getD undef = Value.tuple #[.int .i64 v2, .bool b, .bool true] := hI.val 5 _ 27 _ rfl rfl rfl d5
   clear hdep hI ho hF
   go_simp
   exact hK (by decide) (Value.bool b) _ (fun u hu => oV hu) (Below.refl _ _) (fct_none rfl)
  ·obtain rfl := oI ho
   have d5 : listed.getD 5 false = true := hdep ⟨5, .data⟩ (by simp) rfl
   have q27 : a.tmps[27]?.getD undef = Value.tuple #[.int .i64 v2, .bool b, .bool true] := hI.val 5 _ 27 _ rfl rfl rfl d5
   clear hdep hI ho hF
   go_simp
   exact hK (by decide) (Value.bool true) _ (fun u hu => oV hu) (Below.refl _ _) (fct_none rfl)
  ·obtain rfl := oI ho
   have d6 : listed.getD 6 false = true := hdep ⟨6, .data⟩ (by simp) rfl
   have q33 : a.tmps[33]?.getD undef = Value.int .i64 v2 := hI.val 6 _ 33 _ rfl rfl rfl d6
   clear hdep hI ho hF
   go_simp
   exact hK (by decide) (Value.int .i64 v2) _ (fun u hu => oV hu) (Below.refl _ _) (fct_none rfl)
  ·obtain rfl := oI ho
   have d7 : listed.getD 7 false = true := hdep ⟨7, .data⟩ (by simp) rfl
   have q34 : a.tmps[34]?.getD undef = Value.bool b := hI.val 7 _ 34 _ rfl rfl rfl d7
   clear hdep hI ho hF
   go_simp
   exact hK (by decide) (Value.bool b) _ (fun u hu => oV hu) (Below.refl _ _) (fct_none rfl)
  ·obtain rfl := oI ho
   have d8 : listed.getD 8 false = true := hdep ⟨8, .data⟩ (by simp) rfl
   have q35 : a.tmps[35]?.getD undef = Value.bool true := hI.val 8 _ 35 _ rfl rfl rfl d8
   clear hdep hI ho hF
   go_simp
   exact hK (by decide) (Value.bool true) _ (fun u hu => oV hu) (Below.refl _ _) (fct_none rfl)
 ·intro listed a W hI hall hfin hend
  obtain ⟨hBW, _⟩ := hend rfl
  have q8 : a.tmps[8]?.getD undef = Value.int .i64 v2 := hI.val 9 _ 8 _ rfl rfl rfl (hall 9 (by decide))
  have q9 : a.tmps[9]?.getD undef = Value.bool b := hI.val 10 _ 9 _ rfl rfl rfl (hall 10 (by decide))
  have q10 : a.tmps[10]?.getD undef = Value.bool true := hI.val 11 _ 10 _ rfl rfl rfl (hall 11 (by decide))
  have q5 : a.tmps[5]?.getD undef = Value.int .i64 v := hI.old 5 (noDst_spec (by kernel_rfl))
  have q6 : a.tmps[6]?.getD undef = Value.bool b := hI.old 6 (noDst_spec (by kernel_rfl))
  have q7 : a.tmps[7]?.getD undef = Value.bool true := hI.old 7 (noDst_spec (by kernel_rfl))
  have hdf : a.defers = [] := hI.defers
  have hsz : a.tmps.size = 54 := hI.size
  have hB := hb0.trans (hBW.mono hb0.size)
  have HC := Lib.hid (HW.out W hB)
  clear hBW hall hfin hend hI hb0 HS HP H5 H6 H7 HW
  obtain ⟨tm, df⟩ := a
  simp only at hdf q5 q6 q7 q8 q9 q10 hsz
  subst hdf
  have i4 : 4 < tm.size := by omega
  have i36 : 36 < tm.size := by omega
  have i37 : 37 < tm.size := by omega
  have i38 : 38 < tm.size := by omega
  have i39 : 39 < tm.size := by omega
  have i40 : 40 < tm.size := by omega
  have i41 : 41 < tm.size := by omega
  have i42 : 42 < tm.size := by omega
  have i43 : 43 < tm.size := by omega
  have i44 : 44 < tm.size := by omega
  have i45 : 45 < tm.size := by omega
  have i46 : 46 < tm.size := by omega
  have i47 : 47 < tm.size := by omega
  have i48 : 48 < tm.size := by omega
  have i49 : 49 < tm.size := by omega
  have i50 : 50 < tm.size := by omega
  have i51 : 51 < tm.size := by omega
  have i52 : 52 < tm.size := by omega
  have i53 : 53 < tm.size := by omega
  clear hsz
  go_wp2_with fail
  refine HC.out.mono ?_
  rintro e w9 ⟨rfl, hb⟩
  replace hB := hB.trans (hb.mono hB.size)
  clear hb HC
  go_wp2_with fail
  exact bodyPost_ret (by simp [results, Tryz.results9, go_sem, i4]) rfl ⟨rfl, hB⟩

theorem mirrors4_true (s : Sg) (a b c d : Option Int) (w : World) (ha : oM a < T256) (hb : oM b < T256) (hc : oM c < T256) (hd : oM d < T256) (htab : Tab10 w) (ht : TabTz w) (hcu : CutOk w) (hw0 : 3 < w.heap.size) :
 Calls Tryz.prog 9 #[.agg (sgA s), .agg (pO a b c d)] w fun e w' => e = .returned (.bool true) ∧ Below w.heap.size w w' := by
 have HW : Hid (∀ W, Below w.heap.size w W → Calls Tryz.prog 17 #[] W fun e w' => e = .returned (.bool true) ∧ Below W.heap.size W w') := Lib.hid (fun W hW => works4_true W (htab.below hW) (ht.below hw0 hW) (hcu.below hW) (Nat.lt_of_lt_of_le hw0 hW.size))
 have gS : AggTy Tryz.prog 25 (sgA s).size := agg_seg
 have gP : AggTy Tryz.prog 46 (pO a b c d).size := agg_point
 have HR := Lib.hid (fun W => refright_any s W)
 cases hr : rightS s with
 | false =>
   rw [hr] at HR
   exact mirrors_no1 _ _ gS gP w HR HW
 | true =>
   rw [hr] at HR
   obtain ⟨hs, hne⟩ := rightS_iff.1 hr
   have HP := Lib.hid (fun W => refpoint_O a b c d ha hb hc hd W)
   have at0 : ∀ {W : World}, Below w.heap.size w W → TabTz W ∧ 3 < W.heap.size := fun hW => ⟨ht.below hw0 hW, Nat.lt_of_lt_of_le hw0 hW.size⟩
   cases ho : (okB a b && okB c d) with
   | false =>
     rw [ho] at HP
     exact mirrors_no2 _ _ gS gP w HR HP HW
   | true =>
     rw [ho] at HP
     obtain ⟨p, hp, rfl, rfl, rfl, rfl⟩ := ok_pt4 ho
     have hs' := hs
     obtain ⟨h1, h2, h3, h4⟩ := hs'
     have hs2 : BdS (swS s) := ⟨h2, h1, h4, h3⟩
     have hne2 : NeS (swS s) := fun h => hne ⟨h.2, h.1⟩
     have hp2 : RtP (swP p) := ⟨hp.2, hp.1⟩
     have hv : IntKind.i64.wrap (-sideV (swS s) (swP p)) = sideV s p := by
      rw [side_sw, Int.neg_neg, IntKind.wrap_i64]
      have := sign3 (valS s p)
      rw [← sideV_val] at this
      omega
     have H7 := Lib.hid (fun W (hW : Below w.heap.size w W) => asked_num (swS s) (swP p) W hs2 hne2 hp2 (at0 hW).1 (at0 hW).2)
     rw [on_sw] at H7
     exact mirrors_yes (sideV s p) (sideV (swS s) (swP p)) (onB s p) _ _ hv _ _ gS gP w HR HP (Lib.hid (fun W hW => asked_num s p W hs hne hp (at0 hW).1 (at0 hW).2)) (Lib.hid (fun W => swapS_any s W)) (Lib.hid (fun W => swapP_any p W)) H7 HW
end Go.Proofs.YtdfmmkidknginaaGreatDoor
