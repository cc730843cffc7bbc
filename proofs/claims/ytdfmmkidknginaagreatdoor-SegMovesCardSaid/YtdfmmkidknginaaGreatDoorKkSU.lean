import Derived.Test.YtdfmmkidknginaaGreatDoorZKkZG
namespace Go.Proofs.YtdfmmkidknginaaGreatDoor
open Go.RowKit Go.Sort CrossMath

set_option maxRecDepth 100000 in
theorem asked_core (v : Int) (b : Bool) (S P : Array Value) (gS : AggTy Tryz.prog 25 S.size) (gP : AggTy Tryz.prog 46 P.size) (w : World)
 (H1 : Hid (∀ W, Below w.heap.size w W → Calls Tryz.prog 19 #[.agg S, .agg P] W fun e w' => e = .returned (.tuple #[.int .i64 v, .int .i64 0]) ∧ Below W.heap.size W w'))
 (H2 : Hid (∀ W, Below w.heap.size w W → Calls Tryz.prog 20 #[.agg S, .agg P] W fun e w' => e = .returned (.tuple #[.bool b, .int .i64 0]) ∧ Below W.heap.size W w')) :
 Calls Tryz.prog 34 #[.agg S, .agg P] w fun e w' => e = .returned (.tuple #[.int .i64 v, .bool b, .bool true]) ∧ Below w.heap.size w w' := by
 have rS : Row ((w.alloc (.cells S 25)).alloc (.cells P 46)) w.heap.size S.toList := (Row.at rfl S.toList _).alloc _
 have rP : Row ((w.alloc (.cells S 25)).alloc (.cells P 46)) (w.heap.size + 1) P.toList := Row.at (by simp) P.toList _
 have hB : Below w.heap.size w ((w.alloc (.cells S 25)).alloc (.cells P 46)) := ((Below.refl w.heap.size w).alloc (Nat.le_refl _) _).alloc (by simp) _
 go_enter Tryz.func34, Tryz.ntmps34
 go_wp2_with (first | (refine wpList_load_R rfl _ _ rfl w.heap.size rfl S rS gS ?_) | (refine wpList_load_R rfl _ _ rfl (w.heap.size + 1) rfl P rP gP ?_) | (refine wpList_load_W' _ _ rfl w.heap.size 0 rfl rfl S rS.whole gS ?_) | (refine wpList_load_W' _ _ rfl (w.heap.size + 1) 0 rfl rfl P rP.whole gP ?_))
 refine (H1.out _ hB).mono ?_
 rintro e w1 ⟨rfl, hb⟩
 replace rS := rS.after hb
 replace rP := rP.after hb
 replace hB := hB.trans (hb.mono hB.size)
 clear hb
 go_wp2_with (first | (refine wpList_load_R rfl _ _ rfl w.heap.size rfl S rS gS ?_) | (refine wpList_load_R rfl _ _ rfl (w.heap.size + 1) rfl P rP gP ?_) | (refine wpList_load_W' _ _ rfl w.heap.size 0 rfl rfl S rS.whole gS ?_) | (refine wpList_load_W' _ _ rfl (w.heap.size + 1) 0 rfl rfl P rP.whole gP ?_))
 refine (H2.out _ hB).mono ?_
 rintro e w2 ⟨rfl, hb⟩
 replace rS := rS.after hb
 replace rP := rP.after hb
 replace hB := hB.trans (hb.mono hB.size)
 clear hb
 go_wp2_with (first | (refine wpList_load_R rfl _ _ rfl w.heap.size rfl S rS gS ?_) | (refine wpList_load_R rfl _ _ rfl (w.heap.size + 1) rfl P rP gP ?_) | (refine wpList_load_W' _ _ rfl w.heap.size 0 rfl rfl S rS.whole gS ?_) | (refine wpList_load_W' _ _ rfl (w.heap.size + 1) 0 rfl rfl P rP.whole gP ?_))
 refine (num4_any _ _).mono ?_
 rintro e w3 ⟨rfl, hb⟩
 replace rS := rS.after hb
 replace rP := rP.after hb
 replace hB := hB.trans (hb.mono hB.size)
 clear hb
 go_wp2_with (first | (refine wpList_load_R rfl _ _ rfl w.heap.size rfl S rS gS ?_) | (refine wpList_load_R rfl _ _ rfl (w.heap.size + 1) rfl P rP gP ?_) | (refine wpList_load_W' _ _ rfl w.heap.size 0 rfl rfl S rS.whole gS ?_) | (refine wpList_load_W' _ _ rfl (w.heap.size + 1) 0 rfl rfl P rP.whole gP ?_))
 refine (num4_any _ _).mono ?_
 rintro e w4 ⟨rfl, hb⟩
 replace rS := rS.after hb
 replace rP := rP.after hb
 replace hB := hB.trans (hb.mono hB.size)
 clear hb
 go_wp2_with fail
 exact bodyPost_ret (by simp [results, Tryz.results34, go_sem]) rfl ⟨rfl, hB⟩
theorem asked_num (s : Sg) (p : Pt) (w : World) (hs : BdS s) (hne : NeS s) (hp : RtP p) (ht : TabTz w) (hw0 : 3 < w.heap.size) :
 Calls Tryz.prog 34 #[.agg (sgA s), .agg (pP p)] w fun e w' => e = .returned (.tuple #[.int .i64 (sideV s p), .bool (onB s p), .bool true]) ∧ Below w.heap.size w w' := by
 have at0 : ∀ {W : World}, Below w.heap.size w W → TabTz W ∧ 3 < W.heap.size := fun hW => ⟨ht.below hw0 hW, Nat.lt_of_lt_of_le hw0 hW.size⟩
 exact asked_core (sideV s p) (onB s p) (sgA s) (pP p) agg_seg agg_point w (Lib.hid (fun W hW => Side_num s p W hs hne hp (at0 hW).1 (at0 hW).2)) (Lib.hid (fun W hW => On_num s p W hs hne hp (at0 hW).1 (at0 hW).2))
end Go.Proofs.YtdfmmkidknginaaGreatDoor
