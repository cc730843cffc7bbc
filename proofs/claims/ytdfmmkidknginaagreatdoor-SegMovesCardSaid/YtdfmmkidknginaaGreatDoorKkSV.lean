import Derived.Test.YtdfmmkidknginaaGreatDoorZKkZG
namespace Go.Proofs.YtdfmmkidknginaaGreatDoor
open Go.RowKit Go.Sort CrossMath

set_option maxRecDepth 100000 in
set_option maxHeartbeats 6400000 in
theorem pmovedG_core (oe : Int) (R S D : Array Value) (hR : R.size = 10) (hS : S.size = 10) (hD : D.size = 20) (oD : OneC D) (dx dy : Int) (u v s1 s2 s3 s4 : Bool) (m p n q k j i l mx kx my ky g1 : Nat) (m3 p3 k3 j3 m4 p4 k4 j4 : Nat) (w : World)
 (h1 : decide (dx < -67108864) = false) (h2 : decide (67108864 < dx) = false) (h3 : decide (dy < -67108864) = false) (h4 : decide (67108864 < dy) = false)
 (hRt : ∀ W, Calls Tryz.prog 21 #[.agg (R ++ S)] W (fun e w' => e = .returned (.bool true) ∧ Below W.heap.size W w'))
 (hFr : ∀ W, Calls Tryz.prog 22 #[.agg (R ++ S)] W (PqPost W u v m p n q k j i l))
 (hNx : ∀ W, Calls Tryz.prog 45 #[.int .i64 dx] W (RatPost W s1 mx kx g1))
 (hNy : ∀ W, Calls Tryz.prog 45 #[.int .i64 dy] W (RatPost W s2 my ky g1))
 (hAx : ∀ A ka B jb X x Y y W, k ≤ ka → j ≤ jb → DS W m A → DS W p B → DS W mx X → DS W 1 Y → Calls Tryz.prog 72 #[.agg #[.bool u, .slice A k ka, .bool false, .slice B j jb], .agg #[.bool s1, .slice X kx x, .bool false, .slice Y g1 y]] W (RqPost W s3 false m3 p3 k3 j3))
 (hAy : ∀ E ie G lg X x Y y W, i ≤ ie → l ≤ lg → DS W n E → DS W q G → DS W my X → DS W 1 Y → Calls Tryz.prog 72 #[.agg #[.bool v, .slice E i ie, .bool false, .slice G l lg], .agg #[.bool s2, .slice X ky x, .bool false, .slice Y g1 y]] W (RqPost W s4 false m4 p4 k4 j4))
 (hO : ∀ A c B d E f G h W, DS W m3 A → DS W p3 B → DS W m4 E → DS W p4 G → Calls Tryz.prog 71 #[.agg #[.bool s3, .slice A k3 c, .bool false, .slice B j3 d, .bool s4, .slice E k4 f, .bool false, .slice G j4 h]] W (fun e w' => e = .returned (.tuple #[.agg D, .int .i64 oe]) ∧ Below W.heap.size W w')) :
 Calls Tryz.prog 33 #[.agg (R ++ S), .int .i64 dx, .int .i64 dy] w fun e w' => e = .returned (.tuple #[.agg D, .bool (oe == 0)]) ∧ Below w.heap.size w w' := by
 have H_hRt := Lib.hid hRt; clear hRt
 have H_hFr := Lib.hid hFr; clear hFr
 have H_hNx := Lib.hid hNx; clear hNx
 have H_hNy := Lib.hid hNy; clear hNy
 have H_hAx := Lib.hid hAx; clear hAx
 have H_hAy := Lib.hid hAy; clear hAy
 have H_hO := Lib.hid hO; clear hO
 have H_oD := Lib.hid oD; clear oD
 have tP : AggTy Tryz.prog 46 (R ++ S).size := by rw [show (R ++ S).size = 20 by simp [hR, hS]]; exact agg_point
 have tD : AggTy Tryz.prog 46 D.size := by rw [hD]; exact agg_point
 have HD := Lib.hid hD
 have r0 := (Row.at (w := w) rfl (R ++ S).toList 46).alloc (.cells zero_point 46)
 have rz := Row.at (w := w.alloc (.cells (R ++ S) 46)) (n := w.heap.size + 1) (by simp) zero_point.toList 46
 have hB := ((Below.refl w.heap.size w).alloc (Nat.le_refl _) (.cells (R ++ S) 46)).alloc (by simp) (.cells zero_point 46)
 clear hR hS hD
 go_enter Tryz.func33, Tryz.ntmps33
 go_wp2_with (refine wpList_load_W' _ _ rfl w.heap.size 0 rfl rfl (R ++ S) r0.whole tP ?_)
 refine (H_hRt.out _).mono ?_
 rintro e w1 ⟨rfl, hb⟩
 have r1 := r0.after hb
 replace rz := rz.after hb
 replace hB := hB.trans (hb.mono hB.size)
 clear hb r0
 go_wp2_with (refine wpList_load_R rfl _ _ rfl w.heap.size rfl (R ++ S) r1 tP ?_)
 refine (H_hFr.out _).mono ?_
 rintro e w2 ⟨A, ka, B, jb, E, ie, G, lg, rfl, hc, hd, hb⟩
 replace rz := rz.after hb
 replace hB := hB.trans (hb.mono hB.size)
 clear r1
 have HC := Lib.hid hc
 have HDS := Lib.hid hd
 clear hb hc hd h1 h2 h3 h4
 go_upto_region 4 with (refine wpList_store_R rfl _ _ _ rfl _ #[.bool u, .slice A k ka, .bool false, .slice B j jb, .bool v, .slice E i ie, .bool false, .slice G l lg] rfl rfl _ (Row.at rfl [.bool false, .slice none 0 0, .bool false, .slice none 0 0, .bool false, .slice none 0 0, .bool false, .slice none 0 0] _) (by rfl) agg_rpoint (by simp [OneC, Value.oneCell']) ?_; intro w3 r3 o3)
 have hlt : w.heap.size + 1 < w2.heap.size := rz.lt
 have hb3 := (Below.refl w2.heap.size w2).alloc (Nat.le_refl _) (.cells #[.bool false, .slice none 0 0, .bool false, .slice none 0 0, .bool false, .slice none 0 0, .bool false, .slice none 0 0] 57)
 have zz := (Row.at (w := w2) rfl [.bool false, .slice none 0 0, .bool false, .slice none 0 0, .bool false, .slice none 0 0, .bool false, .slice none 0 0] 57).c 0 rfl
 have HDS3 : Hid (DS w3 m A ∧ DS w3 p B ∧ DS w3 n E ∧ DS w3 q G) := Lib.hid ⟨(HDS.out.1.below hb3).on o3 zz, (HDS.out.2.1.below hb3).on o3 zz, (HDS.out.2.2.1.below hb3).on o3 zz, (HDS.out.2.2.2.below hb3).on o3 zz⟩
 have hK : KS w [(w.heap.size + 1, zero_point), (w2.heap.size, #[.bool u, .slice A k ka, .bool false, .slice B j jb, .bool v, .slice E i ie, .bool false, .slice G l lg])] w3 := by
  refine ⟨fun x hx => ?_, below_on (hB.alloc hB.size _) o3 hB.size⟩
  simp only [List.mem_cons, List.not_mem_nil, or_false] at hx
  rcases hx with rfl | rfl
  ·exact o3.row (by simp only; omega) (rz.alloc _)
  ·exact r3
 clear zz hb3 r3 o3 rz hB HDS hlt
 generalize w2.heap.size = C at *
 generalize hL : [(w.heap.size + 1, zero_point), (C, (#[.bool u, .slice A k ka, .bool false, .slice B j jb, .bool v, .slice E i ie, .bool false, .slice G l lg] : Array Value))] = L at hK
 have HL := Lib.hid hL; clear hL
 have y0 : ∀ W, KS w L W → W.cell? ⟨C, 0, none⟩ = some (.bool u) := fun W h => h.c 1 (by rw [← HL.out]; rfl) 0 rfl
 have y1 : ∀ W, KS w L W → W.cell? ⟨C, 1, none⟩ = some (.slice A k ka) := fun W h => h.c 1 (by rw [← HL.out]; rfl) 1 rfl
 have y2 : ∀ W, KS w L W → W.cell? ⟨C, 2, none⟩ = some (.bool false) := fun W h => h.c 1 (by rw [← HL.out]; rfl) 2 rfl
 have y3 : ∀ W, KS w L W → W.cell? ⟨C, 3, none⟩ = some (.slice B j jb) := fun W h => h.c 1 (by rw [← HL.out]; rfl) 3 rfl
 have y4 : ∀ W, KS w L W → W.cell? ⟨C, 4, none⟩ = some (.bool v) := fun W h => h.c 1 (by rw [← HL.out]; rfl) 4 rfl
 have y5 : ∀ W, KS w L W → W.cell? ⟨C, 5, none⟩ = some (.slice E i ie) := fun W h => h.c 1 (by rw [← HL.out]; rfl) 5 rfl
 have y6 : ∀ W, KS w L W → W.cell? ⟨C, 6, none⟩ = some (.bool false) := fun W h => h.c 1 (by rw [← HL.out]; rfl) 6 rfl
 have y7 : ∀ W, KS w L W → W.cell? ⟨C, 7, none⟩ = some (.slice G l lg) := fun W h => h.c 1 (by rw [← HL.out]; rfl) 7 rfl
 have HY := Lib.hid (And.intro y0 (And.intro y1 (And.intro y2 (And.intro y3 (And.intro y4 (And.intro y5 (And.intro y6 y7)))))))
 clear y0 y1 y2 y3 y4 y5 y6 y7
 generalize hF : (fun ix => match ix with
  | 3 => some (37, fun x W => RnAt x s1 mx kx g1 W)
  | 4 => some (38, fun x W => RqAt x s3 false m3 p3 k3 j3 W)
  | 8 => some (42, fun x W => RnAt x s2 my ky g1 W)
  | 9 => some (43, fun x W => RqAt x s4 false m4 p4 k4 j4 W)
  | 10 => some (44, fun x W => PqAt x s3 s4 m3 p3 m4 p4 k3 j3 k4 j4 W)
  | _ => none : Nat → Option (Nat × (Value → World → Prop))) = F
 have hst : ∀ i u T, F i = some (u, T) → ∀ v, Stays (T v) := by
  intro i u T h v
  rw [← hF] at h
  dsimp only at h
  split at h <;> first | (cases h; done) | (cases h; first | exact RqAt.stays .. | exact PqAt.stays .. | exact RnAt.stays ..)
 have hst0 : Stays (fun W => DS W m A ∧ DS W p B ∧ DS W n E ∧ DS W q G) :=
  ⟨fun _ _ h hb => ⟨h.1.below hb, h.2.1.below hb, h.2.2.1.below hb, h.2.2.2.below hb⟩, fun _ _ _ _ h ho hX => ⟨h.1.on ho hX, h.2.1.on ho hX, h.2.2.1.on ho hX, h.2.2.2.on ho hX⟩⟩
 have hsl : ∀ j u T, F j = some (u, T) → (j = 3 ∧ u = 37) ∨ (j = 4 ∧ u = 38) ∨ (j = 8 ∧ u = 42) ∨ (j = 9 ∧ u = 43) ∨ (j = 10 ∧ u = 44) := by
  intro i u T h
  rw [← hF] at h
  dsimp only at h
  split at h <;> first | (cases h; done) | (cases h; simp)
 have f3 : F 3 = some (37, fun x W => RnAt x s1 mx kx g1 W) := by subst hF; rfl
 have f4 : F 4 = some (38, fun x W => RqAt x s3 false m3 p3 k3 j3 W) := by subst hF; rfl
 have f8 : F 8 = some (42, fun x W => RnAt x s2 my ky g1 W) := by subst hF; rfl
 have f9 : F 9 = some (43, fun x W => RqAt x s4 false m4 p4 k4 j4 W) := by subst hF; rfl
 have f10 : F 10 = some (44, fun x W => PqAt x s3 s4 m3 p3 m4 p4 k3 j3 k4 j4 W) := by subst hF; rfl
 have HFF := Lib.hid (And.intro hst (And.intro hst0 (And.intro hsl (And.intro f3 (And.intro f4 (And.intro f8 (And.intro f9 f10)))))))
 clear hst hst0 hsl f3 f4 f8 f9 f10 hF
 dsimp only [Act.put]
 go_cut [9, 10] from 33 to 47 (fun x y wx => ∃ X, x = .pointer (some ⟨X, 0, none⟩) ∧ y = .int .i64 oe ∧ Hid (Below w.heap.size w wx ∧ Row wx X D.toList ∧ Row wx (w.heap.size + 1) zero_point.toList))
 case first =>
  refine wp_region_midG (by kernel_rfl) [] (fun ix => match ix with
   | 0 => some (.pointer (some ⟨C, 0, none⟩))
   | 1 => some (.agg #[.bool u, .slice A k ka, .bool false, .slice B j jb])
   | 2 => some (.int .i64 dx)
   | 5 => some (.pointer (some ⟨C, 4, none⟩))
   | 6 => some (.agg #[.bool v, .slice E i ie, .bool false, .slice G l lg])
   | 7 => some (.int .i64 dy)
   | 11 => some (.tuple #[.agg D, .int .i64 oe])
   | 12 => some (.tuple #[.agg D, .int .i64 oe])
   | 13 => some (.agg D)
   | 14 => some (.int .i64 oe)
   | 17 => some (.int .i64 oe)
   | _ => none) (fun j hj => by cases hj) (FactS w (fun W => DS W m A ∧ DS W p B ∧ DS W n E ∧ DS W q G) L F 15 9 16 zero_point D) (by kernel_rfl) (FactS.start hK.drew HDS3.out _) ?_ ?_
  ·intro listed a W ix o hI ho h0 hdep K hK'
   have hi : ix < 18 := (Array.getElem?_eq_some_iff.1 ho).1
   have hS := hI.world
   have HZ := Lib.hid (show a.tmps.size = 51 from hI.size)
   have hls : listed.size = 18 := hI.lsize
   have q1 : a.tmps[1]?.getD undef = .int .i64 dx := hI.old 1 (noDst_spec (by kernel_rfl))
   have q2 : a.tmps[2]?.getD undef = .int .i64 dy := hI.old 2 (noDst_spec (by kernel_rfl))
   have q8 : a.tmps[8]?.getD undef = .pointer (some ⟨C, 0, none⟩) := hI.old 8 (noDst_spec (by kernel_rfl))
   have h0' := getD_no h0
   have hcase : ix = 0 ∨ ix = 1 ∨ ix = 2 ∨ ix = 3 ∨ ix = 4 ∨ ix = 5 ∨ ix = 6 ∨ ix = 7 ∨ ix = 8 ∨ ix = 9 ∨ ix = 10 ∨ ix = 11 ∨ ix = 12 ∨ ix = 13 ∨ ix = 14 ∨ ix = 15 ∨ ix = 16 ∨ ix = 17 := by omega
   clear hi
   rcases hcase with rfl | rfl | rfl | rfl | rfl | rfl | rfl | rfl | rfl | rfl | rfl | rfl | rfl | rfl | rfl | rfl | rfl | rfl
   ·obtain rfl := oI ho
    clear hdep hI ho
    go_simp
    exact hK' (.pointer (some ⟨C, 0, none⟩)) _ (fun u hu => oV hu) (hS.next HFF.out.2.1 HFF.out.1 (Below.refl _ _) 0 34 _ (by decide) (by decide) (by rw [HZ.out]; decide) (fun j u' T hj => by have := HFF.out.2.2.1 j u' T hj; omega) (fun u' T hj => by have := HFF.out.2.2.1 _ u' T hj; omega))
   ·obtain rfl := oI ho
    have d0 : listed.getD 0 false = true := hdep ⟨0, .data⟩ (by simp) rfl
    have q34 : a.tmps[34]?.getD undef = .pointer (some ⟨C, 0, none⟩) := hI.val 0 _ 34 _ rfl rfl rfl d0
    obtain ⟨y0, y1, y2, y3, y4, y5, y6, y7⟩ := HY.out
    have x0 := y0 _ hS.base
    have x1 := y1 _ hS.base
    have x2 := y2 _ hS.base
    have x3 := y3 _ hS.base
    clear y0 y1 y2 y3 y4 y5 y6 y7
    clear hdep hI ho
    go_simp
    exact hK' (.agg #[.bool u, .slice A k ka, .bool false, .slice B j jb]) _ (fun u hu => oV hu) (hS.next HFF.out.2.1 HFF.out.1 (Below.refl _ _) 1 35 _ (by decide) (by decide) (by rw [HZ.out]; decide) (fun j u' T hj => by have := HFF.out.2.2.1 j u' T hj; omega) (fun u' T hj => by have := HFF.out.2.2.1 _ u' T hj; omega))
   ·obtain rfl := oI ho
    clear hdep hI ho
    go_simp
    exact hK' (.int .i64 dx) _ (fun u hu => oV hu) (hS.next HFF.out.2.1 HFF.out.1 (Below.refl _ _) 2 36 _ (by decide) (by decide) (by rw [HZ.out]; decide) (fun j u' T hj => by have := HFF.out.2.2.1 j u' T hj; omega) (fun u' T hj => by have := HFF.out.2.2.1 _ u' T hj; omega))
   ·obtain rfl := oI ho
    have d2 : listed.getD 2 false = true := hdep ⟨2, .data⟩ (by simp) rfl
    have q36 : a.tmps[36]?.getD undef = .int .i64 dx := hI.val 2 _ 36 _ rfl rfl rfl d2
    clear hdep hI ho
    go_simp
    refine (H_hNx.out _).mono ?_
    rintro e W1 ⟨X, x, Y, y, rfl, hX, hY, hb⟩
    exact hK' _ _ (fun u hu => nV hu) (hS.next HFF.out.2.1 HFF.out.1 hb 3 37 _ (by decide) (by decide) (by rw [HZ.out]; decide) (fun j u' T hj => by have := HFF.out.2.2.1 j u' T hj; omega) (fun u' T hj => by have e := (HFF.out.2.2.2.1).symm.trans hj; cases e; exact ⟨X, x, Y, y, rfl, hX, hY⟩))
   ·obtain rfl := oI ho
    have d1 : listed.getD 1 false = true := hdep ⟨1, .data⟩ (by simp) rfl
    have q35 : a.tmps[35]?.getD undef = .agg #[.bool u, .slice A k ka, .bool false, .slice B j jb] := hI.val 1 _ 35 _ rfl rfl rfl d1
    have d3 : listed.getD 3 false = true := hdep ⟨3, .data⟩ (by simp) rfl
    obtain ⟨X, x, Y, y, hv, hX, hY⟩ := hS.fact 3 _ _ HFF.out.2.2.2.1 d3
    have q37 : a.tmps[37]?.getD undef = _ := hv
    have HX := Lib.hid (And.intro hX hY); clear hX hY hv
    clear hdep hI ho
    go_simp
    refine (H_hAx.out _ _ _ _ _ _ _ _ _ HC.out.1 HC.out.2.1 hS.ini.1 hS.ini.2.1 HX.out.1 HX.out.2).mono ?_
    rintro e W1 ⟨X2, x2, Y2, y2, rfl, hc2, hd2, hb⟩
    exact hK' _ _ (fun u hu => nV hu) (hS.next HFF.out.2.1 HFF.out.1 hb 4 38 _ (by decide) (by decide) (by rw [HZ.out]; decide) (fun j u' T hj => by have := HFF.out.2.2.1 j u' T hj; omega) (fun u' T hj => by have e := (HFF.out.2.2.2.2.1).symm.trans hj; cases e; exact ⟨X2, x2, Y2, y2, rfl, hc2, hd2⟩))
   ·obtain rfl := oI ho
    clear hdep hI ho
    go_simp
    exact hK' (.pointer (some ⟨C, 4, none⟩)) _ (fun u hu => oV hu) (hS.next HFF.out.2.1 HFF.out.1 (Below.refl _ _) 5 39 _ (by decide) (by decide) (by rw [HZ.out]; decide) (fun j u' T hj => by have := HFF.out.2.2.1 j u' T hj; omega) (fun u' T hj => by have := HFF.out.2.2.1 _ u' T hj; omega))
   ·obtain rfl := oI ho
    have d5 : listed.getD 5 false = true := hdep ⟨5, .data⟩ (by simp) rfl
    have q39 : a.tmps[39]?.getD undef = .pointer (some ⟨C, 4, none⟩) := hI.val 5 _ 39 _ rfl rfl rfl d5
    obtain ⟨y0, y1, y2, y3, y4, y5, y6, y7⟩ := HY.out
    have x4 := y4 _ hS.base
    have x5 := y5 _ hS.base
    have x6 := y6 _ hS.base
    have x7 := y7 _ hS.base
    clear y0 y1 y2 y3 y4 y5 y6 y7
    clear hdep hI ho
    go_simp
    exact hK' (.agg #[.bool v, .slice E i ie, .bool false, .slice G l lg]) _ (fun u hu => oV hu) (hS.next HFF.out.2.1 HFF.out.1 (Below.refl _ _) 6 40 _ (by decide) (by decide) (by rw [HZ.out]; decide) (fun j u' T hj => by have := HFF.out.2.2.1 j u' T hj; omega) (fun u' T hj => by have := HFF.out.2.2.1 _ u' T hj; omega))
   ·obtain rfl := oI ho
    clear hdep hI ho
    go_simp
    exact hK' (.int .i64 dy) _ (fun u hu => oV hu) (hS.next HFF.out.2.1 HFF.out.1 (Below.refl _ _) 7 41 _ (by decide) (by decide) (by rw [HZ.out]; decide) (fun j u' T hj => by have := HFF.out.2.2.1 j u' T hj; omega) (fun u' T hj => by have := HFF.out.2.2.1 _ u' T hj; omega))
   ·obtain rfl := oI ho
    have d7 : listed.getD 7 false = true := hdep ⟨7, .data⟩ (by simp) rfl
    have q41 : a.tmps[41]?.getD undef = .int .i64 dy := hI.val 7 _ 41 _ rfl rfl rfl d7
    clear hdep hI ho
    go_simp
    refine (H_hNy.out _).mono ?_
    rintro e W1 ⟨X, x, Y, y, rfl, hX, hY, hb⟩
    exact hK' _ _ (fun u hu => nV hu) (hS.next HFF.out.2.1 HFF.out.1 hb 8 42 _ (by decide) (by decide) (by rw [HZ.out]; decide) (fun j u' T hj => by have := HFF.out.2.2.1 j u' T hj; omega) (fun u' T hj => by have e := (HFF.out.2.2.2.2.2.1).symm.trans hj; cases e; exact ⟨X, x, Y, y, rfl, hX, hY⟩))
   ·obtain rfl := oI ho
    have d6 : listed.getD 6 false = true := hdep ⟨6, .data⟩ (by simp) rfl
    have q40 : a.tmps[40]?.getD undef = .agg #[.bool v, .slice E i ie, .bool false, .slice G l lg] := hI.val 6 _ 40 _ rfl rfl rfl d6
    have d8 : listed.getD 8 false = true := hdep ⟨8, .data⟩ (by simp) rfl
    obtain ⟨X, x, Y, y, hv, hX, hY⟩ := hS.fact 8 _ _ HFF.out.2.2.2.2.2.1 d8
    have q42 : a.tmps[42]?.getD undef = _ := hv
    have HX := Lib.hid (And.intro hX hY); clear hX hY hv
    clear hdep hI ho
    go_simp
    refine (H_hAy.out _ _ _ _ _ _ _ _ _ HC.out.2.2.1 HC.out.2.2.2 hS.ini.2.2.1 hS.ini.2.2.2 HX.out.1 HX.out.2).mono ?_
    rintro e W1 ⟨X2, x2, Y2, y2, rfl, hc2, hd2, hb⟩
    exact hK' _ _ (fun u hu => nV hu) (hS.next HFF.out.2.1 HFF.out.1 hb 9 43 _ (by decide) (by decide) (by rw [HZ.out]; decide) (fun j u' T hj => by have := HFF.out.2.2.1 j u' T hj; omega) (fun u' T hj => by have e := (HFF.out.2.2.2.2.2.2.1).symm.trans hj; cases e; exact ⟨X2, x2, Y2, y2, rfl, hc2, hd2⟩))
   ·obtain rfl := oI ho
    have d4 : listed.getD 4 false = true := hdep ⟨4, .data⟩ (by simp) rfl
    have d9 : listed.getD 9 false = true := hdep ⟨9, .data⟩ (by simp) rfl
    obtain ⟨X, x, Y, y, hv, hc1, hd1⟩ := hS.fact 4 _ _ HFF.out.2.2.2.2.1 d4
    obtain ⟨X2, x2, Y2, y2, hv2, hc2, hd2⟩ := hS.fact 9 _ _ HFF.out.2.2.2.2.2.2.1 d9
    have q38 : a.tmps[38]?.getD undef = _ := hv
    have q43 : a.tmps[43]?.getD undef = _ := hv2
    have HX := Lib.hid (And.intro hc1 (And.intro hd1 (And.intro hc2 hd2))); clear hc1 hd1 hc2 hd2 hv hv2
    clear hdep hI ho
    go_simp
    exact hK' _ _ (fun u hu => nV hu) (hS.next HFF.out.2.1 HFF.out.1 (Below.refl _ _) 10 44 _ (by decide) (by decide) (by rw [HZ.out]; decide) (fun j u' T hj => by have := HFF.out.2.2.1 j u' T hj; omega) (fun u' T hj => by have e := (HFF.out.2.2.2.2.2.2.2).symm.trans hj; cases e; exact ⟨X, x, Y, y, X2, x2, Y2, y2, rfl, ⟨HX.out.1.1, HX.out.1.2, HX.out.2.2.1.1, HX.out.2.2.1.2⟩, ⟨HX.out.2.1.1, HX.out.2.1.2, HX.out.2.2.2.1, HX.out.2.2.2.2⟩⟩))
   ·obtain rfl := oI ho
    have d10 : listed.getD 10 false = true := hdep ⟨10, .data⟩ (by simp) rfl
    obtain ⟨X, x, Y, y, X2, x2, Y2, y2, hv, _, h1, h2, h3, h4⟩ := hS.fact 10 _ _ HFF.out.2.2.2.2.2.2.2 d10
    have q44 : a.tmps[44]?.getD undef = _ := hv
    have HX := Lib.hid (And.intro h1 (And.intro h2 (And.intro h3 h4))); clear h1 h2 h3 h4 hv
    clear hdep hI ho
    go_simp
    refine (H_hO.out _ _ _ _ _ _ _ _ _ HX.out.1 HX.out.2.1 HX.out.2.2.1 HX.out.2.2.2).mono ?_
    rintro e W1 ⟨rfl, hb⟩
    exact hK' (.tuple #[.agg D, .int .i64 oe]) _ (fun u hu => oV hu) (hS.next HFF.out.2.1 HFF.out.1 hb 11 45 _ (by decide) (by decide) (by rw [HZ.out]; decide) (fun j u' T hj => by have := HFF.out.2.2.1 j u' T hj; omega) (fun u' T hj => by have := HFF.out.2.2.1 _ u' T hj; omega))
   ·obtain rfl := oI ho
    have d11 : listed.getD 11 false = true := hdep ⟨11, .data⟩ (by simp) rfl
    have q45 : a.tmps[45]?.getD undef = .tuple #[.agg D, .int .i64 oe] := hI.val 11 _ 45 _ rfl rfl rfl d11
    clear hdep hI ho
    go_simp
    exact hK' (.tuple #[.agg D, .int .i64 oe]) _ (fun u hu => oV hu) (hS.next HFF.out.2.1 HFF.out.1 (Below.refl _ _) 12 33 _ (by decide) (by decide) (by rw [HZ.out]; decide) (fun j u' T hj => by have := HFF.out.2.2.1 j u' T hj; omega) (fun u' T hj => by have := HFF.out.2.2.1 _ u' T hj; omega))
   ·obtain rfl := oI ho
    have d12 : listed.getD 12 false = true := hdep ⟨12, .data⟩ (by simp) rfl
    have q33 : a.tmps[33]?.getD undef = .tuple #[.agg D, .int .i64 oe] := hI.val 12 _ 33 _ rfl rfl rfl d12
    clear hdep hI ho
    go_simp
    exact hK' (.agg D) _ (fun u hu => oV hu) (hS.next HFF.out.2.1 HFF.out.1 (Below.refl _ _) 13 46 _ (by decide) (by decide) (by rw [HZ.out]; decide) (fun j u' T hj => by have := HFF.out.2.2.1 j u' T hj; omega) (fun u' T hj => by have := HFF.out.2.2.1 _ u' T hj; omega))
   ·obtain rfl := oI ho
    have d12 : listed.getD 12 false = true := hdep ⟨12, .data⟩ (by simp) rfl
    have q33 : a.tmps[33]?.getD undef = .tuple #[.agg D, .int .i64 oe] := hI.val 12 _ 33 _ rfl rfl rfl d12
    clear hdep hI ho
    go_simp
    exact hK' (.int .i64 oe) _ (fun u hu => oV hu) (hS.next HFF.out.2.1 HFF.out.1 (Below.refl _ _) 14 47 _ (by decide) (by decide) (by rw [HZ.out]; decide) (fun j u' T hj => by have := HFF.out.2.2.1 j u' T hj; omega) (fun u' T hj => by have := HFF.out.2.2.1 _ u' T hj; omega))
   ·obtain rfl := oI ho
    clear hdep hI ho
    go_simp
    exact hK' _ _ (fun u hu => nV hu) (hS.made HFF.out.2.1 HFF.out.1 h0' (by decide) (by rw [HZ.out]; decide) (fun j u' T hj => by have := HFF.out.2.2.1 j u' T hj; omega) _)
   ·obtain rfl := oI ho
    have d13 : listed.getD 13 false = true := hdep ⟨13, .data⟩ (by simp) rfl
    have q46 : a.tmps[46]?.getD undef = .agg D := hI.val 13 _ 46 _ rfl rfl rfl d13
    have d15 : listed.getD 15 false = true := hdep ⟨15, .data⟩ (by simp) rfl
    obtain ⟨X, hX, hlb, hr⟩ := hS.box d15
    simp only [h0', Bool.false_eq_true, if_false] at hr
    have e1 : a.eval (.tmp 9) = .pointer (some ⟨X, 0, none⟩) := by rw [← hX]; exact act_tmp' a 9
    have e2 : a.eval (.tmp 46) = .agg D := by rw [← q46]; exact act_tmp' a 46
    refine wp_store_mid _ _ _ rfl X 0 D e1 e2 (hr.there 0 D.size (by rw [HD.out]; exact Nat.le_refl _)) tD.2 H_oD.out ?_
    exact hK' undef _ (fun u hu => nV hu) (hS.put HFF.out.2.1 HFF.out.1 h0' (by omega) d15 (fun j u' T hj => by have := HFF.out.2.2.1 j u' T hj; omega) hX (by rw [HD.out]; rfl) (s := false) rfl _)
   ·obtain rfl := oI ho
    have d14 : listed.getD 14 false = true := hdep ⟨14, .data⟩ (by simp) rfl
    have q47 : a.tmps[47]?.getD undef = .int .i64 oe := hI.val 14 _ 47 _ rfl rfl rfl d14
    clear hdep hI ho
    go_simp
    exact hK' (.int .i64 oe) _ (fun u hu => oV hu) (hS.next HFF.out.2.1 HFF.out.1 (Below.refl _ _) 17 10 _ (by decide) (by decide) (by rw [HZ.out]; decide) (fun j u' T hj => by have := HFF.out.2.2.1 j u' T hj; omega) (fun u' T hj => by have := HFF.out.2.2.1 _ u' T hj; omega))
  ·intro listed a W hI hall
   obtain ⟨X, hX, _, hrX⟩ := hI.world.box (hall 15 (by decide))
   have h10 : slotOf a 10 = .int .i64 oe := hI.val 17 _ 10 _ rfl rfl rfl (hall 17 (by decide))
   rw [hall 16 (by decide), if_pos rfl] at hrX
   have hbase := hI.world.base
   have hb2 := hbase.2
   have rZ := hbase.row 0 (b := w.heap.size + 1) (cs := zero_point) (by rw [← HL.out]; rfl)
   obtain ⟨f, hf⟩ : ∃ f : Nat → Value, ∀ t, slotOf a t = f t := ⟨_, fun _ => rfl⟩
   have ha := hI.frame [34, 35, 36, 37, 38, 39, 40, 41, 42, 43, 44, 45, 33, 46, 47, 9, 10] (by kernel_rfl) f hf
   have e9 : f 9 = .pointer (some ⟨X, 0, none⟩) := (hf 9).symm.trans hX
   have e10 : f 10 = .int .i64 oe := (hf 10).symm.trans h10
   clear hf hI hX h10 hall hbase
   subst ha
   simp only [setAll, List.foldl_cons, List.foldl_nil, List.setIfInBounds_toArray, List.set_cons_zero, List.set_cons_succ, e9, e10]
   go_wp2_with fail
   go_meet
   exact ⟨_, rfl, rfl, Lib.hid ⟨hb2, hrX, rZ⟩⟩
 case rest =>
  obtain ⟨X, rfl, rfl, HF⟩ := hcut
  clear hK HL HY HFF
  have rX := HF.out.2.1
  have rZ := HF.out.2.2
  have HB := Lib.hid HF.out.1
  clear HF
  go_wp2_with (first
   | (refine wpList_load_R rfl _ _ rfl X rfl D rX tD ?_)
   | (refine wpList_store_R rfl _ _ _ rfl _ D rfl rfl _ rZ (by rw [HD.out]; rfl) tD H_oD.out ?_; intro w7 r7 o7))
  exact bodyPost_ret (results_R2 (cs := D) rfl rfl r7 tD) rfl ⟨rfl, below_on HB.out o7 (by omega)⟩
set_option maxRecDepth 100000 in
set_option maxHeartbeats 3200000 in
theorem ptout_bad (f1 f2 : Bool) (hf : (f1 && f2) = false) (s t p q : Bool) (A B E G : Option Addr) (k c j d i f l h : Nat) (R S : Array Value) (hR : R.size = 10) (hS : S.size = 10) (oR : OneC R) (oS : OneC S) (w : World)
 (h1 : ∀ W, Below w.heap.size w W → Calls Tryz.prog 43 #[.agg #[.bool s, .slice A k c, .bool p, .slice B j d]] W fun e w' => e = .returned (.tuple #[.agg R, .int .i64 0]) ∧ Below W.heap.size W w')
 (h2 : ∀ W, Below w.heap.size w W → Calls Tryz.prog 43 #[.agg #[.bool t, .slice E i f, .bool q, .slice G l h]] W fun e w' => e = .returned (.tuple #[.agg S, .int .i64 0]) ∧ Below W.heap.size W w')
 (h3 : ∀ W, Calls Tryz.prog 55 #[.agg #[.bool s, .slice A k c, .bool p, .slice B j d]] W fun e w' => e = .returned (.bool f1) ∧ Below W.heap.size W w')
 (h4 : ∀ W, Calls Tryz.prog 55 #[.agg #[.bool t, .slice E i f, .bool q, .slice G l h]] W fun e w' => e = .returned (.bool f2) ∧ Below W.heap.size W w') :
 Calls Tryz.prog 71 #[.agg #[.bool s, .slice A k c, .bool p, .slice B j d, .bool t, .slice E i f, .bool q, .slice G l h]] w fun e w' => e = .returned (.tuple #[.agg zero_point, .int .i64 110]) ∧ Below w.heap.size w w' := by
 have H1 := Lib.hid h1; clear h1
 have H2 := Lib.hid h2; clear h2
 have H3 := Lib.hid h3; clear h3
 have H4 := Lib.hid h4; clear h4
 have hz2 := two_made R S hR hS
 have hz1 := two_size R hR
 have tR : AggTy Tryz.prog 44 R.size := by rw [hR]; exact aggRat
 have tS : AggTy Tryz.prog 44 S.size := by rw [hS]; exact aggRat
 have tP : AggTy Tryz.prog 46 (R ++ S).size := by rw [show (R ++ S).size = 20 by simp [hR, hS]]; exact agg_point
 have oRS := Lib.hid (oR.append oS)
 have HRS : Hid ((R ++ S).size = 20) := Lib.hid (by simp [hR, hS])
 have OR := Lib.hid oR
 have OS := Lib.hid oS
 have HR := Lib.hid hR
 have HS := Lib.hid hS
 clear oR oS
 go_enter Tryz.func71, Tryz.ntmps71
 go_upto_region 1 with fail
 generalize hW : World.alloc _ _ = W0
 have rX : Row W0 w.heap.size [.bool s, .slice A k c, .bool p, .slice B j d, .bool t, .slice E i f, .bool q, .slice G l h] := by rw [← hW]; exact (Row.at rfl _ _).alloc _
 have rZ : Row W0 (w.heap.size + 1) zero_point.toList := by rw [← hW]; exact Row.at (by simp) _ _
 have hB : Below w.heap.size w W0 := by rw [← hW]; exact ((Below.refl w.heap.size w).alloc (Nat.le_refl _) _).alloc (by simp) _
 clear hW
 have x0 := rX.c 0 rfl
 have x1 := rX.c 1 rfl
 have x2 := rX.c 2 rfl
 have x3 := rX.c 3 rfl
 go_wp2_with fail
 clear x0 x1 x2 x3
 refine (H1.out _ hB).mono ?_
 rintro e w1 ⟨rfl, hb⟩
 replace rX := rX.after hb
 replace rZ := rZ.after hb
 replace hB := hB.trans (hb.mono hB.size)
 clear hb
 go_upto_region 2 with (refine wpList_store_R rfl _ _ _ rfl _ R rfl rfl _ (Row.at rfl zero_rat.toList _) (by rw [HR.out]; rfl) tR OR.out ?_; intro w2 r2 o2)
 have l1 : w.heap.size + 1 < w1.heap.size := rZ.lt
 replace rX := o2.row (by omega) (rX.alloc _)
 replace rZ := o2.row (by omega) (rZ.alloc _)
 replace hB := below_on (hB.alloc hB.size _) o2 hB.size
 clear o2
 generalize w1.heap.size = C at *
 have x4 := rX.c 4 rfl
 have x5 := rX.c 5 rfl
 have x6 := rX.c 6 rfl
 have x7 := rX.c 7 rfl
 go_wp2_with fail
 clear x4 x5 x6 x7
 refine (H2.out _ hB).mono ?_
 rintro e w3 ⟨rfl, hb⟩
 replace rX := rX.after hb
 replace rZ := rZ.after hb
 replace r2 := r2.after hb
 replace hB := hB.trans (hb.mono hB.size)
 clear hb
 go_upto_region 3 with (refine wpList_store_R rfl _ _ _ rfl _ S rfl rfl _ (Row.at rfl zero_rat.toList _) (by rw [HS.out]; rfl) tS OS.out ?_; intro w4 r4 o4)
 have l3 : C < w3.heap.size := r2.lt
 have l4 : w.heap.size + 1 < w3.heap.size := rZ.lt
 replace rX := o4.row (by omega) (rX.alloc _)
 replace rZ := o4.row (by omega) (rZ.alloc _)
 replace r2 := o4.row (by omega) (r2.alloc _)
 replace hB := below_on (hB.alloc hB.size _) o4 hB.size
 clear o4 l3 l4 l1
 generalize w3.heap.size = D at *
 have x0 := rX.c 0 rfl
 have x1 := rX.c 1 rfl
 have x2 := rX.c 2 rfl
 have x3 := rX.c 3 rfl
 go_wp2_with fail
 clear x0 x1 x2 x3
 refine (H3.out _).mono ?_
 rintro e w5 ⟨rfl, hb⟩
 replace rX := rX.after hb
 replace rZ := rZ.after hb
 replace r2 := r2.after hb
 replace r4 := r4.after hb
 replace hB := hB.trans (hb.mono hB.size)
 clear hb
 cases f1 with
 | false =>
   have HB := Lib.hid hB
   clear hB r2 r4 rX
   go_upto_region 4 with fail
   refine wp_region_list ?_
   refine wpList_buildTo rfl _ _ rfl _ rfl zero_point (by kernel_rfl) ?_
   go_wp2_with (first | (refine wpList_store_R rfl _ _ _ rfl (w.heap.size + 1) zero_point rfl rfl _ rZ rfl agg_point zero_point_one ?_; intro w7 r7 o7))
   exact bodyPost_ret (results_R2 (cs := zero_point) rfl rfl r7 agg_point) rfl ⟨rfl, below_on HB.out o7 (by omega)⟩
 | true =>
   obtain rfl : f2 = false := hf
   have x4 := rX.c 4 rfl
   have x5 := rX.c 5 rfl
   have x6 := rX.c 6 rfl
   have x7 := rX.c 7 rfl
   go_wp2_with fail
   clear x4 x5 x6 x7
   refine (H4.out _).mono ?_
   rintro e w6 ⟨rfl, hb⟩
   replace rX := rX.after hb
   replace rZ := rZ.after hb
   replace r2 := r2.after hb
   replace r4 := r4.after hb
   replace hB := hB.trans (hb.mono hB.size)
   clear hb
   have HB := Lib.hid hB
   clear hB r2 r4 rX
   go_upto_region 4 with fail
   refine wp_region_list ?_
   refine wpList_buildTo rfl _ _ rfl _ rfl zero_point (by kernel_rfl) ?_
   go_wp2_with (first | (refine wpList_store_R rfl _ _ _ rfl (w.heap.size + 1) zero_point rfl rfl _ rZ rfl agg_point zero_point_one ?_; intro w7 r7 o7))
   exact bodyPost_ret (results_R2 (cs := zero_point) rfl rfl r7 agg_point) rfl ⟨rfl, below_on HB.out o7 (by omega)⟩
set_option maxRecDepth 100000 in
set_option maxHeartbeats 3200000 in
theorem pmoved_far (P : Array Value) (_gP : AggTy Tryz.prog 46 P.size) (dx dy : Int) (w : World) (h : wayB dx dy = false) :
 Calls Tryz.prog 33 #[.agg P, .int .i64 dx, .int .i64 dy] w fun e w' => e = .returned (.tuple #[.agg zero_point, .bool false]) ∧ Below w.heap.size w w' := by
 have r0 := (Row.at (w := w) rfl P.toList 46).alloc (.cells zero_point 46)
 have rz := Row.at (w := w.alloc (.cells P 46)) (n := w.heap.size + 1) (by simp) zero_point.toList 46
 have hB := ((Below.refl w.heap.size w).alloc (Nat.le_refl _) (.cells P 46)).alloc (by simp) (.cells zero_point 46)
 go_enter Tryz.func33, Tryz.ntmps33
 have hw : dx < -67108864 ∨ (¬ dx < -67108864 ∧ 67108864 < dx) ∨ (¬ dx < -67108864 ∧ ¬ 67108864 < dx ∧ dy < -67108864) ∨ (¬ dx < -67108864 ∧ ¬ 67108864 < dx ∧ ¬ dy < -67108864 ∧ 67108864 < dy) := by
  have hn : ¬ (Bd dx ∧ Bd dy) := fun q => by rw [wayB_iff.2 q] at h; cases h
  unfold Bd at hn
  omega
 clear h
 rcases hw with h1 | ⟨h1, h2⟩ | ⟨h1, h2, h3⟩ | ⟨h1, h2, h3, h4⟩
 ·have k1 : decide (dx < -67108864) = true := by simp; omega
  clear h1
  go_upto_region 2 with fail
  refine wp_region_list ?_
  refine wpList_buildTo rfl _ _ rfl _ rfl zero_point (by kernel_rfl) ?_
  go_wp2_with (first | (refine wpList_store_R rfl _ _ _ rfl (w.heap.size + 1) zero_point rfl rfl _ rz rfl agg_point zero_point_one ?_; intro w7 r7 o7))
  exact bodyPost_ret (results_R2 (cs := zero_point) rfl rfl r7 agg_point) rfl ⟨rfl, below_on hB o7 (by omega)⟩
 ·have k1 : decide (dx < -67108864) = false := by simp; omega
  have k2 : decide (67108864 < dx) = true := by simp; omega
  clear h1 h2
  go_upto_region 2 with fail
  refine wp_region_list ?_
  refine wpList_buildTo rfl _ _ rfl _ rfl zero_point (by kernel_rfl) ?_
  go_wp2_with (first | (refine wpList_store_R rfl _ _ _ rfl (w.heap.size + 1) zero_point rfl rfl _ rz rfl agg_point zero_point_one ?_; intro w7 r7 o7))
  exact bodyPost_ret (results_R2 (cs := zero_point) rfl rfl r7 agg_point) rfl ⟨rfl, below_on hB o7 (by omega)⟩
 ·have k1 : decide (dx < -67108864) = false := by simp; omega
  have k2 : decide (67108864 < dx) = false := by simp; omega
  have k3 : decide (dy < -67108864) = true := by simp; omega
  clear h1 h2 h3
  go_upto_region 2 with fail
  refine wp_region_list ?_
  refine wpList_buildTo rfl _ _ rfl _ rfl zero_point (by kernel_rfl) ?_
  go_wp2_with (first | (refine wpList_store_R rfl _ _ _ rfl (w.heap.size + 1) zero_point rfl rfl _ rz rfl agg_point zero_point_one ?_; intro w7 r7 o7))
  exact bodyPost_ret (results_R2 (cs := zero_point) rfl rfl r7 agg_point) rfl ⟨rfl, below_on hB o7 (by omega)⟩
 ·have k1 : decide (dx < -67108864) = false := by simp; omega
  have k2 : decide (67108864 < dx) = false := by simp; omega
  have k3 : decide (dy < -67108864) = false := by simp; omega
  have k4 : decide (67108864 < dy) = true := by simp; omega
  clear h1 h2 h3 h4
  go_upto_region 2 with fail
  refine wp_region_list ?_
  refine wpList_buildTo rfl _ _ rfl _ rfl zero_point (by kernel_rfl) ?_
  go_wp2_with (first | (refine wpList_store_R rfl _ _ _ rfl (w.heap.size + 1) zero_point rfl rfl _ rz rfl agg_point zero_point_one ?_; intro w7 r7 o7))
  exact bodyPost_ret (results_R2 (cs := zero_point) rfl rfl r7 agg_point) rfl ⟨rfl, below_on hB o7 (by omega)⟩
set_option maxRecDepth 100000 in
set_option maxHeartbeats 3200000 in
theorem pmoved_noP (P : Array Value) (gP : AggTy Tryz.prog 46 P.size) (dx dy : Int) (w : World) (h1 : decide (dx < -67108864) = false) (h2 : decide (67108864 < dx) = false) (h3 : decide (dy < -67108864) = false) (h4 : decide (67108864 < dy) = false) (H : Hid (∀ W, Calls Tryz.prog 21 #[.agg P] W (fun e w' => e = .returned (.bool false) ∧ Below W.heap.size W w'))) :
 Calls Tryz.prog 33 #[.agg P, .int .i64 dx, .int .i64 dy] w fun e w' => e = .returned (.tuple #[.agg zero_point, .bool false]) ∧ Below w.heap.size w w' := by
 have r0 := (Row.at (w := w) rfl P.toList 46).alloc (.cells zero_point 46)
 have rz := Row.at (w := w.alloc (.cells P 46)) (n := w.heap.size + 1) (by simp) zero_point.toList 46
 have hB := ((Below.refl w.heap.size w).alloc (Nat.le_refl _) (.cells P 46)).alloc (by simp) (.cells zero_point 46)
 go_enter Tryz.func33, Tryz.ntmps33
 go_wp2_with (refine wpList_load_W' _ _ rfl w.heap.size 0 rfl rfl P r0.whole gP ?_)
 refine (H.out _).mono ?_
 rintro e w1 ⟨rfl, hb⟩
 replace rz := rz.after hb
 replace hB := hB.trans (hb.mono hB.size)
 clear hb r0
 go_upto_region 2 with fail
 refine wp_region_list ?_
 refine wpList_buildTo rfl _ _ rfl _ rfl zero_point (by kernel_rfl) ?_
 go_wp2_with (first | (refine wpList_store_R rfl _ _ _ rfl (w.heap.size + 1) zero_point rfl rfl _ rz rfl agg_point zero_point_one ?_; intro w7 r7 o7))
 exact bodyPost_ret (results_R2 (cs := zero_point) rfl rfl r7 agg_point) rfl ⟨rfl, below_on hB o7 (by omega)⟩
theorem radd_rt (n d x : Int) (A B E G : Option Addr) (c e f h : Nat) (w : World) (hg : RtR n d) (hx : Bd x) (dA : DS w n.natAbs A) (dB : DS w d.natAbs B) (dE : DS w x.natAbs E) (dG : DS w 1 G) :
 Calls Tryz.prog 72 #[.agg #[.bool (decide (n < 0)), .slice A (L16 n.natAbs) c, .bool false, .slice B (L16 d.natAbs) e], .agg #[.bool (decide (x < 0)), .slice E (L16 x.natAbs) f, .bool false, .slice G (L16 1) h]] w
  (RqPost w (decide (n + x * d < 0)) false (n + x * d).natAbs d.natAbs (L16 (n + x * d).natAbs) (L16 d.natAbs)) := by
 obtain ⟨hn1, hd1, hd, hgc⟩ := hg
 have hxb : x.natAbs ≤ 67108864 := by unfold Bd at hx; omega
 have hm : (x * d).natAbs ≤ 67108864 * 18446744073709551616 := by rw [Int.natAbs_mul]; exact Nat.mul_le_mul hxb (Nat.le_of_lt hd1)
 have key := radd_any n d x 1 A B E G c e f h w hd (by decide) (Nat.lt_trans hn1 (by decide)) (Nat.lt_trans hd1 (by decide)) (Nat.lt_of_le_of_lt hxb (by decide)) (by decide)
  (by rw [Int.mul_one]; exact Nat.lt_trans hn1 (by decide)) (Nat.lt_of_le_of_lt hm (by decide))
  (by rw [Int.mul_one]; exact Nat.lt_of_le_of_lt (Int.natAbs_add_le _ _) (Nat.lt_of_lt_of_le (Nat.add_lt_add_of_lt_of_le hn1 hm) (by decide))) (by rw [Int.mul_one]; exact Nat.lt_trans hd1 (by decide)) dA dB dE dG
 rw [Int.mul_one, Int.mul_one] at key
 have hfr := frN_mv n d x (by omega)
 have hf := fr_good hd hgc
 rw [hfr.1, hfr.2, hf.1, hf.2] at key
 exact key
def fitN (m : Nat) : Bool := decide (m < 79228162514264337593543950336)
def mvF (p : Pt) (dx dy : Int) : Bool := fitN (p.xn + dx * p.xd).natAbs && fitN (p.yn + dy * p.yd).natAbs
theorem mv_rt {p : Pt} {dx dy : Int} (hp : RtP p) (h : mvF p dx dy = true) : RtP (mvP p dx dy) := by
 obtain ⟨⟨a1, a2, a3, a4⟩, b1, b2, b3, b4⟩ := hp
 unfold mvF fitN at h
 rw [Bool.and_eq_true, decide_eq_true_eq, decide_eq_true_eq] at h
 exact ⟨⟨h.1, a2, a3, by show Int.gcd (p.xn + dx * p.xd) p.xd = 1; rw [gcd_mv]; exact a4⟩, h.2, b2, b3, by show Int.gcd (p.yn + dy * p.yd) p.yd = 1; rw [gcd_mv]; exact b4⟩
theorem mv_T {n d x : Int} (h : RtR n d) (hx : Bd x) : (n + x * d).natAbs < T256 := by
 have hxb : x.natAbs ≤ 67108864 := by unfold Bd at hx; omega
 have hm : (x * d).natAbs ≤ 67108864 * 18446744073709551616 := by rw [Int.natAbs_mul]; exact Nat.mul_le_mul hxb (Nat.le_of_lt h.2.1)
 exact Nat.lt_of_le_of_lt (Int.natAbs_add_le _ _) (Nat.lt_of_lt_of_le (Nat.add_lt_add_of_lt_of_le h.1 hm) (by decide))
theorem pmoved_rt (p : Pt) (dx dy : Int) (w : World) (hp : RtP p) (hx : Bd dx) (hy : Bd dy) :
 Calls Tryz.prog 33 #[.agg (ptA p), .int .i64 dx, .int .i64 dy] w fun e w' => e = .returned (.tuple #[.agg (if mvF p dx dy = true then ptA (mvP p dx dy) else zero_point), .bool (mvF p dx dy)]) ∧ Below w.heap.size w w' := by
 have hx' := hx
 have hy' := hy
 unfold Bd at hx' hy'
 have hR : ∀ W, Calls Tryz.prog 21 #[.agg (ratA p.xn p.xd ++ ratA p.yn p.yd)] W (fun e w' => e = .returned (.bool true) ∧ Below W.heap.size W w') := fun W => by
  have := refpoint_O (some p.xn) (some p.xd) (some p.yn) (some p.yd) hp.1.T.1 hp.1.T.2 hp.2.T.1 hp.2.T.2 W
  rw [(okB_iff p.xn p.xd).2 hp.1, (okB_iff p.yn p.yd).2 hp.2] at this
  exact this
 have hF : ∀ W, Calls Tryz.prog 22 #[.agg (ratA p.xn p.xd ++ ratA p.yn p.yd)] W (PqPost W (decide (p.xn < 0)) (decide (p.yn < 0)) p.xn.natAbs p.xd.natAbs p.yn.natAbs p.yd.natAbs (L16 p.xn.natAbs) (L16 p.xd.natAbs) (L16 p.yn.natAbs) (L16 p.yd.natAbs)) := fun W =>
  pfrom_core _ _ _ _ _ _ _ _ _ _ _ _ _ _ _ _ _ _ _ _ _ _ _ _ _ _ _ _ _ _ W (fun W => rfrom_rt hp.1 W) (fun W => rfrom_rt hp.2 W)
 have e1 : (decide ((p.xn + dx * p.xd).natAbs < 79228162514264337593543950336) && decide (p.xd.natAbs < 18446744073709551616)) = fitN (p.xn + dx * p.xd).natAbs := by rw [decide_eq_true hp.1.2.1, Bool.and_true]; rfl
 have e2 : (decide ((p.yn + dy * p.yd).natAbs < 79228162514264337593543950336) && decide (p.yd.natAbs < 18446744073709551616)) = fitN (p.yn + dy * p.yd).natAbs := by rw [decide_eq_true hp.2.2.1, Bool.and_true]; rfl
 have F1 := fun (A B : Option Addr) (c d : Nat) W => fits_dec (decide (p.xn + dx * p.xd < 0)) false A B (p.xn + dx * p.xd).natAbs p.xd.natAbs c d W
 have F2 := fun (A B : Option Addr) (c d : Nat) W => fits_dec (decide (p.yn + dy * p.yd < 0)) false A B (p.yn + dy * p.yd).natAbs p.yd.natAbs c d W
 rw [e1] at F1
 rw [e2] at F2
 cases h : mvF p dx dy with
 | true =>
   obtain ⟨g1, g2⟩ := Bool.and_eq_true_iff.1 h
   rw [g1] at F1
   rw [g2] at F2
   exact pmovedG_core 0 (ratA p.xn p.xd) (ratA p.yn p.yd) (ptA (mvP p dx dy)) rfl rfl rfl (ptA_one _) dx dy _ _ (decide (dx < 0)) (decide (dy < 0)) _ _ _ _ _ _ _ _ _ _ dx.natAbs (L16 dx.natAbs) dy.natAbs (L16 dy.natAbs) (L16 1) _ _ _ _ _ _ _ _ w (by simp; omega) (by simp; omega) (by simp; omega) (by simp; omega) hR hF
    (fun W => rnum_any dx W (in_i64 hx).1 (in_i64 hx).2) (fun W => rnum_any dy W (in_i64 hy).1 (in_i64 hy).2)
    (fun A ka B jb X x Y y W _ _ dA dB dX dY => radd_rt p.xn p.xd dx A B X Y ka jb x y W hp.1 hx dA dB dX dY) (fun A ka B jb X x Y y W _ _ dA dB dX dY => radd_rt p.yn p.yd dy A B X Y ka jb x y W hp.2 hy dA dB dX dY)
    (fun A c B d E f G h W dA dB dE dG => ptout_core _ _ _ _ A B E G _ c _ d _ f _ h (ratA (p.xn + dx * p.xd) p.xd) (ratA (p.yn + dy * p.yd) p.yd) rfl rfl (ratA_one _ _) (ratA_one _ _) W
      (fun W hW => rout_good _ _ A B c d W hp.1.2.2.1 (mv_T hp.1 hx) hp.1.T.2 (dA.below hW) (dB.below hW)) (fun W hW => rout_good _ _ E G f h W hp.2.2.2.1 (mv_T hp.2 hy) hp.2.T.2 (dE.below hW) (dG.below hW))
      (fun W => F1 A B c d W) (fun W => F2 E G f h W))
 | false =>
   exact pmovedG_core 110 (ratA p.xn p.xd) (ratA p.yn p.yd) zero_point rfl rfl rfl zero_point_one dx dy _ _ (decide (dx < 0)) (decide (dy < 0)) _ _ _ _ _ _ _ _ _ _ dx.natAbs (L16 dx.natAbs) dy.natAbs (L16 dy.natAbs) (L16 1) _ _ _ _ _ _ _ _ w (by simp; omega) (by simp; omega) (by simp; omega) (by simp; omega) hR hF
    (fun W => rnum_any dx W (in_i64 hx).1 (in_i64 hx).2) (fun W => rnum_any dy W (in_i64 hy).1 (in_i64 hy).2)
    (fun A ka B jb X x Y y W _ _ dA dB dX dY => radd_rt p.xn p.xd dx A B X Y ka jb x y W hp.1 hx dA dB dX dY) (fun A ka B jb X x Y y W _ _ dA dB dX dY => radd_rt p.yn p.yd dy A B X Y ka jb x y W hp.2 hy dA dB dX dY)
    (fun A c B d E f G h' W dA dB dE dG => ptout_bad _ _ h _ _ _ _ A B E G _ c _ d _ f _ h' (ratA (p.xn + dx * p.xd) p.xd) (ratA (p.yn + dy * p.yd) p.yd) rfl rfl (ratA_one _ _) (ratA_one _ _) W
      (fun W hW => rout_good _ _ A B c d W hp.1.2.2.1 (mv_T hp.1 hx) hp.1.T.2 (dA.below hW) (dB.below hW)) (fun W hW => rout_good _ _ E G f h' W hp.2.2.2.1 (mv_T hp.2 hy) hp.2.T.2 (dE.below hW) (dG.below hW))
      (fun W => F1 A B c d W) (fun W => F2 E G f h' W))
end Go.Proofs.YtdfmmkidknginaaGreatDoor
