import Derived.Test.YtdfmmkidknginaaGreatDoorZKkZG
namespace Go.Proofs.YtdfmmkidknginaaGreatDoor
open Go.RowKit Go.Sort CrossMath

def rqFct4 (idx slot : Nat) (s : Bool) (m n k j : Nat) : Fct := ⟨idx, slot, fun v W => ∃ A c D d, v = .agg #[.bool s, .slice A k c, .bool false, .slice D j d] ∧ DS W m A ∧ DS W n D, fun v X Y h hb => by
 obtain ⟨A, c, D, d, h1, h2, h3⟩ := h
 exact ⟨A, c, D, d, h1, h2.below hb, h3.below hb⟩⟩
set_option maxRecDepth 100000 in
set_option maxHeartbeats 1600000 in
theorem rnumQ_any (n : Int) (w : World) (h1 : -9223372036854775808 ≤ n) (h2 : n ≤ 9223372036854775807) :
 Calls Tryz.prog 45 #[.int .i64 n] w (RqPost w (decide (n < 0)) false n.natAbs 1 (L16 n.natAbs) (L16 1)) := by
 have H1 : Hid (∀ W, Calls Tryz.prog 80 #[.int .i64 n] W (BgPost W (decide (n < 0)) n.natAbs (L16 n.natAbs))) := Lib.hid (fun W => (num_z n W h1 h2).mono fun _ _ h => bg_of rfl h)
 have H2 : Hid (∀ W, Calls Tryz.prog 80 #[.int .i64 1] W (BgPost W false 1 (L16 1))) := Lib.hid one_bg
 clear h1 h2
 generalize decide (n < 0) = s at *
 generalize n.natAbs = m at *
 generalize L16 m = k at *
 generalize L16 1 = j at *
 go_enter Tryz.func45, Tryz.ntmps45
 go_wp2_with fail
 generalize hW : World.alloc _ _ = W0
 have r0 : Row W0 w.heap.size [.bool false, .slice none 0 0, .bool false, .slice none 0 0] := by rw [← hW]; exact Row.at rfl _ _
 have hB : Below w.heap.size w W0 := by rw [← hW]; exact (Below.refl w.heap.size w).alloc (Nat.le_refl _) _
 clear hW
 refine (H1.out _).mono ?_
 rintro e w1 ⟨A, c, rfl, hc, hd, hb⟩
 replace r0 := r0.after hb
 replace hB := hB.trans (hb.mono hB.size)
 clear hb
 have hd1 := Lib.hid hd
 have HC1 := Lib.hid hc
 clear hd hc
 go_wp2_with fail
 refine (H2.out _).mono ?_
 rintro e w2 ⟨B, d, rfl, hc, hd2, hb⟩
 have HC2 := Lib.hid hc
 replace r0 := r0.after hb
 replace hB := hB.trans (hb.mono hB.size)
 have HD := Lib.hid (And.intro (hd1.out.below hb) hd2)
 clear hb hd1 hd2 hc
 have hX := Lib.hid (r0.c 0 rfl)
 have HB := Lib.hid hB
 clear hB
 go_wp2_with (refine wpList_store_R rfl _ _ _ rfl _ #[.bool s, .slice A k c, .bool false, .slice B j d] rfl rfl _ r0 (by rfl) agg_rrat (by simp [OneC, Value.oneCell']) ?_; intro w3 r3 o3)
 exact bodyPost_ret (results_R1 (cs := #[.bool s, .slice A k c, .bool false, .slice B j d]) rfl rfl r3 agg_rrat) rfl ⟨A, c, B, d, rfl, ⟨HC1.out, HC2.out⟩, ⟨HD.out.1.on o3 hX.out, HD.out.2.on o3 hX.out⟩, below_on HB.out o3 (Nat.le_refl _)⟩
def rqFct6 (idx slot : Nat) (s : Bool) (m n k j : Nat) : Fct := ⟨idx, slot, fun v W => ∃ A c D d, v = .agg #[.bool s, .slice A k c, .bool false, .slice D j d] ∧ (k ≤ c ∧ j ≤ d) ∧ DS W m A ∧ DS W n D, fun v X Y h hb => by
 obtain ⟨A, c, D, d, h1, h0, h2, h3⟩ := h
 exact ⟨A, c, D, d, h1, h0, h2.below hb, h3.below hb⟩⟩
theorem DS.putQ {W : World} {m b : Nat} {A : Option Addr} {s : Bool} (h : DS W m A) (hX : W.cell? ⟨b, 0, none⟩ = some (.bool s)) (y0 y1 y2 y3 : Value) :
 DS ((((W.setCell ⟨b, 0, none⟩ y0).setCell ⟨b, 1, none⟩ y1).setCell ⟨b, 2, none⟩ y2).setCell ⟨b, 3, none⟩ y3) m A := h.on (On.setCells W b [y0, y1, y2, y3] 0 W (On.refl W b)) hX
def bgFct4 (idx slot : Nat) (s : Bool) (m k : Nat) : Fct := ⟨idx, slot, fun v W => ∃ A c, v = .agg #[.bool s, .slice A k c] ∧ DS W m A, fun v X Y h hb => by
 obtain ⟨A, c, h1, h2⟩ := h
 exact ⟨A, c, h1, h2.below hb⟩⟩
def rqFct5 (idx slot : Nat) (s : Bool) (m _n k j : Nat) (G : Option Addr) (g : Nat) : Fct := ⟨idx, slot, fun v W => ∃ A c, v = .agg #[.bool s, .slice A k c, .bool false, .slice G j g] ∧ DS W m A, fun v X Y h hb => by
 obtain ⟨A, c, h1, h2⟩ := h
 exact ⟨A, c, h1, h2.below hb⟩⟩
set_option maxRecDepth 100000 in
set_option maxHeartbeats 6400000 in
theorem rsub_core (s t t' s3 : Bool) (m1 n1 k1 j1 m2 n2 k2 j2 m3 n3 k3 j3 : Nat) (A1 D1 E1 G1 : Option Addr) (c1 d1 f1 g1 : Nat) (w : World) (hA1 : DS w m1 A1) (hD1 : DS w n1 D1) (hE1 : DS w m2 E1) (hG1 : DS w n2 G1)
 (h1 : ∀ W, Below w.heap.size w W → Calls Tryz.prog 78 #[.agg #[.bool t, .slice E1 k2 f1]] W fun e w' => ∃ X x, e = .returned (.agg #[.bool t', .slice X k2 x]) ∧ DS w' m2 X ∧ Below W.heap.size W w')
 (h2 : ∀ X x W, DS W m1 A1 → DS W n1 D1 → DS W m2 X → DS W n2 G1 → Calls Tryz.prog 72 #[.agg #[.bool s, .slice A1 k1 c1, .bool false, .slice D1 j1 d1], .agg #[.bool t', .slice X k2 x, .bool false, .slice G1 j2 g1]] W (RqPost W s3 false m3 n3 k3 j3)) :
 Calls Tryz.prog 58 #[.agg #[.bool s, .slice A1 k1 c1, .bool false, .slice D1 j1 d1], .agg #[.bool t, .slice E1 k2 f1, .bool false, .slice G1 j2 g1]] w (RqPost w s3 false m3 n3 k3 j3) := by
 have H1 := Lib.hid h1; clear h1
 have H2 := Lib.hid h2; clear h2
 go_enter Tryz.func58, Tryz.ntmps58
 go_upto_region 1 with fail
 generalize hW : World.alloc _ _ = W0
 have HS := Lib.hid (show Row W0 w.heap.size [.bool s, .slice A1 k1 c1, .bool false, .slice D1 j1 d1] by rw [← hW]; exact ((Row.at rfl [.bool s, .slice A1 k1 c1, .bool false, .slice D1 j1 d1] _).alloc _).alloc _)
 have HA := Lib.hid (show Row W0 (w.heap.size + 1) [.bool t, .slice E1 k2 f1, .bool false, .slice G1 j2 g1] by rw [← hW]; exact (Row.at (by simp) [.bool t, .slice E1 k2 f1, .bool false, .slice G1 j2 g1] _).alloc _)
 have HZ := Lib.hid (show Row W0 (w.heap.size + 1 + 1) [.bool false, .slice none 0 0, .bool false, .slice none 0 0] by rw [← hW]; exact Row.at (by simp) [.bool false, .slice none 0 0, .bool false, .slice none 0 0] _)
 have hb0 : Below w.heap.size w W0 := by rw [← hW]; exact (((Below.refl w.heap.size w).alloc (Nat.le_refl _) _).alloc (by simp) _).alloc (by simp; omega) _
 clear hW
 replace hA1 := hA1.below hb0
 replace hD1 := hD1.below hb0
 replace hE1 := hE1.below hb0
 replace hG1 := hG1.below hb0
 refine wp_region_fct (by kernel_rfl) [] (fun ix => match ix with
  | 0 => some (Value.agg #[.bool s, .slice A1 k1 c1, .bool false, .slice D1 j1 d1])
  | 1 => some (Value.pointer (some ⟨(w.heap.size + 1), 0, none⟩))
  | 2 => some (Value.agg #[.bool t, .slice E1 k2 f1])
  | 4 => some (Value.pointer (some ⟨(w.heap.size + 1), 2, none⟩))
  | 5 => some (Value.agg #[.bool false, .slice G1 j2 g1])
  | _ => none) (by intro j hj; cases hj) 8 [bgFct4 3 8 t' m2 k2, rqFct5 6 11 t' m2 n2 k2 j2 G1 g1, rqFct6 7 12 s3 m3 n3 k3 j3] (fun sl W => ∃ A c D d, Row W (w.heap.size + 1 + 1) [.bool s3, .slice A k3 c, .bool false, .slice D j3 d] ∧ (k3 ≤ c ∧ j3 ≤ d) ∧ (DS W m3 A ∧ DS W n3 D) ∧ Below w.heap.size w W) (by kernel_rfl) (by kernel_rfl) (by rfl) ?_ ?_
 ·intro listed a W ix o hI ho hdep hB hF K hK hKf
  have hi : ix < 9 := (Array.getElem?_eq_some_iff.1 ho).1
  have hcase : ix = 0 ∨ ix = 1 ∨ ix = 2 ∨ ix = 3 ∨ ix = 4 ∨ ix = 5 ∨ ix = 6 ∨ ix = 7 ∨ ix = 8 := by omega
  clear hi
  rcases hcase with rfl | rfl | rfl | rfl | rfl | rfl | rfl | rfl | rfl
  ·obtain rfl := oI ho
   have q2 : a.tmps[2]?.getD undef = Value.pointer (some ⟨w.heap.size, 0, none⟩) := hI.old 2 (noDst_spec (by kernel_rfl))
   have x0 := (HS.out.after hB).c 0 rfl
   have x1 := (HS.out.after hB).c 1 rfl
   have x2 := (HS.out.after hB).c 2 rfl
   have x3 := (HS.out.after hB).c 3 rfl
   clear hdep hI ho hF
   go_simp
   exact hK (by decide) (Value.agg #[.bool s, .slice A1 k1 c1, .bool false, .slice D1 j1 d1]) _ (fun u hu => oV hu) (Below.refl _ _) (fct_none rfl)
  ·obtain rfl := oI ho
   have q3 : a.tmps[3]?.getD undef = Value.pointer (some ⟨(w.heap.size + 1), 0, none⟩) := hI.old 3 (noDst_spec (by kernel_rfl))
   clear hdep hI ho hF
   go_simp
   exact hK (by decide) (Value.pointer (some ⟨(w.heap.size + 1), 0, none⟩)) _ (fun u hu => oV hu) (Below.refl _ _) (fct_none rfl)
  ·obtain rfl := oI ho
   have d1 : listed.getD 1 false = true := hdep ⟨1, .data⟩ (by simp) rfl
   have q6 : a.tmps[6]?.getD undef = Value.pointer (some ⟨(w.heap.size + 1), 0, none⟩) := hI.val 1 _ 6 _ rfl rfl rfl d1
   have x0 := (HA.out.after hB).c 0 rfl
   have x1 := (HA.out.after hB).c 1 rfl
   clear hdep hI ho hF
   go_simp
   exact hK (by decide) (Value.agg #[.bool t, .slice E1 k2 f1]) _ (fun u hu => oV hu) (Below.refl _ _) (fct_none rfl)
  ·obtain rfl := oI ho
   have d2 : listed.getD 2 false = true := hdep ⟨2, .data⟩ (by simp) rfl
   have q7 : a.tmps[7]?.getD undef = Value.agg #[.bool t, .slice E1 k2 f1] := hI.val 2 _ 7 _ rfl rfl rfl d2
   clear hdep hI ho hF
   go_simp
   refine (H1.out _ (hb0.trans (hB.mono hb0.size))).mono ?_
   rintro e W2 ⟨X, x, rfl, hX, hb⟩
   exact hK (by decide) (.agg #[.bool t', .slice X k2 x]) _ (fun u hu => nV hu) hb (fun p hp e => by
    simp only [List.mem_cons, List.not_mem_nil, or_false] at hp
    rcases hp with rfl | rfl | rfl
    ·exact ⟨X, x, rfl, hX⟩
    ·exact absurd e (fct_ne (i := 6) rfl)
    ·exact absurd e (fct_ne (i := 7) rfl))
  ·obtain rfl := oI ho
   have q3 : a.tmps[3]?.getD undef = Value.pointer (some ⟨(w.heap.size + 1), 0, none⟩) := hI.old 3 (noDst_spec (by kernel_rfl))
   clear hdep hI ho hF
   go_simp
   exact hK (by decide) (Value.pointer (some ⟨(w.heap.size + 1), 2, none⟩)) _ (fun u hu => oV hu) (Below.refl _ _) (fct_none rfl)
  ·obtain rfl := oI ho
   have d4 : listed.getD 4 false = true := hdep ⟨4, .data⟩ (by simp) rfl
   have q9 : a.tmps[9]?.getD undef = Value.pointer (some ⟨(w.heap.size + 1), 2, none⟩) := hI.val 4 _ 9 _ rfl rfl rfl d4
   have x2 := (HA.out.after hB).c 2 rfl
   have x3 := (HA.out.after hB).c 3 rfl
   clear hdep hI ho hF
   go_simp
   exact hK (by decide) (Value.agg #[.bool false, .slice G1 j2 g1]) _ (fun u hu => oV hu) (Below.refl _ _) (fct_none rfl)
  ·obtain rfl := oI ho
   have d5 : listed.getD 5 false = true := hdep ⟨5, .data⟩ (by simp) rfl
   have q10 : a.tmps[10]?.getD undef = Value.agg #[.bool false, .slice G1 j2 g1] := hI.val 5 _ 10 _ rfl rfl rfl d5
   have d3 : listed.getD 3 false = true := hdep ⟨3, .data⟩ (by simp) rfl
   obtain ⟨X, x, hq1, hx1⟩ := hF (bgFct4 3 8 t' m2 k2) (by simp) d3
   have q8 : a.tmps[8]?.getD undef = .agg #[.bool t', .slice X k2 x] := hq1
   clear hdep hI ho hF
   go_simp
   exact hK (by decide) (.agg #[.bool t', .slice X k2 x, .bool false, .slice G1 j2 g1]) _ (fun u hu => nV hu) (Below.refl _ _) (fun p hp e => by
    simp only [List.mem_cons, List.not_mem_nil, or_false] at hp
    rcases hp with rfl | rfl | rfl
    ·exact absurd e (fct_ne (i := 3) rfl)
    ·exact ⟨X, x, rfl, hx1⟩
    ·exact absurd e (fct_ne (i := 7) rfl))
  ·obtain rfl := oI ho
   have d0 : listed.getD 0 false = true := hdep ⟨0, .data⟩ (by simp) rfl
   have q5 : a.tmps[5]?.getD undef = Value.agg #[.bool s, .slice A1 k1 c1, .bool false, .slice D1 j1 d1] := hI.val 0 _ 5 _ rfl rfl rfl d0
   have d6 : listed.getD 6 false = true := hdep ⟨6, .data⟩ (by simp) rfl
   obtain ⟨X, x, hq1, hx1⟩ := hF (rqFct5 6 11 t' m2 n2 k2 j2 G1 g1) (by simp) d6
   have q11 : a.tmps[11]?.getD undef = .agg #[.bool t', .slice X k2 x, .bool false, .slice G1 j2 g1] := hq1
   have HC := Lib.hid (H2.out X x W (hA1.below hB) (hD1.below hB) hx1 (hG1.below hB))
   clear hdep hI ho hF
   go_simp
   refine HC.out.mono ?_
   rintro e W2 ⟨A', c', D', d', rfl, ⟨y1, y2⟩, ⟨hA', hD'⟩, hb⟩
   exact hK (by decide) (.agg #[.bool s3, .slice A' k3 c', .bool false, .slice D' j3 d']) _ (fun u hu => nV hu) hb (fun p hp e => by
    simp only [List.mem_cons, List.not_mem_nil, or_false] at hp
    rcases hp with rfl | rfl | rfl
    ·exact absurd e (fct_ne (i := 3) rfl)
    ·exact absurd e (fct_ne (i := 6) rfl)
    ·exact ⟨A', c', D', d', rfl, ⟨y1, y2⟩, hA', hD'⟩)
  ·obtain rfl := oI ho
   have q4 : a.tmps[4]?.getD undef = Value.pointer (some ⟨(w.heap.size + 1 + 1), 0, none⟩) := hI.old 4 (noDst_spec (by kernel_rfl))
   have d7 : listed.getD 7 false = true := hdep ⟨7, .data⟩ (by simp) rfl
   obtain ⟨A, c, D, d, hq1, hy, hx1, hy1⟩ := hF (rqFct6 7 12 s3 m3 n3 k3 j3) (by simp) d7
   have q12 : a.tmps[12]?.getD undef = .agg #[.bool s3, .slice A k3 c, .bool false, .slice D j3 d] := hq1
   have hr := HZ.out.after hB
   have z0 := hr.c 0 rfl
   have z1 := hr.c 1 rfl
   have z2 := hr.c 2 rfl
   have z3 := hr.c 3 rfl
   have w0 := hr.f 0 rfl
   have w1 := hr.f 1 rfl
   have w2 := hr.f 2 rfl
   have w3 := hr.f 3 rfl
   have HY := Lib.hid hy; clear hy
   clear hdep hI ho hF
   go_simp
   exact hKf rfl undef _ (fun u hu => nV hu) ⟨A, c, D, d, hr.putAll [_, _, _, _] rfl, HY.out, ⟨hx1.putQ z0 _ _ _ _, hy1.putQ z0 _ _ _ _⟩, below_on (hb0.trans (hB.mono hb0.size)) (On.setCells _ (w.heap.size + 1 + 1) [_, _, _, _] 0 _ (On.refl _ _)) (by omega)⟩
 ·intro listed a W hI hall hfin hend
  obtain ⟨A, c, D, d, hr, hy, ⟨v1, v2⟩, hB⟩ := hfin (by decide)
  have q4 : a.tmps[4]?.getD undef = Value.pointer (some ⟨(w.heap.size + 1 + 1), 0, none⟩) := hI.old 4 (noDst_spec (by kernel_rfl))
  have hdf : a.defers = [] := hI.defers
  have hsz : a.tmps.size = 13 := hI.size
  clear hall hfin hend hI hb0 HS HA HZ
  obtain ⟨tm, df⟩ := a
  simp only at hdf q4 hsz
  subst hdf
  have HY := Lib.hid (And.intro hy (And.intro (And.intro v1 v2) hB))
  clear hy v1 v2 hB
  go_wp2_with fail
  exact bodyPost_ret (results_R1 (cs := #[.bool s3, .slice A k3 c, .bool false, .slice D j3 d]) rfl (by simp [q4]) hr agg_rrat) rfl ⟨A, c, D, d, rfl, HY.out.1, HY.out.2.1, HY.out.2.2⟩

set_option maxRecDepth 100000 in
set_option maxHeartbeats 12800000 in
theorem refside_core (sx sy t1 t2 t5 t6 s3 s4 s7 s8 : Bool) (mx nx my ny kx jx ky jy m1 k1 m2 k2 m5 k5 m6 k6 l m3 n3 k3 j3 m4 n4 k4 j4 m7 n7 k7 j7 m8 n8 k8 j8 : Nat) (ax ay bx bY ux uy r : Int) (A1 D1 E1 G1 : Option Addr) (c1 d1 f1 g1 : Nat) (w : World) (e1 : IntKind.i64.wrap (bx - ax) = ux) (e2 : IntKind.i64.wrap (bY - ay) = uy)
 (hA1 : DS w mx A1) (hD1 : DS w nx D1) (hE1 : DS w my E1) (hG1 : DS w ny G1)
 (h1 : ∀ W, Calls Tryz.prog 45 #[.int .i64 ux] W (RqPost W t1 false m1 1 k1 l))
 (h2 : ∀ W, Calls Tryz.prog 45 #[.int .i64 ay] W (RqPost W t2 false m2 1 k2 l))
 (h3 : ∀ A c D d E f G g W, Below w.heap.size w W → DS W my A → DS W ny D → DS W m2 E → DS W 1 G → k2 ≤ f → Calls Tryz.prog 58 #[.agg #[.bool sy, .slice A ky c, .bool false, .slice D jy d], .agg #[.bool t2, .slice E k2 f, .bool false, .slice G l g]] W (RqPost W s3 false m3 n3 k3 j3))
 (h4 : ∀ A c D d E f G g W, Below w.heap.size w W → DS W m1 A → DS W 1 D → DS W m3 E → DS W n3 G → Calls Tryz.prog 57 #[.agg #[.bool t1, .slice A k1 c, .bool false, .slice D l d], .agg #[.bool s3, .slice E k3 f, .bool false, .slice G j3 g]] W (RqPost W s4 false m4 n4 k4 j4))
 (h5 : ∀ W, Calls Tryz.prog 45 #[.int .i64 uy] W (RqPost W t5 false m5 1 k5 l))
 (h6 : ∀ W, Calls Tryz.prog 45 #[.int .i64 ax] W (RqPost W t6 false m6 1 k6 l))
 (h7 : ∀ A c D d E f G g W, Below w.heap.size w W → DS W mx A → DS W nx D → DS W m6 E → DS W 1 G → k6 ≤ f → Calls Tryz.prog 58 #[.agg #[.bool sx, .slice A kx c, .bool false, .slice D jx d], .agg #[.bool t6, .slice E k6 f, .bool false, .slice G l g]] W (RqPost W s7 false m7 n7 k7 j7))
 (h8 : ∀ A c D d E f G g W, Below w.heap.size w W → DS W m5 A → DS W 1 D → DS W m7 E → DS W n7 G → Calls Tryz.prog 57 #[.agg #[.bool t5, .slice A k5 c, .bool false, .slice D l d], .agg #[.bool s7, .slice E k7 f, .bool false, .slice G j7 g]] W (RqPost W s8 false m8 n8 k8 j8))
 (h9 : ∀ A c D d E f G g W, Below w.heap.size w W → DS W m4 A → DS W n4 D → DS W m8 E → DS W n8 G → Calls Tryz.prog 59 #[.agg #[.bool s4, .slice A k4 c, .bool false, .slice D j4 d], .agg #[.bool s8, .slice E k8 f, .bool false, .slice G j8 g]] W (fun e w' => e = .returned (.int .i64 r) ∧ Below W.heap.size W w'))
 : Calls Tryz.prog 23 #[.agg #[.int .i64 ax, .int .i64 ay, .int .i64 bx, .int .i64 bY], .agg #[.bool sx, .slice A1 kx c1, .bool false, .slice D1 jx d1, .bool sy, .slice E1 ky f1, .bool false, .slice G1 jy g1]] w fun e w' => e = .returned (.int .i64 r) ∧ Below w.heap.size w w' := by
 have H1 := Lib.hid h1; clear h1
 have H2 := Lib.hid h2; clear h2
 have H3 := Lib.hid h3; clear h3
 have H4 := Lib.hid h4; clear h4
 have H5 := Lib.hid h5; clear h5
 have H6 := Lib.hid h6; clear h6
 have H7 := Lib.hid h7; clear h7
 have H8 := Lib.hid h8; clear h8
 have H9 := Lib.hid h9; clear h9
 go_enter Tryz.func23, Tryz.ntmps23
 go_upto_region 1 with fail
 generalize hW : World.alloc _ _ = W0
 have HS := Lib.hid (show Row W0 w.heap.size [.int .i64 ax, .int .i64 ay, .int .i64 bx, .int .i64 bY] by rw [← hW]; exact (Row.at rfl [.int .i64 ax, .int .i64 ay, .int .i64 bx, .int .i64 bY] _).alloc _)
 have HA := Lib.hid (show Row W0 (w.heap.size + 1) [.bool sx, .slice A1 kx c1, .bool false, .slice D1 jx d1, .bool sy, .slice E1 ky f1, .bool false, .slice G1 jy g1] by rw [← hW]; exact Row.at (by simp) [.bool sx, .slice A1 kx c1, .bool false, .slice D1 jx d1, .bool sy, .slice E1 ky f1, .bool false, .slice G1 jy g1] _)
 have hb0 : Below w.heap.size w W0 := by rw [← hW]; exact ((Below.refl w.heap.size w).alloc (Nat.le_refl _) _).alloc (by simp) _
 clear hW
 replace hA1 := hA1.below hb0
 replace hD1 := hD1.below hb0
 replace hE1 := hE1.below hb0
 replace hG1 := hG1.below hb0
 refine wp_region_fct (by kernel_rfl) [] (fun ix => match ix with
  | 0 => some (Value.pointer (some ⟨w.heap.size, 2, none⟩))
  | 1 => some (Value.pointer (some ⟨w.heap.size, 2, none⟩))
  | 2 => some (Value.int .i64 bx)
  | 3 => some (Value.pointer (some ⟨w.heap.size, 0, none⟩))
  | 4 => some (Value.pointer (some ⟨w.heap.size, 0, none⟩))
  | 5 => some (Value.int .i64 ax)
  | 6 => some (Value.int .i64 ux)
  | 8 => some (Value.pointer (some ⟨(w.heap.size + 1), 4, none⟩))
  | 9 => some (Value.agg #[.bool sy, .slice E1 ky f1, .bool false, .slice G1 jy g1])
  | 10 => some (Value.pointer (some ⟨w.heap.size, 0, none⟩))
  | 11 => some (Value.pointer (some ⟨w.heap.size, 1, none⟩))
  | 12 => some (Value.int .i64 ay)
  | _ => none) (by intro j hj; cases hj) 17 [rqFct4 7 14 t1 m1 1 k1 l, rqFct6 13 20 t2 m2 1 k2 l, rqFct4 14 21 s3 m3 n3 k3 j3, rqFct4 15 22 s4 m4 n4 k4 j4, newFctS 16 5 W0.heap.size [.bool false, .slice none 0 0, .bool false, .slice none 0 0]] (fun sl W => ∃ C A c D d, sl 5 = .pointer (some ⟨C, 0, none⟩) ∧ W0.heap.size ≤ C ∧ Row W C [.bool s4, .slice A k4 c, .bool false, .slice D j4 d] ∧ (DS W m4 A ∧ DS W n4 D) ∧ Below W0.heap.size W0 W) (by kernel_rfl) (by kernel_rfl) (by rfl) ?_ ?_
 ·intro listed a W ix o hI ho hdep hB hF K hK hKf
  have hi : ix < 18 := (Array.getElem?_eq_some_iff.1 ho).1
  have hcase : ix = 0 ∨ ix = 1 ∨ ix = 2 ∨ ix = 3 ∨ ix = 4 ∨ ix = 5 ∨ ix = 6 ∨ ix = 7 ∨ ix = 8 ∨ ix = 9 ∨ ix = 10 ∨ ix = 11 ∨ ix = 12 ∨ ix = 13 ∨ ix = 14 ∨ ix = 15 ∨ ix = 16 ∨ ix = 17 := by omega
  clear hi
  rcases hcase with rfl | rfl | rfl | rfl | rfl | rfl | rfl | rfl | rfl | rfl | rfl | rfl | rfl | rfl | rfl | rfl | rfl | rfl
  ·obtain rfl := oI ho
   have q2 : a.tmps[2]?.getD undef = Value.pointer (some ⟨w.heap.size, 0, none⟩) := hI.old 2 (noDst_spec (by kernel_rfl))
   clear hdep hI ho hF
   go_simp
   exact hK (by decide) (Value.pointer (some ⟨w.heap.size, 2, none⟩)) _ (fun u hu => oV hu) (Below.refl _ _) (fct_none rfl)
  ·obtain rfl := oI ho
   have d0 : listed.getD 0 false = true := hdep ⟨0, .data⟩ (by simp) rfl
   have q7 : a.tmps[7]?.getD undef = Value.pointer (some ⟨w.heap.size, 2, none⟩) := hI.val 0 _ 7 _ rfl rfl rfl d0
   clear hdep hI ho hF
   go_simp
   exact hK (by decide) (Value.pointer (some ⟨w.heap.size, 2, none⟩)) _ (fun u hu => oV hu) (Below.refl _ _) (fct_none rfl)
  ·obtain rfl := oI ho
   have d1 : listed.getD 1 false = true := hdep ⟨1, .data⟩ (by simp) rfl
   have q8 : a.tmps[8]?.getD undef = Value.pointer (some ⟨w.heap.size, 2, none⟩) := hI.val 1 _ 8 _ rfl rfl rfl d1
   have x2 := (HS.out.after hB).c 2 rfl
   clear hdep hI ho hF
   go_simp
   exact hK (by decide) (Value.int .i64 bx) _ (fun u hu => oV hu) (Below.refl _ _) (fct_none rfl)
  ·obtain rfl := oI ho
   have q2 : a.tmps[2]?.getD undef = Value.pointer (some ⟨w.heap.size, 0, none⟩) := hI.old 2 (noDst_spec (by kernel_rfl))
   clear hdep hI ho hF
   go_simp
   exact hK (by decide) (Value.pointer (some ⟨w.heap.size, 0, none⟩)) _ (fun u hu => oV hu) (Below.refl _ _) (fct_none rfl)
  ·obtain rfl := oI ho
   have d3 : listed.getD 3 false = true := hdep ⟨3, .data⟩ (by simp) rfl
   have q10 : a.tmps[10]?.getD undef = Value.pointer (some ⟨w.heap.size, 0, none⟩) := hI.val 3 _ 10 _ rfl rfl rfl d3
   clear hdep hI ho hF
   go_simp
   exact hK (by decide) (Value.pointer (some ⟨w.heap.size, 0, none⟩)) _ (fun u hu => oV hu) (Below.refl _ _) (fct_none rfl)
  ·obtain rfl := oI ho
   have d4 : listed.getD 4 false = true := hdep ⟨4, .data⟩ (by simp) rfl
   have q11 : a.tmps[11]?.getD undef = Value.pointer (some ⟨w.heap.size, 0, none⟩) := hI.val 4 _ 11 _ rfl rfl rfl d4
   have x0 := (HS.out.after hB).c 0 rfl
   clear hdep hI ho hF
   go_simp
   exact hK (by decide) (Value.int .i64 ax) _ (fun u hu => oV hu) (Below.refl _ _) (fct_none rfl)
  ·obtain rfl := oI ho
   have d2 : listed.getD 2 false = true := hdep ⟨2, .data⟩ (by simp) rfl
   have q9 : a.tmps[9]?.getD undef = Value.int .i64 bx := hI.val 2 _ 9 _ rfl rfl rfl d2
   have d5 : listed.getD 5 false = true := hdep ⟨5, .data⟩ (by simp) rfl
   have q12 : a.tmps[12]?.getD undef = Value.int .i64 ax := hI.val 5 _ 12 _ rfl rfl rfl d5
   clear hdep hI ho hF
   go_simp
   exact hK (by decide) (Value.int .i64 ux) _ (fun u hu => oV hu) (Below.refl _ _) (fct_none rfl)
  ·obtain rfl := oI ho
   have d6 : listed.getD 6 false = true := hdep ⟨6, .data⟩ (by simp) rfl
   have q13 : a.tmps[13]?.getD undef = Value.int .i64 ux := hI.val 6 _ 13 _ rfl rfl rfl d6
   clear hdep hI ho hF
   go_simp
   refine (H1.out _).mono ?_
   rintro e W2 ⟨E, f, G, g, rfl, hcap, ⟨hE, hG⟩, hb⟩
   exact hK (by decide) (.agg #[.bool t1, .slice E k1 f, .bool false, .slice G l g]) _ (fun u hu => nV hu) hb (fun p hp e => by
    simp only [List.mem_cons, List.not_mem_nil, or_false] at hp
    rcases hp with rfl | rfl | rfl | rfl | rfl
    ·exact ⟨E, f, G, g, rfl, hE, hG⟩
    ·exact absurd e (fct_ne (i := 13) rfl)
    ·exact absurd e (fct_ne (i := 14) rfl)
    ·exact absurd e (fct_ne (i := 15) rfl)
    ·exact absurd e (fct_ne (i := 16) rfl))
  ·obtain rfl := oI ho
   have q3 : a.tmps[3]?.getD undef = Value.pointer (some ⟨(w.heap.size + 1), 0, none⟩) := hI.old 3 (noDst_spec (by kernel_rfl))
   clear hdep hI ho hF
   go_simp
   exact hK (by decide) (Value.pointer (some ⟨(w.heap.size + 1), 4, none⟩)) _ (fun u hu => oV hu) (Below.refl _ _) (fct_none rfl)
  ·obtain rfl := oI ho
   have d8 : listed.getD 8 false = true := hdep ⟨8, .data⟩ (by simp) rfl
   have q15 : a.tmps[15]?.getD undef = Value.pointer (some ⟨(w.heap.size + 1), 4, none⟩) := hI.val 8 _ 15 _ rfl rfl rfl d8
   have x4 := (HA.out.after hB).c 4 rfl
   have x5 := (HA.out.after hB).c 5 rfl
   have x6 := (HA.out.after hB).c 6 rfl
   have x7 := (HA.out.after hB).c 7 rfl
   clear hdep hI ho hF
   go_simp
   exact hK (by decide) (Value.agg #[.bool sy, .slice E1 ky f1, .bool false, .slice G1 jy g1]) _ (fun u hu => oV hu) (Below.refl _ _) (fct_none rfl)
  ·obtain rfl := oI ho
   have q2 : a.tmps[2]?.getD undef = Value.pointer (some ⟨w.heap.size, 0, none⟩) := hI.old 2 (noDst_spec (by kernel_rfl))
   clear hdep hI ho hF
   go_simp
   exact hK (by decide) (Value.pointer (some ⟨w.heap.size, 0, none⟩)) _ (fun u hu => oV hu) (Below.refl _ _) (fct_none rfl)
  ·obtain rfl := oI ho
   have d10 : listed.getD 10 false = true := hdep ⟨10, .data⟩ (by simp) rfl
   have q17 : a.tmps[17]?.getD undef = Value.pointer (some ⟨w.heap.size, 0, none⟩) := hI.val 10 _ 17 _ rfl rfl rfl d10
   clear hdep hI ho hF
   go_simp
   exact hK (by decide) (Value.pointer (some ⟨w.heap.size, 1, none⟩)) _ (fun u hu => oV hu) (Below.refl _ _) (fct_none rfl)
  ·obtain rfl := oI ho
   have d11 : listed.getD 11 false = true := hdep ⟨11, .data⟩ (by simp) rfl
   have q18 : a.tmps[18]?.getD undef = Value.pointer (some ⟨w.heap.size, 1, none⟩) := hI.val 11 _ 18 _ rfl rfl rfl d11
   have x1 := (HS.out.after hB).c 1 rfl
   clear hdep hI ho hF
   go_simp
   exact hK (by decide) (Value.int .i64 ay) _ (fun u hu => oV hu) (Below.refl _ _) (fct_none rfl)
  ·obtain rfl := oI ho
   have d12 : listed.getD 12 false = true := hdep ⟨12, .data⟩ (by simp) rfl
   have q19 : a.tmps[19]?.getD undef = Value.int .i64 ay := hI.val 12 _ 19 _ rfl rfl rfl d12
   clear hdep hI ho hF
   go_simp
   refine (H2.out _).mono ?_
   rintro e W2 ⟨E, f, G, g, rfl, hcap, ⟨hE, hG⟩, hb⟩
   exact hK (by decide) (.agg #[.bool t2, .slice E k2 f, .bool false, .slice G l g]) _ (fun u hu => nV hu) hb (fun p hp e => by
    simp only [List.mem_cons, List.not_mem_nil, or_false] at hp
    rcases hp with rfl | rfl | rfl | rfl | rfl
    ·exact absurd e (fct_ne (i := 7) rfl)
    ·exact ⟨E, f, G, g, rfl, hcap, hE, hG⟩
    ·exact absurd e (fct_ne (i := 14) rfl)
    ·exact absurd e (fct_ne (i := 15) rfl)
    ·exact absurd e (fct_ne (i := 16) rfl))
  ·obtain rfl := oI ho
   have d9 : listed.getD 9 false = true := hdep ⟨9, .data⟩ (by simp) rfl
   have q16 : a.tmps[16]?.getD undef = Value.agg #[.bool sy, .slice E1 ky f1, .bool false, .slice G1 jy g1] := hI.val 9 _ 16 _ rfl rfl rfl d9
   have d13 : listed.getD 13 false = true := hdep ⟨13, .data⟩ (by simp) rfl
   obtain ⟨E, f, G, g, hq2, hcap, hx2, hy2⟩ := hF (rqFct6 13 20 t2 m2 1 k2 l) (by simp) d13
   have q20 : a.tmps[20]?.getD undef = .agg #[.bool t2, .slice E k2 f, .bool false, .slice G l g] := hq2
   have HC := Lib.hid (H3.out E1 f1 G1 g1 E f G g W (hb0.trans (hB.mono hb0.size)) (hE1.below hB) (hG1.below hB) hx2 hy2 hcap.1)
   clear hcap
   clear hdep hI ho hF
   go_simp
   refine HC.out.mono ?_
   rintro e W2 ⟨A', c', D', d', rfl, -, ⟨hA', hD'⟩, hb⟩
   exact hK (by decide) (.agg #[.bool s3, .slice A' k3 c', .bool false, .slice D' j3 d']) _ (fun u hu => nV hu) hb (fun p hp e => by
    simp only [List.mem_cons, List.not_mem_nil, or_false] at hp
    rcases hp with rfl | rfl | rfl | rfl | rfl
    ·exact absurd e (fct_ne (i := 7) rfl)
    ·exact absurd e (fct_ne (i := 13) rfl)
    ·exact ⟨A', c', D', d', rfl, hA', hD'⟩
    ·exact absurd e (fct_ne (i := 15) rfl)
    ·exact absurd e (fct_ne (i := 16) rfl))
  ·obtain rfl := oI ho
   have d7 : listed.getD 7 false = true := hdep ⟨7, .data⟩ (by simp) rfl
   have d14 : listed.getD 14 false = true := hdep ⟨14, .data⟩ (by simp) rfl
   obtain ⟨A, c, D, d, hq1, hx1, hy1⟩ := hF (rqFct4 7 14 t1 m1 1 k1 l) (by simp) d7
   have q14 : a.tmps[14]?.getD undef = .agg #[.bool t1, .slice A k1 c, .bool false, .slice D l d] := hq1
   obtain ⟨E, f, G, g, hq2, hx2, hy2⟩ := hF (rqFct4 14 21 s3 m3 n3 k3 j3) (by simp) d14
   have q21 : a.tmps[21]?.getD undef = .agg #[.bool s3, .slice E k3 f, .bool false, .slice G j3 g] := hq2
   have HC := Lib.hid (H4.out A c D d E f G g W (hb0.trans (hB.mono hb0.size)) hx1 hy1 hx2 hy2)
   clear hdep hI ho hF
   go_simp
   refine HC.out.mono ?_
   rintro e W2 ⟨A', c', D', d', rfl, -, ⟨hA', hD'⟩, hb⟩
   exact hK (by decide) (.agg #[.bool s4, .slice A' k4 c', .bool false, .slice D' j4 d']) _ (fun u hu => nV hu) hb (fun p hp e => by
    simp only [List.mem_cons, List.not_mem_nil, or_false] at hp
    rcases hp with rfl | rfl | rfl | rfl | rfl
    ·exact absurd e (fct_ne (i := 7) rfl)
    ·exact absurd e (fct_ne (i := 13) rfl)
    ·exact absurd e (fct_ne (i := 14) rfl)
    ·exact ⟨A', c', D', d', rfl, hA', hD'⟩
    ·exact absurd e (fct_ne (i := 16) rfl))
  ·obtain rfl := oI ho
   clear hdep hI ho hF
   go_simp
   exact hK (by decide) (.pointer (some ⟨W.heap.size, 0, none⟩)) _ (fun u hu => nV hu) ((Below.refl _ _).alloc (Nat.le_refl _) _) (fun p hp e => by
    simp only [List.mem_cons, List.not_mem_nil, or_false] at hp
    rcases hp with rfl | rfl | rfl | rfl | rfl
    ·exact absurd e (fct_ne (i := 7) rfl)
    ·exact absurd e (fct_ne (i := 13) rfl)
    ·exact absurd e (fct_ne (i := 14) rfl)
    ·exact absurd e (fct_ne (i := 15) rfl)
    ·exact ⟨W.heap.size, rfl, hB.size, Row.at rfl _ _⟩)
  ·obtain rfl := oI ho
   have d15 : listed.getD 15 false = true := hdep ⟨15, .data⟩ (by simp) rfl
   have d16 : listed.getD 16 false = true := hdep ⟨16, .data⟩ (by simp) rfl
   obtain ⟨A, c, D, d, hq1, hx1, hy1⟩ := hF (rqFct4 15 22 s4 m4 n4 k4 j4) (by simp) d15
   obtain ⟨C, hq2, hl, hr⟩ := hF (newFctS 16 5 W0.heap.size [.bool false, .slice none 0 0, .bool false, .slice none 0 0]) (by simp) d16
   have q22 : a.tmps[22]?.getD undef = .agg #[.bool s4, .slice A k4 c, .bool false, .slice D j4 d] := hq1
   have q5 : a.tmps[5]?.getD undef = Value.pointer (some ⟨C, 0, none⟩) := hq2
   have z0 := hr.c 0 rfl
   have z1 := hr.c 1 rfl
   have z2 := hr.c 2 rfl
   have z3 := hr.c 3 rfl
   have w0 := hr.f 0 rfl
   have w1 := hr.f 1 rfl
   have w2 := hr.f 2 rfl
   have w3 := hr.f 3 rfl
   clear hdep hI ho hF
   go_simp
   exact hKf rfl undef _ (fun u hu => nV hu) ⟨C, A, c, D, d, hq2, hl, hr.putAll [_, _, _, _] rfl, ⟨hx1.putQ z0 _ _ _ _, hy1.putQ z0 _ _ _ _⟩, below_on hB (On.setCells _ C [_, _, _, _] 0 _ (On.refl _ C)) hl⟩
 ·intro listed a W hI hall hfin hend
  obtain ⟨C, A0, c0, D0, d0, hq, hl, hr, ⟨v1, v2⟩, hbW⟩ := hfin (by decide)
  have q5 : a.tmps[5]?.getD undef = Value.pointer (some ⟨C, 0, none⟩) := hq
  have q2 : a.tmps[2]?.getD undef = Value.pointer (some ⟨w.heap.size, 0, none⟩) := hI.old 2 (noDst_spec (by kernel_rfl))
  have q3 : a.tmps[3]?.getD undef = Value.pointer (some ⟨(w.heap.size + 1), 0, none⟩) := hI.old 3 (noDst_spec (by kernel_rfl))
  have hdf : a.defers = [] := hI.defers
  have hsz : a.tmps.size = 42 := hI.size
  have HS1 := Lib.hid (HS.out.after hbW)
  have HA1 := Lib.hid (HA.out.after hbW)
  have hb1 := hb0.trans (hbW.mono hb0.size)
  have hA1' := hA1.below hbW
  have hD1' := hD1.below hbW
  have HR1 := Lib.hid (And.intro hr (And.intro v1 v2))
  clear hall hfin hend hI hq hbW hb0 HS HA hr v1 v2 hA1 hD1 hE1 hG1
  generalize W = W1 at *
  obtain ⟨tm0, df0⟩ := a
  simp only at hdf q2 q3 q5 hsz
  subst hdf
  have q5' := q5
  have o2 := q2
  have o3 := q3
  go_upto_region 2 with fail
  have HSZ := Lib.hid hsz
  clear hsz
  refine wp_region_fct (by kernel_rfl) [] (fun ix => match ix with
   | 0 => some (Value.pointer (some ⟨w.heap.size, 2, none⟩))
   | 1 => some (Value.pointer (some ⟨w.heap.size, 3, none⟩))
   | 2 => some (Value.int .i64 bY)
   | 3 => some (Value.pointer (some ⟨w.heap.size, 0, none⟩))
   | 4 => some (Value.pointer (some ⟨w.heap.size, 1, none⟩))
   | 5 => some (Value.int .i64 ay)
   | 6 => some (Value.int .i64 uy)
   | 8 => some (Value.pointer (some ⟨(w.heap.size + 1), 0, none⟩))
   | 9 => some (Value.agg #[.bool sx, .slice A1 kx c1, .bool false, .slice D1 jx d1])
   | 10 => some (Value.pointer (some ⟨w.heap.size, 0, none⟩))
   | 11 => some (Value.pointer (some ⟨w.heap.size, 0, none⟩))
   | 12 => some (Value.int .i64 ax)
   | _ => none) (by intro j hj; cases hj) 17 [rqFct4 7 30 t5 m5 1 k5 l, rqFct6 13 36 t6 m6 1 k6 l, rqFct4 14 37 s7 m7 n7 k7 j7, rqFct4 15 38 s8 m8 n8 k8 j8, newFctS 16 6 W1.heap.size [.bool false, .slice none 0 0, .bool false, .slice none 0 0]] (fun sl W => ∃ C A c D d, sl 6 = .pointer (some ⟨C, 0, none⟩) ∧ W1.heap.size ≤ C ∧ Row W C [.bool s8, .slice A k8 c, .bool false, .slice D j8 d] ∧ (DS W m8 A ∧ DS W n8 D) ∧ Below W1.heap.size W1 W) (by show midOkG _ tm0.size _ = true; rw [HSZ.out]; kernel_rfl) (by kernel_rfl) (by rfl) ?_ ?_
  ·intro listed a W ix o hI ho hdep hB hF K hK hKf
   have hi : ix < 18 := (Array.getElem?_eq_some_iff.1 ho).1
   have hcase : ix = 0 ∨ ix = 1 ∨ ix = 2 ∨ ix = 3 ∨ ix = 4 ∨ ix = 5 ∨ ix = 6 ∨ ix = 7 ∨ ix = 8 ∨ ix = 9 ∨ ix = 10 ∨ ix = 11 ∨ ix = 12 ∨ ix = 13 ∨ ix = 14 ∨ ix = 15 ∨ ix = 16 ∨ ix = 17 := by omega
   clear hi
   rcases hcase with rfl | rfl | rfl | rfl | rfl | rfl | rfl | rfl | rfl | rfl | rfl | rfl | rfl | rfl | rfl | rfl | rfl | rfl
   ·obtain rfl := oI ho
    have q2 : a.tmps[2]?.getD undef = Value.pointer (some ⟨w.heap.size, 0, none⟩) := (hI.old 2 (noDst_spec (by kernel_rfl))).trans o2
    clear hdep hI ho hF
    go_simp
    exact hK (by decide) (Value.pointer (some ⟨w.heap.size, 2, none⟩)) _ (fun u hu => oV hu) (Below.refl _ _) (fct_none rfl)
   ·obtain rfl := oI ho
    have d0 : listed.getD 0 false = true := hdep ⟨0, .data⟩ (by simp) rfl
    have q23 : a.tmps[23]?.getD undef = Value.pointer (some ⟨w.heap.size, 2, none⟩) := hI.val 0 _ 23 _ rfl rfl rfl d0
    clear hdep hI ho hF
    go_simp
    exact hK (by decide) (Value.pointer (some ⟨w.heap.size, 3, none⟩)) _ (fun u hu => oV hu) (Below.refl _ _) (fct_none rfl)
   ·obtain rfl := oI ho
    have d1 : listed.getD 1 false = true := hdep ⟨1, .data⟩ (by simp) rfl
    have q24 : a.tmps[24]?.getD undef = Value.pointer (some ⟨w.heap.size, 3, none⟩) := hI.val 1 _ 24 _ rfl rfl rfl d1
    have x3 := (HS1.out.after hB).c 3 rfl
    clear hdep hI ho hF
    go_simp
    exact hK (by decide) (Value.int .i64 bY) _ (fun u hu => oV hu) (Below.refl _ _) (fct_none rfl)
   ·obtain rfl := oI ho
    have q2 : a.tmps[2]?.getD undef = Value.pointer (some ⟨w.heap.size, 0, none⟩) := (hI.old 2 (noDst_spec (by kernel_rfl))).trans o2
    clear hdep hI ho hF
    go_simp
    exact hK (by decide) (Value.pointer (some ⟨w.heap.size, 0, none⟩)) _ (fun u hu => oV hu) (Below.refl _ _) (fct_none rfl)
   ·obtain rfl := oI ho
    have d3 : listed.getD 3 false = true := hdep ⟨3, .data⟩ (by simp) rfl
    have q26 : a.tmps[26]?.getD undef = Value.pointer (some ⟨w.heap.size, 0, none⟩) := hI.val 3 _ 26 _ rfl rfl rfl d3
    clear hdep hI ho hF
    go_simp
    exact hK (by decide) (Value.pointer (some ⟨w.heap.size, 1, none⟩)) _ (fun u hu => oV hu) (Below.refl _ _) (fct_none rfl)
   ·obtain rfl := oI ho
    have d4 : listed.getD 4 false = true := hdep ⟨4, .data⟩ (by simp) rfl
    have q27 : a.tmps[27]?.getD undef = Value.pointer (some ⟨w.heap.size, 1, none⟩) := hI.val 4 _ 27 _ rfl rfl rfl d4
    have x1 := (HS1.out.after hB).c 1 rfl
    clear hdep hI ho hF
    go_simp
    exact hK (by decide) (Value.int .i64 ay) _ (fun u hu => oV hu) (Below.refl _ _) (fct_none rfl)
   ·obtain rfl := oI ho
    have d2 : listed.getD 2 false = true := hdep ⟨2, .data⟩ (by simp) rfl
    have q25 : a.tmps[25]?.getD undef = Value.int .i64 bY := hI.val 2 _ 25 _ rfl rfl rfl d2
    have d5 : listed.getD 5 false = true := hdep ⟨5, .data⟩ (by simp) rfl
    have q28 : a.tmps[28]?.getD undef = Value.int .i64 ay := hI.val 5 _ 28 _ rfl rfl rfl d5
    clear hdep hI ho hF
    go_simp
    exact hK (by decide) (Value.int .i64 uy) _ (fun u hu => oV hu) (Below.refl _ _) (fct_none rfl)
   ·obtain rfl := oI ho
    have d6 : listed.getD 6 false = true := hdep ⟨6, .data⟩ (by simp) rfl
    have q29 : a.tmps[29]?.getD undef = Value.int .i64 uy := hI.val 6 _ 29 _ rfl rfl rfl d6
    clear hdep hI ho hF
    go_simp
    refine (H5.out _).mono ?_
    rintro e W2 ⟨E, f, G, g, rfl, hcap, ⟨hE, hG⟩, hb⟩
    exact hK (by decide) (.agg #[.bool t5, .slice E k5 f, .bool false, .slice G l g]) _ (fun u hu => nV hu) hb (fun p hp e => by
     simp only [List.mem_cons, List.not_mem_nil, or_false] at hp
     rcases hp with rfl | rfl | rfl | rfl | rfl
     ·exact ⟨E, f, G, g, rfl, hE, hG⟩
     ·exact absurd e (fct_ne (i := 13) rfl)
     ·exact absurd e (fct_ne (i := 14) rfl)
     ·exact absurd e (fct_ne (i := 15) rfl)
     ·exact absurd e (fct_ne (i := 16) rfl))
   ·obtain rfl := oI ho
    have q3 : a.tmps[3]?.getD undef = Value.pointer (some ⟨(w.heap.size + 1), 0, none⟩) := (hI.old 3 (noDst_spec (by kernel_rfl))).trans o3
    clear hdep hI ho hF
    go_simp
    exact hK (by decide) (Value.pointer (some ⟨(w.heap.size + 1), 0, none⟩)) _ (fun u hu => oV hu) (Below.refl _ _) (fct_none rfl)
   ·obtain rfl := oI ho
    have d8 : listed.getD 8 false = true := hdep ⟨8, .data⟩ (by simp) rfl
    have q31 : a.tmps[31]?.getD undef = Value.pointer (some ⟨(w.heap.size + 1), 0, none⟩) := hI.val 8 _ 31 _ rfl rfl rfl d8
    have x0 := (HA1.out.after hB).c 0 rfl
    have x1 := (HA1.out.after hB).c 1 rfl
    have x2 := (HA1.out.after hB).c 2 rfl
    have x3 := (HA1.out.after hB).c 3 rfl
    clear hdep hI ho hF
    go_simp
    exact hK (by decide) (Value.agg #[.bool sx, .slice A1 kx c1, .bool false, .slice D1 jx d1]) _ (fun u hu => oV hu) (Below.refl _ _) (fct_none rfl)
   ·obtain rfl := oI ho
    have q2 : a.tmps[2]?.getD undef = Value.pointer (some ⟨w.heap.size, 0, none⟩) := (hI.old 2 (noDst_spec (by kernel_rfl))).trans o2
    clear hdep hI ho hF
    go_simp
    exact hK (by decide) (Value.pointer (some ⟨w.heap.size, 0, none⟩)) _ (fun u hu => oV hu) (Below.refl _ _) (fct_none rfl)
   ·obtain rfl := oI ho
    have d10 : listed.getD 10 false = true := hdep ⟨10, .data⟩ (by simp) rfl
    have q33 : a.tmps[33]?.getD undef = Value.pointer (some ⟨w.heap.size, 0, none⟩) := hI.val 10 _ 33 _ rfl rfl rfl d10
    clear hdep hI ho hF
    go_simp
    exact hK (by decide) (Value.pointer (some ⟨w.heap.size, 0, none⟩)) _ (fun u hu => oV hu) (Below.refl _ _) (fct_none rfl)
   ·obtain rfl := oI ho
    have d11 : listed.getD 11 false = true := hdep ⟨11, .data⟩ (by simp) rfl
    have q34 : a.tmps[34]?.getD undef = Value.pointer (some ⟨w.heap.size, 0, none⟩) := hI.val 11 _ 34 _ rfl rfl rfl d11
    have x0 := (HS1.out.after hB).c 0 rfl
    clear hdep hI ho hF
    go_simp
    exact hK (by decide) (Value.int .i64 ax) _ (fun u hu => oV hu) (Below.refl _ _) (fct_none rfl)
   ·obtain rfl := oI ho
    have d12 : listed.getD 12 false = true := hdep ⟨12, .data⟩ (by simp) rfl
    have q35 : a.tmps[35]?.getD undef = Value.int .i64 ax := hI.val 12 _ 35 _ rfl rfl rfl d12
    clear hdep hI ho hF
    go_simp
    refine (H6.out _).mono ?_
    rintro e W2 ⟨E, f, G, g, rfl, hcap, ⟨hE, hG⟩, hb⟩
    exact hK (by decide) (.agg #[.bool t6, .slice E k6 f, .bool false, .slice G l g]) _ (fun u hu => nV hu) hb (fun p hp e => by
     simp only [List.mem_cons, List.not_mem_nil, or_false] at hp
     rcases hp with rfl | rfl | rfl | rfl | rfl
     ·exact absurd e (fct_ne (i := 7) rfl)
     ·exact ⟨E, f, G, g, rfl, hcap, hE, hG⟩
     ·exact absurd e (fct_ne (i := 14) rfl)
     ·exact absurd e (fct_ne (i := 15) rfl)
     ·exact absurd e (fct_ne (i := 16) rfl))
   ·obtain rfl := oI ho
    have d9 : listed.getD 9 false = true := hdep ⟨9, .data⟩ (by simp) rfl
    have q32 : a.tmps[32]?.getD undef = Value.agg #[.bool sx, .slice A1 kx c1, .bool false, .slice D1 jx d1] := hI.val 9 _ 32 _ rfl rfl rfl d9
    have d13 : listed.getD 13 false = true := hdep ⟨13, .data⟩ (by simp) rfl
    obtain ⟨E, f, G, g, hq2, hcap, hx2, hy2⟩ := hF (rqFct6 13 36 t6 m6 1 k6 l) (by simp) d13
    have q36 : a.tmps[36]?.getD undef = .agg #[.bool t6, .slice E k6 f, .bool false, .slice G l g] := hq2
    have HC := Lib.hid (H7.out A1 c1 D1 d1 E f G g W (hb1.trans (hB.mono hb1.size)) (hA1'.below hB) (hD1'.below hB) hx2 hy2 hcap.1)
    clear hcap
    clear hdep hI ho hF
    go_simp
    refine HC.out.mono ?_
    rintro e W2 ⟨A', c', D', d', rfl, -, ⟨hA', hD'⟩, hb⟩
    exact hK (by decide) (.agg #[.bool s7, .slice A' k7 c', .bool false, .slice D' j7 d']) _ (fun u hu => nV hu) hb (fun p hp e => by
     simp only [List.mem_cons, List.not_mem_nil, or_false] at hp
     rcases hp with rfl | rfl | rfl | rfl | rfl
     ·exact absurd e (fct_ne (i := 7) rfl)
     ·exact absurd e (fct_ne (i := 13) rfl)
     ·exact ⟨A', c', D', d', rfl, hA', hD'⟩
     ·exact absurd e (fct_ne (i := 15) rfl)
     ·exact absurd e (fct_ne (i := 16) rfl))
   ·obtain rfl := oI ho
    have d7 : listed.getD 7 false = true := hdep ⟨7, .data⟩ (by simp) rfl
    have d14 : listed.getD 14 false = true := hdep ⟨14, .data⟩ (by simp) rfl
    obtain ⟨A, c, D, d, hq1, hx1, hy1⟩ := hF (rqFct4 7 30 t5 m5 1 k5 l) (by simp) d7
    have q30 : a.tmps[30]?.getD undef = .agg #[.bool t5, .slice A k5 c, .bool false, .slice D l d] := hq1
    obtain ⟨E, f, G, g, hq2, hx2, hy2⟩ := hF (rqFct4 14 37 s7 m7 n7 k7 j7) (by simp) d14
    have q37 : a.tmps[37]?.getD undef = .agg #[.bool s7, .slice E k7 f, .bool false, .slice G j7 g] := hq2
    have HC := Lib.hid (H8.out A c D d E f G g W (hb1.trans (hB.mono hb1.size)) hx1 hy1 hx2 hy2)
    clear hdep hI ho hF
    go_simp
    refine HC.out.mono ?_
    rintro e W2 ⟨A', c', D', d', rfl, -, ⟨hA', hD'⟩, hb⟩
    exact hK (by decide) (.agg #[.bool s8, .slice A' k8 c', .bool false, .slice D' j8 d']) _ (fun u hu => nV hu) hb (fun p hp e => by
     simp only [List.mem_cons, List.not_mem_nil, or_false] at hp
     rcases hp with rfl | rfl | rfl | rfl | rfl
     ·exact absurd e (fct_ne (i := 7) rfl)
     ·exact absurd e (fct_ne (i := 13) rfl)
     ·exact absurd e (fct_ne (i := 14) rfl)
     ·exact ⟨A', c', D', d', rfl, hA', hD'⟩
     ·exact absurd e (fct_ne (i := 16) rfl))
   ·obtain rfl := oI ho
    clear hdep hI ho hF
    go_simp
    exact hK (by decide) (.pointer (some ⟨W.heap.size, 0, none⟩)) _ (fun u hu => nV hu) ((Below.refl _ _).alloc (Nat.le_refl _) _) (fun p hp e => by
     simp only [List.mem_cons, List.not_mem_nil, or_false] at hp
     rcases hp with rfl | rfl | rfl | rfl | rfl
     ·exact absurd e (fct_ne (i := 7) rfl)
     ·exact absurd e (fct_ne (i := 13) rfl)
     ·exact absurd e (fct_ne (i := 14) rfl)
     ·exact absurd e (fct_ne (i := 15) rfl)
     ·exact ⟨W.heap.size, rfl, hB.size, Row.at rfl _ _⟩)
   ·obtain rfl := oI ho
    have d15 : listed.getD 15 false = true := hdep ⟨15, .data⟩ (by simp) rfl
    have d16 : listed.getD 16 false = true := hdep ⟨16, .data⟩ (by simp) rfl
    obtain ⟨A, c, D, d, hq1, hx1, hy1⟩ := hF (rqFct4 15 38 s8 m8 n8 k8 j8) (by simp) d15
    obtain ⟨C, hq2, hl, hr⟩ := hF (newFctS 16 6 W1.heap.size [.bool false, .slice none 0 0, .bool false, .slice none 0 0]) (by simp) d16
    have q38 : a.tmps[38]?.getD undef = .agg #[.bool s8, .slice A k8 c, .bool false, .slice D j8 d] := hq1
    have q6 : a.tmps[6]?.getD undef = Value.pointer (some ⟨C, 0, none⟩) := hq2
    have z0 := hr.c 0 rfl
    have z1 := hr.c 1 rfl
    have z2 := hr.c 2 rfl
    have z3 := hr.c 3 rfl
    have w0 := hr.f 0 rfl
    have w1 := hr.f 1 rfl
    have w2 := hr.f 2 rfl
    have w3 := hr.f 3 rfl
    clear hdep hI ho hF
    go_simp
    exact hKf rfl undef _ (fun u hu => nV hu) ⟨C, A, c, D, d, hq2, hl, hr.putAll [_, _, _, _] rfl, ⟨hx1.putQ z0 _ _ _ _, hy1.putQ z0 _ _ _ _⟩, below_on hB (On.setCells _ C [_, _, _, _] 0 _ (On.refl _ C)) hl⟩
  ·intro listed a W hI hall hfin hend
   obtain ⟨C2, A2, c2, D2, d2, hq2, hl2, hr2, ⟨v3, v4⟩, hbW2⟩ := hfin (by decide)
   have q6 : a.tmps[6]?.getD undef = Value.pointer (some ⟨C2, 0, none⟩) := hq2
   have q5 : a.tmps[5]?.getD undef = Value.pointer (some ⟨C, 0, none⟩) := (hI.old 5 (noDst_spec (by kernel_rfl))).trans q5'
   have hB2 := hb1.trans (hbW2.mono hb1.size)
   have hsz : a.tmps.size = 42 := hI.size.trans HSZ.out
   have hdf : a.defers = [] := hI.defers
   have r1' := HR1.out.1.after hbW2
   have v1' := HR1.out.2.1.below hbW2
   have v2' := HR1.out.2.2.below hbW2
   clear hall hfin hend hI hq2 hbW2 hb1 HS1 HA1 HR1 q5'
   obtain ⟨tm, df⟩ := a
   simp only at hdf q5 q6 hsz
   subst hdf
   have h4 : 4 < tm.size := by omega
   have h39 : 39 < tm.size := by omega
   have h40 : 40 < tm.size := by omega
   have h41 : 41 < tm.size := by omega
   clear hsz
   have x0 := r1'.c 0 rfl
   have x1 := r1'.c 1 rfl
   have x2 := r1'.c 2 rfl
   have x3 := r1'.c 3 rfl
   have y0 := hr2.c 0 rfl
   have y1 := hr2.c 1 rfl
   have y2 := hr2.c 2 rfl
   have y3 := hr2.c 3 rfl
   have HC := Lib.hid (H9.out A0 c0 D0 d0 A2 c2 D2 d2 W hB2 v1' v2' v3 v4)
   clear r1' hr2 v1' v2' v3 v4 hl hl2
   go_wp2_with fail
   refine HC.out.mono ?_
   rintro e w5 ⟨rfl, hb⟩
   have HB := Lib.hid (hB2.trans (hb.mono hB2.size))
   clear hb
   go_wp2_with fail
   exact bodyPost_ret (v := .int .i64 r) (by simp [results, Tryz.results23, go_sem, h4]) rfl ⟨rfl, HB.out⟩

end Go.Proofs.YtdfmmkidknginaaGreatDoor
