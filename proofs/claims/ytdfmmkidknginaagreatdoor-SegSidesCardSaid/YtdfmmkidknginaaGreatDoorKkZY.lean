import Derived.Test.YtdfmmkidknginaaGreatDoorKkZX
import Derived.Test.YtdfmmkidknginaaGreatDoorZKkZG
namespace Go.Proofs.YtdfmmkidknginaaGreatDoor
open Go.RowKit Go.Sort CrossMath

def anyFct (idx slot : Nat) (D : Array Value → World → Prop) (k : ∀ u X Y, D u X → Below X.heap.size X Y → D u Y) : Fct := ⟨idx, slot, fun v W => ∃ u, v = .agg u ∧ D u W, fun v X Y h hb => by
 obtain ⟨u, h1, h2⟩ := h
 exact ⟨u, h1, k u X Y h2 hb⟩⟩
set_option maxRecDepth 100000 in
set_option maxHeartbeats 12800000 in
theorem refon_core (ax ay bx bY r0 r1 r2 : Int) (p0  p1  p2  p3  p4  p5  p6  p7 : Value) (Da Db : Array Value → World → Prop) (kA : ∀ u X Y, Da u X → Below X.heap.size X Y → Da u Y) (kB : ∀ u X Y, Db u X → Below X.heap.size X Y → Db u Y) (D : World → Prop) (w : World) (hD : ∀ W, Below w.heap.size w W → D W)
 (h1 : ∀ W, Calls Tryz.prog 61 #[.agg #[.int .i64 ax, .int .i64 ay]] W fun e w' => ∃ u, e = .returned (.agg u) ∧ Da u w' ∧ Below W.heap.size W w')
 (h2 : ∀ u W, Da u W → D W → Calls Tryz.prog 60 #[.agg u, .agg #[p0, p1, p2, p3, p4, p5, p6, p7]] W fun e w' => e = .returned (.int .i64 r1) ∧ Below W.heap.size W w')
 (h3 : ∀ W, Calls Tryz.prog 61 #[.agg #[.int .i64 bx, .int .i64 bY]] W fun e w' => ∃ u, e = .returned (.agg u) ∧ Db u w' ∧ Below W.heap.size W w')
 (h4 : ∀ u W, D W → Db u W → Calls Tryz.prog 60 #[.agg #[p0, p1, p2, p3, p4, p5, p6, p7], .agg u] W fun e w' => e = .returned (.int .i64 r2) ∧ Below W.heap.size W w')
 (h5 : ∀ W, D W → Calls Tryz.prog 23 #[.agg #[.int .i64 ax, .int .i64 ay, .int .i64 bx, .int .i64 bY], .agg #[p0, p1, p2, p3, p4, p5, p6, p7]] W fun e w' => e = .returned (.int .i64 r0) ∧ Below W.heap.size W w') :
 Calls Tryz.prog 24 #[.agg #[.int .i64 ax, .int .i64 ay, .int .i64 bx, .int .i64 bY], .agg #[p0, p1, p2, p3, p4, p5, p6, p7]] w fun e w' => e = .returned (.bool ((r0 == 0) && ((r1 == 0) || ((r2 == 0) || (r1 == r2))))) ∧ Below w.heap.size w w' := by
 have H1 := Lib.hid h1; clear h1
 have H2 := Lib.hid h2; clear h2
 have H3 := Lib.hid h3; clear h3
 have H4 := Lib.hid h4; clear h4
 have H5 := Lib.hid h5; clear h5
 have HD := Lib.hid hD; clear hD
 go_enter Tryz.func24, Tryz.ntmps24
 go_upto_region 1 with fail
 generalize hW : World.alloc _ _ = W0
 have HS := Lib.hid (show Row W0 w.heap.size [.int .i64 ax, .int .i64 ay, .int .i64 bx, .int .i64 bY] by rw [← hW]; exact (Row.at rfl [.int .i64 ax, .int .i64 ay, .int .i64 bx, .int .i64 bY] _).alloc _)
 have HA := Lib.hid (show Row W0 (w.heap.size + 1) [p0, p1, p2, p3, p4, p5, p6, p7] by rw [← hW]; exact Row.at (by simp) [p0, p1, p2, p3, p4, p5, p6, p7] _)
 have hb0 : Below w.heap.size w W0 := by rw [← hW]; exact ((Below.refl w.heap.size w).alloc (Nat.le_refl _) _).alloc (by simp) _
 clear hW
 refine wp_region_fct (by kernel_rfl) [] (fun ix => match ix with
  | 0 => some (Value.pointer (some ⟨w.heap.size, 0, none⟩))
  | 1 => some (Value.agg #[.int .i64 ax, .int .i64 ay])
  | 3 => some (Value.agg #[p0, p1, p2, p3, p4, p5, p6, p7])
  | 4 => some (Value.int .i64 r1)
  | 5 => some (Value.agg #[p0, p1, p2, p3, p4, p5, p6, p7])
  | 6 => some (Value.pointer (some ⟨w.heap.size, 2, none⟩))
  | 7 => some (Value.agg #[.int .i64 bx, .int .i64 bY])
  | 9 => some (Value.int .i64 r2)
  | 10 => some (Value.int .i64 r1)
  | 11 => some (Value.int .i64 r2)
  | _ => none) (by intro j hj; cases hj) 12 [anyFct 2 9 Da kA, anyFct 8 15 Db kB] (fun _ _ => False) (by kernel_rfl) (by kernel_rfl) (by rfl) ?_ ?_
 ·intro listed a W ix o hI ho hdep hB hF K hK hKf
  have hi : ix < 12 := (Array.getElem?_eq_some_iff.1 ho).1
  have hcase : ix = 0 ∨ ix = 1 ∨ ix = 2 ∨ ix = 3 ∨ ix = 4 ∨ ix = 5 ∨ ix = 6 ∨ ix = 7 ∨ ix = 8 ∨ ix = 9 ∨ ix = 10 ∨ ix = 11 := by omega
  clear hi
  rcases hcase with rfl | rfl | rfl | rfl | rfl | rfl | rfl | rfl | rfl | rfl | rfl | rfl
  ·obtain rfl := oI ho
   have q2 : a.tmps[2]?.getD undef = Value.pointer (some ⟨w.heap.size, 0, none⟩) := hI.old 2 (noDst_spec (by kernel_rfl))
   clear hdep hI ho hF
   go_simp
   exact hK (by decide) (Value.pointer (some ⟨w.heap.size, 0, none⟩)) _ (fun u hu => oV hu) (Below.refl _ _) (fct_none rfl)
  ·obtain rfl := oI ho
   have d0 : listed.getD 0 false = true := hdep ⟨0, .data⟩ (by simp) rfl
   have q7 : a.tmps[7]?.getD undef = Value.pointer (some ⟨w.heap.size, 0, none⟩) := hI.val 0 _ 7 _ rfl rfl rfl d0
   have x0 := (HS.out.after hB).c 0 rfl
   have x1 := (HS.out.after hB).c 1 rfl
   clear hdep hI ho hF
   go_simp
   exact hK (by decide) (Value.agg #[.int .i64 ax, .int .i64 ay]) _ (fun u hu => oV hu) (Below.refl _ _) (fct_none rfl)
  ·obtain rfl := oI ho
   have d1 : listed.getD 1 false = true := hdep ⟨1, .data⟩ (by simp) rfl
   have q8 : a.tmps[8]?.getD undef = Value.agg #[.int .i64 ax, .int .i64 ay] := hI.val 1 _ 8 _ rfl rfl rfl d1
   clear hdep hI ho hF
   go_simp
   refine (H1.out _).mono ?_
   rintro e W2 ⟨u, rfl, hu, hb⟩
   exact hK (by decide) (.agg u) _ (fun u hu => nV hu) hb (fun p hp e => by
    simp only [List.mem_cons, List.not_mem_nil, or_false] at hp
    rcases hp with rfl | rfl
    ·exact ⟨u, rfl, hu⟩
    ·exact absurd e (fct_ne (i := 8) rfl))
  ·obtain rfl := oI ho
   have q3 : a.tmps[3]?.getD undef = Value.pointer (some ⟨(w.heap.size + 1), 0, none⟩) := hI.old 3 (noDst_spec (by kernel_rfl))
   have y0 := (HA.out.after hB).c 0 rfl
   have y1 := (HA.out.after hB).c 1 rfl
   have y2 := (HA.out.after hB).c 2 rfl
   have y3 := (HA.out.after hB).c 3 rfl
   have y4 := (HA.out.after hB).c 4 rfl
   have y5 := (HA.out.after hB).c 5 rfl
   have y6 := (HA.out.after hB).c 6 rfl
   have y7 := (HA.out.after hB).c 7 rfl
   clear hdep hI ho hF
   go_simp
   exact hK (by decide) (Value.agg #[p0, p1, p2, p3, p4, p5, p6, p7]) _ (fun u hu => oV hu) (Below.refl _ _) (fct_none rfl)
  ·obtain rfl := oI ho
   have d3 : listed.getD 3 false = true := hdep ⟨3, .data⟩ (by simp) rfl
   have q10 : a.tmps[10]?.getD undef = Value.agg #[p0, p1, p2, p3, p4, p5, p6, p7] := hI.val 3 _ 10 _ rfl rfl rfl d3
   have d2 : listed.getD 2 false = true := hdep ⟨2, .data⟩ (by simp) rfl
   obtain ⟨u, hq1, hu⟩ := hF (anyFct 2 9 Da kA) (by simp) d2
   have q9 : a.tmps[9]?.getD undef = .agg u := hq1
   have HC := Lib.hid (H2.out u W hu (HD.out W (hb0.trans (hB.mono hb0.size))))
   clear hdep hI ho hF
   go_simp
   refine HC.out.mono ?_
   rintro e W2 ⟨rfl, hb⟩
   exact hK (by decide) (Value.int .i64 r1) _ (fun u hu => oV hu) hb (fct_none rfl)
  ·obtain rfl := oI ho
   have q3 : a.tmps[3]?.getD undef = Value.pointer (some ⟨(w.heap.size + 1), 0, none⟩) := hI.old 3 (noDst_spec (by kernel_rfl))
   have y0 := (HA.out.after hB).c 0 rfl
   have y1 := (HA.out.after hB).c 1 rfl
   have y2 := (HA.out.after hB).c 2 rfl
   have y3 := (HA.out.after hB).c 3 rfl
   have y4 := (HA.out.after hB).c 4 rfl
   have y5 := (HA.out.after hB).c 5 rfl
   have y6 := (HA.out.after hB).c 6 rfl
   have y7 := (HA.out.after hB).c 7 rfl
   clear hdep hI ho hF
   go_simp
   exact hK (by decide) (Value.agg #[p0, p1, p2, p3, p4, p5, p6, p7]) _ (fun u hu => oV hu) (Below.refl _ _) (fct_none rfl)
  ·obtain rfl := oI ho
   have q2 : a.tmps[2]?.getD undef = Value.pointer (some ⟨w.heap.size, 0, none⟩) := hI.old 2 (noDst_spec (by kernel_rfl))
   clear hdep hI ho hF
   go_simp
   exact hK (by decide) (Value.pointer (some ⟨w.heap.size, 2, none⟩)) _ (fun u hu => oV hu) (Below.refl _ _) (fct_none rfl)
  ·obtain rfl := oI ho
   have d6 : listed.getD 6 false = true := hdep ⟨6, .data⟩ (by simp) rfl
   have q13 : a.tmps[13]?.getD undef = Value.pointer (some ⟨w.heap.size, 2, none⟩) := hI.val 6 _ 13 _ rfl rfl rfl d6
   have x2 := (HS.out.after hB).c 2 rfl
   have x3 := (HS.out.after hB).c 3 rfl
   clear hdep hI ho hF
   go_simp
   exact hK (by decide) (Value.agg #[.int .i64 bx, .int .i64 bY]) _ (fun u hu => oV hu) (Below.refl _ _) (fct_none rfl)
  ·obtain rfl := oI ho
   have d7 : listed.getD 7 false = true := hdep ⟨7, .data⟩ (by simp) rfl
   have q14 : a.tmps[14]?.getD undef = Value.agg #[.int .i64 bx, .int .i64 bY] := hI.val 7 _ 14 _ rfl rfl rfl d7
   clear hdep hI ho hF
   go_simp
   refine (H3.out _).mono ?_
   rintro e W2 ⟨u, rfl, hu, hb⟩
   exact hK (by decide) (.agg u) _ (fun u hu => nV hu) hb (fun p hp e => by
    simp only [List.mem_cons, List.not_mem_nil, or_false] at hp
    rcases hp with rfl | rfl
    ·exact absurd e (fct_ne (i := 2) rfl)
    ·exact ⟨u, rfl, hu⟩)
  ·obtain rfl := oI ho
   have d5 : listed.getD 5 false = true := hdep ⟨5, .data⟩ (by simp) rfl
   have q12 : a.tmps[12]?.getD undef = Value.agg #[p0, p1, p2, p3, p4, p5, p6, p7] := hI.val 5 _ 12 _ rfl rfl rfl d5
   have d8 : listed.getD 8 false = true := hdep ⟨8, .data⟩ (by simp) rfl
   obtain ⟨u, hq1, hu⟩ := hF (anyFct 8 15 Db kB) (by simp) d8
   have q15 : a.tmps[15]?.getD undef = .agg u := hq1
   have HC := Lib.hid (H4.out u W (HD.out W (hb0.trans (hB.mono hb0.size))) hu)
   clear hdep hI ho hF
   go_simp
   refine HC.out.mono ?_
   rintro e W2 ⟨rfl, hb⟩
   exact hK (by decide) (Value.int .i64 r2) _ (fun u hu => oV hu) hb (fct_none rfl)
  ·obtain rfl := oI ho
   have d4 : listed.getD 4 false = true := hdep ⟨4, .data⟩ (by simp) rfl
   have q11 : a.tmps[11]?.getD undef = Value.int .i64 r1 := hI.val 4 _ 11 _ rfl rfl rfl d4
   clear hdep hI ho hF
   go_simp
   exact hK (by decide) (Value.int .i64 r1) _ (fun u hu => oV hu) (Below.refl _ _) (fct_none rfl)
  ·obtain rfl := oI ho
   have d9 : listed.getD 9 false = true := hdep ⟨9, .data⟩ (by simp) rfl
   have q16 : a.tmps[16]?.getD undef = Value.int .i64 r2 := hI.val 9 _ 16 _ rfl rfl rfl d9
   clear hdep hI ho hF
   go_simp
   exact hK (by decide) (Value.int .i64 r2) _ (fun u hu => oV hu) (Below.refl _ _) (fct_none rfl)
 ·intro listed a W hI hall hfin hend
  obtain ⟨hBW, _⟩ := hend rfl
  have q5 : a.tmps[5]?.getD undef = Value.int .i64 r1 := hI.val 10 _ 5 _ rfl rfl rfl (hall 10 (by decide))
  have q6 : a.tmps[6]?.getD undef = Value.int .i64 r2 := hI.val 11 _ 6 _ rfl rfl rfl (hall 11 (by decide))
  have q2 : a.tmps[2]?.getD undef = Value.pointer (some ⟨w.heap.size, 0, none⟩) := hI.old 2 (noDst_spec (by kernel_rfl))
  have q3 : a.tmps[3]?.getD undef = Value.pointer (some ⟨(w.heap.size + 1), 0, none⟩) := hI.old 3 (noDst_spec (by kernel_rfl))
  have hdf : a.defers = [] := hI.defers
  have hsz : a.tmps.size = 34 := hI.size
  have hB := hb0.trans (hBW.mono hb0.size)
  have HC := Lib.hid (H5.out W (HD.out W hB))
  have rS := HS.out.after hBW
  have rA := HA.out.after hBW
  have x0 := rS.c 0 rfl
  have x1 := rS.c 1 rfl
  have x2 := rS.c 2 rfl
  have x3 := rS.c 3 rfl
  have y0 := rA.c 0 rfl
  have y1 := rA.c 1 rfl
  have y2 := rA.c 2 rfl
  have y3 := rA.c 3 rfl
  have y4 := rA.c 4 rfl
  have y5 := rA.c 5 rfl
  have y6 := rA.c 6 rfl
  have y7 := rA.c 7 rfl
  clear hBW hall hfin hend hI rS rA hb0 HS HA H1 H2 H3 H4 H5 HD
  obtain ⟨tm, df⟩ := a
  simp only at hdf q2 q3 q5 q6 hsz
  subst hdf
  have i4 : 4 < tm.size := by omega
  have i17 : 17 < tm.size := by omega
  have i18 : 18 < tm.size := by omega
  have i19 : 19 < tm.size := by omega
  have i20 : 20 < tm.size := by omega
  have i21 : 21 < tm.size := by omega
  have i22 : 22 < tm.size := by omega
  have i23 : 23 < tm.size := by omega
  have i24 : 24 < tm.size := by omega
  have i25 : 25 < tm.size := by omega
  have i26 : 26 < tm.size := by omega
  have i27 : 27 < tm.size := by omega
  have i28 : 28 < tm.size := by omega
  have i29 : 29 < tm.size := by omega
  have i30 : 30 < tm.size := by omega
  have i31 : 31 < tm.size := by omega
  have i32 : 32 < tm.size := by omega
  have i33 : 33 < tm.size := by omega
  clear hsz
  go_wp2_with fail
  refine HC.out.mono ?_
  rintro e w5 ⟨rfl, hb⟩
  have HB := Lib.hid (hB.trans (hb.mono hB.size))
  clear hb HC x0 x1 x2 x3 y0 y1 y2 y3 y4 y5 y6 y7
  by_cases e0 : r0 = 0 <;> by_cases e1 : r1 = 0 <;> by_cases e2 : r2 = 0 <;> by_cases e3 : r1 = r2 <;> go_wp2 <;> first
   | (exact bodyPost_ret (by simp [results, Tryz.results24, go_sem, i4]; rfl) rfl ⟨by simp [e0, e1, e2, e3, Bool.or_assoc], HB.out⟩)
   | (exfalso; omega)

theorem rsub_any (n d n2 d2 : Int) (A B E G : Option Addr) (c e f h : Nat) (w : World) (hd : 0 < d) (hd2 : 0 < d2) (h1 : n.natAbs < T256) (h2 : d.natAbs < T256) (h3 : n2.natAbs < T256) (h4 : d2.natAbs < T256)
 (m1 : (n * d2).natAbs < T256) (m2 : (-n2 * d).natAbs < T256) (m3 : (n * d2 + -n2 * d).natAbs < T256) (m4 : (d * d2).natAbs < T256) (dA : DS w n.natAbs A) (dB : DS w d.natAbs B) (dE : DS w n2.natAbs E) (dG : DS w d2.natAbs G) (hf : L16 n2.natAbs ≤ f) :
 Calls Tryz.prog 58 #[.agg #[.bool (decide (n < 0)), .slice A (L16 n.natAbs) c, .bool false, .slice B (L16 d.natAbs) e], .agg #[.bool (decide (n2 < 0)), .slice E (L16 n2.natAbs) f, .bool false, .slice G (L16 d2.natAbs) h]] w
  (RqPost w (decide (frN (n * d2 + -n2 * d) (d * d2) < 0)) false (frN (n * d2 + -n2 * d) (d * d2)).natAbs (frD (n * d2 + -n2 * d) (d * d2)).natAbs (L16 (frN (n * d2 + -n2 * d) (d * d2)).natAbs) (L16 (frD (n * d2 + -n2 * d) (d * d2)).natAbs)) := by
 refine rsub_core _ _ (decide (-n2 < 0)) _ _ _ _ _ _ _ _ _ _ _ _ _ A B E G c e f h w dA dB dE dG (fun W hW => ?_) (fun X x W hA hB hX hG => ?_)
 ·refine (refneg_z n2 E f W (dE.below hW) hf (L16_T6 h3)).mono ?_
  rintro e' w' ⟨rfl, h5, h6⟩
  exact ⟨E, f, by rw [bigv, Int.natAbs_neg], h5, h6⟩
 ·have := radd_any n d (-n2) d2 A B X G c e x h W hd hd2 h1 h2 (by rw [Int.natAbs_neg]; exact h3) h4 m1 m2 m3 m4 hA hB (by rw [Int.natAbs_neg]; exact hX) hG
  rw [Int.natAbs_neg] at this
  exact this
theorem cmp_cross {a b c d K L : Int} (hK : 0 < K) (hL : 0 < L) (h1 : a * K = c * L) (h2 : b * K = d * L) : cmpI a b = cmpI c d := by
 have hs : (a - b) * K = (c - d) * L := by rw [Int.sub_mul, Int.sub_mul, h1, h2]
 rw [cmpI_sign, cmpI_sign]
 have e := congrArg Int.sign hs
 rw [Int.sign_mul, Int.sign_mul, Int.sign_eq_one_of_pos hK, Int.sign_eq_one_of_pos hL, Int.mul_one, Int.mul_one] at e
 exact e
def wN (u n d a : Int) : Int := frN (u * frN (n * 1 + -a * d) (d * 1)) (1 * frD (n * 1 + -a * d) (d * 1))
def wD (u n d a : Int) : Int := frD (u * frN (n * 1 + -a * d) (d * 1)) (1 * frD (n * 1 + -a * d) (d * 1))
theorem w_spec {u n d a : Int} (hd : 0 < d) : wN u n d a * d = u * (n - a * d) * wD u n d a ∧ 0 < wD u n d a := by
 have h1 : d * 1 ≠ 0 := by omega
 have p1 := frD_pos (n := n * 1 + -a * d) h1
 have v1 := fr_val (n := n * 1 + -a * d) h1
 have h2 : 1 * frD (n * 1 + -a * d) (d * 1) ≠ 0 := by omega
 have p2 := frD_pos (n := u * frN (n * 1 + -a * d) (d * 1)) h2
 have v2 := fr_val (n := u * frN (n * 1 + -a * d) (d * 1)) h2
 refine ⟨?_, p2⟩
 unfold wN wD
 generalize frN (u * frN (n * 1 + -a * d) (d * 1)) (1 * frD (n * 1 + -a * d) (d * 1)) = X at *
 generalize frD (u * frN (n * 1 + -a * d) (d * 1)) (1 * frD (n * 1 + -a * d) (d * 1)) = Y at *
 generalize frN (n * 1 + -a * d) (d * 1) = N at *
 generalize frD (n * 1 + -a * d) (d * 1) = D at *
 have : (X * d) * D = (u * (n - a * d) * Y) * D := by
  have e1 : X * d * D = X * (1 * D) * d := by grind
  have e2 : u * (n - a * d) * Y * D = u * ((n * 1 + -a * d) * D) * Y := by grind
  rw [e1, e2, v2, ← v1]
  grind
 exact Int.eq_of_mul_eq_mul_right (by omega) this
theorem side_cross (s : Sg) (p : Pt) (hx : 0 < p.xd) (hy : 0 < p.yd) : cmpI (wN (s.bx - s.ax) p.yn p.yd s.ay * wD (s.bY - s.ay) p.xn p.xd s.ax) (wN (s.bY - s.ay) p.xn p.xd s.ax * wD (s.bx - s.ax) p.yn p.yd s.ay) = sideV s p := by
 obtain ⟨e1, p1⟩ := w_spec (u := s.bx - s.ax) (n := p.yn) (a := s.ay) hy
 obtain ⟨e2, p2⟩ := w_spec (u := s.bY - s.ay) (n := p.xn) (a := s.ax) hx
 unfold sideV
 generalize wN (s.bx - s.ax) p.yn p.yd s.ay = X at *
 generalize wD (s.bx - s.ax) p.yn p.yd s.ay = x at *
 generalize wN (s.bY - s.ay) p.xn p.xd s.ax = Y at *
 generalize wD (s.bY - s.ay) p.xn p.xd s.ax = y at *
 refine cmp_cross (Int.mul_pos hy hx) (Int.mul_pos p1 p2) ?_ ?_
 ·have : X * y * (p.yd * p.xd) = (X * p.yd) * y * p.xd := by grind
  rw [this, e1]; grind
 ·have : Y * x * (p.yd * p.xd) = (Y * p.xd) * x * p.yd := by grind
  rw [this, e2]; grind
end Go.Proofs.YtdfmmkidknginaaGreatDoor
