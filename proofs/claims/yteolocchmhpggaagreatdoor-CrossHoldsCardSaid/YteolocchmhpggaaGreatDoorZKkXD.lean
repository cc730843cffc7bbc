import Derived.Test.YteolocchmhpggaaGreatDoorZKkWE
import Derived.Test.YteolocchmhpggaaGreatDoorZKkRF
namespace Go.Proofs.YteolocchmhpggaaGreatDoor
open Go.RowKit CrossMath

def bgFct (idx slot : Nat) (s : Bool) (m k : Nat) : Fct := ⟨idx, slot, fun v W => ∃ X x, v = .agg #[.bool s, .slice X k x] ∧ k ≤ x ∧ DS W m X, fun v X Y h hb => by
 obtain ⟨A, x, h1, h2, h3⟩ := h
 exact ⟨A, x, h1, h2, h3.below hb⟩⟩
set_option maxRecDepth 100000 in
set_option maxHeartbeats 6400000 in
theorem rcmp_core (s q t l s1 s2 : Bool) (A B E G : Option Addr) (k c j d i f h g mA mB mE mG m1 k1 m2 k2 : Nat) (r : Int) (w : World) (dA : DS w mA A) (dB : DS w mB B) (dE : DS w mE E) (dG : DS w mG G)
 (h1 : ∀ W, DS W mA A → DS W mG G → Calls Tryz.prog 73 #[.agg #[.bool s, .slice A k c], .agg #[.bool l, .slice G h g]] W (BgPost W s1 m1 k1))
 (h2 : ∀ W, DS W mE E → DS W mB B → Calls Tryz.prog 73 #[.agg #[.bool t, .slice E i f], .agg #[.bool q, .slice B j d]] W (BgPost W s2 m2 k2))
 (h3 : ∀ X x Y y W, DS W m1 X → DS W m2 Y → Calls Tryz.prog 72 #[.agg #[.bool s1, .slice X k1 x], .agg #[.bool s2, .slice Y k2 y]] W fun e w' => e = .returned (.int .i64 r) ∧ Below W.heap.size W w') :
 Calls Tryz.prog 33 #[.agg #[.bool s, .slice A k c, .bool q, .slice B j d], .agg #[.bool t, .slice E i f, .bool l, .slice G h g]] w fun e w' => e = .returned (.int .i64 r) ∧ Below w.heap.size w w' := by
 have H1 := Lib.hid h1; clear h1
 have H2 := Lib.hid h2; clear h2
 have H3 := Lib.hid h3; clear h3
 go_enter Tryz.func33, Tryz.ntmps33
 go_upto_region 1 with fail
 generalize hW : World.alloc _ _ = W0
 have hb0 : Below w.heap.size w W0 := by rw [← hW]; exact ((Below.refl w.heap.size w).alloc (Nat.le_refl _) _).alloc (by simp) _
 have rA : Row W0 w.heap.size [.bool s, .slice A k c, .bool q, .slice B j d] := by rw [← hW]; exact (Row.at rfl [_, _, _, _] _).alloc _
 have rB : Row W0 (w.heap.size + 1) [.bool t, .slice E i f, .bool l, .slice G h g] := by rw [← hW]; exact Row.at (by simp) [_, _, _, _] _
 have HD := Lib.hid (And.intro (dA.below hb0) (And.intro (dB.below hb0) (And.intro (dE.below hb0) (dG.below hb0))))
 have HR := Lib.hid (And.intro rA rB)
 clear hW rA rB dA dB dE dG
 refine wp_region_fct (by kernel_rfl) [] (fun ix => match ix with
  | 0 => some (Value.pointer (some ⟨w.heap.size, 0, none⟩))
  | 1 => some (Value.agg #[.bool s, .slice A k c])
  | 2 => some (Value.pointer (some ⟨w.heap.size + 1, 2, none⟩))
  | 3 => some (Value.agg #[.bool l, .slice G h g])
  | 5 => some (Value.pointer (some ⟨w.heap.size + 1, 0, none⟩))
  | 6 => some (Value.agg #[.bool t, .slice E i f])
  | 7 => some (Value.pointer (some ⟨w.heap.size, 2, none⟩))
  | 8 => some (Value.agg #[.bool q, .slice B j d])
  | 10 => some (Value.int .i64 r)
  | 11 => some (Value.int .i64 r)
  | _ => none) (by intro j hj; cases hj) 12 [bgFct 4 9 s1 m1 k1, bgFct 9 14 s2 m2 k2] (fun _ _ => False) (by kernel_rfl) (by kernel_rfl) (by rfl) ?_ ?_
 ·intro listed a W ix o hI ho hdep hB hF K hK hKf
  have hi : ix < 12 := (Array.getElem?_eq_some_iff.1 ho).1
  have hcase : ix = 0 ∨ ix = 1 ∨ ix = 2 ∨ ix = 3 ∨ ix = 4 ∨ ix = 5 ∨ ix = 6 ∨ ix = 7 ∨ ix = 8 ∨ ix = 9 ∨ ix = 10 ∨ ix = 11 := by omega
  clear hi
  rcases hcase with rfl | rfl | rfl | rfl | rfl | rfl | rfl | rfl | rfl | rfl | rfl | rfl
  ·obtain rfl := oI ho
   have q2 : a.tmps[2]?.getD undef = Value.pointer (some ⟨w.heap.size, 0, none⟩) := hI.old 2 (noDst_spec (by kernel_rfl))
   clear hdep hI ho hF
   go_simp
   exact hK (by decide) (Value.pointer (some ⟨w.heap.size, 0, none⟩)) _ (fun u hu => oV hu) (Below.refl _ _) (fct_none rfl)
  ·obtain rfl := oI ho
   have d0 : listed.getD 0 false = true := hdep ⟨0, .data⟩ (by simp) rfl
   have q5 : a.tmps[5]?.getD undef = Value.pointer (some ⟨w.heap.size, 0, none⟩) := hI.val 0 _ 5 _ rfl rfl rfl d0
   have x0 := (HR.out.1.after hB).c 0 rfl
   have x1 := (HR.out.1.after hB).c 1 rfl
   clear hdep hI ho hF
   go_simp
   exact hK (by decide) (Value.agg #[.bool s, .slice A k c]) _ (fun u hu => oV hu) (Below.refl _ _) (fct_none rfl)
  ·obtain rfl := oI ho
   have q3 : a.tmps[3]?.getD undef = Value.pointer (some ⟨w.heap.size + 1, 0, none⟩) := hI.old 3 (noDst_spec (by kernel_rfl))
   clear hdep hI ho hF
   go_simp
   exact hK (by decide) (Value.pointer (some ⟨w.heap.size + 1, 2, none⟩)) _ (fun u hu => oV hu) (Below.refl _ _) (fct_none rfl)
  ·obtain rfl := oI ho
   have d2 : listed.getD 2 false = true := hdep ⟨2, .data⟩ (by simp) rfl
   have q7 : a.tmps[7]?.getD undef = Value.pointer (some ⟨w.heap.size + 1, 2, none⟩) := hI.val 2 _ 7 _ rfl rfl rfl d2
   have x0 := (HR.out.2.after hB).c 2 rfl
   have x1 := (HR.out.2.after hB).c 3 rfl
   clear hdep hI ho hF
   go_simp
   exact hK (by decide) (Value.agg #[.bool l, .slice G h g]) _ (fun u hu => oV hu) (Below.refl _ _) (fct_none rfl)
  ·obtain rfl := oI ho
   have d1 : listed.getD 1 false = true := hdep ⟨1, .data⟩ (by simp) rfl
   have q6 : a.tmps[6]?.getD undef = Value.agg #[.bool s, .slice A k c] := hI.val 1 _ 6 _ rfl rfl rfl d1
   have d3 : listed.getD 3 false = true := hdep ⟨3, .data⟩ (by simp) rfl
   have q8 : a.tmps[8]?.getD undef = Value.agg #[.bool l, .slice G h g] := hI.val 3 _ 8 _ rfl rfl rfl d3
   clear hdep hI ho hF
   go_simp
   refine (H1.out _ (HD.out.1.below hB) (HD.out.2.2.2.below hB)).mono ?_
   rintro e W2 ⟨X, x, rfl, hx, hX, hb⟩
   exact hK (by decide) (.agg #[.bool _, .slice X _ x]) _ (fun u hu => nV hu) hb (fun p hp e => by
    simp only [List.mem_cons, List.not_mem_nil, or_false] at hp
    rcases hp with rfl | rfl
    ·exact ⟨X, x, rfl, hx, hX⟩
    ·exact absurd e (fct_ne (i := 9) rfl))
  ·obtain rfl := oI ho
   have q3 : a.tmps[3]?.getD undef = Value.pointer (some ⟨w.heap.size + 1, 0, none⟩) := hI.old 3 (noDst_spec (by kernel_rfl))
   clear hdep hI ho hF
   go_simp
   exact hK (by decide) (Value.pointer (some ⟨w.heap.size + 1, 0, none⟩)) _ (fun u hu => oV hu) (Below.refl _ _) (fct_none rfl)
  ·obtain rfl := oI ho
   have d5 : listed.getD 5 false = true := hdep ⟨5, .data⟩ (by simp) rfl
   have q10 : a.tmps[10]?.getD undef = Value.pointer (some ⟨w.heap.size + 1, 0, none⟩) := hI.val 5 _ 10 _ rfl rfl rfl d5
   have x0 := (HR.out.2.after hB).c 0 rfl
   have x1 := (HR.out.2.after hB).c 1 rfl
   clear hdep hI ho hF
   go_simp
   exact hK (by decide) (Value.agg #[.bool t, .slice E i f]) _ (fun u hu => oV hu) (Below.refl _ _) (fct_none rfl)
  ·obtain rfl := oI ho
   have q2 : a.tmps[2]?.getD undef = Value.pointer (some ⟨w.heap.size, 0, none⟩) := hI.old 2 (noDst_spec (by kernel_rfl))
   clear hdep hI ho hF
   go_simp
   exact hK (by decide) (Value.pointer (some ⟨w.heap.size, 2, none⟩)) _ (fun u hu => oV hu) (Below.refl _ _) (fct_none rfl)
  ·obtain rfl := oI ho
   have d7 : listed.getD 7 false = true := hdep ⟨7, .data⟩ (by simp) rfl
   have q12 : a.tmps[12]?.getD undef = Value.pointer (some ⟨w.heap.size, 2, none⟩) := hI.val 7 _ 12 _ rfl rfl rfl d7
   have x0 := (HR.out.1.after hB).c 2 rfl
   have x1 := (HR.out.1.after hB).c 3 rfl
   clear hdep hI ho hF
   go_simp
   exact hK (by decide) (Value.agg #[.bool q, .slice B j d]) _ (fun u hu => oV hu) (Below.refl _ _) (fct_none rfl)
  ·obtain rfl := oI ho
   have d6 : listed.getD 6 false = true := hdep ⟨6, .data⟩ (by simp) rfl
   have q11 : a.tmps[11]?.getD undef = Value.agg #[.bool t, .slice E i f] := hI.val 6 _ 11 _ rfl rfl rfl d6
   have d8 : listed.getD 8 false = true := hdep ⟨8, .data⟩ (by simp) rfl
   have q13 : a.tmps[13]?.getD undef = Value.agg #[.bool q, .slice B j d] := hI.val 8 _ 13 _ rfl rfl rfl d8
   clear hdep hI ho hF
   go_simp
   refine (H2.out _ (HD.out.2.2.1.below hB) (HD.out.2.1.below hB)).mono ?_
   rintro e W2 ⟨X, x, rfl, hx, hX, hb⟩
   exact hK (by decide) (.agg #[.bool _, .slice X _ x]) _ (fun u hu => nV hu) hb (fun p hp e => by
    simp only [List.mem_cons, List.not_mem_nil, or_false] at hp
    rcases hp with rfl | rfl
    ·exact absurd e (fct_ne (i := 4) rfl)
    ·exact ⟨X, x, rfl, hx, hX⟩)
  ·obtain rfl := oI ho
   have d4 : listed.getD 4 false = true := hdep ⟨4, .data⟩ (by simp) rfl
   have d9 : listed.getD 9 false = true := hdep ⟨9, .data⟩ (by simp) rfl
   obtain ⟨X, x, hq1, hx, hX⟩ := hF (bgFct 4 9 s1 m1 k1) (by simp) d4
   obtain ⟨Y, y, hq2, hy, hY⟩ := hF (bgFct 9 14 s2 m2 k2) (by simp) d9
   have q9 : a.tmps[9]?.getD undef = .agg #[.bool s1, .slice X k1 x] := hq1
   have q14 : a.tmps[14]?.getD undef = .agg #[.bool s2, .slice Y k2 y] := hq2
   have HC := Lib.hid (H3.out X x Y y W hX hY)
   clear hdep hI ho hF hx hy hX hY hq1 hq2
   go_simp
   refine HC.out.mono ?_
   rintro e W2 ⟨rfl, hb⟩
   exact hK (by decide) (Value.int .i64 r) _ (fun u hu => oV hu) hb (fct_none rfl)
  ·obtain rfl := oI ho
   have d10 : listed.getD 10 false = true := hdep ⟨10, .data⟩ (by simp) rfl
   have q15 : a.tmps[15]?.getD undef = Value.int .i64 r := hI.val 10 _ 15 _ rfl rfl rfl d10
   clear hdep hI ho hF
   go_simp
   exact hK (by decide) (Value.int .i64 r) _ (fun u hu => oV hu) (Below.refl _ _) (fct_none rfl)
 ·intro listed a W hI hall hfin hend
  obtain ⟨hBW, _⟩ := hend rfl
  have q4 : a.tmps[4]?.getD undef = Value.int .i64 r := hI.val 11 _ 4 _ rfl rfl rfl (hall 11 (by decide))
  have hdf : a.defers = [] := hI.defers
  have HE := Lib.hid (hb0.trans (hBW.mono hb0.size))
  clear hBW hall hfin hend hI
  obtain ⟨tm, df⟩ := a
  simp only at hdf q4
  subst hdf
  go_wp2_with fail
  exact bodyPost_ret (v := .int .i64 r) (by simp [results, Tryz.results33, go_sem, q4]) rfl ⟨rfl, HE.out⟩
theorem rcmp_any (n d n2 d2 : Int) (A B E G : Option Addr) (c e f h : Nat) (w : World) (hd : 0 < d) (hd2 : 0 < d2) (h1 : n.natAbs < T256) (h2 : d.natAbs < T256) (h3 : n2.natAbs < T256) (h4 : d2.natAbs < T256)
 (m1 : (n * d2).natAbs < T256) (m2 : (n2 * d).natAbs < T256) (dA : DS w n.natAbs A) (dB : DS w d.natAbs B) (dE : DS w n2.natAbs E) (dG : DS w d2.natAbs G) :
 Calls Tryz.prog 33 #[.agg #[.bool (decide (n < 0)), .slice A (L16 n.natAbs) c, .bool false, .slice B (L16 d.natAbs) e], .agg #[.bool (decide (n2 < 0)), .slice E (L16 n2.natAbs) f, .bool false, .slice G (L16 d2.natAbs) h]] w fun e w' => e = .returned (.int .i64 (cmpI (n * d2) (n2 * d))) ∧ Below w.heap.size w w' := by
 have d0 : decide (d < 0) = false := by simp; omega
 have d20 : decide (d2 < 0) = false := by simp; omega
 refine rcmp_core _ _ _ _ (decide (n * d2 < 0)) (decide (n2 * d < 0)) A B E G _ c _ e _ f _ h _ _ _ _ (n * d2).natAbs (L16 (n * d2).natAbs) (n2 * d).natAbs (L16 (n2 * d).natAbs) _ w dA dB dE dG ?_ ?_ ?_
 ·intro W hA hG
  have := mul_z n d2 A G c h W hA hG (L16_T h1) (L16_T h4)
  rw [bigv, bigv, d20] at this
  exact this.mono fun _ _ h => bg_of rfl h
 ·intro W hE hB
  have := mul_z n2 d E B f e W hE hB (L16_T h3) (L16_T h2)
  rw [bigv, bigv, d0] at this
  exact this.mono fun _ _ h => bg_of rfl h
 ·intro X x Y y W hX hY
  exact cmp_z (n * d2) (n2 * d) X Y x y W hX hY (L16_T6 m1) (L16_T6 m2)
end Go.Proofs.YteolocchmhpggaaGreatDoor
