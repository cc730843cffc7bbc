import Derived.Test.YtcabndpmfkimgaaGreatDoorZKkWE
import Derived.Test.YtcabndpmfkimgaaGreatDoorZKkRF
namespace Go.Proofs.YtcabndpmfkimgaaGreatDoor
open Go.RowKit CrossMath

set_option maxRecDepth 100000 in
set_option maxHeartbeats 6400000 in
theorem rmul_core (s q t l s1 s2 u v : Bool) (A B E G : Option Addr) (k c j d i f h g mA mB mE mG m1 k1 m2 k2 xm ym xk yk : Nat) (w : World) (dA : DS w mA A) (dB : DS w mB B) (dE : DS w mE E) (dG : DS w mG G)
 (h1 : ∀ W, DS W mA A → DS W mE E → Calls Tryz.prog 66 #[.agg #[.bool s, .slice A k c], .agg #[.bool t, .slice E i f]] W (BgPost W s1 m1 k1))
 (h2 : ∀ W, DS W mB B → DS W mG G → Calls Tryz.prog 66 #[.agg #[.bool q, .slice B j d], .agg #[.bool l, .slice G h g]] W (BgPost W s2 m2 k2))
 (h3 : ∀ X x Y y W, DS W m1 X → DS W m2 Y → k1 ≤ x → k2 ≤ y → Calls Tryz.prog 33 #[.agg #[.bool s1, .slice X k1 x], .agg #[.bool s2, .slice Y k2 y]] W (RqPost W u v xm ym xk yk)) :
 Calls Tryz.prog 38 #[.agg #[.bool s, .slice A k c, .bool q, .slice B j d], .agg #[.bool t, .slice E i f, .bool l, .slice G h g]] w (RqPost w u v xm ym xk yk) := by
 have H1 := Lib.hid h1; clear h1
 have H2 := Lib.hid h2; clear h2
 have H3 := Lib.hid h3; clear h3
 go_enter Tryz.func38, Tryz.ntmps38
 go_upto_region 1 with fail
 generalize hW : World.alloc _ _ = W0
 have hb0 : Below w.heap.size w W0 := by rw [← hW]; exact (((Below.refl w.heap.size w).alloc (Nat.le_refl _) _).alloc (by simp) _).alloc (by simp; omega) _
 have hK : KT w ([] ++ [(w.heap.size, #[.bool s, .slice A k c, .bool q, .slice B j d])] ++ [(w.heap.size + 1, #[.bool t, .slice E i f, .bool l, .slice G h g])]) ([] ++ [(w.heap.size + 1 + 1, 4)]) W0 := by
  rw [← hW]
  exact (KT.of (((KS.nil w).boxed rfl _ _).boxed (by simp) _ _)).made (by simp) _ _ rfl
 have z0 : W0.drew.cell? ⟨w.heap.size + 1 + 1, 0, none⟩ = some (.bool false) := by rw [← hW]; exact (Row.at (by simp) [.bool false, .slice none 0 0, .bool false, .slice none 0 0] _).c 0 rfl
 have hz : w.heap.size + 1 + 1 < W0.drew.heap.size := by rw [← hW]; show _ < (World.alloc _ _).heap.size; simp
 replace dA := (dA.below hb0).drew'
 replace dB := (dB.below hb0).drew'
 replace dE := (dE.below hb0).drew'
 replace dG := (dG.below hb0).drew'
 clear hW hb0
 generalize hL : ([] ++ [(w.heap.size, #[.bool s, .slice A k c, .bool q, .slice B j d])] ++ [(w.heap.size + 1, #[.bool t, .slice E i f, .bool l, .slice G h g])] : List (Nat × Array Value)) = L at hK
 have HL := Lib.hid hL; clear hL
 have HM : Hid ((w.heap.size + 1 + 1, 4) ∈ ([] ++ [(w.heap.size + 1 + 1, 4)] : List (Nat × Nat))) := Lib.hid (by simp)
 generalize [] ++ [(w.heap.size + 1 + 1, 4)] = M at hK HM
 have l0 : ∀ W, KT w L M W → W.cell? ⟨w.heap.size, 0, none⟩ = some (.bool s) := fun W h => h.c 0 (by rw [← HL.out]; rfl) 0 rfl
 have l1 : ∀ W, KT w L M W → W.cell? ⟨w.heap.size, 1, none⟩ = some (.slice A k c) := fun W h => h.c 0 (by rw [← HL.out]; rfl) 1 rfl
 have l2 : ∀ W, KT w L M W → W.cell? ⟨w.heap.size, 2, none⟩ = some (.bool q) := fun W h => h.c 0 (by rw [← HL.out]; rfl) 2 rfl
 have l3 : ∀ W, KT w L M W → W.cell? ⟨w.heap.size, 3, none⟩ = some (.slice B j d) := fun W h => h.c 0 (by rw [← HL.out]; rfl) 3 rfl
 have n0 : ∀ W, KT w L M W → W.cell? ⟨w.heap.size + 1, 0, none⟩ = some (.bool t) := fun W h => h.c 1 (by rw [← HL.out]; rfl) 0 rfl
 have n1 : ∀ W, KT w L M W → W.cell? ⟨w.heap.size + 1, 1, none⟩ = some (.slice E i f) := fun W h => h.c 1 (by rw [← HL.out]; rfl) 1 rfl
 have n2 : ∀ W, KT w L M W → W.cell? ⟨w.heap.size + 1, 2, none⟩ = some (.bool l) := fun W h => h.c 1 (by rw [← HL.out]; rfl) 2 rfl
 have n3 : ∀ W, KT w L M W → W.cell? ⟨w.heap.size + 1, 3, none⟩ = some (.slice G h g) := fun W h => h.c 1 (by rw [← HL.out]; rfl) 3 rfl
 have xc0 : ∀ W, KT w L M W → W.cell? ⟨w.heap.size + 1 + 1, 0, none⟩ = some (cellAt W (w.heap.size + 1 + 1) 0) := fun W h => h.here HM.out 0 (by omega)
 have xf0 : ∀ W, KT w L M W → W.frozen? ⟨w.heap.size + 1 + 1, 0, none⟩ = false := fun W h => h.free HM.out 0 (by omega)
 have xc1 : ∀ W, KT w L M W → W.cell? ⟨w.heap.size + 1 + 1, 1, none⟩ = some (cellAt W (w.heap.size + 1 + 1) 1) := fun W h => h.here HM.out 1 (by omega)
 have xf1 : ∀ W, KT w L M W → W.frozen? ⟨w.heap.size + 1 + 1, 1, none⟩ = false := fun W h => h.free HM.out 1 (by omega)
 have xc2 : ∀ W, KT w L M W → W.cell? ⟨w.heap.size + 1 + 1, 2, none⟩ = some (cellAt W (w.heap.size + 1 + 1) 2) := fun W h => h.here HM.out 2 (by omega)
 have xf2 : ∀ W, KT w L M W → W.frozen? ⟨w.heap.size + 1 + 1, 2, none⟩ = false := fun W h => h.free HM.out 2 (by omega)
 have xc3 : ∀ W, KT w L M W → W.cell? ⟨w.heap.size + 1 + 1, 3, none⟩ = some (cellAt W (w.heap.size + 1 + 1) 3) := fun W h => h.here HM.out 3 (by omega)
 have xf3 : ∀ W, KT w L M W → W.frozen? ⟨w.heap.size + 1 + 1, 3, none⟩ = false := fun W h => h.free HM.out 3 (by omega)
 have hk0 := hK.drew
 clear hK
 go_region_held3 (fun w' : World => KT w L M w')
  (repeat (first
    | (with_reducible assumption)
    | (with_reducible refine KT.put4q ?_ HM.out _ _ _ _)
    | (with_reducible refine KT.drew ?_)
    | (with_reducible refine KT.after ?_ hb)))
  (first
    | (go_at_call 66; (with_reducible refine (H1.out _ dA dE).mono ?_); rintro e w' ⟨X1, x1, rfl, c1, e1, hb⟩; (replace dB := dB.below hb); (replace dG := dG.below hb); (replace z0 := (hb.cell (p := ⟨w.heap.size + 1 + 1, 0, none⟩) hz).trans z0); (replace hz := Nat.lt_of_lt_of_le hz hb.size))
    | (go_at_call 66; (with_reducible refine (H2.out _ dB dG).mono ?_); rintro e w' ⟨X2, x2, rfl, c2, e2, hb⟩; (replace e1 := e1.below hb); (replace z0 := (hb.cell (p := ⟨w.heap.size + 1 + 1, 0, none⟩) hz).trans z0); (replace hz := Nat.lt_of_lt_of_le hz hb.size))
    | (go_at_call 33; (with_reducible refine (H3.out _ _ _ _ _ e1 e2 c1 c2).mono ?_); rintro e w' ⟨X, x, Y, y, rfl, hc, ⟨dX, dY⟩, hb⟩; (replace z0 := (hb.cell (p := ⟨w.heap.size + 1 + 1, 0, none⟩) hz).trans z0); (replace hz := Nat.lt_of_lt_of_le hz hb.size)))
 have hq := ‹KT w L M _›
 have hr := hq.put_row (cs := [.bool u, .slice X xk x, .bool v, .slice Y yk y]) HM.out rfl
 have D1 := dX.fill4 z0 (.bool u) (.slice X xk x) (.bool v) (.slice Y yk y)
 have D2 := dY.fill4 z0 (.bool u) (.slice X xk x) (.bool v) (.slice Y yk y)
 have hB := hq.1.2
 go_wp2_with fail
 exact bodyPost_ret (results_R1 (cs := #[.bool u, .slice X xk x, .bool v, .slice Y yk y]) rfl rfl hr agg_rrat) rfl ⟨X, x, Y, y, rfl, hc, ⟨D1, D2⟩, hB⟩
theorem rmul_any (n d n2 d2 : Int) (A B E G : Option Addr) (c e f h : Nat) (w : World) (hd : 0 < d) (hd2 : 0 < d2) (h1 : n.natAbs < T256) (h2 : d.natAbs < T256) (h3 : n2.natAbs < T256) (h4 : d2.natAbs < T256)
 (m1 : (n * n2).natAbs < T256) (m4 : (d * d2).natAbs < T256) (dA : DS w n.natAbs A) (dB : DS w d.natAbs B) (dE : DS w n2.natAbs E) (dG : DS w d2.natAbs G) :
 Calls Tryz.prog 38 #[.agg #[.bool (decide (n < 0)), .slice A (L16 n.natAbs) c, .bool false, .slice B (L16 d.natAbs) e], .agg #[.bool (decide (n2 < 0)), .slice E (L16 n2.natAbs) f, .bool false, .slice G (L16 d2.natAbs) h]] w
  (RqPost w (decide (frN (n * n2) (d * d2) < 0)) false (frN (n * n2) (d * d2)).natAbs (frD (n * n2) (d * d2)).natAbs (L16 (frN (n * n2) (d * d2)).natAbs) (L16 (frD (n * n2) (d * d2)).natAbs)) := by
 have d0 : decide (d < 0) = false := by simp; omega
 have d20 : decide (d2 < 0) = false := by simp; omega
 have hdd : 0 < d * d2 := Int.mul_pos hd hd2
 have dd0 : decide (d * d2 < 0) = false := by simp; omega
 refine rmul_core _ _ _ _ (decide (n * n2 < 0)) false _ _ A B E G _ c _ e _ f _ h _ _ _ _ (n * n2).natAbs (L16 (n * n2).natAbs) (d * d2).natAbs (L16 (d * d2).natAbs) _ _ _ _ w dA dB dE dG ?_ ?_ ?_
 ·intro W hA hE
  have := mul_z n n2 A E c f W hA hE (L16_T h1) (L16_T h3)
  rw [bigv, bigv] at this
  exact this.mono fun _ _ h => bg_of rfl h
 ·intro W hB hG
  have := mul_z d d2 B G e h W hB hG (L16_T h2) (L16_T h4)
  rw [bigv, bigv, d0, d20] at this
  exact this.mono fun _ _ h => bg_of dd0 h
 ·intro X x Y y W hX hY hx hy
  exact rmake_any (n * n2) (d * d2) X Y x y W hdd m1 m4 hX hY hx hy
def bgFct (idx slot : Nat) (s : Bool) (m k : Nat) : Fct := ⟨idx, slot, fun v W => ∃ X x, v = .agg #[.bool s, .slice X k x] ∧ k ≤ x ∧ DS W m X, fun v X Y h hb => by
 obtain ⟨A, x, h1, h2, h3⟩ := h
 exact ⟨A, x, h1, h2, h3.below hb⟩⟩
set_option maxRecDepth 100000 in
set_option maxHeartbeats 6400000 in
theorem rcmp_core (s q t l s1 s2 : Bool) (A B E G : Option Addr) (k c j d i f h g mA mB mE mG m1 k1 m2 k2 : Nat) (r : Int) (w : World) (dA : DS w mA A) (dB : DS w mB B) (dE : DS w mE E) (dG : DS w mG G)
 (h1 : ∀ W, DS W mA A → DS W mG G → Calls Tryz.prog 66 #[.agg #[.bool s, .slice A k c], .agg #[.bool l, .slice G h g]] W (BgPost W s1 m1 k1))
 (h2 : ∀ W, DS W mE E → DS W mB B → Calls Tryz.prog 66 #[.agg #[.bool t, .slice E i f], .agg #[.bool q, .slice B j d]] W (BgPost W s2 m2 k2))
 (h3 : ∀ X x Y y W, DS W m1 X → DS W m2 Y → Calls Tryz.prog 60 #[.agg #[.bool s1, .slice X k1 x], .agg #[.bool s2, .slice Y k2 y]] W fun e w' => e = .returned (.int .i64 r) ∧ Below W.heap.size W w') :
 Calls Tryz.prog 40 #[.agg #[.bool s, .slice A k c, .bool q, .slice B j d], .agg #[.bool t, .slice E i f, .bool l, .slice G h g]] w fun e w' => e = .returned (.int .i64 r) ∧ Below w.heap.size w w' := by
 have H1 := Lib.hid h1; clear h1
 have H2 := Lib.hid h2; clear h2
 have H3 := Lib.hid h3; clear h3
 go_enter Tryz.func40, Tryz.ntmps40
 go_upto_region 1 with fail
 generalize hW : World.alloc _ _ = W0
 have hb0 : Below w.heap.size w W0 := by rw [← hW]; exact ((Below.refl w.heap.size w).alloc (Nat.le_refl _) _).alloc (by simp) _
 have rA : Row W0 w.heap.size [.bool s, .slice A k c, .bool q, .slice B j d] := by rw [← hW]; exact (Row.at rfl [_, _, _, _] _).alloc _
 have rB : Row W0 (w.heap.size + 1) [.bool t, .slice E i f, .bool l, .slice G h g] := by rw [← hW]; exact Row.at (by simp) [_, _, _, _] _
 have HD := Lib.hid (And.intro (dA.below hb0) (And.intro (dB.below hb0) (And.intro (dE.below hb0) (dG.below hb0))))
 have HR := Lib.hid (And.intro rA rB)
 clear hW rA rB dA dB dE dG
 refine wp_region_fct (by kernel_rfl) [] (fun ix => match ix with
  | 0 => some (Value.pointer (some ⟨w.heap.size, 0, none⟩))
  | 1 => some (Value.agg #[.bool s, .slice A k c])
  | 2 => some (Value.pointer (some ⟨w.heap.size + 1, 2, none⟩))
  | 3 => some (Value.agg #[.bool l, .slice G h g])
  | 5 => some (Value.pointer (some ⟨w.heap.size + 1, 0, none⟩))
  | 6 => some (Value.agg #[.bool t, .slice E i f])
  | 7 => some (Value.pointer (some ⟨w.heap.size, 2, none⟩))
  | 8 => some (Value.agg #[.bool q, .slice B j d])
  | 10 => some (Value.int .i64 r)
  | 11 => some (Value.int .i64 r)
  | _ => none) (by intro j hj; cases hj) 12 [bgFct 4 9 s1 m1 k1, bgFct 9 14 s2 m2 k2] (fun _ _ => False) (by kernel_rfl) (by kernel_rfl) (by rfl) ?_ ?_
 ·intro listed a W ix o hI ho hdep hB hF K hK hKf
  have hi : ix < 12 := (Array.getElem?_eq_some_iff.1 ho).1
  have hcase : ix = 0 ∨ ix = 1 ∨ ix = 2 ∨ ix = 3 ∨ ix = 4 ∨ ix = 5 ∨ ix = 6 ∨ ix = 7 ∨ ix = 8 ∨ ix = 9 ∨ ix = 10 ∨ ix = 11 := by omega
  clear hi
  rcases hcase with rfl | rfl | rfl | rfl | rfl | rfl | rfl | rfl | rfl | rfl | rfl | rfl
  ·obtain rfl := oI ho
   have q2 : a.tmps[2]?.getD undef = Value.pointer (some ⟨w.heap.size, 0, none⟩) := hI.old 2 (noDst_spec (by kernel_rfl))
   clear hdep hI ho hF
   go_simp
   exact hK (by decide) (Value.pointer (some ⟨w.heap.size, 0, none⟩)) _ (fun u hu => oV hu) (Below.refl _ _) (fct_none rfl)
  ·obtain rfl := oI ho
   have d0 : listed.getD 0 false = true := hdep ⟨0, .data⟩ (by simp) rfl
   have q5 : a.tmps[5]?.getD undef = Value.pointer (some ⟨w.heap.size, 0, none⟩) := hI.val 0 _ 5 _ rfl rfl rfl d0
   have x0 := (HR.out.1.after hB).c 0 rfl
   have x1 := (HR.out.1.after hB).c 1 rfl
   clear hdep hI ho hF
   go_simp
   exact hK (by decide) (Value.agg #[.bool s, .slice A k c]) _ (fun u hu => oV hu) (Below.refl _ _) (fct_none rfl)
  ·obtain rfl := oI ho
   have q3 : a.tmps[3]?.getD undef = Value.pointer (some ⟨w.heap.size + 1, 0, none⟩) := hI.old 3 (noDst_spec (by kernel_rfl))
   clear hdep hI ho hF
   go_simp
   exact hK (by decide) (Value.pointer (some ⟨w.heap.size + 1, 2, none⟩)) _ (fun u hu => oV hu) (Below.refl _ _) (fct_none rfl)
  ·obtain rfl := oI ho
   have d2 : listed.getD 2 false = true := hdep ⟨2, .data⟩ (by simp) rfl
   have q7 : a.tmps[7]?.getD undef = Value.pointer (some ⟨w.heap.size + 1, 2, none⟩) := hI.val 2 _ 7 _ rfl rfl rfl d2
   have x0 := (HR.out.2.after hB).c 2 rfl
   have x1 := (HR.out.2.after hB).c 3 rfl
   clear hdep hI ho hF
   go_simp
   exact hK (by decide) (Value.agg #[.bool l, .slice G h g]) _ (fun u hu => oV hu) (Below.refl _ _) (fct_none rfl)
  ·obtain rfl := oI ho
   have d1 : listed.getD 1 false = true := hdep ⟨1, .data⟩ (by simp) rfl
   have q6 : a.tmps[6]?.getD undef = Value.agg #[.bool s, .slice A k c] := hI.val 1 _ 6 _ rfl rfl rfl d1
   have d3 : listed.getD 3 false = true := hdep ⟨3, .data⟩ (by simp) rfl
   have q8 : a.tmps[8]?.getD undef = Value.agg #[.bool l, .slice G h g] := hI.val 3 _ 8 _ rfl rfl rfl d3
   clear hdep hI ho hF
   go_simp
   refine (H1.out _ (HD.out.1.below hB) (HD.out.2.2.2.below hB)).mono ?_
   rintro e W2 ⟨X, x, rfl, hx, hX, hb⟩
   exact hK (by decide) (.agg #[.bool _, .slice X _ x]) _ (fun u hu => nV hu) hb (fun p hp e => by
    simp only [List.mem_cons, List.not_mem_nil, or_false] at hp
    rcases hp with rfl | rfl
    ·exact ⟨X, x, rfl, hx, hX⟩
    ·exact absurd e (fct_ne (i := 9) rfl))
  ·obtain rfl := oI ho
   have q3 : a.tmps[3]?.getD undef = Value.pointer (some ⟨w.heap.size + 1, 0, none⟩) := hI.old 3 (noDst_spec (by kernel_rfl))
   clear hdep hI ho hF
   go_simp
   exact hK (by decide) (Value.pointer (some ⟨w.heap.size + 1, 0, none⟩)) _ (fun u hu => oV hu) (Below.refl _ _) (fct_none rfl)
  ·obtain rfl := oI ho
   have d5 : listed.getD 5 false = true := hdep ⟨5, .data⟩ (by simp) rfl
   have q10 : a.tmps[10]?.getD undef = Value.pointer (some ⟨w.heap.size + 1, 0, none⟩) := hI.val 5 _ 10 _ rfl rfl rfl d5
   have x0 := (HR.out.2.after hB).c 0 rfl
   have x1 := (HR.out.2.after hB).c 1 rfl
   clear hdep hI ho hF
   go_simp
   exact hK (by decide) (Value.agg #[.bool t, .slice E i f]) _ (fun u hu => oV hu) (Below.refl _ _) (fct_none rfl)
  ·obtain rfl := oI ho
   have q2 : a.tmps[2]?.getD undef = Value.pointer (some ⟨w.heap.size, 0, none⟩) := hI.old 2 (noDst_spec (by kernel_rfl))
   clear hdep hI ho hF
   go_simp
   exact hK (by decide) (Value.pointer (some ⟨w.heap.size, 2, none⟩)) _ (fun u hu => oV hu) (Below.refl _ _) (fct_none rfl)
  ·obtain rfl := oI ho
   have d7 : listed.getD 7 false = true := hdep ⟨7, .data⟩ (by simp) rfl
   have q12 : a.tmps[12]?.getD undef = Value.pointer (some ⟨w.heap.size, 2, none⟩) := hI.val 7 _ 12 _ rfl rfl rfl d7
   have x0 := (HR.out.1.after hB).c 2 rfl
   have x1 := (HR.out.1.after hB).c 3 rfl
   clear hdep hI ho hF
   go_simp
   exact hK (by decide) (Value.agg #[.bool q, .slice B j d]) _ (fun u hu => oV hu) (Below.refl _ _) (fct_none rfl)
  ·obtain rfl := oI ho
   have d6 : listed.getD 6 false = true := hdep ⟨6, .data⟩ (by simp) rfl
   have q11 : a.tmps[11]?.getD undef = Value.agg #[.bool t, .slice E i f] := hI.val 6 _ 11 _ rfl rfl rfl d6
   have d8 : listed.getD 8 false = true := hdep ⟨8, .data⟩ (by simp) rfl
   have q13 : a.tmps[13]?.getD undef = Value.agg #[.bool q, .slice B j d] := hI.val 8 _ 13 _ rfl rfl rfl d8
   clear hdep hI ho hF
   go_simp
   refine (H2.out _ (HD.out.2.2.1.below hB) (HD.out.2.1.below hB)).mono ?_
   rintro e W2 ⟨X, x, rfl, hx, hX, hb⟩
   exact hK (by decide) (.agg #[.bool _, .slice X _ x]) _ (fun u hu => nV hu) hb (fun p hp e => by
    simp only [List.mem_cons, List.not_mem_nil, or_false] at hp
    rcases hp with rfl | rfl
    ·exact absurd e (fct_ne (i := 4) rfl)
    ·exact ⟨X, x, rfl, hx, hX⟩)
  ·obtain rfl := oI ho
   have d4 : listed.getD 4 false = true := hdep ⟨4, .data⟩ (by simp) rfl
   have d9 : listed.getD 9 false = true := hdep ⟨9, .data⟩ (by simp) rfl
   obtain ⟨X, x, hq1, hx, hX⟩ := hF (bgFct 4 9 s1 m1 k1) (by simp) d4
   obtain ⟨Y, y, hq2, hy, hY⟩ := hF (bgFct 9 14 s2 m2 k2) (by simp) d9
   have q9 : a.tmps[9]?.getD undef = .agg #[.bool s1, .slice X k1 x] := hq1
   have q14 : a.tmps[14]?.getD undef = .agg #[.bool s2, .slice Y k2 y] := hq2
   have HC := Lib.hid (H3.out X x Y y W hX hY)
   clear hdep hI ho hF hx hy hX hY hq1 hq2
   go_simp
   refine HC.out.mono ?_
   rintro e W2 ⟨rfl, hb⟩
   exact hK (by decide) (Value.int .i64 r) _ (fun u hu => oV hu) hb (fct_none rfl)
  ·obtain rfl := oI ho
   have d10 : listed.getD 10 false = true := hdep ⟨10, .data⟩ (by simp) rfl
   have q15 : a.tmps[15]?.getD undef = Value.int .i64 r := hI.val 10 _ 15 _ rfl rfl rfl d10
   clear hdep hI ho hF
   go_simp
   exact hK (by decide) (Value.int .i64 r) _ (fun u hu => oV hu) (Below.refl _ _) (fct_none rfl)
 ·intro listed a W hI hall hfin hend
  obtain ⟨hBW, _⟩ := hend rfl
  have q4 : a.tmps[4]?.getD undef = Value.int .i64 r := hI.val 11 _ 4 _ rfl rfl rfl (hall 11 (by decide))
  have hdf : a.defers = [] := hI.defers
  have HE := Lib.hid (hb0.trans (hBW.mono hb0.size))
  clear hBW hall hfin hend hI
  obtain ⟨tm, df⟩ := a
  simp only at hdf q4
  subst hdf
  go_wp2_with fail
  exact bodyPost_ret (v := .int .i64 r) (by simp [results, Tryz.results40, go_sem, q4]) rfl ⟨rfl, HE.out⟩
theorem rcmp_any (n d n2 d2 : Int) (A B E G : Option Addr) (c e f h : Nat) (w : World) (hd : 0 < d) (hd2 : 0 < d2) (h1 : n.natAbs < T256) (h2 : d.natAbs < T256) (h3 : n2.natAbs < T256) (h4 : d2.natAbs < T256)
 (m1 : (n * d2).natAbs < T256) (m2 : (n2 * d).natAbs < T256) (dA : DS w n.natAbs A) (dB : DS w d.natAbs B) (dE : DS w n2.natAbs E) (dG : DS w d2.natAbs G) :
 Calls Tryz.prog 40 #[.agg #[.bool (decide (n < 0)), .slice A (L16 n.natAbs) c, .bool false, .slice B (L16 d.natAbs) e], .agg #[.bool (decide (n2 < 0)), .slice E (L16 n2.natAbs) f, .bool false, .slice G (L16 d2.natAbs) h]] w fun e w' => e = .returned (.int .i64 (cmpI (n * d2) (n2 * d))) ∧ Below w.heap.size w w' := by
 have d0 : decide (d < 0) = false := by simp; omega
 have d20 : decide (d2 < 0) = false := by simp; omega
 refine rcmp_core _ _ _ _ (decide (n * d2 < 0)) (decide (n2 * d < 0)) A B E G _ c _ e _ f _ h _ _ _ _ (n * d2).natAbs (L16 (n * d2).natAbs) (n2 * d).natAbs (L16 (n2 * d).natAbs) _ w dA dB dE dG ?_ ?_ ?_
 ·intro W hA hG
  have := mul_z n d2 A G c h W hA hG (L16_T h1) (L16_T h4)
  rw [bigv, bigv, d20] at this
  exact this.mono fun _ _ h => bg_of rfl h
 ·intro W hE hB
  have := mul_z n2 d E B f e W hE hB (L16_T h3) (L16_T h2)
  rw [bigv, bigv, d0] at this
  exact this.mono fun _ _ h => bg_of rfl h
 ·intro X x Y y W hX hY
  exact cmp_z (n * d2) (n2 * d) X Y x y W hX hY (L16_T6 m1) (L16_T6 m2)
theorem rsign_any (n : Int) (t : Bool) (A B : Option Addr) (c j e : Nat) (w : World) (h1 : n.natAbs < T256) (dA : DS w n.natAbs A) :
 Calls Tryz.prog 64 #[.agg #[.bool (decide (n < 0)), .slice A (L16 n.natAbs) c, .bool t, .slice B j e]] w fun e w' => e = .returned (.int .i64 (cmpI n 0)) ∧ Below w.heap.size w w' := by
 have hb0 := fun o => (Below.refl w.heap.size w).alloc (Nat.le_refl _) o
 have H := Lib.hid (fun W (hW : Below w.heap.size w W) => refsign_z n A c W (dA.below hW) (L16_T6 h1))
 have HB := Lib.hid hb0
 clear hb0 dA
 generalize cmpI n 0 = r at H ⊢
 unfold bigv at H
 go_enter Tryz.func64, Tryz.ntmps64
 go_wp2_with fail
 refine (H.out _ (HB.out _)).mono ?_
 rintro e w1 ⟨rfl, hb⟩
 have HZ := Lib.hid ((HB.out _).trans (hb.mono (by simp)))
 clear hb
 go_wp2_with fail
 go_ret
 exact ⟨rfl, HZ.out⟩
end Go.Proofs.YtcabndpmfkimgaaGreatDoor

namespace Go.Proofs.YtcabndpmfkimgaaGreatDoor
open Go.RowKit CrossMath

structure NegZ (w : World) (A B : Option Addr) (s0 s : Bool) (k c j d m p : Nat) (ls : Nat → Bool) (W : World) : Prop where
 c10 : ls 1 = true → ls 0 = true
 c41 : ls 4 = true → ls 1 = true
 c32 : ls 3 = true → ls 2 = true
 c53 : ls 5 = true → ls 3 = true
 n : Row W w.heap.size [.bool (if ls 4 = true then s else s0), .slice A k c]
 d : Row W (w.heap.size + 1) [.bool (if ls 5 = true then false else true), .slice B j d]
 z : Row W (w.heap.size + 1 + 1) [.bool false, .slice none 0 0, .bool false, .slice none 0 0]
 dA : DS W m A
 dB : DS W p B
 b : Below w.heap.size w W
section
variable {w : World} {A B : Option Addr} {s0 s : Bool} {k c j d m p : Nat} {listed : Array Bool} {W W1 : World}
theorem NegZ.no4 {ls : Nat → Bool} (h : NegZ w A B s0 s k c j d m p ls W) (h0 : ls 0 = false) : ls 4 = false := by
 cases e : ls 4 with
 | false => rfl
 | true => rw [h.c10 (h.c41 e)] at h0; cases h0
theorem NegZ.no5 {ls : Nat → Bool} (h : NegZ w A B s0 s k c j d m p ls W) (h0 : ls 2 = false) : ls 5 = false := by
 cases e : ls 5 with
 | false => rfl
 | true => rw [h.c32 (h.c53 e)] at h0; cases h0
theorem neg_off {i k : Nat} (h : i ≠ k) : (listed.setIfInBounds i true).getD k false = listed.getD k false := getD_set_ne false h
theorem NegZ.next (h : NegZ w A B s0 s k c j d m p (fun j => listed.getD j false) W) (i : Nat) (hi : i ≠ 4 ∧ i ≠ 5) (h1 : i = 1 → listed.getD 0 false = true) (h3 : i = 3 → listed.getD 2 false = true) (hb : Below W.heap.size W W1) :
 NegZ w A B s0 s k c j d m p (fun j => (listed.setIfInBounds i true).getD j false) W1 := by
 have e4 := neg_off (listed := listed) (i := i) (k := 4) hi.1
 have e5 := neg_off (listed := listed) (i := i) (k := 5) hi.2
 refine ⟨fun q => ?_, fun q => ?_, fun q => ?_, fun q => ?_, ?_, ?_, h.z.after hb, h.dA.below hb, h.dB.below hb, h.b.trans (hb.mono h.b.size)⟩
 ·by_cases e : i = 1
  ·exact fct_up (h1 e)
  ·simp only [neg_off e] at q; exact fct_up (h.c10 q)
 ·simp only [e4] at q; exact fct_up (h.c41 q)
 ·by_cases e : i = 3
  ·exact fct_up (h3 e)
  ·simp only [neg_off e] at q; exact fct_up (h.c32 q)
 ·simp only [e5] at q; exact fct_up (h.c53 q)
 ·simp only [e4]; exact h.n.after hb
 ·simp only [e5]; exact h.d.after hb
theorem NegZ.put4 (h : NegZ w A B s0 s k c j d m p (fun j => listed.getD j false) W) (hs : listed.size = 6) (h1 : listed.getD 1 false = true) :
 NegZ w A B s0 s k c j d m p (fun j => (listed.setIfInBounds 4 true).getD j false) ((W.setCell ⟨w.heap.size, 0, none⟩ (.bool s)).setCell ⟨w.heap.size, 1, none⟩ (.slice A k c)) := by
 have e : (listed.setIfInBounds 4 true).getD 4 false = true := by simp [hs]
 have hn := h.n
 have ho := On.setCells W w.heap.size [.bool s, .slice A k c] 0 W (On.refl W _)
 have hc := hn.c 0 rfl
 refine ⟨fun q => ?_, fun _ => fct_up h1, fun q => ?_, fun q => ?_, ?_, ?_, ho.row (by omega) h.z, h.dA.on ho hc, h.dB.on ho hc, below_put1 (below_put1 h.b (Nat.le_refl _) 0 _) (Nat.le_refl _) 1 _⟩
 ·simp only [neg_off (show 4 ≠ 1 by decide)] at q; exact fct_up (h.c10 q)
 ·simp only [neg_off (show 4 ≠ 3 by decide)] at q; exact fct_up (h.c32 q)
 ·simp only [neg_off (show 4 ≠ 5 by decide)] at q; exact fct_up (h.c53 q)
 ·simp only [e, if_true]
  exact (hn.set 0 (by simp) (.bool s)).set 1 (by simp) (.slice A k c)
 ·simp only [neg_off (show 4 ≠ 5 by decide)]
  exact ho.row (by omega) h.d
theorem NegZ.put5 (h : NegZ w A B s0 s k c j d m p (fun j => listed.getD j false) W) (hs : listed.size = 6) (h3 : listed.getD 3 false = true) :
 NegZ w A B s0 s k c j d m p (fun j => (listed.setIfInBounds 5 true).getD j false) ((W.setCell ⟨w.heap.size + 1, 0, none⟩ (.bool false)).setCell ⟨w.heap.size + 1, 1, none⟩ (.slice B j d)) := by
 have e : (listed.setIfInBounds 5 true).getD 5 false = true := by simp [hs]
 have hn := h.d
 have ho := On.setCells W (w.heap.size + 1) [.bool false, .slice B j d] 0 W (On.refl W _)
 have hc := hn.c 0 rfl
 refine ⟨fun q => ?_, fun q => ?_, fun q => ?_, fun _ => fct_up h3, ?_, ?_, ho.row (by omega) h.z, h.dA.on ho hc, h.dB.on ho hc, below_put1 (below_put1 h.b (by omega) 0 _) (by omega) 1 _⟩
 ·simp only [neg_off (show 5 ≠ 1 by decide)] at q; exact fct_up (h.c10 q)
 ·simp only [neg_off (show 5 ≠ 4 by decide)] at q; exact fct_up (h.c41 q)
 ·simp only [neg_off (show 5 ≠ 3 by decide)] at q; exact fct_up (h.c32 q)
 ·simp only [neg_off (show 5 ≠ 4 by decide)]
  exact ho.row (by omega) h.n
 ·simp only [e, if_true]
  exact (hn.set 0 (by simp) (.bool false)).set 1 (by simp) (.slice B j d)
end
set_option maxRecDepth 100000 in
set_option maxHeartbeats 3200000 in
theorem make_one_neg (s s0 : Bool) (A B : Option Addr) (m p k j c d k1 : Nat) (w : World) (dA : DS w m A) (dB : DS w p B) (ck : k ≤ c) (cj : j ≤ d)
 (hN1 : ∀ W, DS W m A → Calls Tryz.prog 59 #[.agg #[.bool s0, .slice A k c]] W fun e w' => e = .returned (.agg #[.bool s, .slice A k c]) ∧ Below W.heap.size W w')
 (hN2 : ∀ W, DS W p B → Calls Tryz.prog 59 #[.agg #[.bool true, .slice B j d]] W fun e w' => e = .returned (.agg #[.bool false, .slice B j d]) ∧ Below W.heap.size W w')
 (hNum : ∀ W, Calls Tryz.prog 34 #[.int .i64 1] W (BgPost W false 1 k1))
 (hCmp : ∀ E h W, DS W p B → DS W 1 E → Calls Tryz.prog 60 #[.agg #[.bool false, .slice B j d], .agg #[.bool false, .slice E k1 h]] W fun e w' => e = .returned (.int .i64 0) ∧ Below W.heap.size W w')
 :
  Calls Tryz.prog 33 #[.agg #[.bool s0, .slice A k c], .agg #[.bool true, .slice B j d]] w (RqPost w s false m p k j) := by
  have HN1 := Lib.hid hN1; clear hN1
  have HN2 := Lib.hid hN2; clear hN2
  have HNum := Lib.hid hNum; clear hNum
  have HCmp := Lib.hid hCmp; clear hCmp
  have HC := Lib.hid (And.intro ck cj); clear ck cj
  go_enter Tryz.func33, Tryz.ntmps33
  go_upto_region 1 with fail
  generalize hW : World.alloc _ _ = W0
  have hb0 : Below w.heap.size w W0 := by rw [← hW]; exact (((Below.refl w.heap.size w).alloc (Nat.le_refl _) _).alloc (by simp) _).alloc (by simp; omega) _
  have rN0 : Row W0 w.heap.size [.bool s0, .slice A k c] := by rw [← hW]; exact ((Row.at rfl [_, _] _).alloc _).alloc _
  have rD0 : Row W0 (w.heap.size + 1) [.bool true, .slice B j d] := by rw [← hW]; exact (Row.at (by simp) [_, _] _).alloc _
  have rZ0 : Row W0 (w.heap.size + 1 + 1) [.bool false, .slice none 0 0, .bool false, .slice none 0 0] := by rw [← hW]; exact Row.at (by simp) _ _
  have dA0 := dA.below hb0
  have dB0 := dB.below hb0
  clear hW dA dB
  have y0 := rD0.c 0 rfl
  go_upto_region 2 with fail
  clear y0
  have HS0 : NegZ w A B s0 s k c j d m p (fun _ => false) W0.drew := ⟨fun h => absurd h Bool.false_ne_true, fun h => absurd h Bool.false_ne_true, fun h => absurd h Bool.false_ne_true, fun h => absurd h Bool.false_ne_true, rN0.drew, rD0.drew, rZ0.drew, dA0, dB0, hb0.drew⟩
  clear rN0 rD0 rZ0 dA0 dB0 hb0
  refine wp_region_mid (by kernel_rfl) (fun i => match i with
   | 0 => some (.agg #[.bool s0, .slice A k c])
   | 1 => some (.agg #[.bool s, .slice A k c])
   | 2 => some (.agg #[.bool true, .slice B j d])
   | 3 => some (.agg #[.bool false, .slice B j d])
   | _ => none) (fun ls _ W => NegZ w A B s0 s k c j d m p ls W) (by kernel_rfl) HS0 ?_ ?_
  ·intro listed a W i o hI ho h0 hdep K hK
   have hi : i < 6 := (Array.getElem?_eq_some_iff.1 ho).1
   have hS : NegZ w A B s0 s k c j d m p (fun j => listed.getD j false) W := hI.world
   have hsz : listed.size = 6 := hI.lsize
   have h0' := fct_no h0
   have q2 : a.tmps[2]?.getD undef = .pointer (some ⟨w.heap.size, 0, none⟩) := hI.old 2 (noDst_spec (by kernel_rfl))
   have q3 : a.tmps[3]?.getD undef = .pointer (some ⟨w.heap.size + 1, 0, none⟩) := hI.old 3 (noDst_spec (by kernel_rfl))
   have hcase : i = 0 ∨ i = 1 ∨ i = 2 ∨ i = 3 ∨ i = 4 ∨ i = 5 := by omega
   clear hi
   rcases hcase with rfl | rfl | rfl | rfl | rfl | rfl
   ·obtain rfl := oI ho
    have r := hS.n
    have e4 : (fun j => listed.getD j false) 4 = false := hS.no4 h0'
    simp only [e4, Bool.false_eq_true, if_false] at r
    have x0 := r.c 0 rfl
    have x1 := r.c 1 rfl
    clear hdep hI ho r
    go_simp
    exact hK (.agg #[.bool s0, .slice A k c]) _ (fun u hu => oV hu) (hS.next 0 (by decide) (fun h => absurd h (by decide)) (fun h => absurd h (by decide)) (Below.refl _ _))
   ·obtain rfl := oI ho
    have d0 : listed.getD 0 false = true := hdep ⟨0, .data⟩ (by simp) rfl
    have q12 : a.tmps[12]?.getD undef = .agg #[.bool s0, .slice A k c] := hI.val 0 _ 12 _ rfl rfl rfl d0
    clear hdep hI ho
    go_simp
    refine (HN1.out _ hS.dA).mono ?_
    rintro e W2 ⟨rfl, hb⟩
    exact hK (.agg #[.bool s, .slice A k c]) _ (fun u hu => oV hu) (hS.next 1 (by decide) (fun _ => d0) (fun h => absurd h (by decide)) hb)
   ·obtain rfl := oI ho
    have r := hS.d
    have e5 : (fun j => listed.getD j false) 5 = false := hS.no5 h0'
    simp only [e5, Bool.false_eq_true, if_false] at r
    have x0 := r.c 0 rfl
    have x1 := r.c 1 rfl
    clear hdep hI ho r
    go_simp
    exact hK (.agg #[.bool true, .slice B j d]) _ (fun u hu => oV hu) (hS.next 2 (by decide) (fun h => absurd h (by decide)) (fun h => absurd h (by decide)) (Below.refl _ _))
   ·obtain rfl := oI ho
    have d2 : listed.getD 2 false = true := hdep ⟨2, .data⟩ (by simp) rfl
    have q14 : a.tmps[14]?.getD undef = .agg #[.bool true, .slice B j d] := hI.val 2 _ 14 _ rfl rfl rfl d2
    clear hdep hI ho
    go_simp
    refine (HN2.out _ hS.dB).mono ?_
    rintro e W2 ⟨rfl, hb⟩
    exact hK (.agg #[.bool false, .slice B j d]) _ (fun u hu => oV hu) (hS.next 3 (by decide) (fun h => absurd h (by decide)) (fun _ => d2) hb)
   ·obtain rfl := oI ho
    have d1 : listed.getD 1 false = true := hdep ⟨1, .data⟩ (by simp) rfl
    have q13 : a.tmps[13]?.getD undef = .agg #[.bool s, .slice A k c] := hI.val 1 _ 13 _ rfl rfl rfl d1
    have r := hS.n
    have e4 : (fun j => listed.getD j false) 4 = false := h0'
    simp only [e4, Bool.false_eq_true, if_false] at r
    have x0 := r.c 0 rfl
    have x1 := r.c 1 rfl
    have f0 := r.f 0 rfl
    have f1 := r.f 1 rfl
    clear hdep hI ho r e4
    go_simp
    exact hK undef _ (fun u hu => nV hu) (hS.put4 hsz d1)
   ·obtain rfl := oI ho
    have d3 : listed.getD 3 false = true := hdep ⟨3, .data⟩ (by simp) rfl
    have q15 : a.tmps[15]?.getD undef = .agg #[.bool false, .slice B j d] := hI.val 3 _ 15 _ rfl rfl rfl d3
    have r := hS.d
    have e5 : (fun j => listed.getD j false) 5 = false := h0'
    simp only [e5, Bool.false_eq_true, if_false] at r
    have x0 := r.c 0 rfl
    have x1 := r.c 1 rfl
    have f0 := r.f 0 rfl
    have f1 := r.f 1 rfl
    clear hdep hI ho r e5
    go_simp
    exact hK undef _ (fun u hu => nV hu) (hS.put5 hsz d3)
  intro listed a1 W1 hI hall
  have hS : NegZ w A B s0 s k c j d m p (fun j => listed.getD j false) W1 := hI.world
  have rN := hS.n
  have rD := hS.d
  have e4 : (fun j => listed.getD j false) 4 = true := hall 4 (by decide)
  have e5 : (fun j => listed.getD j false) 5 = true := hall 5 (by decide)
  simp only [e4, if_true] at rN
  simp only [e5, if_true] at rD
  have rZ := hS.z
  have dA := hS.dA
  have dB := hS.dB
  have hb0 := hS.b
  obtain ⟨f, hf⟩ : ∃ f : Nat → Value, ∀ t, slotOf a1 t = f t := ⟨_, fun _ => rfl⟩
  have ha := hI.frame [12, 13, 14, 15] (by kernel_rfl) f hf
  clear hf hI hall hS e4 e5 HS0 HN1 HN2
  subst ha
  simp only [setAll, List.foldl_cons, List.foldl_nil, List.setIfInBounds_toArray, List.set_cons_zero, List.set_cons_succ]
  generalize W1 = W0 at *
  have HD := Lib.hid (And.intro dA dB)
  have HR := Lib.hid (And.intro rN (And.intro rD (And.intro rZ hb0)))
  clear dA dB rN rD rZ hb0
  go_upto_region 3 with fail
  have hk0 : KS w [(w.heap.size, #[.bool s, .slice A k c]), ((w.heap.size + 1), #[.bool false, .slice B j d]), ((w.heap.size + 1 + 1), #[.bool false, .slice none 0 0, .bool false, .slice none 0 0])] W0 := ⟨fun q hq => by
   simp only [List.mem_cons, List.not_mem_nil, or_false] at hq
   rcases hq with rfl | rfl | rfl
   ·exact HR.out.1
   ·exact HR.out.2.1
   ·exact HR.out.2.2.1, HR.out.2.2.2⟩
  clear HR
  generalize hL : [(w.heap.size, #[.bool s, .slice A k c]), ((w.heap.size + 1), #[.bool false, .slice B j d]), ((w.heap.size + 1 + 1), (#[.bool false, .slice none 0 0, .bool false, .slice none 0 0] : Array Value))] = L at hk0
  have HL := Lib.hid hL; clear hL
  have l0 : ∀ W, KS w L W → W.cell? ⟨(w.heap.size + 1), 0, none⟩ = some (.bool false) := fun W h => h.c 1 (by rw [← HL.out]; rfl) 0 rfl
  have l1 : ∀ W, KS w L W → W.cell? ⟨(w.heap.size + 1), 1, none⟩ = some (.slice B j d) := fun W h => h.c 1 (by rw [← HL.out]; rfl) 1 rfl
  have dA := HD.out.1.drew'
  have dB := HD.out.2.drew'
  clear HD
  have hk := hk0.drew
  clear hk0
  go_region_held3 (fun W : World => KS w L W)
   (repeat (first | (with_reducible assumption) | (with_reducible refine KS.drew ?_) | (with_reducible refine KS.after ?_ hb)))
   (first
     | (go_at_call 34; (with_reducible refine (HNum.out _).mono ?_); rintro e w' ⟨E, h, rfl, _, dE, hb⟩; (replace dA := dA.below hb); (replace dB := dB.below hb))
     | (go_at_call 60; (with_reducible refine (HCmp.out _ _ _ dB dE).mono ?_); rintro e w' ⟨rfl, hb⟩; (replace dA := dA.below hb); (replace dB := dB.below hb)))
  have hK := ‹KS w L _›
  have HD := Lib.hid (And.intro dA dB)
  clear dA dB dE l0 l1
  have x0 := hK.c 0 (b := w.heap.size) (cs := #[.bool s, .slice A k c]) (by rw [← HL.out]; rfl) 0 rfl
  have x1 := hK.c 0 (b := w.heap.size) (cs := #[.bool s, .slice A k c]) (by rw [← HL.out]; rfl) 1 rfl
  have y0 := hK.c 1 (b := w.heap.size + 1) (cs := #[.bool false, .slice B j d]) (by rw [← HL.out]; rfl) 0 rfl
  have y1 := hK.c 1 (b := w.heap.size + 1) (cs := #[.bool false, .slice B j d]) (by rw [← HL.out]; rfl) 1 rfl
  have rZ := hK.row 2 (b := w.heap.size + 1 + 1) (cs := #[.bool false, .slice none 0 0, .bool false, .slice none 0 0]) (by rw [← HL.out]; rfl)
  have hB := Lib.hid hK.2
  clear hK HL hk
  go_wp2_with (refine wpList_store_R rfl _ _ _ rfl _ #[.bool s, .slice A k c, .bool false, .slice B j d] rfl rfl _ rZ (by rfl) agg_rrat (by simp [OneC, Value.oneCell']) ?_; intro w3 r3 o3)
  exact bodyPost_ret (results_R1 (cs := #[.bool s, .slice A k c, .bool false, .slice B j d]) rfl rfl r3 agg_rrat) rfl ⟨A, c, B, d, rfl, HC.out, ⟨HD.out.1.on o3 (rZ.c 0 rfl), HD.out.2.on o3 (rZ.c 0 rfl)⟩, below_on hB.out o3 (by omega)⟩

set_option maxRecDepth 100000 in
set_option maxHeartbeats 3200000 in
theorem make_gen_neg (s s0 u v : Bool) (A B : Option Addr) (m p k j c d k1 gm gk xm xk ym yk : Nat) (r : Int) (w : World) (dA : DS w m A) (dB : DS w p B) (ck : k ≤ c) (cj : j ≤ d)
 (hN1 : ∀ W, DS W m A → Calls Tryz.prog 59 #[.agg #[.bool s0, .slice A k c]] W fun e w' => e = .returned (.agg #[.bool s, .slice A k c]) ∧ Below W.heap.size W w')
 (hN2 : ∀ W, DS W p B → Calls Tryz.prog 59 #[.agg #[.bool true, .slice B j d]] W fun e w' => e = .returned (.agg #[.bool false, .slice B j d]) ∧ Below W.heap.size W w')
 (hNum : ∀ W, Calls Tryz.prog 34 #[.int .i64 1] W (BgPost W false 1 k1))
 (hCmp : ∀ E h W, DS W p B → DS W 1 E → Calls Tryz.prog 60 #[.agg #[.bool false, .slice B j d], .agg #[.bool false, .slice E k1 h]] W fun e w' => e = .returned (.int .i64 r) ∧ Below W.heap.size W w')
 (hGcd : ∀ W, DS W m A → DS W p B → Calls Tryz.prog 61 #[.agg #[.bool s, .slice A k c], .agg #[.bool false, .slice B j d]] W (BgPost W false gm gk))
 (hQ1 : ∀ E h W, DS W m A → DS W gm E → gk ≤ h → Calls Tryz.prog 62 #[.agg #[.bool s, .slice A k c], .agg #[.bool false, .slice E gk h]] W fun e w' => ∃ X x Y y rs rk, e = .returned (.tuple #[.agg #[.bool u, .slice X xk x], .agg #[.bool rs, .slice Y rk y]]) ∧ xk ≤ x ∧ DS w' xm X ∧ Below W.heap.size W w')
 (hQ2 : ∀ E h W, DS W p B → DS W gm E → gk ≤ h → Calls Tryz.prog 62 #[.agg #[.bool false, .slice B j d], .agg #[.bool false, .slice E gk h]] W fun e w' => ∃ X x Y y rs rk, e = .returned (.tuple #[.agg #[.bool v, .slice X yk x], .agg #[.bool rs, .slice Y rk y]]) ∧ yk ≤ x ∧ DS w' ym X ∧ Below W.heap.size W w') (hr : r ≠ 0) :
 Calls Tryz.prog 33 #[.agg #[.bool s0, .slice A k c], .agg #[.bool true, .slice B j d]] w (RqPost w u v xm ym xk yk) := by
 have HN1 := Lib.hid hN1; clear hN1
 have HN2 := Lib.hid hN2; clear hN2
 have HNum := Lib.hid hNum; clear hNum
 have HCmp := Lib.hid hCmp; clear hCmp
 have HGcd := Lib.hid hGcd; clear hGcd
 have HQ1 := Lib.hid hQ1; clear hQ1
 have HQ2 := Lib.hid hQ2; clear hQ2
 have hr0 : (r == 0) = false := by simpa using hr
 clear hr
 have HC := Lib.hid (And.intro ck cj); clear ck cj
 go_enter Tryz.func33, Tryz.ntmps33
 go_upto_region 1 with fail
 generalize hW : World.alloc _ _ = W0
 have hb0 : Below w.heap.size w W0 := by rw [← hW]; exact (((Below.refl w.heap.size w).alloc (Nat.le_refl _) _).alloc (by simp) _).alloc (by simp; omega) _
 have rN0 : Row W0 w.heap.size [.bool s0, .slice A k c] := by rw [← hW]; exact ((Row.at rfl [_, _] _).alloc _).alloc _
 have rD0 : Row W0 (w.heap.size + 1) [.bool true, .slice B j d] := by rw [← hW]; exact (Row.at (by simp) [_, _] _).alloc _
 have rZ0 : Row W0 (w.heap.size + 1 + 1) [.bool false, .slice none 0 0, .bool false, .slice none 0 0] := by rw [← hW]; exact Row.at (by simp) _ _
 have dA0 := dA.below hb0
 have dB0 := dB.below hb0
 clear hW dA dB
 have y0 := rD0.c 0 rfl
 go_upto_region 2 with fail
 clear y0
 have HS0 : NegZ w A B s0 s k c j d m p (fun _ => false) W0.drew := ⟨fun h => absurd h Bool.false_ne_true, fun h => absurd h Bool.false_ne_true, fun h => absurd h Bool.false_ne_true, fun h => absurd h Bool.false_ne_true, rN0.drew, rD0.drew, rZ0.drew, dA0, dB0, hb0.drew⟩
 clear rN0 rD0 rZ0 dA0 dB0 hb0
 refine wp_region_mid (by kernel_rfl) (fun i => match i with
  | 0 => some (.agg #[.bool s0, .slice A k c])
  | 1 => some (.agg #[.bool s, .slice A k c])
  | 2 => some (.agg #[.bool true, .slice B j d])
  | 3 => some (.agg #[.bool false, .slice B j d])
  | _ => none) (fun ls _ W => NegZ w A B s0 s k c j d m p ls W) (by kernel_rfl) HS0 ?_ ?_
 ·intro listed a W i o hI ho h0 hdep K hK
  have hi : i < 6 := (Array.getElem?_eq_some_iff.1 ho).1
  have hS : NegZ w A B s0 s k c j d m p (fun j => listed.getD j false) W := hI.world
  have hsz : listed.size = 6 := hI.lsize
  have h0' := fct_no h0
  have q2 : a.tmps[2]?.getD undef = .pointer (some ⟨w.heap.size, 0, none⟩) := hI.old 2 (noDst_spec (by kernel_rfl))
  have q3 : a.tmps[3]?.getD undef = .pointer (some ⟨w.heap.size + 1, 0, none⟩) := hI.old 3 (noDst_spec (by kernel_rfl))
  have hcase : i = 0 ∨ i = 1 ∨ i = 2 ∨ i = 3 ∨ i = 4 ∨ i = 5 := by omega
  clear hi
  rcases hcase with rfl | rfl | rfl | rfl | rfl | rfl
  ·obtain rfl := oI ho
   have r := hS.n
   have e4 : (fun j => listed.getD j false) 4 = false := hS.no4 h0'
   simp only [e4, Bool.false_eq_true, if_false] at r
   have x0 := r.c 0 rfl
   have x1 := r.c 1 rfl
   clear hdep hI ho r
   go_simp
   exact hK (.agg #[.bool s0, .slice A k c]) _ (fun u hu => oV hu) (hS.next 0 (by decide) (fun h => absurd h (by decide)) (fun h => absurd h (by decide)) (Below.refl _ _))
  ·obtain rfl := oI ho
   have d0 : listed.getD 0 false = true := hdep ⟨0, .data⟩ (by simp) rfl
   have q12 : a.tmps[12]?.getD undef = .agg #[.bool s0, .slice A k c] := hI.val 0 _ 12 _ rfl rfl rfl d0
   clear hdep hI ho
   go_simp
   refine (HN1.out _ hS.dA).mono ?_
   rintro e W2 ⟨rfl, hb⟩
   exact hK (.agg #[.bool s, .slice A k c]) _ (fun u hu => oV hu) (hS.next 1 (by decide) (fun _ => d0) (fun h => absurd h (by decide)) hb)
  ·obtain rfl := oI ho
   have r := hS.d
   have e5 : (fun j => listed.getD j false) 5 = false := hS.no5 h0'
   simp only [e5, Bool.false_eq_true, if_false] at r
   have x0 := r.c 0 rfl
   have x1 := r.c 1 rfl
   clear hdep hI ho r
   go_simp
   exact hK (.agg #[.bool true, .slice B j d]) _ (fun u hu => oV hu) (hS.next 2 (by decide) (fun h => absurd h (by decide)) (fun h => absurd h (by decide)) (Below.refl _ _))
  ·obtain rfl := oI ho
   have d2 : listed.getD 2 false = true := hdep ⟨2, .data⟩ (by simp) rfl
   have q14 : a.tmps[14]?.getD undef = .agg #[.bool true, .slice B j d] := hI.val 2 _ 14 _ rfl rfl rfl d2
   clear hdep hI ho
   go_simp
   refine (HN2.out _ hS.dB).mono ?_
   rintro e W2 ⟨rfl, hb⟩
   exact hK (.agg #[.bool false, .slice B j d]) _ (fun u hu => oV hu) (hS.next 3 (by decide) (fun h => absurd h (by decide)) (fun _ => d2) hb)
  ·obtain rfl := oI ho
   have d1 : listed.getD 1 false = true := hdep ⟨1, .data⟩ (by simp) rfl
   have q13 : a.tmps[13]?.getD undef = .agg #[.bool s, .slice A k c] := hI.val 1 _ 13 _ rfl rfl rfl d1
   have r := hS.n
   have e4 : (fun j => listed.getD j false) 4 = false := h0'
   simp only [e4, Bool.false_eq_true, if_false] at r
   have x0 := r.c 0 rfl
   have x1 := r.c 1 rfl
   have f0 := r.f 0 rfl
   have f1 := r.f 1 rfl
   clear hdep hI ho r e4
   go_simp
   exact hK undef _ (fun u hu => nV hu) (hS.put4 hsz d1)
  ·obtain rfl := oI ho
   have d3 : listed.getD 3 false = true := hdep ⟨3, .data⟩ (by simp) rfl
   have q15 : a.tmps[15]?.getD undef = .agg #[.bool false, .slice B j d] := hI.val 3 _ 15 _ rfl rfl rfl d3
   have r := hS.d
   have e5 : (fun j => listed.getD j false) 5 = false := h0'
   simp only [e5, Bool.false_eq_true, if_false] at r
   have x0 := r.c 0 rfl
   have x1 := r.c 1 rfl
   have f0 := r.f 0 rfl
   have f1 := r.f 1 rfl
   clear hdep hI ho r e5
   go_simp
   exact hK undef _ (fun u hu => nV hu) (hS.put5 hsz d3)
 intro listed a1 W1 hI hall
 have hS : NegZ w A B s0 s k c j d m p (fun j => listed.getD j false) W1 := hI.world
 have rN := hS.n
 have rD := hS.d
 have e4 : (fun j => listed.getD j false) 4 = true := hall 4 (by decide)
 have e5 : (fun j => listed.getD j false) 5 = true := hall 5 (by decide)
 simp only [e4, if_true] at rN
 simp only [e5, if_true] at rD
 have rZ := hS.z
 have dA := hS.dA
 have dB := hS.dB
 have hb0 := hS.b
 obtain ⟨f, hf⟩ : ∃ f : Nat → Value, ∀ t, slotOf a1 t = f t := ⟨_, fun _ => rfl⟩
 have ha := hI.frame [12, 13, 14, 15] (by kernel_rfl) f hf
 clear hf hI hall hS e4 e5 HS0 HN1 HN2
 subst ha
 simp only [setAll, List.foldl_cons, List.foldl_nil, List.setIfInBounds_toArray, List.set_cons_zero, List.set_cons_succ]
 generalize W1 = W0 at *
 have HD := Lib.hid (And.intro dA dB)
 have HR := Lib.hid (And.intro rN (And.intro rD (And.intro rZ hb0)))
 clear dA dB rN rD rZ hb0
 go_upto_region 3 with fail
 have hk0 : KS w [(w.heap.size, #[.bool s, .slice A k c]), ((w.heap.size + 1), #[.bool false, .slice B j d]), ((w.heap.size + 1 + 1), #[.bool false, .slice none 0 0, .bool false, .slice none 0 0])] W0 := ⟨fun q hq => by
  simp only [List.mem_cons, List.not_mem_nil, or_false] at hq
  rcases hq with rfl | rfl | rfl
  ·exact HR.out.1
  ·exact HR.out.2.1
  ·exact HR.out.2.2.1, HR.out.2.2.2⟩
 clear HR
 generalize hL : [(w.heap.size, #[.bool s, .slice A k c]), ((w.heap.size + 1), #[.bool false, .slice B j d]), ((w.heap.size + 1 + 1), (#[.bool false, .slice none 0 0, .bool false, .slice none 0 0] : Array Value))] = L at hk0
 have HL := Lib.hid hL; clear hL
 have l0 : ∀ W, KS w L W → W.cell? ⟨(w.heap.size + 1), 0, none⟩ = some (.bool false) := fun W h => h.c 1 (by rw [← HL.out]; rfl) 0 rfl
 have l1 : ∀ W, KS w L W → W.cell? ⟨(w.heap.size + 1), 1, none⟩ = some (.slice B j d) := fun W h => h.c 1 (by rw [← HL.out]; rfl) 1 rfl
 have dA := HD.out.1.drew'
 have dB := HD.out.2.drew'
 clear HD
 have hk := hk0.drew
 clear hk0
 go_region_held3 (fun W : World => KS w L W)
  (repeat (first | (with_reducible assumption) | (with_reducible refine KS.drew ?_) | (with_reducible refine KS.after ?_ hb)))
  (first
    | (go_at_call 34; (with_reducible refine (HNum.out _).mono ?_); rintro e w' ⟨E, h, rfl, _, dE, hb⟩; (replace dA := dA.below hb); (replace dB := dB.below hb))
    | (go_at_call 60; (with_reducible refine (HCmp.out _ _ _ dB dE).mono ?_); rintro e w' ⟨rfl, hb⟩; (replace dA := dA.below hb); (replace dB := dB.below hb)))
 have hK := ‹KS w L _›
 have HD := Lib.hid (And.intro dA dB)
 clear dA dB dE l0 l1
 have x0 := hK.c 0 (b := w.heap.size) (cs := #[.bool s, .slice A k c]) (by rw [← HL.out]; rfl) 0 rfl
 have x1 := hK.c 0 (b := w.heap.size) (cs := #[.bool s, .slice A k c]) (by rw [← HL.out]; rfl) 1 rfl
 have y0 := hK.c 1 (b := w.heap.size + 1) (cs := #[.bool false, .slice B j d]) (by rw [← HL.out]; rfl) 0 rfl
 have y1 := hK.c 1 (b := w.heap.size + 1) (cs := #[.bool false, .slice B j d]) (by rw [← HL.out]; rfl) 1 rfl
 clear hk
 go_wp2_with fail
 refine (HGcd.out _ HD.out.1 HD.out.2).mono ?_
 rintro e w1 ⟨G, g, rfl, cg, dG, hb⟩
 replace hK := hK.after hb
 have HD1 := Lib.hid (And.intro (HD.out.1.below hb) (And.intro (HD.out.2.below hb) dG))
 have CG := Lib.hid cg
 clear hb HD dG cg x0 x1 y0 y1
 go_upto_region 6 with (refine wpList_store_R rfl _ _ _ rfl _ #[.bool false, .slice G gk g] rfl rfl _ (Row.at rfl [.bool false, .slice none 0 0] _) (by rfl) agg_big (by simp [OneC, Value.oneCell']) ?_; intro w2 r2 o2)
 have HD2 : Hid (DS w2 m A ∧ DS w2 p B ∧ DS w2 gm G) := by
  have zz := (Row.at (w := w1) rfl [.bool false, .slice none 0 0] 47).c 0 rfl
  have hb1 := (Below.refl w1.heap.size w1).alloc (Nat.le_refl _) (.cells #[.bool false, .slice none 0 0] 47)
  exact Lib.hid ⟨(HD1.out.1.below hb1).on o2 zz, (HD1.out.2.1.below hb1).on o2 zz, (HD1.out.2.2.below hb1).on o2 zz⟩
 have hK2 := KS.wroteK hK o2 r2
 clear hK o2 r2 HD1
 generalize w1.heap.size = C at *
 rw [← HL.out] at hK2
 clear HL
 have x0 := hK2.c 0 (b := w.heap.size) (cs := #[.bool s, .slice A k c]) rfl 0 rfl
 have x1 := hK2.c 0 (b := w.heap.size) (cs := #[.bool s, .slice A k c]) rfl 1 rfl
 have g0 := hK2.c 3 (b := C) (cs := #[.bool false, .slice G gk g]) rfl 0 rfl
 have g1 := hK2.c 3 (b := C) (cs := #[.bool false, .slice G gk g]) rfl 1 rfl
 have HK2 := Lib.hid hK2
 clear hK2
 go_wp2_with fail
 refine (HQ1.out _ _ _ HD2.out.1 HD2.out.2.2 CG.out).mono ?_
 rintro e w3 ⟨X, x, X', x', rs, rk, rfl, cx, dX, hb⟩
 have hK := HK2.out.after hb
 have HD3 := Lib.hid (And.intro (HD2.out.2.1.below hb) (And.intro (HD2.out.2.2.below hb) dX))
 have CX := Lib.hid cx
 clear hb HK2 HD2 dX cx x0 x1 g0 g1
 go_upto_region 7 with (first
  | (refine wpList_store_R rfl _ _ _ rfl w3.heap.size #[.bool u, .slice X xk x] rfl rfl _ ((Row.at rfl [.bool false, .slice none 0 0] _).alloc _) (by rfl) agg_big (by simp [OneC, Value.oneCell']) ?_; intro w4 r4 o4)
  | (refine wpList_store_R rfl _ _ _ rfl (w3.heap.size + 1) #[.bool rs, .slice X' rk x'] rfl rfl _ (o4.row (by omega) (Row.at (by simp) [.bool false, .slice none 0 0] _)) (by rfl) agg_big (by simp [OneC, Value.oneCell']) ?_; intro w5 r5 o5))
 have hT := two_wrote hK r4 o4 o5
 have HD4 := Lib.hid (And.intro (hT.2 _ _ HD3.out.1) (And.intro (hT.2 _ _ HD3.out.2.1) (hT.2 _ _ HD3.out.2.2)))
 have HK4 := Lib.hid hT.1
 have y0 := hT.1.c 1 (b := w.heap.size + 1) (cs := #[.bool false, .slice B j d]) rfl 0 rfl
 have y1 := hT.1.c 1 (b := w.heap.size + 1) (cs := #[.bool false, .slice B j d]) rfl 1 rfl
 have g0 := hT.1.c 3 (b := C) (cs := #[.bool false, .slice G gk g]) rfl 0 rfl
 have g1 := hT.1.c 3 (b := C) (cs := #[.bool false, .slice G gk g]) rfl 1 rfl
 clear hT hK r4 o4 r5 o5 HD3
 generalize w3.heap.size = D at *
 go_wp2_with fail
 refine (HQ2.out _ _ _ HD4.out.1 HD4.out.2.1 CG.out).mono ?_
 rintro e w6 ⟨Y, y, Y', y', rs', rk', rfl, cy, dY, hb⟩
 have hK := HK4.out.after hb
 have HD5 := Lib.hid (And.intro (HD4.out.2.2.below hb) dY)
 have CY := Lib.hid cy
 clear hb HK4 HD4 dY cy y0 y1 g0 g1
 go_upto_region 8 with (first
  | (refine wpList_store_R rfl _ _ _ rfl w6.heap.size #[.bool v, .slice Y yk y] rfl rfl _ ((Row.at rfl [.bool false, .slice none 0 0] _).alloc _) (by rfl) agg_big (by simp [OneC, Value.oneCell']) ?_; intro w7 r7 o7)
  | (refine wpList_store_R rfl _ _ _ rfl (w6.heap.size + 1) #[.bool rs', .slice Y' rk' y'] rfl rfl _ (o7.row (by omega) (Row.at (by simp) [.bool false, .slice none 0 0] _)) (by rfl) agg_big (by simp [OneC, Value.oneCell']) ?_; intro w8 r8 o8))
 have hT := two_wrote hK r7 o7 o8
 have HD6 := Lib.hid (And.intro (hT.2 _ _ HD5.out.1) (hT.2 _ _ HD5.out.2))
 have x0 := hT.1.c 4 (b := D) (cs := #[.bool u, .slice X xk x]) rfl 0 rfl
 have x1 := hT.1.c 4 (b := D) (cs := #[.bool u, .slice X xk x]) rfl 1 rfl
 have y0 := hT.1.c 5 (b := w6.heap.size) (cs := #[.bool v, .slice Y yk y]) rfl 0 rfl
 have y1 := hT.1.c 5 (b := w6.heap.size) (cs := #[.bool v, .slice Y yk y]) rfl 1 rfl
 have rZ := hT.1.row 2 (b := w.heap.size + 1 + 1) (cs := #[.bool false, .slice none 0 0, .bool false, .slice none 0 0]) rfl
 have hB := Lib.hid hT.1.2
 clear hT hK r7 o7 r8 o8 HD5
 generalize w6.heap.size = F at *
 go_wp2_with (refine wpList_store_R rfl _ _ _ rfl _ #[.bool u, .slice X xk x, .bool v, .slice Y yk y] rfl rfl _ rZ (by rfl) agg_rrat (by simp [OneC, Value.oneCell']) ?_; intro w9 r9 o9)
 exact bodyPost_ret (results_R1 (cs := #[.bool u, .slice X xk x, .bool v, .slice Y yk y]) rfl rfl r9 agg_rrat) rfl ⟨X, x, Y, y, rfl, ⟨CX.out, CY.out⟩, ⟨HD6.out.1.on o9 (rZ.c 0 rfl), HD6.out.2.on o9 (rZ.c 0 rfl)⟩, below_on hB.out o9 (by omega)⟩

end Go.Proofs.YtcabndpmfkimgaaGreatDoor

namespace Go.Proofs.YtcabndpmfkimgaaGreatDoor
open Go.RowKit CrossMath

theorem rmake_neg (n d : Int) (A B : Option Addr) (c e : Nat) (w : World) (hd : 0 < d) (hn : n.natAbs < T256) (hd' : d.natAbs < T256) (dA : DS w n.natAbs A) (dB : DS w d.natAbs B) (hc : L16 n.natAbs ≤ c) (he : L16 d.natAbs ≤ e) :
 Calls Tryz.prog 33 #[.agg #[.bool (decide (-n < 0)), .slice A (L16 n.natAbs) c], .agg #[.bool true, .slice B (L16 d.natAbs) e]] w (RqPost w (decide (frN n d < 0)) false (frN n d).natAbs (frD n d).natAbs (L16 (frN n d).natAbs) (L16 (frD n d).natAbs)) := by
 have d0 : decide (d < 0) = false := by simp; omega
 have d1 : decide (-d < 0) = true := by simp; omega
 have hN1 : ∀ W, DS W n.natAbs A → Calls Tryz.prog 59 #[.agg #[.bool (decide (-n < 0)), .slice A (L16 n.natAbs) c]] W fun e w' => e = .returned (.agg #[.bool (decide (n < 0)), .slice A (L16 n.natAbs) c]) ∧ Below W.heap.size W w' := fun W hA => by
  have := refneg_z (-n) A c W (by rw [Int.natAbs_neg]; exact hA) (by rw [Int.natAbs_neg]; exact hc) (by rw [Int.natAbs_neg]; exact L16_T6 hn)
  rw [Int.neg_neg, bigv, bigv, Int.natAbs_neg] at this
  exact this.mono fun _ _ h => ⟨h.1, h.2.2⟩
 have hN2 : ∀ W, DS W d.natAbs B → Calls Tryz.prog 59 #[.agg #[.bool true, .slice B (L16 d.natAbs) e]] W fun e' w' => e' = .returned (.agg #[.bool false, .slice B (L16 d.natAbs) e]) ∧ Below W.heap.size W w' := fun W hB => by
  have := refneg_z (-d) B e W (by rw [Int.natAbs_neg]; exact hB) (by rw [Int.natAbs_neg]; exact he) (by rw [Int.natAbs_neg]; exact L16_T6 hd')
  rw [Int.neg_neg, bigv, bigv, Int.natAbs_neg, d0, d1] at this
  exact this.mono fun _ _ h => ⟨h.1, h.2.2⟩
 have hg0 : Int.gcd n d ≠ 0 := fun h => by have := (Int.gcd_eq_zero_iff.1 h).2; omega
 have eN : frN n d = n.tdiv (Int.gcd n d : Nat) := by unfold frN; rw [if_neg (by omega), Int.mul_one]
 have eD : frD n d = d.tdiv (Int.gcd n d : Nat) := by unfold frD; rw [show ((d.natAbs : Nat) : Int) = d by omega]
 have hgd : Int.gcd n d ≤ d.natAbs := Nat.le_of_dvd (by omega) (Int.natCast_dvd_natCast.1 (by rw [show ((d.natAbs : Nat) : Int) = d by omega]; exact Int.gcd_dvd_right ..))
 have hgT : Int.gcd n d < T256 := Nat.lt_of_le_of_lt hgd hd'
 have hcmp : ∀ (E : Option Addr) (h : Nat) (W : World), DS W d.natAbs B → DS W 1 E → Calls Tryz.prog 60 #[.agg #[.bool false, .slice B (L16 d.natAbs) e], .agg #[.bool false, .slice E (L16 1) h]] W fun e w' => e = .returned (.int .i64 (cmpI d 1)) ∧ Below W.heap.size W w' := by
  intro E h W hB hE
  have := cmp_z d 1 B E e h W hB hE (L16_T6 hd') (by show L16 1 ≤ _; exact Nat.le_trans (L16_T (by decide)) (by decide))
  rw [bigv, d0] at this
  exact this
 by_cases h1 : d = 1
 ·subst h1
  have e1 : Int.gcd n 1 = 1 := by simp
  rw [eN, eD, e1, show ((1 : Nat) : Int) = 1 from rfl, Int.tdiv_one, Int.tdiv_one]
  rw [show cmpI 1 1 = 0 from rfl] at hcmp
  exact make_one_neg _ _ A B _ _ _ _ c e (L16 1) w dA dB hc he hN1 hN2 one_bg hcmp
 ·have hne : cmpI d 1 ≠ 0 := by unfold cmpI; rw [if_neg (by omega), if_pos (by omega)]; decide
  have q0 : decide (d.tdiv (Int.gcd n d : Nat) < 0) = false := by
   have : 0 ≤ d.tdiv (Int.gcd n d : Nat) := Int.tdiv_nonneg (by omega) (by omega)
   simp; omega
  rw [eN, eD]
  refine make_gen_neg _ _ _ _ A B _ _ _ _ c e (L16 1) (Int.gcd n d) (L16 (Int.gcd n d)) _ _ _ _ (cmpI d 1) w dA dB hc he hN1 hN2 one_bg hcmp ?_ ?_ ?_ hne
  ·intro W hA hB
   have := refgcd_z n d A B c e W hA hB hc he hn hd'
   rw [bigv, bigv, d0] at this
   refine this.mono ?_
   rintro e' w' ⟨X, x, rfl, hx, hD, hb⟩
   refine ⟨X, x, ?_, hx, hD, hb⟩
   rw [bigv, show decide (((Int.gcd n d : Nat) : Int) < 0) = false by simp]
   rfl
  ·intro E h W hA hE hh
   have := refquo_z n (Int.gcd n d : Nat) A E c h W hA hE (L16_T hn) (by rw [Int.natAbs_natCast]; exact L16_T hgT) (by omega)
   rw [bigv, bigv, show decide (((Int.gcd n d : Nat) : Int) < 0) = false by simp] at this
   refine this.mono ?_
   rintro e' w' ⟨X, x, Y, y, rfl, hx, _, hD, _, hb⟩
   exact ⟨X, x, Y, y, _, _, rfl, hx, hD, hb⟩
  ·intro E h W hA hE hh
   have := refquo_z d (Int.gcd n d : Nat) B E e h W hA hE (L16_T hd') (by rw [Int.natAbs_natCast]; exact L16_T hgT) (by omega)
   rw [bigv, bigv, d0, show decide (((Int.gcd n d : Nat) : Int) < 0) = false by simp] at this
   refine this.mono ?_
   rintro e' w' ⟨X, x, Y, y, rfl, hx, _, hD, _, hb⟩
   refine ⟨X, x, Y, y, decide (d.tmod (Int.gcd n d : Nat) < 0), L16 (d.tmod (Int.gcd n d : Nat)).natAbs, ?_, hx, hD, hb⟩
   rw [bigv, q0]
   rfl
theorem rmake_z (n d : Int) (A B : Option Addr) (c e : Nat) (w : World) (hd : d ≠ 0) (hn : n.natAbs < T256) (hd' : d.natAbs < T256) (dA : DS w n.natAbs A) (dB : DS w d.natAbs B) (hc : L16 n.natAbs ≤ c) (he : L16 d.natAbs ≤ e) :
 Calls Tryz.prog 33 #[.agg #[.bool (decide (n < 0)), .slice A (L16 n.natAbs) c], .agg #[.bool (decide (d < 0)), .slice B (L16 d.natAbs) e]] w (RqPost w (decide (frN n d < 0)) false (frN n d).natAbs (frD n d).natAbs (L16 (frN n d).natAbs) (L16 (frD n d).natAbs)) := by
 by_cases h : 0 < d
 ·rw [show decide (d < 0) = false by simp; omega]
  exact rmake_any n d A B c e w h hn hd' dA dB hc he
 ·rw [show decide (d < 0) = true by simp; omega]
  have := rmake_neg (-n) (-d) A B c e w (by omega) (by rw [Int.natAbs_neg]; exact hn) (by rw [Int.natAbs_neg]; exact hd') (by rw [Int.natAbs_neg]; exact dA) (by rw [Int.natAbs_neg]; exact dB) (by rw [Int.natAbs_neg]; exact hc) (by rw [Int.natAbs_neg]; exact he)
  rw [Int.neg_neg, Int.natAbs_neg, Int.natAbs_neg, frN_neg n d hd, frD_neg] at this
  exact this
end Go.Proofs.YtcabndpmfkimgaaGreatDoor

namespace Go.Proofs.YtcabndpmfkimgaaGreatDoor
open Go.RowKit Go.Sort CrossMath

def ratFct (idx slot : Nat) : Fct := ⟨idx, slot, fun v W => ∃ E f G h, v = .agg #[.bool false, .slice E (L16 1) f, .bool false, .slice G (L16 1) h] ∧ DS W 1 E ∧ DS W 1 G, fun v X Y h hb => by
 obtain ⟨E, f, G, g, h1, h2, h3⟩ := h
 exact ⟨E, f, G, g, h1, h2.below hb, h3.below hb⟩⟩
set_option maxRecDepth 100000 in
set_option maxHeartbeats 3200000 in
theorem within_yes (p0 p1 p2 p3 : Value) (r r2 : Int) (b2 : Bool) (w : World) (hr : decide (0 ≤ r) = true) (hb2 : decide (r2 ≤ 0) = b2)
 (h1 : ∀ W, Below w.heap.size w W → Calls Tryz.prog 64 #[.agg #[p0, p1, p2, p3]] W fun e w' => e = .returned (.int .i64 r) ∧ Below W.heap.size W w')
 (h2 : ∀ W, Calls Tryz.prog 37 #[.int .i64 1] W (RatPost W false 1 (L16 1) (L16 1)))
 (h3 : ∀ E f G h W, Below w.heap.size w W → DS W 1 E → DS W 1 G → Calls Tryz.prog 40 #[.agg #[p0, p1, p2, p3], .agg #[.bool false, .slice E (L16 1) f, .bool false, .slice G (L16 1) h]] W fun e w' => e = .returned (.int .i64 r2) ∧ Below W.heap.size W w') :
 Calls Tryz.prog 35 #[.agg #[p0, p1, p2, p3]] w fun e w' => e = .returned (.bool b2) ∧ Below w.heap.size w w' := by
 have H1 := Lib.hid h1; clear h1
 have H2 := Lib.hid h2; clear h2
 have H3 := Lib.hid h3; clear h3
 go_enter Tryz.func35, Tryz.ntmps35
 go_upto_region 1 with fail
 generalize hW : World.alloc _ _ = W0
 have HR := Lib.hid (show Row W0 w.heap.size [p0, p1, p2, p3] by rw [← hW]; exact Row.at rfl [_, _, _, _] _)
 have hb0 : Below w.heap.size w W0 := by rw [← hW]; exact (Below.refl w.heap.size w).alloc (Nat.le_refl _) _
 clear hW
 refine wp_region_fct (by kernel_rfl) [3] (fun ix => match ix with
  | 0 => some (Value.agg #[p0, p1, p2, p3])
  | 1 => some (Value.int .i64 r)
  | 2 => some (Value.bool true)
  | 3 => some (Value.bool true)
  | 4 => some (Value.agg #[p0, p1, p2, p3])
  | 6 => some (Value.int .i64 r2)
  | 7 => some (Value.bool b2)
  | 8 => some (Value.bool b2)
  | 9 => some (Value.bool b2)
  | _ => none) (by intro j hj; simp only [List.mem_cons, List.not_mem_nil, or_false] at hj; rcases hj with rfl <;> rfl) 10 [ratFct 5 8] (fun _ _ => False) (by kernel_rfl) (by kernel_rfl) (by rfl) ?_ ?_
 ·intro listed a W ix o hI ho hdep hB hF K hK hKf
  have hi : ix < 10 := (Array.getElem?_eq_some_iff.1 ho).1
  have hcase : ix = 0 ∨ ix = 1 ∨ ix = 2 ∨ ix = 3 ∨ ix = 4 ∨ ix = 5 ∨ ix = 6 ∨ ix = 7 ∨ ix = 8 ∨ ix = 9 := by omega
  clear hi
  rcases hcase with rfl | rfl | rfl | rfl | rfl | rfl | rfl | rfl | rfl | rfl
  ·obtain rfl := oI ho
   have q1 : a.tmps[1]?.getD undef = Value.pointer (some ⟨w.heap.size, 0, none⟩) := hI.old 1 (noDst_spec (by kernel_rfl))
   have x0 := (HR.out.after hB).c 0 rfl
   have x1 := (HR.out.after hB).c 1 rfl
   have x2 := (HR.out.after hB).c 2 rfl
   have x3 := (HR.out.after hB).c 3 rfl
   clear hdep hI ho hF
   go_simp
   exact hK (by decide) (Value.agg #[p0, p1, p2, p3]) _ (fun u hu => oV hu) (Below.refl _ _) (fct_none rfl)
  ·obtain rfl := oI ho
   have d0 : listed.getD 0 false = true := hdep ⟨0, .data⟩ (by simp) rfl
   have q3 : a.tmps[3]?.getD undef = Value.agg #[p0, p1, p2, p3] := hI.val 0 _ 3 _ rfl rfl rfl d0
   clear hdep hI ho hF
   go_simp
   refine (H1.out _ (hb0.trans (hB.mono hb0.size))).mono ?_
   rintro e W2 ⟨rfl, hb⟩
   exact hK (by decide) (Value.int .i64 r) _ (fun u hu => oV hu) hb (fct_none rfl)
  ·obtain rfl := oI ho
   have d1 : listed.getD 1 false = true := hdep ⟨1, .data⟩ (by simp) rfl
   have q4 : a.tmps[4]?.getD undef = Value.int .i64 r := hI.val 1 _ 4 _ rfl rfl rfl d1
   clear hdep hI ho hF
   go_simp
   exact hK (by decide) (Value.bool true) _ (fun u hu => oV hu) (Below.refl _ _) (fct_none rfl)
  ·obtain rfl := oI ho
   have d2 : listed.getD 2 false = true := hdep ⟨2, .data⟩ (by simp) rfl
   have q5 : a.tmps[5]?.getD undef = Value.bool true := hI.val 2 _ 5 _ rfl rfl rfl d2
   clear hdep hI ho hF
   go_simp
   exact hK (by decide) (Value.bool true) _ (fun u hu => oV hu) (Below.refl _ _) (fct_none rfl)
  ·obtain rfl := oI ho
   have q1 : a.tmps[1]?.getD undef = Value.pointer (some ⟨w.heap.size, 0, none⟩) := hI.old 1 (noDst_spec (by kernel_rfl))
   have x0 := (HR.out.after hB).c 0 rfl
   have x1 := (HR.out.after hB).c 1 rfl
   have x2 := (HR.out.after hB).c 2 rfl
   have x3 := (HR.out.after hB).c 3 rfl
   clear hdep hI ho hF
   go_simp
   exact hK (by decide) (Value.agg #[p0, p1, p2, p3]) _ (fun u hu => oV hu) (Below.refl _ _) (fct_none rfl)
  ·obtain rfl := oI ho
   clear hdep hI ho hF
   go_simp
   refine (H2.out _).mono ?_
   rintro e W2 ⟨E, f, G, h, rfl, hE, hG, hb⟩
   exact hK (by decide) (.agg #[.bool false, .slice E (L16 1) f, .bool false, .slice G (L16 1) h]) _ (fun u hu => nV hu) hb (fun p hp e => by
    simp only [List.mem_cons, List.not_mem_nil, or_false] at hp
    rcases hp with rfl
    ·exact ⟨E, f, G, h, rfl, hE, hG⟩)
  ·obtain rfl := oI ho
   have d4 : listed.getD 4 false = true := hdep ⟨4, .data⟩ (by simp) rfl
   have d5 : listed.getD 5 false = true := hdep ⟨5, .data⟩ (by simp) rfl
   have q7 : a.tmps[7]?.getD undef = Value.agg #[p0, p1, p2, p3] := hI.val 4 _ 7 _ rfl rfl rfl d4
   obtain ⟨E, f, G, h, hq, hE, hG⟩ := hF (ratFct 5 8) (by simp) d5
   have q8 : a.tmps[8]?.getD undef = .agg #[.bool false, .slice E (L16 1) f, .bool false, .slice G (L16 1) h] := hq
   have HC := Lib.hid (H3.out E f G h W (hb0.trans (hB.mono hb0.size)) hE hG)
   clear hdep hI ho hF hE hG hq
   go_simp
   refine HC.out.mono ?_
   rintro e W2 ⟨rfl, hb⟩
   exact hK (by decide) (Value.int .i64 r2) _ (fun u hu => oV hu) hb (fct_none rfl)
  ·obtain rfl := oI ho
   have d6 : listed.getD 6 false = true := hdep ⟨6, .data⟩ (by simp) rfl
   have q9 : a.tmps[9]?.getD undef = Value.int .i64 r2 := hI.val 6 _ 9 _ rfl rfl rfl d6
   clear hdep hI ho hF
   go_simp
   exact hK (by decide) (Value.bool b2) _ (fun u hu => oV hu) (Below.refl _ _) (fct_none rfl)
  ·obtain rfl := oI ho
   have d3 : listed.getD 3 false = true := hdep ⟨3, .data⟩ (by simp) rfl
   have q6 : a.tmps[6]?.getD undef = Value.bool true := hI.val 3 _ 6 _ rfl rfl rfl d3
   have d7 : listed.getD 7 false = true := hdep ⟨7, .data⟩ (by simp) rfl
   have q10 : a.tmps[10]?.getD undef = Value.bool b2 := hI.val 7 _ 10 _ rfl rfl rfl d7
   clear hdep hI ho hF
   go_simp
   exact hK (by decide) (Value.bool b2) _ (fun u hu => oV hu) (Below.refl _ _) (fct_none rfl)
  ·obtain rfl := oI ho
   have d8 : listed.getD 8 false = true := hdep ⟨8, .data⟩ (by simp) rfl
   have q11 : a.tmps[11]?.getD undef = Value.bool b2 := hI.val 8 _ 11 _ rfl rfl rfl d8
   clear hdep hI ho hF
   go_simp
   exact hK (by decide) (Value.bool b2) _ (fun u hu => oV hu) (Below.refl _ _) (fct_none rfl)
 ·intro listed a W hI hall hfin hend
  obtain ⟨hBW, _⟩ := hend rfl
  have q2 : a.tmps[2]?.getD undef = Value.bool b2 := hI.val 9 _ 2 _ rfl rfl rfl (hall 9 (by decide))
  have hdf : a.defers = [] := hI.defers
  have HE := Lib.hid (hb0.trans (hBW.mono hb0.size))
  clear hBW hall hfin hend hI
  obtain ⟨tm, df⟩ := a
  simp only at hdf q2
  subst hdf
  go_wp2_with fail
  exact bodyPost_ret (v := .bool b2) (by simp [results, Tryz.results35, go_sem, q2]) rfl ⟨rfl, HE.out⟩

set_option maxRecDepth 100000 in
theorem within_no (p0 p1 p2 p3 : Value) (r : Int) (w : World) (hr : decide (0 ≤ r) = false)
 (h1 : ∀ W, Below w.heap.size w W → Calls Tryz.prog 64 #[.agg #[p0, p1, p2, p3]] W fun e w' => e = .returned (.int .i64 r) ∧ Below W.heap.size W w') :
 Calls Tryz.prog 35 #[.agg #[p0, p1, p2, p3]] w fun e w' => e = .returned (.bool false) ∧ Below w.heap.size w w' := by
 have H1 := Lib.hid h1; clear h1
 go_enter Tryz.func35, Tryz.ntmps35
 go_upto_region 1 with fail
 generalize hW : World.alloc _ _ = W0
 have hR : Row W0 w.heap.size [p0, p1, p2, p3] := by rw [← hW]; exact Row.at rfl [_, _, _, _] _
 have hb0 : Below w.heap.size w W0 := by rw [← hW]; exact (Below.refl w.heap.size w).alloc (Nat.le_refl _) _
 clear hW
 have x0 := cell_regrown (hR.c 0 rfl)
 have x1 := cell_regrown (hR.c 1 rfl)
 have x2 := cell_regrown (hR.c 2 rfl)
 have x3 := cell_regrown (hR.c 3 rfl)
 have C1 := Lib.hid (fun d os => Calls.regrown_of (H1.out (grow (redrawn W0 d) os) (hb0.trans ((below_regrown W0 d os).mono hb0.size))))
 refine wp_region_quiet_below (by kernel_rfl) (by kernel_rfl) ?_
 repeat (first | go_big_quiet_step ((with_reducible exact C1.out _ _)) | quiet_step ((with_reducible exact C1.out _ _)))
 refine wpQuiet_nil ?_
 intro _ hw'
 obtain ⟨⟨dq, osq⟩, hw''⟩ := hw'
 subst hw''
 have HE := Lib.hid (hb0.trans ((below_regrown W0 dq osq).mono hb0.size))
 generalize grow _ _ = w9 at HE ⊢
 clear x0 x1 x2 x3 C1
 go_wp2_with fail
 go_ret
 exact ⟨rfl, HE.out⟩
theorem within_any (n d : Int) (A B : Option Addr) (c e : Nat) (w : World) (hd : 0 < d) (h1 : n.natAbs < T256) (h2 : d.natAbs < T256) (dA : DS w n.natAbs A) (dB : DS w d.natAbs B) :
 Calls Tryz.prog 35 #[.agg #[.bool (decide (n < 0)), .slice A (L16 n.natAbs) c, .bool false, .slice B (L16 d.natAbs) e]] w fun e w' => e = .returned (.bool (inR (n, d))) ∧ Below w.heap.size w w' := by
 have hS : ∀ W, Below w.heap.size w W → Calls Tryz.prog 64 #[.agg #[.bool (decide (n < 0)), .slice A (L16 n.natAbs) c, .bool false, .slice B (L16 d.natAbs) e]] W fun e w' => e = .returned (.int .i64 (cmpI n 0)) ∧ Below W.heap.size W w' :=
  fun W hW => rsign_any n false A B c _ e W h1 (dA.below hW)
 by_cases hn : 0 ≤ n
 ·have e0 : inR (n, d) = decide (n ≤ d) := by unfold inR; simp [hn]
  rw [e0]
  refine within_yes _ _ _ _ (cmpI n 0) (cmpI (n * 1) (1 * d)) _ w ?_ ?_ hS (fun W => rnum_any 1 W (by decide) (by decide)) (fun E f G h W hW hE hG => ?_)
  ·unfold cmpI
   rw [if_neg (by omega)]
   split <;> decide
  ·rw [Int.mul_one, Int.one_mul]
   unfold cmpI
   by_cases h : n < d
   ·rw [if_pos h, decide_eq_true (show n ≤ d by omega)]; decide
   ·rw [if_neg h]
    by_cases h' : d < n
    ·rw [if_pos h', decide_eq_false (show ¬ n ≤ d by omega)]; decide
    ·rw [if_neg h', decide_eq_true (show n ≤ d by omega)]; decide
  ·exact rcmp_any n d 1 1 A B E G c e f h W hd (by decide) h1 h2 (by decide) (by decide) (by rw [Int.mul_one]; exact h1) (by rw [Int.one_mul]; exact h2) (dA.below hW) (dB.below hW) hE hG
 ·have e0 : inR (n, d) = false := by unfold inR; simp [hn]
  rw [e0]
  exact within_no _ _ _ _ (cmpI n 0) w (by unfold cmpI; rw [if_pos (by omega)]; decide) hS
end Go.Proofs.YtcabndpmfkimgaaGreatDoor
