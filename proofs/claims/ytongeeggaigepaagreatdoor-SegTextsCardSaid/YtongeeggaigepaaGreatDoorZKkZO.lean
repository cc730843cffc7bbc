import Derived.Test.YtongeeggaigepaaGreatDoorZKkZG
import Derived.Test.YtongeeggaigepaaGreatDoorZKkXD
import Derived.Test.YtongeeggaigepaaGreatDoorZKkWI
import Derived.Test.YtongeeggaigepaaGreatDoorZKkRF
import Derived.Test.YtongeeggaigepaaGreatDoorZKkUB
import Derived.Test.YtongeeggaigepaaGreatDoorZKkZB
namespace Go.Proofs.YtongeeggaigepaaGreatDoor
open Go.RowKit Go.Sort CrossMath

def RatPostC (w : World) (s : Bool) (m k j : Nat) (e : Ending) (w' : World) : Prop := ∃ A c B d, e = .returned (.agg #[.bool s, .slice A k c, .bool false, .slice B j d]) ∧ k ≤ c ∧ DS w' m A ∧ DS w' 1 B ∧ Below w.heap.size w w'
theorem one_zC (w : World) : Calls Tryz.prog 80 #[.int .i64 1] w fun e w' => ∃ A c, e = .returned (.agg #[.bool false, .slice A (L16 1) c]) ∧ DS w' 1 A ∧ Below w.heap.size w w' := by
 refine (num_z 1 w (by decide) (by decide)).mono ?_
 rintro e w' ⟨A, c, rfl, _, hd, hb⟩
 exact ⟨A, c, rfl, hd, hb⟩
set_option maxRecDepth 100000 in
set_option maxHeartbeats 1600000 in
theorem rnumC_any (n : Int) (w : World) (h1 : -9223372036854775808 ≤ n) (h2 : n ≤ 9223372036854775807) :
 Calls Tryz.prog 45 #[.int .i64 n] w (RatPostC w (decide (n < 0)) n.natAbs (L16 n.natAbs) (L16 1)) := by
 have H1 : Hid (∀ W, Calls Tryz.prog 80 #[.int .i64 n] W fun e w' => ∃ A c, e = .returned (.agg #[.bool (decide (n < 0)), .slice A (L16 n.natAbs) c]) ∧ L16 n.natAbs ≤ c ∧ DS w' n.natAbs A ∧ Below W.heap.size W w') := Lib.hid (fun W => by
  refine (num_z n W h1 h2).mono ?_
  rintro e w' ⟨A, c, rfl, hc, hd, hb⟩
  exact ⟨A, c, rfl, hc, hd, hb⟩)
 have H2 := Lib.hid one_zC
 clear h1 h2
 generalize decide (n < 0) = s at *
 generalize n.natAbs = m at *
 generalize L16 m = k at *
 generalize L16 1 = j at *
 go_enter Tryz.func45, Tryz.ntmps45
 go_wp2_with fail
 generalize hW : World.alloc _ _ = W0
 have r0 : Row W0 w.heap.size [.bool false, .slice none 0 0, .bool false, .slice none 0 0] := by rw [← hW]; exact Row.at rfl _ _
 have hB : Below w.heap.size w W0 := by rw [← hW]; exact (Below.refl w.heap.size w).alloc (Nat.le_refl _) _
 clear hW
 refine (H1.out _).mono ?_
 rintro e w1 ⟨A, c, rfl, hc1, hd, hb⟩
 replace r0 := r0.after hb
 replace hB := hB.trans (hb.mono hB.size)
 clear hb
 have hd1 := Lib.hid hd
 clear hd
 go_wp2_with fail
 refine (H2.out _).mono ?_
 rintro e w2 ⟨B, d, rfl, hd2, hb⟩
 replace r0 := r0.after hb
 replace hB := hB.trans (hb.mono hB.size)
 have HD := Lib.hid (And.intro (hd1.out.below hb) hd2)
 clear hb hd1 hd2
 have hX := Lib.hid (r0.c 0 rfl)
 have HB := Lib.hid hB
 clear hB
 go_wp2_with (refine wpList_store_R rfl _ _ _ rfl _ #[.bool s, .slice A k c, .bool false, .slice B j d] rfl rfl _ r0 (by rfl) agg_rrat (by simp [OneC, Value.oneCell']) ?_; intro w3 r3 o3)
 exact bodyPost_ret (results_R1 (cs := #[.bool s, .slice A k c, .bool false, .slice B j d]) rfl rfl r3 agg_rrat) rfl ⟨A, c, B, d, rfl, hc1, HD.out.1.on o3 hX.out, HD.out.2.on o3 hX.out, below_on HB.out o3 (Nat.le_refl _)⟩
theorem field_rn (s u : Bool) (A B : Option Addr) (k c j d : Nat) (W : World) : (Instr.field 55 (.agg #[.bool s, .slice A k c, .bool u, .slice B j d]) 0).run Tryz.prog W = .ok (.agg #[.bool s, .slice A k c]) W := by kernel_rfl
theorem eqg_seg (x y : Operand) (u v : Array Value) (w : World) : (eqGuard .eql 25 x y (.agg u) (.agg v)).run Tryz.prog w = .ok () w := by
 have h : Tryz.prog.eqGuardType Tryz.prog.depth 25 = false := by kernel_rfl
 simp [eqGuard, go_sem, h]
theorem eql_seg (W : World) : (binOp .eql 25 (.agg #[.int .i64 1, .int .i64 5, .int .i64 2, .int .i64 0]) (.agg #[.int .i64 1, .int .i64 5, .int .i64 2, .int .i64 0])).run Tryz.prog W = .ok (.bool true) W := by kernel_rfl
theorem Row.mid {w : World} {b o : Nat} {xs ys zs : List Value} (h : Row w b (xs ++ ys)) (ho : o = xs.length) (hl : zs.length = ys.length) : Row (w.setCells b o zs) b (xs ++ zs) := by
 subst ho
 have ht := h.there xs.length zs.length (by simp [hl])
 refine ⟨by rw [(On.setCells w b zs xs.length w (On.refl w b)).size]; exact h.lt, fun i v hv => ⟨?_, ?_⟩⟩
 ·rcases Nat.lt_or_ge i xs.length with hi | hi
  ·rw [World.cell?_setCells_out b zs xs.length w _ (fun _ _ => Or.inl hi)]
   rw [List.getElem?_append_left hi] at hv
   exact h.c i (by rw [List.getElem?_append_left hi]; exact hv)
  ·rw [List.getElem?_append_right hi] at hv
   have hj := (List.getElem?_eq_some_iff.1 hv).1
   have := World.cell?_setCells_in b zs xs.length w (fun j hj => (ht j hj).1) (i - xs.length) hj
   rw [show xs.length + (i - xs.length) = i by omega] at this
   rw [this, ← hv, List.getElem?_eq_getElem hj]
 ·rw [World.frozen?_setCells]
  have hi : i < (xs ++ ys).length := by have := (List.getElem?_eq_some_iff.1 hv).1; simp at this ⊢; omega
  exact h.f i (List.getElem?_eq_getElem hi)
set_option maxRecDepth 100000 in
set_option maxHeartbeats 12800000 in
theorem works4_core (D0 D1 D2 D3 PZ : Array Value) (PX PY : List Value) (h0 : D0.toList = PX ++ PY) (h2 : D2.toList = PX ++ PZ.toList) (hx : PX.length = 10) (hy : PY.length = 10) (hz : PZ.size = 10) (o0 : OneC D0) (oZ : OneC PZ) (s1 s2 s3 : Bool) (k1 k2 k3 j1 j3 : Nat) (E1 E2 : Option Addr → Nat → World → Prop) (E3 : Option Addr → Nat → Option Addr → Nat → World → Prop) (w : World)
 (HTu : Hid (∀ W, Calls Tryz.prog 10 #[.agg #[.int .i64 0, .int .i64 0], .agg #[.int .i64 2, .int .i64 0], .agg #[.int .i64 1, .int .i64 1]] W fun e w' => e = .returned (.tuple #[.int .i64 1, .int .i64 0]) ∧ Below W.heap.size W w'))
 (HA1 : Hid (∀ W, Calls Tryz.prog 31 #[.int .i64 1, .int .i64 0] W fun e w' => e = .returned (.agg D0) ∧ Below W.heap.size W w'))
 (HA2 : Hid (∀ W, Calls Tryz.prog 31 #[.int .i64 1, .int .i64 1] W fun e w' => e = .returned (.agg D1) ∧ Below W.heap.size W w'))
 (HA3 : Hid (∀ W, Calls Tryz.prog 31 #[.int .i64 3, .int .i64 3] W fun e w' => e = .returned (.agg D3) ∧ Below W.heap.size W w'))
 (HN1 : Hid (∀ W, Calls Tryz.prog 45 #[.int .i64 (-1)] W fun e w' => ∃ A c B d, e = .returned (.agg #[.bool s1, .slice A k1 c, .bool false, .slice B j1 d]) ∧ E1 A c w' ∧ Below W.heap.size W w'))
 (HN2 : Hid (∀ W, Calls Tryz.prog 45 #[.int .i64 2] W fun e w' => ∃ A c B d, e = .returned (.agg #[.bool s2, .slice A k2 c, .bool false, .slice B j1 d]) ∧ E2 A c w' ∧ Below W.heap.size W w'))
 (HK1 : Hid (∀ A c W W', E1 A c W → Below W.heap.size W W' → E1 A c W'))
 (HMk : Hid (∀ A c B d W, E1 A c W → E2 B d W → Calls Tryz.prog 44 #[.agg #[.bool s1, .slice A k1 c], .agg #[.bool s2, .slice B k2 d]] W fun e w' => ∃ A c B d, e = .returned (.agg #[.bool s3, .slice A k3 c, .bool false, .slice B j3 d]) ∧ E3 A c B d w' ∧ Below W.heap.size W w'))
 (HOu : Hid (∀ A c B d W, E3 A c B d W → Calls Tryz.prog 43 #[.agg #[.bool s3, .slice A k3 c, .bool false, .slice B j3 d]] W fun e w' => e = .returned (.tuple #[.agg PZ, .int .i64 0]) ∧ Below W.heap.size W w'))
 (HSi : Hid (∀ W, Below w.heap.size w W → Calls Tryz.prog 19 #[.agg #[.int .i64 0, .int .i64 0, .int .i64 2, .int .i64 0], .agg D2] W fun e w' => e = .returned (.tuple #[.int .i64 (-1), .int .i64 0]) ∧ Below W.heap.size W w'))
 (HO1 : Hid (∀ W, Below w.heap.size w W → Calls Tryz.prog 20 #[.agg #[.int .i64 0, .int .i64 0, .int .i64 2, .int .i64 2], .agg D1] W fun e w' => e = .returned (.tuple #[.bool true, .int .i64 0]) ∧ Below W.heap.size W w'))
 (HO3 : Hid (∀ W, Below w.heap.size w W → Calls Tryz.prog 20 #[.agg #[.int .i64 0, .int .i64 0, .int .i64 2, .int .i64 2], .agg D3] W fun e w' => e = .returned (.tuple #[.bool false, .int .i64 0]) ∧ Below W.heap.size W w'))
 (HTx : Hid (∀ W, Below w.heap.size w W → Calls Tryz.prog 25 #[.agg #[.int .i64 0, .int .i64 0, .int .i64 1, .int .i64 (-2)]] W fun e w' => e = .returned (.tuple #[.string ⟨#[48, 32, 48, 44, 49, 32, 45, 50]⟩, .int .i64 0]) ∧ Below W.heap.size W w'))
 (HPa : Hid (∀ W, Below w.heap.size w W → Calls Tryz.prog 26 #[.string ⟨#[48, 32, 48, 44, 48, 32, 48]⟩] W fun e w' => e = .returned (.tuple #[.agg #[.int .i64 0, .int .i64 0, .int .i64 0, .int .i64 0], .int .i64 140]) ∧ Below W.heap.size W w'))
 (HLa : Hid (∀ W, Calls Tryz.prog 11 #[.agg #[.int .i64 2, .int .i64 0, .int .i64 1, .int .i64 5]] W fun e w' => e = .returned (.tuple #[.agg #[.int .i64 1, .int .i64 5, .int .i64 2, .int .i64 0], .int .i64 0]) ∧ Below W.heap.size W w')) :
 Calls Tryz.prog 17 #[] w fun e w' => e = .returned (.bool true) ∧ Below w.heap.size w w' := by
 have O0 := Lib.hid (fun W => of4_any 0 0 2 0 W)
 have O1 := Lib.hid (fun W => of4_any 0 0 2 2 W)
 have O2 := Lib.hid (fun W => of4_any 0 0 1 (-2) W)
 have O3 := Lib.hid (fun W => of4_any 2 0 1 5 W)
 have O4 := Lib.hid (fun W => of4_any 1 5 2 0 W)
 have hB : Below w.heap.size w w := Below.refl _ _
 have fd := field_rn
 have s0 : D0.size = 20 := by rw [← Array.length_toList, h0]; simp [hx, hy]
 have s2' : D2.size = 20 := by rw [← Array.length_toList, h2]; simp [hx, hz]
 have l0 : zero_point.toList.length = D0.size := by rw [s0]; rfl
 have g0 : AggTy Tryz.prog 46 D0.size := by rw [s0]; exact agg_point
 have g2 : AggTy Tryz.prog 46 D2.size := by rw [s2']; exact agg_point
 have gz : (Tryz.prog.info? 44).map (·.size) = some PZ.size := by rw [hz]; exact agg_rat.2
 go_enter Tryz.func17, Tryz.ntmps17
 go_wp2_with fail
 refine (HTu.out _).mono ?_
 rintro e w1 ⟨rfl, hb⟩
 replace hB := hB.trans (hb.mono hB.size)
 clear hb
 go_wp2_with fail
 refine (HA1.out _).mono ?_
 rintro e w1 ⟨rfl, hb⟩
 replace hB := hB.trans (hb.mono hB.size)
 clear hb
 have lw := hB.size
 go_upto_region 3 with (first | (refine wpList_store_R rfl _ _ _ rfl _ D0 rfl rfl _ (Row.at rfl zero_point.toList _) l0 g0 o0 ?_; intro W2 rL oL))
 replace hB : Below w.heap.size w W2 := below_on (hB.alloc hB.size _) oL lw
 clear oL
 generalize w1.heap.size = bL at *
 go_wp2_with fail
 refine (HN1.out _).mono ?_
 rintro e w2 ⟨A1, c1, B1, d1, rfl, hE1, hb⟩
 replace rL := rL.after hb
 replace hB := hB.trans (hb.mono hB.size)
 clear hb
 go_wp2_with fail
 refine (HN2.out _).mono ?_
 rintro e w3 ⟨A2, c2, B2, d2, rfl, hE2, hb⟩
 replace rL := rL.after hb
 replace hB := hB.trans (hb.mono hB.size)
 replace hE1 := HK1.out _ _ _ _ hE1 hb
 clear hb
 go_wp2_with fail
 refine (HMk.out _ _ _ _ _ hE1 hE2).mono ?_
 rintro e w4 ⟨A3, c3, B3, d3, rfl, hE3, hb⟩
 replace rL := rL.after hb
 replace hB := hB.trans (hb.mono hB.size)
 clear hb hE1 hE2
 go_wp2_with fail
 refine (HOu.out _ _ _ _ _ hE3).mono ?_
 rintro e w5 ⟨rfl, hb⟩
 replace rL := rL.after hb
 replace hB := hB.trans (hb.mono hB.size)
 clear hb hE3
 go_upto_region 4 with (first | (refine wpList_store_mid rfl _ _ _ rfl bL 10 PZ rfl rfl (rL.there 10 PZ.size (by rw [h0, List.length_append]; omega)) gz oZ ?_))
 generalize hW : World.setCells _ _ _ _ = W6
 have rM : Row W6 bL D2.toList := by rw [← hW, h2]; exact Row.mid (h0 ▸ rL) (by omega) (by rw [Array.length_toList]; omega)
 have hBM : Below w.heap.size w W6 := by rw [← hW]; exact below_on hB (On.setCells w5 bL _ 10 w5 (On.refl w5 bL)) lw
 clear hW rL hB HTu HA1 HN1 HN2 HK1 HMk HOu
 have RA : Hid (∀ W, (∃ p : Regrown, W = grow (redrawn W6 p.d) p.os) → W.rangeAt bL 0 D2.toList) := Lib.hid (fun W ⟨p, hp⟩ => by rw [hp]; exact (rM.after (below_regrown W6 p.d p.os)).whole)
 have hg : ∀ d os, Below w.heap.size w (grow (redrawn W6 d) os) := fun d os => hBM.trans ((below_regrown W6 d os).mono hBM.size)
 have C1 := Lib.hid (fun d os => Calls.regrown_of (O0.out (grow (redrawn W6 d) os)))
 have C2 := Lib.hid (fun d os => Calls.regrown_of (HSi.out (grow (redrawn W6 d) os) (hg d os)))
 clear rM hg
 refine wp_region_quiet_below (by kernel_rfl) (by kernel_rfl) ?_
 quiet_step ((first | with_reducible exact C1.out _ _ | with_reducible exact C2.out _ _))
 refine wpQuiet_load_R rfl _ _ rfl bL rfl D2 RA.out g2 ?_
 repeat (quiet_step ((first | with_reducible exact C1.out _ _ | with_reducible exact C2.out _ _)))
 refine wpQuiet_nil ?_
 intro _ hw'
 obtain ⟨⟨dq, osq⟩, hw''⟩ := hw'
 subst hw''
 replace hBM := hBM.trans ((below_regrown W6 dq osq).mono hBM.size)
 generalize grow (redrawn W6 dq) osq = W7 at *
 clear RA C1 C2 O0 HSi
 go_wp2_with fail
 refine (O1.out _ ).mono ?_
 rintro e w8 ⟨rfl, hb⟩
 replace hBM := hBM.trans (hb.mono hBM.size)
 clear hb
 go_wp2_with fail
 refine (HA2.out _ ).mono ?_
 rintro e w8 ⟨rfl, hb⟩
 replace hBM := hBM.trans (hb.mono hBM.size)
 clear hb
 go_wp2_with fail
 refine (HO1.out _ hBM).mono ?_
 rintro e w8 ⟨rfl, hb⟩
 replace hBM := hBM.trans (hb.mono hBM.size)
 clear hb
 go_wp2_with fail
 refine (O1.out _ ).mono ?_
 rintro e w8 ⟨rfl, hb⟩
 replace hBM := hBM.trans (hb.mono hBM.size)
 clear hb
 go_wp2_with fail
 refine (HA3.out _ ).mono ?_
 rintro e w8 ⟨rfl, hb⟩
 replace hBM := hBM.trans (hb.mono hBM.size)
 clear hb
 go_wp2_with fail
 refine (HO3.out _ hBM).mono ?_
 rintro e w8 ⟨rfl, hb⟩
 replace hBM := hBM.trans (hb.mono hBM.size)
 clear hb
 go_wp2_with fail
 refine (O2.out _ ).mono ?_
 rintro e w8 ⟨rfl, hb⟩
 replace hBM := hBM.trans (hb.mono hBM.size)
 clear hb
 go_wp2_with fail
 refine (HTx.out _ hBM).mono ?_
 rintro e w8 ⟨rfl, hb⟩
 replace hBM := hBM.trans (hb.mono hBM.size)
 clear hb
 go_wp2_with fail
 refine (HPa.out _ hBM).mono ?_
 rintro e w8 ⟨rfl, hb⟩
 replace hBM := hBM.trans (hb.mono hBM.size)
 clear hb
 go_wp2_with fail
 refine (O3.out _).mono ?_
 rintro e w9 ⟨rfl, hb⟩
 replace hBM := (hBM.alloc hBM.size _).trans (hb.mono (by have := hBM.size; simp; omega))
 clear hb
 go_wp2_with fail
 refine (HLa.out _).mono ?_
 rintro e w10 ⟨rfl, hb⟩
 replace hBM := hBM.trans (hb.mono hBM.size)
 clear hb O1 HA2 HO1 HA3 HO3 O2 HTx HPa O3 HLa
 go_upto_region 10 with fail
 generalize hW : World.alloc _ _ = w11
 have HRl : Hid (Row w11 w10.heap.size (segA 1 5 2 0).toList) := Lib.hid (by rw [← hW]; exact Row.at rfl _ _)
 have HB : Hid (Below w.heap.size w w11) := Lib.hid (by rw [← hW]; exact hBM.alloc hBM.size _)
 clear hW
 generalize w10.heap.size = bl at *
 clear hBM O4
 refine wp_region_fct (by kernel_rfl) [2, 6, 9, 13, 33, 37, 42] (fun ix => match ix with
  | 0 => some (Value.int .i64 1)
  | 1 => some (Value.bool true)
  | 2 => some (Value.bool true)
  | 3 => some (Value.int .i64 (-1))
  | 4 => some (Value.bool true)
  | 5 => some (Value.bool true)
  | 6 => some (Value.bool true)
  | 7 => some (Value.bool true)
  | 8 => some (Value.bool true)
  | 9 => some (Value.bool true)
  | 10 => some (Value.bool false)
  | 11 => some (Value.bool true)
  | 12 => some (Value.bool true)
  | 13 => some (Value.bool true)
  | 14 => some (Value.int .i64 0)
  | 15 => some (Value.int .i64 0)
  | 16 => some (Value.int .i64 0)
  | 17 => some (Value.int .i64 0)
  | 18 => some (Value.int .i64 0)
  | 19 => some (Value.int .i64 0)
  | 20 => some (Value.int .i64 0)
  | 21 => some (Value.int .i64 0)
  | 22 => some (Value.int .i64 0)
  | 23 => some (Value.int .i64 0)
  | 24 => some (Value.int .i64 0)
  | 25 => some (Value.int .i64 0)
  | 26 => some (Value.int .i64 0)
  | 27 => some (Value.int .i64 0)
  | 28 => some (Value.int .i64 0)
  | 29 => some (Value.int .i64 0)
  | 30 => some (Value.int .i64 0)
  | 31 => some (Value.bool true)
  | 32 => some (Value.bool true)
  | 33 => some (Value.bool true)
  | 34 => some (Value.string ⟨#[48, 32, 48, 44, 49, 32, 45, 50]⟩)
  | 35 => some (Value.bool true)
  | 36 => some (Value.bool true)
  | 37 => some (Value.bool true)
  | 38 => some (Value.int .i64 140)
  | 39 => some (Value.int .i64 140)
  | 40 => some (Value.bool true)
  | 41 => some (Value.bool true)
  | 42 => some (Value.bool true)
  | 43 => some (Value.agg #[.int .i64 1, .int .i64 5, .int .i64 2, .int .i64 0])
  | 44 => some (Value.agg #[.int .i64 1, .int .i64 5, .int .i64 2, .int .i64 0])
  | 45 => some (Value.bool true)
  | 46 => some (Value.bool true)
  | 47 => some (Value.bool true)
  | _ => none) (by intro j hj; simp only [List.mem_cons, List.not_mem_nil, or_false] at hj; rcases hj with rfl | rfl | rfl | rfl | rfl | rfl | rfl <;> rfl) 48 [] (fun _ _ => False) (by kernel_rfl) (by kernel_rfl) (by rfl) ?_ ?_
 ·intro listed a W ix o hI ho hdep hB hF K hK hKf
  have hi : ix < 48 := (Array.getElem?_eq_some_iff.1 ho).1
  have hcase : ix = 0 ∨ ix = 1 ∨ ix = 2 ∨ ix = 3 ∨ ix = 4 ∨ ix = 5 ∨ ix = 6 ∨ ix = 7 ∨ ix = 8 ∨ ix = 9 ∨ ix = 10 ∨ ix = 11 ∨ ix = 12 ∨ ix = 13 ∨ ix = 14 ∨ ix = 15 ∨ ix = 16 ∨ ix = 17 ∨ ix = 18 ∨ ix = 19 ∨ ix = 20 ∨ ix = 21 ∨ ix = 22 ∨ ix = 23 ∨ ix = 24 ∨ ix = 25 ∨ ix = 26 ∨ ix = 27 ∨ ix = 28 ∨ ix = 29 ∨ ix = 30 ∨ ix = 31 ∨ ix = 32 ∨ ix = 33 ∨ ix = 34 ∨ ix = 35 ∨ ix = 36 ∨ ix = 37 ∨ ix = 38 ∨ ix = 39 ∨ ix = 40 ∨ ix = 41 ∨ ix = 42 ∨ ix = 43 ∨ ix = 44 ∨ ix = 45 ∨ ix = 46 ∨ ix = 47 := by omega
  clear hi
  rcases hcase with rfl | rfl | rfl | rfl | rfl | rfl | rfl | rfl | rfl | rfl | rfl | rfl | rfl | rfl | rfl | rfl | rfl | rfl | rfl | rfl | rfl | rfl | rfl | rfl | rfl | rfl | rfl | rfl | rfl | rfl | rfl | rfl | rfl | rfl | rfl | rfl | rfl | rfl | rfl | rfl | rfl | rfl | rfl | rfl | rfl | rfl | rfl | rfl
  ·obtain rfl := oI ho
   have q1 : a.tmps[1]?.getD undef = Value.int .i64 1 := hI.old 1 (noDst_spec (by kernel_rfl))
   clear hdep hI ho hF
   go_simp
   exact hK (by decide) (Value.int .i64 1) _ (fun u hu => oV hu) (Below.refl _ _) (fct_none rfl)
  ·obtain rfl := oI ho
   have d0 : listed.getD 0 false = true := hdep ⟨0, .data⟩ (by simp) rfl
   have q66 : a.tmps[66]?.getD undef = Value.int .i64 1 := hI.val 0 _ 66 _ rfl rfl rfl d0
   clear hdep hI ho hF
   go_simp
   exact hK (by decide) (Value.bool true) _ (fun u hu => oV hu) (Below.refl _ _) (fct_none rfl)
  ·obtain rfl := oI ho
   have d1 : listed.getD 1 false = true := hdep ⟨1, .data⟩ (by simp) rfl
   have q67 : a.tmps[67]?.getD undef = Value.bool true := hI.val 1 _ 67 _ rfl rfl rfl d1
   clear hdep hI ho hF
   go_simp
   exact hK (by decide) (Value.bool true) _ (fun u hu => oV hu) (Below.refl _ _) (fct_none rfl)
  ·obtain rfl := oI ho
   have q4 : a.tmps[4]?.getD undef = Value.int .i64 (-1) := hI.old 4 (noDst_spec (by kernel_rfl))
   clear hdep hI ho hF
   go_simp
   exact hK (by decide) (Value.int .i64 (-1)) _ (fun u hu => oV hu) (Below.refl _ _) (fct_none rfl)
  ·obtain rfl := oI ho
   have d3 : listed.getD 3 false = true := hdep ⟨3, .data⟩ (by simp) rfl
   have q69 : a.tmps[69]?.getD undef = Value.int .i64 (-1) := hI.val 3 _ 69 _ rfl rfl rfl d3
   clear hdep hI ho hF
   go_simp
   exact hK (by decide) (Value.bool true) _ (fun u hu => oV hu) (Below.refl _ _) (fct_none rfl)
  ·obtain rfl := oI ho
   have d2 : listed.getD 2 false = true := hdep ⟨2, .data⟩ (by simp) rfl
   have q68 : a.tmps[68]?.getD undef = Value.bool true := hI.val 2 _ 68 _ rfl rfl rfl d2
   have d4 : listed.getD 4 false = true := hdep ⟨4, .data⟩ (by simp) rfl
   have q70 : a.tmps[70]?.getD undef = Value.bool true := hI.val 4 _ 70 _ rfl rfl rfl d4
   clear hdep hI ho hF
   go_simp
   exact hK (by decide) (Value.bool true) _ (fun u hu => oV hu) (Below.refl _ _) (fct_none rfl)
  ·obtain rfl := oI ho
   have d5 : listed.getD 5 false = true := hdep ⟨5, .data⟩ (by simp) rfl
   have q71 : a.tmps[71]?.getD undef = Value.bool true := hI.val 5 _ 71 _ rfl rfl rfl d5
   clear hdep hI ho hF
   go_simp
   exact hK (by decide) (Value.bool true) _ (fun u hu => oV hu) (Below.refl _ _) (fct_none rfl)
  ·obtain rfl := oI ho
   have q6 : a.tmps[6]?.getD undef = Value.bool true := hI.old 6 (noDst_spec (by kernel_rfl))
   clear hdep hI ho hF
   go_simp
   exact hK (by decide) (Value.bool true) _ (fun u hu => oV hu) (Below.refl _ _) (fct_none rfl)
  ·obtain rfl := oI ho
   have d6 : listed.getD 6 false = true := hdep ⟨6, .data⟩ (by simp) rfl
   have q72 : a.tmps[72]?.getD undef = Value.bool true := hI.val 6 _ 72 _ rfl rfl rfl d6
   have d7 : listed.getD 7 false = true := hdep ⟨7, .data⟩ (by simp) rfl
   have q73 : a.tmps[73]?.getD undef = Value.bool true := hI.val 7 _ 73 _ rfl rfl rfl d7
   clear hdep hI ho hF
   go_simp
   exact hK (by decide) (Value.bool true) _ (fun u hu => oV hu) (Below.refl _ _) (fct_none rfl)
  ·obtain rfl := oI ho
   have d8 : listed.getD 8 false = true := hdep ⟨8, .data⟩ (by simp) rfl
   have q74 : a.tmps[74]?.getD undef = Value.bool true := hI.val 8 _ 74 _ rfl rfl rfl d8
   clear hdep hI ho hF
   go_simp
   exact hK (by decide) (Value.bool true) _ (fun u hu => oV hu) (Below.refl _ _) (fct_none rfl)
  ·obtain rfl := oI ho
   have q8 : a.tmps[8]?.getD undef = Value.bool false := hI.old 8 (noDst_spec (by kernel_rfl))
   clear hdep hI ho hF
   go_simp
   exact hK (by decide) (Value.bool false) _ (fun u hu => oV hu) (Below.refl _ _) (fct_none rfl)
  ·obtain rfl := oI ho
   have d10 : listed.getD 10 false = true := hdep ⟨10, .data⟩ (by simp) rfl
   have q76 : a.tmps[76]?.getD undef = Value.bool false := hI.val 10 _ 76 _ rfl rfl rfl d10
   clear hdep hI ho hF
   go_simp
   exact hK (by decide) (Value.bool true) _ (fun u hu => oV hu) (Below.refl _ _) (fct_none rfl)
  ·obtain rfl := oI ho
   have d9 : listed.getD 9 false = true := hdep ⟨9, .data⟩ (by simp) rfl
   have q75 : a.tmps[75]?.getD undef = Value.bool true := hI.val 9 _ 75 _ rfl rfl rfl d9
   have d11 : listed.getD 11 false = true := hdep ⟨11, .data⟩ (by simp) rfl
   have q77 : a.tmps[77]?.getD undef = Value.bool true := hI.val 11 _ 77 _ rfl rfl rfl d11
   clear hdep hI ho hF
   go_simp
   exact hK (by decide) (Value.bool true) _ (fun u hu => oV hu) (Below.refl _ _) (fct_none rfl)
  ·obtain rfl := oI ho
   have d12 : listed.getD 12 false = true := hdep ⟨12, .data⟩ (by simp) rfl
   have q78 : a.tmps[78]?.getD undef = Value.bool true := hI.val 12 _ 78 _ rfl rfl rfl d12
   clear hdep hI ho hF
   go_simp
   exact hK (by decide) (Value.bool true) _ (fun u hu => oV hu) (Below.refl _ _) (fct_none rfl)
  ·obtain rfl := oI ho
   have q2 : a.tmps[2]?.getD undef = Value.int .i64 0 := hI.old 2 (noDst_spec (by kernel_rfl))
   clear hdep hI ho hF
   go_simp
   exact hK (by decide) (Value.int .i64 0) _ (fun u hu => oV hu) (Below.refl _ _) (fct_none rfl)
  ·obtain rfl := oI ho
   have d14 : listed.getD 14 false = true := hdep ⟨14, .data⟩ (by simp) rfl
   have q80 : a.tmps[80]?.getD undef = Value.int .i64 0 := hI.val 14 _ 80 _ rfl rfl rfl d14
   clear hdep hI ho hF
   go_simp
   refine (num4_any _ _).mono ?_
   rintro e W2 ⟨rfl, hb⟩
   exact hK (by decide) (Value.int .i64 0) _ (fun u hu => oV hu) hb (fct_none rfl)
  ·obtain rfl := oI ho
   have q5 : a.tmps[5]?.getD undef = Value.int .i64 0 := hI.old 5 (noDst_spec (by kernel_rfl))
   clear hdep hI ho hF
   go_simp
   exact hK (by decide) (Value.int .i64 0) _ (fun u hu => oV hu) (Below.refl _ _) (fct_none rfl)
  ·obtain rfl := oI ho
   have d16 : listed.getD 16 false = true := hdep ⟨16, .data⟩ (by simp) rfl
   have q82 : a.tmps[82]?.getD undef = Value.int .i64 0 := hI.val 16 _ 82 _ rfl rfl rfl d16
   clear hdep hI ho hF
   go_simp
   refine (num4_any _ _).mono ?_
   rintro e W2 ⟨rfl, hb⟩
   exact hK (by decide) (Value.int .i64 0) _ (fun u hu => oV hu) hb (fct_none rfl)
  ·obtain rfl := oI ho
   have d15 : listed.getD 15 false = true := hdep ⟨15, .data⟩ (by simp) rfl
   have q81 : a.tmps[81]?.getD undef = Value.int .i64 0 := hI.val 15 _ 81 _ rfl rfl rfl d15
   have d17 : listed.getD 17 false = true := hdep ⟨17, .data⟩ (by simp) rfl
   have q83 : a.tmps[83]?.getD undef = Value.int .i64 0 := hI.val 17 _ 83 _ rfl rfl rfl d17
   clear hdep hI ho hF
   go_simp
   exact hK (by decide) (Value.int .i64 0) _ (fun u hu => oV hu) (Below.refl _ _) (fct_none rfl)
  ·obtain rfl := oI ho
   have q7 : a.tmps[7]?.getD undef = Value.int .i64 0 := hI.old 7 (noDst_spec (by kernel_rfl))
   clear hdep hI ho hF
   go_simp
   exact hK (by decide) (Value.int .i64 0) _ (fun u hu => oV hu) (Below.refl _ _) (fct_none rfl)
  ·obtain rfl := oI ho
   have d19 : listed.getD 19 false = true := hdep ⟨19, .data⟩ (by simp) rfl
   have q85 : a.tmps[85]?.getD undef = Value.int .i64 0 := hI.val 19 _ 85 _ rfl rfl rfl d19
   clear hdep hI ho hF
   go_simp
   refine (num4_any _ _).mono ?_
   rintro e W2 ⟨rfl, hb⟩
   exact hK (by decide) (Value.int .i64 0) _ (fun u hu => oV hu) hb (fct_none rfl)
  ·obtain rfl := oI ho
   have d18 : listed.getD 18 false = true := hdep ⟨18, .data⟩ (by simp) rfl
   have q84 : a.tmps[84]?.getD undef = Value.int .i64 0 := hI.val 18 _ 84 _ rfl rfl rfl d18
   have d20 : listed.getD 20 false = true := hdep ⟨20, .data⟩ (by simp) rfl
   have q86 : a.tmps[86]?.getD undef = Value.int .i64 0 := hI.val 20 _ 86 _ rfl rfl rfl d20
   clear hdep hI ho hF
   go_simp
   exact hK (by decide) (Value.int .i64 0) _ (fun u hu => oV hu) (Below.refl _ _) (fct_none rfl)
  ·obtain rfl := oI ho
   have q9 : a.tmps[9]?.getD undef = Value.int .i64 0 := hI.old 9 (noDst_spec (by kernel_rfl))
   clear hdep hI ho hF
   go_simp
   exact hK (by decide) (Value.int .i64 0) _ (fun u hu => oV hu) (Below.refl _ _) (fct_none rfl)
  ·obtain rfl := oI ho
   have d22 : listed.getD 22 false = true := hdep ⟨22, .data⟩ (by simp) rfl
   have q88 : a.tmps[88]?.getD undef = Value.int .i64 0 := hI.val 22 _ 88 _ rfl rfl rfl d22
   clear hdep hI ho hF
   go_simp
   refine (num4_any _ _).mono ?_
   rintro e W2 ⟨rfl, hb⟩
   exact hK (by decide) (Value.int .i64 0) _ (fun u hu => oV hu) hb (fct_none rfl)
  ·obtain rfl := oI ho
   have d21 : listed.getD 21 false = true := hdep ⟨21, .data⟩ (by simp) rfl
   have q87 : a.tmps[87]?.getD undef = Value.int .i64 0 := hI.val 21 _ 87 _ rfl rfl rfl d21
   have d23 : listed.getD 23 false = true := hdep ⟨23, .data⟩ (by simp) rfl
   have q89 : a.tmps[89]?.getD undef = Value.int .i64 0 := hI.val 23 _ 89 _ rfl rfl rfl d23
   clear hdep hI ho hF
   go_simp
   exact hK (by decide) (Value.int .i64 0) _ (fun u hu => oV hu) (Below.refl _ _) (fct_none rfl)
  ·obtain rfl := oI ho
   have q11 : a.tmps[11]?.getD undef = Value.int .i64 0 := hI.old 11 (noDst_spec (by kernel_rfl))
   clear hdep hI ho hF
   go_simp
   exact hK (by decide) (Value.int .i64 0) _ (fun u hu => oV hu) (Below.refl _ _) (fct_none rfl)
  ·obtain rfl := oI ho
   have d25 : listed.getD 25 false = true := hdep ⟨25, .data⟩ (by simp) rfl
   have q91 : a.tmps[91]?.getD undef = Value.int .i64 0 := hI.val 25 _ 91 _ rfl rfl rfl d25
   clear hdep hI ho hF
   go_simp
   refine (num4_any _ _).mono ?_
   rintro e W2 ⟨rfl, hb⟩
   exact hK (by decide) (Value.int .i64 0) _ (fun u hu => oV hu) hb (fct_none rfl)
  ·obtain rfl := oI ho
   have d24 : listed.getD 24 false = true := hdep ⟨24, .data⟩ (by simp) rfl
   have q90 : a.tmps[90]?.getD undef = Value.int .i64 0 := hI.val 24 _ 90 _ rfl rfl rfl d24
   have d26 : listed.getD 26 false = true := hdep ⟨26, .data⟩ (by simp) rfl
   have q92 : a.tmps[92]?.getD undef = Value.int .i64 0 := hI.val 26 _ 92 _ rfl rfl rfl d26
   clear hdep hI ho hF
   go_simp
   exact hK (by decide) (Value.int .i64 0) _ (fun u hu => oV hu) (Below.refl _ _) (fct_none rfl)
  ·obtain rfl := oI ho
   have q15 : a.tmps[15]?.getD undef = Value.int .i64 0 := hI.old 15 (noDst_spec (by kernel_rfl))
   clear hdep hI ho hF
   go_simp
   exact hK (by decide) (Value.int .i64 0) _ (fun u hu => oV hu) (Below.refl _ _) (fct_none rfl)
  ·obtain rfl := oI ho
   have d28 : listed.getD 28 false = true := hdep ⟨28, .data⟩ (by simp) rfl
   have q94 : a.tmps[94]?.getD undef = Value.int .i64 0 := hI.val 28 _ 94 _ rfl rfl rfl d28
   clear hdep hI ho hF
   go_simp
   refine (num4_any _ _).mono ?_
   rintro e W2 ⟨rfl, hb⟩
   exact hK (by decide) (Value.int .i64 0) _ (fun u hu => oV hu) hb (fct_none rfl)
  ·obtain rfl := oI ho
   have d27 : listed.getD 27 false = true := hdep ⟨27, .data⟩ (by simp) rfl
   have q93 : a.tmps[93]?.getD undef = Value.int .i64 0 := hI.val 27 _ 93 _ rfl rfl rfl d27
   have d29 : listed.getD 29 false = true := hdep ⟨29, .data⟩ (by simp) rfl
   have q95 : a.tmps[95]?.getD undef = Value.int .i64 0 := hI.val 29 _ 95 _ rfl rfl rfl d29
   clear hdep hI ho hF
   go_simp
   exact hK (by decide) (Value.int .i64 0) _ (fun u hu => oV hu) (Below.refl _ _) (fct_none rfl)
  ·obtain rfl := oI ho
   have d30 : listed.getD 30 false = true := hdep ⟨30, .data⟩ (by simp) rfl
   have q96 : a.tmps[96]?.getD undef = Value.int .i64 0 := hI.val 30 _ 96 _ rfl rfl rfl d30
   clear hdep hI ho hF
   go_simp
   exact hK (by decide) (Value.bool true) _ (fun u hu => oV hu) (Below.refl _ _) (fct_none rfl)
  ·obtain rfl := oI ho
   have d13 : listed.getD 13 false = true := hdep ⟨13, .data⟩ (by simp) rfl
   have q79 : a.tmps[79]?.getD undef = Value.bool true := hI.val 13 _ 79 _ rfl rfl rfl d13
   have d31 : listed.getD 31 false = true := hdep ⟨31, .data⟩ (by simp) rfl
   have q97 : a.tmps[97]?.getD undef = Value.bool true := hI.val 31 _ 97 _ rfl rfl rfl d31
   clear hdep hI ho hF
   go_simp
   exact hK (by decide) (Value.bool true) _ (fun u hu => oV hu) (Below.refl _ _) (fct_none rfl)
  ·obtain rfl := oI ho
   have d32 : listed.getD 32 false = true := hdep ⟨32, .data⟩ (by simp) rfl
   have q98 : a.tmps[98]?.getD undef = Value.bool true := hI.val 32 _ 98 _ rfl rfl rfl d32
   clear hdep hI ho hF
   go_simp
   exact hK (by decide) (Value.bool true) _ (fun u hu => oV hu) (Below.refl _ _) (fct_none rfl)
  ·obtain rfl := oI ho
   have q10 : a.tmps[10]?.getD undef = Value.string ⟨#[48, 32, 48, 44, 49, 32, 45, 50]⟩ := hI.old 10 (noDst_spec (by kernel_rfl))
   clear hdep hI ho hF
   go_simp
   exact hK (by decide) (Value.string ⟨#[48, 32, 48, 44, 49, 32, 45, 50]⟩) _ (fun u hu => oV hu) (Below.refl _ _) (fct_none rfl)
  ·obtain rfl := oI ho
   have d34 : listed.getD 34 false = true := hdep ⟨34, .data⟩ (by simp) rfl
   have q100 : a.tmps[100]?.getD undef = Value.string ⟨#[48, 32, 48, 44, 49, 32, 45, 50]⟩ := hI.val 34 _ 100 _ rfl rfl rfl d34
   clear hdep hI ho hF
   go_simp
   exact hK (by decide) (Value.bool true) _ (fun u hu => oV hu) (Below.refl _ _) (fct_none rfl)
  ·obtain rfl := oI ho
   have d33 : listed.getD 33 false = true := hdep ⟨33, .data⟩ (by simp) rfl
   have q99 : a.tmps[99]?.getD undef = Value.bool true := hI.val 33 _ 99 _ rfl rfl rfl d33
   have d35 : listed.getD 35 false = true := hdep ⟨35, .data⟩ (by simp) rfl
   have q101 : a.tmps[101]?.getD undef = Value.bool true := hI.val 35 _ 101 _ rfl rfl rfl d35
   clear hdep hI ho hF
   go_simp
   exact hK (by decide) (Value.bool true) _ (fun u hu => oV hu) (Below.refl _ _) (fct_none rfl)
  ·obtain rfl := oI ho
   have d36 : listed.getD 36 false = true := hdep ⟨36, .data⟩ (by simp) rfl
   have q102 : a.tmps[102]?.getD undef = Value.bool true := hI.val 36 _ 102 _ rfl rfl rfl d36
   clear hdep hI ho hF
   go_simp
   exact hK (by decide) (Value.bool true) _ (fun u hu => oV hu) (Below.refl _ _) (fct_none rfl)
  ·obtain rfl := oI ho
   have q13 : a.tmps[13]?.getD undef = Value.int .i64 140 := hI.old 13 (noDst_spec (by kernel_rfl))
   clear hdep hI ho hF
   go_simp
   exact hK (by decide) (Value.int .i64 140) _ (fun u hu => oV hu) (Below.refl _ _) (fct_none rfl)
  ·obtain rfl := oI ho
   have d38 : listed.getD 38 false = true := hdep ⟨38, .data⟩ (by simp) rfl
   have q104 : a.tmps[104]?.getD undef = Value.int .i64 140 := hI.val 38 _ 104 _ rfl rfl rfl d38
   clear hdep hI ho hF
   go_simp
   refine (num4_any _ _).mono ?_
   rintro e W2 ⟨rfl, hb⟩
   exact hK (by decide) (Value.int .i64 140) _ (fun u hu => oV hu) hb (fct_none rfl)
  ·obtain rfl := oI ho
   have d39 : listed.getD 39 false = true := hdep ⟨39, .data⟩ (by simp) rfl
   have q105 : a.tmps[105]?.getD undef = Value.int .i64 140 := hI.val 39 _ 105 _ rfl rfl rfl d39
   clear hdep hI ho hF
   go_simp
   exact hK (by decide) (Value.bool true) _ (fun u hu => oV hu) (Below.refl _ _) (fct_none rfl)
  ·obtain rfl := oI ho
   have d37 : listed.getD 37 false = true := hdep ⟨37, .data⟩ (by simp) rfl
   have q103 : a.tmps[103]?.getD undef = Value.bool true := hI.val 37 _ 103 _ rfl rfl rfl d37
   have d40 : listed.getD 40 false = true := hdep ⟨40, .data⟩ (by simp) rfl
   have q106 : a.tmps[106]?.getD undef = Value.bool true := hI.val 40 _ 106 _ rfl rfl rfl d40
   clear hdep hI ho hF
   go_simp
   exact hK (by decide) (Value.bool true) _ (fun u hu => oV hu) (Below.refl _ _) (fct_none rfl)
  ·obtain rfl := oI ho
   have d41 : listed.getD 41 false = true := hdep ⟨41, .data⟩ (by simp) rfl
   have q107 : a.tmps[107]?.getD undef = Value.bool true := hI.val 41 _ 107 _ rfl rfl rfl d41
   clear hdep hI ho hF
   go_simp
   exact hK (by decide) (Value.bool true) _ (fun u hu => oV hu) (Below.refl _ _) (fct_none rfl)
  ·obtain rfl := oI ho
   have q14 : a.tmps[14]?.getD undef = Value.pointer (some ⟨bl, 0, none⟩) := hI.old 14 (noDst_spec (by kernel_rfl))
   clear hdep hI ho hF
   refine wp_loadM _ _ rfl bl ((act_tmpC a 14).trans q14) #[.int .i64 1, .int .i64 5, .int .i64 2, .int .i64 0] (HRl.out.after hB) agg_seg ?_
   exact hK (by decide) (Value.agg #[.int .i64 1, .int .i64 5, .int .i64 2, .int .i64 0]) _ (fun u hu => oV hu) (Below.refl _ _) (fct_none rfl)
  ·obtain rfl := oI ho
   clear hdep hI ho hF
   go_simp
   refine (of4_any 1 5 2 0 _).mono ?_
   rintro e W2 ⟨rfl, hb⟩
   exact hK (by decide) (Value.agg #[.int .i64 1, .int .i64 5, .int .i64 2, .int .i64 0]) _ (fun u hu => oV hu) hb (fct_none rfl)
  ·obtain rfl := oI ho
   have d43 : listed.getD 43 false = true := hdep ⟨43, .data⟩ (by simp) rfl
   have d44 : listed.getD 44 false = true := hdep ⟨44, .data⟩ (by simp) rfl
   have q109 : a.tmps[109]?.getD undef = Value.agg #[.int .i64 1, .int .i64 5, .int .i64 2, .int .i64 0] := hI.val 43 _ 109 _ rfl rfl rfl d43
   have q110 : a.tmps[110]?.getD undef = Value.agg #[.int .i64 1, .int .i64 5, .int .i64 2, .int .i64 0] := hI.val 44 _ 110 _ rfl rfl rfl d44
   clear hdep hI ho hF
   refine wp_eqlM _ _ _ _ rfl _ _ true ((act_tmpC a 109).trans q109) ((act_tmpC a 110).trans q110) (eqg_seg _ _ _ _ _) (eql_seg W) ?_
   exact hK (by decide) (Value.bool true) _ (fun u hu => oV hu) (Below.refl _ _) (fct_none rfl)
  ·obtain rfl := oI ho
   have d42 : listed.getD 42 false = true := hdep ⟨42, .data⟩ (by simp) rfl
   have q108 : a.tmps[108]?.getD undef = Value.bool true := hI.val 42 _ 108 _ rfl rfl rfl d42
   have d45 : listed.getD 45 false = true := hdep ⟨45, .data⟩ (by simp) rfl
   have q111 : a.tmps[111]?.getD undef = Value.bool true := hI.val 45 _ 111 _ rfl rfl rfl d45
   clear hdep hI ho hF
   go_simp
   exact hK (by decide) (Value.bool true) _ (fun u hu => oV hu) (Below.refl _ _) (fct_none rfl)
  ·obtain rfl := oI ho
   have d46 : listed.getD 46 false = true := hdep ⟨46, .data⟩ (by simp) rfl
   have q112 : a.tmps[112]?.getD undef = Value.bool true := hI.val 46 _ 112 _ rfl rfl rfl d46
   clear hdep hI ho hF
   go_simp
   exact hK (by decide) (Value.bool true) _ (fun u hu => oV hu) (Below.refl _ _) (fct_none rfl)
 ·intro listed a W hI hall hfin hend
  obtain ⟨hBW, _⟩ := hend rfl
  have q0 : a.tmps[0]?.getD undef = Value.bool true := hI.val 47 _ 0 _ rfl rfl rfl (hall 47 (by decide))
  have hdf : a.defers = [] := hI.defers
  have HE := Lib.hid (HB.out.trans (hBW.mono HB.out.size))
  clear hBW hall hfin hend hI
  obtain ⟨tm, df⟩ := a
  simp only at hdf q0
  subst hdf
  go_wp2_with fail
  exact bodyPost_ret (v := .bool true) (by simp [results, Tryz.results17, go_sem, q0]) rfl ⟨rfl, HE.out⟩


end Go.Proofs.YtongeeggaigepaaGreatDoor

namespace Go.Proofs.YtongeeggaigepaaGreatDoor
open Go.RowKit Go.Sort CrossMath

set_option maxRecDepth 100000 in
theorem works4_of (w : World) (htab : Tab10 w) (ht : TabTz w) (hw0 : 3 < w.heap.size)
 (HPz : ∀ W, Below w.heap.size w W → Calls Tryz.prog 26 #[.string ⟨#[48, 32, 48, 44, 48, 32, 48]⟩] W fun e w' => e = .returned (.tuple #[.agg zero_seg, .int .i64 140]) ∧ Below W.heap.size W w') :
 Calls Tryz.prog 17 #[] w fun e w' => e = .returned (.bool true) ∧ Below w.heap.size w w' := by
 have b : ∀ {x : Int}, -5 ≤ x → x ≤ 5 → Bd x := fun {x} h1 h2 => by unfold Bd; omega
 have pos : ∀ {V : World}, Below w.heap.size w V → 3 < V.heap.size := fun a => Nat.lt_of_lt_of_le hw0 a.size
 have q1 : RtP ⟨1, 1, -1, 2⟩ := ⟨⟨by decide, by decide, by decide, by decide⟩, ⟨by decide, by decide, by decide, by decide⟩⟩
 have n1 : (-1 : Int).natAbs = 1 := rfl
 have n2 : (2 : Int).natAbs = 2 := rfl
 refine works4_core (dotA 1 0) (dotA 1 1) (ptA ⟨1, 1, -1, 2⟩) (dotA 3 3) (ratA (-1) 2) (ratA 1 1).toList (ratA 0 1).toList ?_ ?_ rfl rfl rfl ?_ ?_ (decide ((-1 : Int) < 0)) (decide ((2 : Int) < 0)) (decide ((-1 : Int) < 0)) (L16 (-1 : Int).natAbs) (L16 (2 : Int).natAbs) (L16 (-1 : Int).natAbs) (L16 1) (L16 (2 : Int).natAbs)
  (fun A c W => L16 (-1 : Int).natAbs ≤ c ∧ DS W (-1 : Int).natAbs A) (fun A c W => L16 (2 : Int).natAbs ≤ c ∧ DS W (2 : Int).natAbs A) (fun A c B d W => DS W (-1 : Int).natAbs A ∧ DS W (2 : Int).natAbs B) w
  (Lib.hid (fun W => Turn_any 0 0 2 0 1 1 W))
  (Lib.hid (fun W => at4_any 1 0 W (b (by decide) (by decide)) (b (by decide) (by decide))))
  (Lib.hid (fun W => at4_any 1 1 W (b (by decide) (by decide)) (b (by decide) (by decide))))
  (Lib.hid (fun W => at4_any 3 3 W (b (by decide) (by decide)) (b (by decide) (by decide))))
  (Lib.hid (fun W => ?_)) (Lib.hid (fun W => ?_)) (Lib.hid (fun A c W W' h hb => ⟨h.1, h.2.below hb⟩)) (Lib.hid (fun A c B d W h1 h2 => ?_))
  (Lib.hid (fun A c B d W h => ?_)) (Lib.hid (fun W hW => ?_)) (Lib.hid (fun W hW => ?_)) (Lib.hid (fun W hW => ?_)) (Lib.hid (fun W hW => ?_)) (Lib.hid (fun W hW => ?_)) (Lib.hid (fun W => ?_))
 ·rw [← Array.toList_append]; rfl
 ·rw [← Array.toList_append]; rfl
 ·exact dotA_one 1 0
 ·exact ratA_one _ _
 ·refine (rnumC_any (-1) W (by decide) (by decide)).mono ?_
  rintro e w' ⟨A, c, B, d, rfl, hk, hA, hB, hb⟩
  exact ⟨A, c, B, d, rfl, ⟨hk, hA⟩, hb⟩
 ·refine (rnumC_any 2 W (by decide) (by decide)).mono ?_
  rintro e w' ⟨A, c, B, d, rfl, hk, hA, hB, hb⟩
  exact ⟨A, c, B, d, rfl, ⟨hk, hA⟩, hb⟩
 ·have f1 : frN (-1) 2 = -1 := by decide
  have f2 : frD (-1) 2 = 2 := by decide
  have h := rmake_z (-1) 2 A B c d W (by decide) (by decide) (by decide) h1.2 h2.2 h1.1 h2.1
  rw [f1, f2] at h
  refine h.mono ?_
  rintro e w' ⟨A, c, B, d, rfl, _, hD, hb⟩
  exact ⟨A, c, B, d, rfl, hD, hb⟩
 ·exact rout_good (-1) 2 A B c d W (by decide) (by decide) (by decide) h.1 h.2
 ·exact Side_num ⟨0, 0, 2, 0⟩ ⟨1, 1, -1, 2⟩ W ⟨b (by decide) (by decide), b (by decide) (by decide), b (by decide) (by decide), b (by decide) (by decide)⟩ (by unfold NeS; decide) q1 (ht.below hw0 hW) (pos hW)
 ·exact On_num ⟨0, 0, 2, 2⟩ (dotP 1 1) W ⟨b (by decide) (by decide), b (by decide) (by decide), b (by decide) (by decide), b (by decide) (by decide)⟩ (by unfold NeS; decide) (rtdot (b (by decide) (by decide)) (b (by decide) (by decide))) (ht.below hw0 hW) (pos hW)
 ·exact On_num ⟨0, 0, 2, 2⟩ (dotP 3 3) W ⟨b (by decide) (by decide), b (by decide) (by decide), b (by decide) (by decide), b (by decide) (by decide)⟩ (by unfold NeS; decide) (rtdot (b (by decide) (by decide)) (b (by decide) (by decide))) (ht.below hw0 hW) (pos hW)
 ·have h := Text_num ⟨0, 0, 1, -2⟩ W ⟨b (by decide) (by decide), b (by decide) (by decide), b (by decide) (by decide), b (by decide) (by decide)⟩ (by unfold NeS; decide) (htab.below hW) (ht.below hw0 hW) (pos hW)
  rw [show stx (0 : Int) 0 1 (-2) = ⟨#[48, 32, 48, 44, 49, 32, 45, 50]⟩ by kernel_rfl] at h
  exact h
 ·exact HPz W hW
 ·exact Laid_any 2 0 1 5 W (b (by decide) (by decide)) (b (by decide) (by decide)) (b (by decide) (by decide)) (b (by decide) (by decide)) (by decide)
end Go.Proofs.YtongeeggaigepaaGreatDoor

namespace Go.Proofs.YtongeeggaigepaaGreatDoor
open Go.RowKit Go.Sort CrossMath

theorem wpQuiet_skip {P : Program} {ops : Array Oper} {C : World → Prop} {Q : Act → Prop} {op : Oper} {rest : List Oper} {a : Act} (hw : Region.wanted op (yielded ops a.tmps) = false) (k : wpQuiet P ops C Q rest (a.put op.dst undef)) : wpQuiet P ops C Q (op :: rest) a := by
 show (if Region.wanted op (yielded ops a.tmps) then op.quiet P a C (wpQuiet P ops C Q rest) else wpQuiet P ops C Q rest (a.put op.dst undef))
 rw [if_neg (by rw [hw]; simp)]
 exact k
attribute [local irreducible] wpQuiet
end Go.Proofs.YtongeeggaigepaaGreatDoor

namespace Go.Proofs.YtongeeggaigepaaGreatDoor
open Go.RowKit Go.Sort CrossMath

theorem neqE (a b c d : Int) (W : World) : (binOp .neq 25 (.agg #[.int .i64 a, .int .i64 b, .int .i64 c, .int .i64 d]) (.agg #[.int .i64 a, .int .i64 b, .int .i64 c, .int .i64 d])).run Tryz.prog W = .ok (.bool false) W := by
 have u := Tryz.underlying25
 rw [run_neq_struct]
 go_simp
attribute [local irreducible] wpQuiet
end Go.Proofs.YtongeeggaigepaaGreatDoor

namespace Go.Proofs.YtongeeggaigepaaGreatDoor
open Go.RowKit Go.Sort CrossMath

theorem nd_node (x y : Int) : ndB (x, y) = nodeB x y := by
 rw [Bool.eq_iff_iff, nodeB_iff, ← inB_iff, ← inB_iff]
 unfold ndB
 simp
theorem laid_sg4 (s : Sg) : laidA s.ax s.ay s.bx s.bY = sgA (laidS s) := by
 unfold laidA laidS
 have e : turnB (s.bx - s.ax) (s.bY - s.ay) = turned s := rfl
 rw [e]
 split <;> rfl
theorem ck_right (s : Sg) : ckI s.ax s.ay s.bx s.bY = if rightS s = true then 0 else 2 := by
 unfold ckI rightS
 rw [nd_node, nd_node]
end Go.Proofs.YtongeeggaigepaaGreatDoor

namespace Go.Proofs.YtongeeggaigepaaGreatDoor
open Go.ChangeShapes Go.WideShapes Go.ChangeAt Go.RowKit

theorem cellsSeg : Tryz.prog.cellsOf 25 = 4 := by kernel_rfl
theorem cellsNode : Tryz.prog.cellsOf 23 = 2 := by kernel_rfl
theorem cellsI64 : Tryz.prog.cellsOf 2 = 1 := by kernel_rfl
def datN (H : Type) (x y : Int) : DataW H := .agg [.lit (.int .i64 x), .lit (.int .i64 y)]
def datS (H : Type) (ax ay bx bY : Int) : DataW H := .agg [datN H ax ay, datN H bx bY]
theorem open_node {H : Type} {enc : TypeId × Value → H} {w : World} {base : Nat} {spare : Nat → Bool} {held : Bool} {fuel : Nat} {x0 x1 : Value} {y : DataW H × List MemPlace}
 (h : DataW.trod enc Tryz.prog w base spare held fuel 23 [x0, x1] = some y) :
 ∃ a b : Int, x0 = .int .i64 a ∧ x1 = .int .i64 b ∧ y = (datN H a b, []) ∧ (Lit.int .i64 a).wf = true ∧ (Lit.int .i64 b).wf = true := by
 obtain ⟨xs, n, _, hx, _, hlen, hg⟩ := DataW.trod_struct Tryz.underlying23 h
 match xs, hlen with
 | [y0, y1], _ =>
   have g0 : DataW.trod enc Tryz.prog w base spare held n 2 (([x0, x1].drop 0).take (Tryz.prog.cellsOf 2)) = some y0 := hg 0 _ rfl
   have g1 : DataW.trod enc Tryz.prog w base spare held n 2 (([x0, x1].drop 1).take (Tryz.prog.cellsOf 2)) = some y1 := hg 1 _ rfl
   rw [cellsI64] at g0 g1
   obtain ⟨a, ea, rfl, wa⟩ := DataW.trod_int Tryz.underlying2 (x := y0) g0
   obtain ⟨b, eb, rfl, wb⟩ := DataW.trod_int Tryz.underlying2 (x := y1) g1
   simp at ea eb
   exact ⟨a, b, ea, eb, hx, wa, wb⟩
set_option maxRecDepth 100000 in
theorem open_seg {H : Type} {enc : TypeId × Value → H} {w : World} {base b0 : Nat} {spare : Nat → Bool} {held : Bool} {r : Reach} {v : Value} {d : DataW H} {p : List MemPlace}
 (hv : Value.okWide Tryz.prog w r b0 25 v) (h : DataW.Trod enc Tryz.prog w base spare held 25 v d p) :
 ∃ (ax ay bx bY : Int), v = .agg #[.int .i64 ax, .int .i64 ay, .int .i64 bx, .int .i64 bY] ∧ d = datS H ax ay bx bY ∧ p = [] ∧ ((Lit.int .i64 ax).wf = true ∧ (Lit.int .i64 ay).wf = true ∧ (Lit.int .i64 bx).wf = true ∧ (Lit.int .i64 bY).wf = true) := by
 obtain ⟨cs, rfl, hsz⟩ := okWide_struct Tryz.underlying25 hv
 obtain ⟨l⟩ := cs
 match l, hsz.trans cellsSeg with
 | [c0, c1, c2, c3], _ =>
   obtain ⟨fuel, hf⟩ := h
   obtain ⟨xs, n, _, hx, _, hlen, hg⟩ := DataW.trod_struct Tryz.underlying25 hf
   match xs, hlen with
   | [y0, y1], _ =>
     have g0 : DataW.trod enc Tryz.prog w base spare held n 23 (((Value.agg #[c0, c1, c2, c3]).cells.toList.drop 0).take (Tryz.prog.cellsOf 23)) = some y0 := hg 0 _ rfl
     have g1 : DataW.trod enc Tryz.prog w base spare held n 23 (((Value.agg #[c0, c1, c2, c3]).cells.toList.drop 2).take (Tryz.prog.cellsOf 23)) = some y1 := hg 1 _ rfl
     rw [cellsNode] at g0 g1
     obtain ⟨a, b, rfl, rfl, rfl, wa, wb⟩ := open_node (y := y0) g0
     obtain ⟨c, e, rfl, rfl, rfl, wc, we⟩ := open_node (y := y1) g1
     simp only [Prod.mk.injEq] at hx
     exact ⟨a, b, c, e, rfl, hx.1, hx.2, wa, wb, wc, we⟩
set_option maxRecDepth 100000 in
theorem shut_seg {H : Type} {enc : TypeId × Value → H} {w : World} {base : Nat} {spare : Nat → Bool} {held : Bool} {ax ay bx bY : Int}
 (h : (Lit.int .i64 ax).wf = true ∧ (Lit.int .i64 ay).wf = true ∧ (Lit.int .i64 bx).wf = true ∧ (Lit.int .i64 bY).wf = true) :
 DataW.Trod enc Tryz.prog w base spare held 25 (.agg #[.int .i64 ax, .int .i64 ay, .int .i64 bx, .int .i64 bY]) (datS H ax ay bx bY) [] := by
 obtain ⟨wa, wb, wc, we⟩ := h
 refine ⟨4, ?_⟩
 simp [DataW.trod, datS, datN, Value.cells, Tryz.underlying25, Tryz.underlying23, Tryz.underlying2, cellsSeg, cellsNode, cellsI64, wa, wb, wc, we]
theorem post_plain {H : Type} {enc : TypeId × Value → H} {P : Program} {f : Func} {s : ChangeSpec} {apart fresh handsOn again : Bool} {W W' : World} {args : Array Value} {v : Value} {ds gs : List (DataW H)}
 (hW : DataW.Whole enc P f.params.toList s.vars apart W args.toList ds gs [])
 (hres : ∀ (b : Nat) (sp : Nat → Bool) (hd : Bool), DataW.TrodAll enc P W' b sp hd f.resultTypes.toList (v.resultList f.resultTypes.size) (s.fn H (ds ++ gs)).results [])
 (hargs : ∀ sp : Nat → Bool, DataW.TrodAll enc P W' 0 sp true f.params.toList args.toList (s.fn H (ds ++ gs)).args [])
 (hvars : ∀ sp : Nat → Bool, DataW.TrodVars enc P W' sp s.vars (s.fn H (ds ++ gs)).vars [])
 (hb : Below W.heap.size W W')
 (hok : ∀ (j : Nat) (t : TypeId) (r : Value), f.resultTypes[j]? = some t → (v.resultList f.resultTypes.size)[j]? = some r → Value.okWide P W' .any 0 t r) :
 s.post enc P f apart fresh handsOn again W args v W' := by
 refine ⟨ds, gs, [], [], [], [], hW, hres _ _ _, hargs _, hvars _, hb.frame _, fun _ => ?_⟩
 exact ⟨hok, _, _, [], ⟨[], [], trodAll_append (hargs _) (hres _ _ _), hvars _, rfl, fun _ _ h => (List.not_mem_nil h).elim, fun _ => List.Pairwise.nil⟩, fun _ h => (List.not_mem_nil h).elim⟩
theorem tabIs_of_vars {P : Program} {W : World} {name : String} {k : IntKind} {zs : List Int} {rest : List (String × DataW Unit)} {ps : List MemPlace} {g : Nat} {t e : TypeId} {n : Nat}
 (hg : P.globalNamed name = some g) (hty : (P.globals[g]?).map (·.type) = some t) (ht : P.underlying t = some (.array n e)) (he : P.underlying e = some (.int k)) (hce : P.cellsOf e = 1) (hct : P.cellsOf t = n)
 (h : DataW.LaidVars P W ((name, Lib.tabData k zs) :: rest) ps) : Lib.TabIs P W name k zs := by
 obtain ⟨g', t', cs, fuel, p, q, hg', ht', hvar, hd, _, _⟩ := h
 obtain rfl := Option.some.inj (hg.symm.trans hg')
 obtain rfl := Option.some.inj (hty.symm.trans ht')
 unfold Lib.TabIs
 rw [hvar, ← Lib.cells_of_tab ht he hce hct hd]
theorem laidVars_tail {P : Program} {w : World} {x : String × DataW Unit} {r : List (String × DataW Unit)} {ps : List MemPlace} (h : DataW.LaidVars P w (x :: r) ps) : ∃ q, DataW.LaidVars P w r q := by
 obtain ⟨_, _, _, _, _, q, _, _, _, _, hr, _⟩ := h
 exact ⟨q, hr⟩
theorem g10 : Tryz.prog.globalNamed "internal/strconv.uint64pow10" = some 1 := by kernel_rfl
theorem g10t : (Tryz.prog.globals[1]?).map (·.type) = some 236 := by kernel_rfl
theorem c10 : Tryz.prog.cellsOf 236 = 20 := by kernel_rfl
theorem c10e : Tryz.prog.cellsOf 39 = 1 := by kernel_rfl
theorem g64 : Tryz.prog.globalNamed "math/bits.deBruijn64tab" = some 3 := by kernel_rfl
theorem g64t : (Tryz.prog.globals[3]?).map (·.type) = some 273 := by kernel_rfl
theorem c64 : Tryz.prog.cellsOf 273 = 64 := by kernel_rfl
theorem c8 : Tryz.prog.cellsOf 5 = 1 := by kernel_rfl
theorem tables {W : World} (h : laidMetH Tryz.prog [("math/bits.deBruijn32tab", Rows.laid_math_bits_deBruijn32tab), ("math/bits.deBruijn64tab", Rows.laid_math_bits_deBruijn64tab), ("internal/strconv.uint64pow10", Rows.laid_internal_strconv_uint64pow10)] W) (hsh : W.ShapedOpen Tryz.prog) : TabTz W ∧ Tab10 W ∧ CutOk W := by
 have hL : laidMet Tryz.prog [("math/bits.deBruijn32tab", Rows.laid_math_bits_deBruijn32tab), ("math/bits.deBruijn64tab", Rows.laid_math_bits_deBruijn64tab), ("internal/strconv.uint64pow10", Rows.laid_internal_strconv_uint64pow10)] W := h
 obtain ⟨ps, hv, _⟩ := hL
 obtain ⟨q1, h1⟩ := laidVars_tail hv
 obtain ⟨q2, h2⟩ := laidVars_tail h1
 have T : Lib.TabIs Tryz.prog W "math/bits.deBruijn64tab" .u8 (Lib.deBruijn64tab.map fun n : Nat => (n : Int)) := tabIs_of_vars g64 g64t Tryz.underlying273 Tryz.underlying5 c8 c64 h1
 refine ⟨fun j hj => ?_, tabIs_of_vars g10 g10t Tryz.underlying236 Tryz.underlying39 c10e c10 h2, ?_⟩
 ·have := T.cell g64 j (by simpa using hj)
  rw [this]
  simp [List.getD, hj]
 ·exact cell_of_shapedOpen_int (g := 0) (t := 3) (zero := #[.int .i64 0]) hsh (of_decide_eq_true (by kernel_rfl)) (by kernel_rfl) rfl (by kernel_rfl) (by kernel_rfl) Tryz.underlying3
theorem own : ownKnob Tryz.prog.godebug = none := by kernel_rfl

def flat0 : DataW Unit → List Value
 | .lit (.int k z) => [.int k z]
 | _ => []
def flat1 : DataW Unit → List Value
 | .agg l => l.flatMap flat0
 | d => flat0 d
def flat2 : DataW Unit → List Value
 | .agg l => l.flatMap flat1
 | d => flat0 d
def tabled (n : Nat) (d : DataW Unit) (h : Array Obj) : Array Obj := h.modify n fun
 | .cells _ t frozen => .cells (flat2 d).toArray t frozen
 | o => o
noncomputable def laidWorld (os : Os) : World :=
 let w0 := World.holding Tryz.prog os ⟨#[], #[], []⟩
 { w0 with heap := tabled 2 Rows.laid_math_bits_deBruijn32tab (tabled 3 Rows.laid_math_bits_deBruijn64tab (tabled 1 Rows.laid_internal_strconv_uint64pow10 w0.heap)) }
end Go.Proofs.YtongeeggaigepaaGreatDoor

namespace Go.Proofs.YtongeeggaigepaaGreatDoor
open Go.RowKit Go.Sort CrossMath

def valT (l : List UInt8) : Int := l.foldl (fun n c => 10 * n + ((c.toNat : Int) - 48)) 0
theorem valT_next (l : List UInt8) (c : UInt8) : valT (l ++ [c]) = 10 * valT l + ((c.toNat : Int) - 48) := by
 unfold valT; rw [List.foldl_append]; rfl
def digT (c : UInt8) : Bool := decide (48 ≤ c.toNat) && decide (c.toNat ≤ 57)
theorem valT_take (l : List UInt8) (k : Nat) (hk : k < l.length) : valT (l.take (k + 1)) = 10 * valT (l.take k) + ((l[k].toNat : Int) - 48) := by
 rw [List.take_add_one, List.getElem?_eq_getElem hk, Option.toList_some, valT_next]
theorem valT_bd (l : List UInt8) : ∀ k, k ≤ l.length → k ≤ 9 → (∀ (i : Nat) (h : i < l.length), i < k → digT l[i] = true) → 0 ≤ valT (l.take k) ∧ valT (l.take k) < 10 ^ k
 | 0, _, _, _ => by rw [List.take_zero]; exact ⟨by decide, by decide⟩
 | k + 1, hk, h9, hd => by
   obtain ⟨h1, h2⟩ := valT_bd l k (by omega) (by omega) (fun i h hi => hd i h (by omega))
   have hc := hd k (by omega) (by omega)
   unfold digT at hc
   rw [Bool.and_eq_true, decide_eq_true_eq, decide_eq_true_eq] at hc
   rw [valT_take l k (by omega), Int.pow_succ]
   omega
def numT (neg : Bool) (d : List UInt8) : Int × Bool :=
 if (d.isEmpty || (decide (9 < d.length) || (d.head? == some 48 && (decide (1 < d.length) || neg)))) = true then (0, false)
 else if d.all digT = true then (if neg then -valT d else valT d, true) else (0, false)
def numS (l : List UInt8) : Int × Bool := if l.head? = some 45 then numT true l.tail else numT false l
theorem tail_of (s : ByteArray) : (s.extract 1 s.size).data.toList = s.data.toList.tail := by
 have h2 : s.data.toList.length = s.size := Array.length_toList
 rw [ByteArray.data_extract, Array.toList_extract]
 unfold List.extract
 rw [List.take_of_length_le (by rw [List.length_drop, h2]; exact Nat.le_refl _), List.drop_one]
theorem head_of {s : ByteArray} (h : 0 < s.size) : s.data.toList.head? = some (s[0]'h) := by
 rw [List.head?_eq_getElem?, List.getElem?_eq_getElem (by simpa using h)]; rfl
set_option maxRecDepth 100000 in
set_option maxHeartbeats 3200000 in
theorem rnumber_any (s : ByteArray) (w : World) (hs : s.size ≤ 200) :
 Calls Tryz.prog 107 #[.string s] w fun e w' => e = .returned (.tuple #[.int .i64 (numS s.data.toList).1, .bool (numS s.data.toList).2]) ∧ w = w' := by
 by_cases h0 : 0 < s.size
 ·have s1 : (0 : Int) < s.size := by omega
  by_cases h45 : ((s[0]'h0).toNat : Int) = 45
  ·have hx : s[0]'h0 = 45 := UInt8.toNat.inj (by show (s[0]'h0).toNat = 45; omega)
   obtain ⟨D, hD⟩ : ∃ D, D = s.extract 1 s.size := ⟨_, rfl⟩
   have hN : numS s.data.toList = numT true D.data.toList := by
    unfold numS
    rw [head_of h0, hx, if_pos rfl, hD, tail_of]
   rw [hN]
   obtain ⟨R, HR⟩ : ∃ R : Int × Bool, Hid (numT true D.data.toList = R) := ⟨_, Lib.hid rfl⟩
   rw [HR.out]
   have hDs : D.size ≤ 200 := by
    have h1 : D.data.toList.length = D.size := Array.length_toList
    have h2 : s.data.toList.length = s.size := Array.length_toList
    rw [hD, tail_of, List.length_tail] at h1
    rw [hD]; omega
   clear hN hx
   cases he : D.toList.isEmpty with
   | true =>
     have HF : Hid (R = (0, false)) := Lib.hid (by
      have e : D.data.toList.isEmpty = true := by rw [ByteArray.toList_eq] at he; exact he
      rw [← HR.out, numT, if_pos (by rw [e]; rfl)])
     go_enter Tryz.func107, Tryz.ntmps107
     go_upto_region 5 with fail
     rw [← hD]; clear hD
     go_wp2_with fail
     exact bodyPost_ret (v := .tuple #[.int .i64 R.1, .bool R.2]) (by rw [HF.out]; simp [results, Tryz.results107, go_sem]) rfl ⟨rfl, rfl⟩
   | false =>
     have hemp : D.data.toList.isEmpty = false := by rw [ByteArray.toList_eq] at he; exact he
     have hlen0 : D.data.toList.length = D.size := Array.length_toList
     have hp : 0 < D.size := by
      rw [← hlen0]
      cases h : D.data.toList with
      | nil => rw [h] at hemp; cases hemp
      | cons a l => simp
     have hp1 : (0 : Int) < D.size := by omega
     by_cases h9 : 9 < D.size
     ·have h91 : (9 : Int) < D.size := by omega
      have HF : Hid (R = (0, false)) := Lib.hid (by rw [← HR.out, numT, if_pos (by rw [hlen0, decide_eq_true h9, Bool.true_or, Bool.or_true])])
      go_enter Tryz.func107, Tryz.ntmps107
      go_upto_region 5 with fail
      rw [← hD]; clear hD
      go_wp2_with fail
      exact bodyPost_ret (v := .tuple #[.int .i64 R.1, .bool R.2]) (by rw [HF.out]; simp [results, Tryz.results107, go_sem]) rfl ⟨rfl, rfl⟩
     ·have h91 : ¬ ((9 : Int) < D.size) := by omega
      have hhd := head_of hp
      by_cases h48 : ((D[0]'hp).toNat : Int) = 48
      ·have hx : D[0]'hp = 48 := UInt8.toNat.inj (by show (D[0]'hp).toNat = 48; omega)
       have HF : Hid (R = (0, false)) := Lib.hid (by rw [← HR.out, numT, if_pos (by rw [hhd, hx]; simp)])
       by_cases h1 : 1 < D.size
       ·have h11 : (1 : Int) < D.size := by omega
        go_enter Tryz.func107, Tryz.ntmps107
        go_upto_region 5 with fail
        rw [← hD]; clear hD
        go_wp2_with fail
        exact bodyPost_ret (v := .tuple #[.int .i64 R.1, .bool R.2]) (by rw [HF.out]; simp [results, Tryz.results107, go_sem]) rfl ⟨rfl, rfl⟩
       ·have h11 : ¬ ((1 : Int) < D.size) := by omega
        go_enter Tryz.func107, Tryz.ntmps107
        go_upto_region 5 with fail
        rw [← hD]; clear hD
        go_wp2_with fail
        exact bodyPost_ret (v := .tuple #[.int .i64 R.1, .bool R.2]) (by rw [HF.out]; simp [results, Tryz.results107, go_sem]) rfl ⟨rfl, rfl⟩
      ·have hx : ¬ D[0]'hp = 48 := fun h => h48 (by rw [h]; rfl)
       have HA : Hid (R = if D.data.toList.all digT = true then (-valT D.data.toList, true) else (0, false)) := Lib.hid (by rw [← HR.out, numT, if_neg (by rw [hemp, hlen0, decide_eq_false h9, hhd]; simp [hx])]; rfl)
       go_enter Tryz.func107, Tryz.ntmps107
       go_upto_region 5 with fail
       rw [← hD]; clear hD
       go_wp2_with fail
       go_loopw [6, 7] (fun n i wr => ∃ k : Nat, k ≤ D.size ∧ i = .int .i64 k ∧ n = .int .i64 (valT (D.data.toList.take k)) ∧ Hid (∀ (i : Nat) (h : i < D.data.toList.length), i < k → digT D.data.toList[i] = true) ∧ w = wr) (fun _ i _ => D.size - (intOf i).toNat)
       case atStart => exact ⟨0, by omega, rfl, rfl, Lib.hid (fun _ _ h => by omega), rfl⟩
       case round =>
        obtain ⟨k, hk, rfl, rfl, HI, rfl⟩ := hrel
        have hlen : D.data.toList.length = D.size := Array.length_toList
        by_cases hkn : k < D.size
        ·have hk1 : (k : Int) < D.size := by omega
         have eK : D.data.toList[k]'(by omega) = D[k]'hkn := rfl
         obtain ⟨b1, b2⟩ := valT_bd D.data.toList k (by omega) (by omega) HI.out
         have b3 : (10 : Int) ^ k ≤ 1000000000 := by
          have h := Nat.pow_le_pow_right (n := 10) (by decide) (show k ≤ 9 by omega)
          have h' : (10 ^ k : Nat) ≤ 1000000000 := h
          have e : ((10 ^ k : Nat) : Int) = (10 : Int) ^ k := by simp
          omega
         have hc := (D[k]'hkn).toNat_lt
         have hnext := valT_take D.data.toList k (by omega)
         rw [eK] at hnext
         have HNX := Lib.hid hnext
         clear hnext
         by_cases hd : digT (D[k]'hkn) = true
         ·have hd' := hd
          unfold digT at hd'
          rw [Bool.and_eq_true, decide_eq_true_eq, decide_eq_true_eq] at hd'
          have d1 : ¬ (((D[k]'hkn).toNat : Int) < 48) := by omega
          have d2 : ¬ (57 < ((D[k]'hkn).toNat : Int)) := by omega
          have w1 : IntKind.u8.wrap (((D[k]'hkn).toNat : Int) - 48) = ((D[k]'hkn).toNat : Int) - 48 := by simp [IntKind.wrap, IntKind.signed, IntKind.bits]; omega
          have w2 : IntKind.i64.wrap (((D[k]'hkn).toNat : Int) - 48) = ((D[k]'hkn).toNat : Int) - 48 := by rw [IntKind.wrap_i64]; omega
          have w3 : IntKind.i64.wrap (10 * valT (D.data.toList.take k)) = 10 * valT (D.data.toList.take k) := by rw [IntKind.wrap_i64]; omega
          have w4 : IntKind.i64.wrap (10 * valT (D.data.toList.take k) + (((D[k]'hkn).toNat : Int) - 48)) = 10 * valT (D.data.toList.take k) + (((D[k]'hkn).toNat : Int) - 48) := by rw [IntKind.wrap_i64]; omega
          have HD := Lib.hid (show digT (D.data.toList[k]'(by omega)) = true from hd)
          clear hd' b1 b2 b3 hc eK hd
          go_wp2_with fail
          exact ⟨⟨k + 1, by omega, rfl, by rw [HNX.out], Lib.hid (fun i h hi => by
           by_cases e : i = k
           ·subst e; exact HD.out
           ·exact HI.out i h (by omega)), by first | trivial | rfl⟩, by simp [intOf]; omega⟩
         ·have HF : Hid (R = (0, false)) := Lib.hid (by
           rw [HA.out, if_neg]
           intro h
           exact hd (List.all_eq_true.1 h _ (List.getElem_mem (h := by omega))))
          clear b1 b2 b3 HNX eK
          by_cases d1 : ((D[k]'hkn).toNat : Int) < 48
          ·go_wp2_with fail
           exact bodyPost_ret (v := .tuple #[.int .i64 R.1, .bool R.2]) (by rw [HF.out]; simp [results, Tryz.results107, go_sem]) rfl ⟨rfl, rfl⟩
          ·have d2 : 57 < ((D[k]'hkn).toNat : Int) := by
            unfold digT at hd
            rw [Bool.and_eq_true, decide_eq_true_eq, decide_eq_true_eq] at hd
            omega
           go_wp2_with fail
           exact bodyPost_ret (v := .tuple #[.int .i64 R.1, .bool R.2]) (by rw [HF.out]; simp [results, Tryz.results107, go_sem]) rfl ⟨rfl, rfl⟩
        ·obtain rfl : k = D.size := by omega
         have hk1 : ¬ ((D.size : Int) < D.size) := by omega
         have hall : D.data.toList.all digT = true := List.all_eq_true.2 (fun x hx => by
          obtain ⟨i, hi, rfl⟩ := List.getElem_of_mem hx
          exact HI.out i hi (by omega))
         have HF : Hid (R = (-valT D.data.toList, true)) := Lib.hid (by rw [HA.out, if_pos hall])
         obtain ⟨b1, b2⟩ := valT_bd D.data.toList D.size (by omega) (by omega) HI.out
         have eT : D.data.toList.take D.size = D.data.toList := by rw [← hlen, List.take_length]
         rw [eT] at b1 b2 ⊢
         have w5 : IntKind.i64.wrap (-valT D.data.toList) = -valT D.data.toList := by
          have h := Nat.pow_le_pow_right (n := 10) (by decide) (show D.size ≤ 9 by omega)
          have h' : (10 ^ D.size : Nat) ≤ 1000000000 := h
          have e : ((10 ^ D.size : Nat) : Int) = (10 : Int) ^ D.size := by simp
          rw [IntKind.wrap_i64]; omega
         clear b1 b2 hall
         go_wp2_with fail
         exact bodyPost_ret (v := .tuple #[.int .i64 R.1, .bool R.2]) (by rw [HF.out]; simp [results, Tryz.results107, go_sem]) rfl ⟨rfl, rfl⟩
  ·have h45' : (((s[0]'h0).toNat : Int) == 45) = false := by simp; omega
   have hN : numS s.data.toList = numT false s.data.toList := by
    unfold numS
    rw [head_of h0, if_neg]
    intro h
    have hx : s[0]'h0 = 45 := Option.some.inj h
    rw [hx] at h45
    exact h45 rfl
   rw [hN]
   obtain ⟨R, HR⟩ : ∃ R : Int × Bool, Hid (numT false s.data.toList = R) := ⟨_, Lib.hid rfl⟩
   rw [HR.out]
   clear hN
   obtain ⟨D, rfl⟩ : ∃ D, D = s := ⟨_, rfl⟩
   cases he : D.toList.isEmpty with
   | true =>
     have HF : Hid (R = (0, false)) := Lib.hid (by
      have e : D.data.toList.isEmpty = true := by rw [ByteArray.toList_eq] at he; exact he
      rw [← HR.out, numT, if_pos (by rw [e]; rfl)])
     go_enter Tryz.func107, Tryz.ntmps107
     go_upto_region 5 with fail
     skip
     go_wp2_with fail
     exact bodyPost_ret (v := .tuple #[.int .i64 R.1, .bool R.2]) (by rw [HF.out]; simp [results, Tryz.results107, go_sem]) rfl ⟨rfl, rfl⟩
   | false =>
     have hemp : D.data.toList.isEmpty = false := by rw [ByteArray.toList_eq] at he; exact he
     have hlen0 : D.data.toList.length = D.size := Array.length_toList
     have hp : 0 < D.size := by
      rw [← hlen0]
      cases h : D.data.toList with
      | nil => rw [h] at hemp; cases hemp
      | cons a l => simp
     have hp1 : (0 : Int) < D.size := by omega
     by_cases h9 : 9 < D.size
     ·have h91 : (9 : Int) < D.size := by omega
      have HF : Hid (R = (0, false)) := Lib.hid (by rw [← HR.out, numT, if_pos (by rw [hlen0, decide_eq_true h9, Bool.true_or, Bool.or_true])])
      go_enter Tryz.func107, Tryz.ntmps107
      go_upto_region 5 with fail
      skip
      go_wp2_with fail
      exact bodyPost_ret (v := .tuple #[.int .i64 R.1, .bool R.2]) (by rw [HF.out]; simp [results, Tryz.results107, go_sem]) rfl ⟨rfl, rfl⟩
     ·have h91 : ¬ ((9 : Int) < D.size) := by omega
      have hhd := head_of hp
      by_cases h48 : ((D[0]'hp).toNat : Int) = 48
      ·have hx : D[0]'hp = 48 := UInt8.toNat.inj (by show (D[0]'hp).toNat = 48; omega)
       by_cases h1 : 1 < D.size
       ·have h11 : (1 : Int) < D.size := by omega
        have HF : Hid (R = (0, false)) := Lib.hid (by rw [← HR.out, numT, if_pos (by rw [hhd, hx, hlen0, decide_eq_true h1]; simp)])
        go_enter Tryz.func107, Tryz.ntmps107
        go_upto_region 5 with fail
        skip
        go_wp2_with fail
        exact bodyPost_ret (v := .tuple #[.int .i64 R.1, .bool R.2]) (by rw [HF.out]; simp [results, Tryz.results107, go_sem]) rfl ⟨rfl, rfl⟩
       ·have h11 : ¬ ((1 : Int) < D.size) := by omega
        have HA : Hid (R = if D.data.toList.all digT = true then (valT D.data.toList, true) else (0, false)) := Lib.hid (by rw [← HR.out, numT, if_neg (by rw [hemp, hlen0, decide_eq_false h9, decide_eq_false h1]; simp)]; rfl)
        go_enter Tryz.func107, Tryz.ntmps107
        go_upto_region 5 with fail
        skip
        go_wp2_with fail
        go_loopw [6, 7] (fun n i wr => ∃ k : Nat, k ≤ D.size ∧ i = .int .i64 k ∧ n = .int .i64 (valT (D.data.toList.take k)) ∧ Hid (∀ (i : Nat) (h : i < D.data.toList.length), i < k → digT D.data.toList[i] = true) ∧ w = wr) (fun _ i _ => D.size - (intOf i).toNat)
        case atStart => exact ⟨0, by omega, rfl, rfl, Lib.hid (fun _ _ h => by omega), rfl⟩
        case round =>
         obtain ⟨k, hk, rfl, rfl, HI, rfl⟩ := hrel
         have hlen : D.data.toList.length = D.size := Array.length_toList
         by_cases hkn : k < D.size
         ·have hk1 : (k : Int) < D.size := by omega
          have eK : D.data.toList[k]'(by omega) = D[k]'hkn := rfl
          obtain ⟨b1, b2⟩ := valT_bd D.data.toList k (by omega) (by omega) HI.out
          have b3 : (10 : Int) ^ k ≤ 1000000000 := by
           have h := Nat.pow_le_pow_right (n := 10) (by decide) (show k ≤ 9 by omega)
           have h' : (10 ^ k : Nat) ≤ 1000000000 := h
           have e : ((10 ^ k : Nat) : Int) = (10 : Int) ^ k := by simp
           omega
          have hc := (D[k]'hkn).toNat_lt
          have hnext := valT_take D.data.toList k (by omega)
          rw [eK] at hnext
          have HNX := Lib.hid hnext
          clear hnext
          by_cases hd : digT (D[k]'hkn) = true
          ·have hd' := hd
           unfold digT at hd'
           rw [Bool.and_eq_true, decide_eq_true_eq, decide_eq_true_eq] at hd'
           have d1 : ¬ (((D[k]'hkn).toNat : Int) < 48) := by omega
           have d2 : ¬ (57 < ((D[k]'hkn).toNat : Int)) := by omega
           have w1 : IntKind.u8.wrap (((D[k]'hkn).toNat : Int) - 48) = ((D[k]'hkn).toNat : Int) - 48 := by simp [IntKind.wrap, IntKind.signed, IntKind.bits]; omega
           have w2 : IntKind.i64.wrap (((D[k]'hkn).toNat : Int) - 48) = ((D[k]'hkn).toNat : Int) - 48 := by rw [IntKind.wrap_i64]; omega
           have w3 : IntKind.i64.wrap (10 * valT (D.data.toList.take k)) = 10 * valT (D.data.toList.take k) := by rw [IntKind.wrap_i64]; omega
           have w4 : IntKind.i64.wrap (10 * valT (D.data.toList.take k) + (((D[k]'hkn).toNat : Int) - 48)) = 10 * valT (D.data.toList.take k) + (((D[k]'hkn).toNat : Int) - 48) := by rw [IntKind.wrap_i64]; omega
           have HD := Lib.hid (show digT (D.data.toList[k]'(by omega)) = true from hd)
           clear hd' b1 b2 b3 hc eK hd
           go_wp2_with fail
           exact ⟨⟨k + 1, by omega, rfl, by rw [HNX.out], Lib.hid (fun i h hi => by
            by_cases e : i = k
            ·subst e; exact HD.out
            ·exact HI.out i h (by omega)), by first | trivial | rfl⟩, by simp [intOf]; omega⟩
          ·have HF : Hid (R = (0, false)) := Lib.hid (by
            rw [HA.out, if_neg]
            intro h
            exact hd (List.all_eq_true.1 h _ (List.getElem_mem (h := by omega))))
           clear b1 b2 b3 HNX eK
           by_cases d1 : ((D[k]'hkn).toNat : Int) < 48
           ·go_wp2_with fail
            exact bodyPost_ret (v := .tuple #[.int .i64 R.1, .bool R.2]) (by rw [HF.out]; simp [results, Tryz.results107, go_sem]) rfl ⟨rfl, rfl⟩
           ·have d2 : 57 < ((D[k]'hkn).toNat : Int) := by
             unfold digT at hd
             rw [Bool.and_eq_true, decide_eq_true_eq, decide_eq_true_eq] at hd
             omega
            go_wp2_with fail
            exact bodyPost_ret (v := .tuple #[.int .i64 R.1, .bool R.2]) (by rw [HF.out]; simp [results, Tryz.results107, go_sem]) rfl ⟨rfl, rfl⟩
         ·obtain rfl : k = D.size := by omega
          have hk1 : ¬ ((D.size : Int) < D.size) := by omega
          have hall : D.data.toList.all digT = true := List.all_eq_true.2 (fun x hx => by
           obtain ⟨i, hi, rfl⟩ := List.getElem_of_mem hx
           exact HI.out i hi (by omega))
          have HF : Hid (R = (valT D.data.toList, true)) := Lib.hid (by rw [HA.out, if_pos hall])
          obtain ⟨b1, b2⟩ := valT_bd D.data.toList D.size (by omega) (by omega) HI.out
          have eT : D.data.toList.take D.size = D.data.toList := by rw [← hlen, List.take_length]
          rw [eT] at b1 b2 ⊢
          have w5 : IntKind.i64.wrap (-valT D.data.toList) = -valT D.data.toList := by
           have h := Nat.pow_le_pow_right (n := 10) (by decide) (show D.size ≤ 9 by omega)
           have h' : (10 ^ D.size : Nat) ≤ 1000000000 := h
           have e : ((10 ^ D.size : Nat) : Int) = (10 : Int) ^ D.size := by simp
           rw [IntKind.wrap_i64]; omega
          clear b1 b2 hall
          go_wp2_with fail
          exact bodyPost_ret (v := .tuple #[.int .i64 R.1, .bool R.2]) (by rw [HF.out]; simp [results, Tryz.results107, go_sem]) rfl ⟨rfl, rfl⟩
      ·have hx : ¬ D[0]'hp = 48 := fun h => h48 (by rw [h]; rfl)
       have HA : Hid (R = if D.data.toList.all digT = true then (valT D.data.toList, true) else (0, false)) := Lib.hid (by rw [← HR.out, numT, if_neg (by rw [hemp, hlen0, decide_eq_false h9, hhd]; simp [hx])]; rfl)
       go_enter Tryz.func107, Tryz.ntmps107
       go_upto_region 5 with fail
       skip
       go_wp2_with fail
       go_loopw [6, 7] (fun n i wr => ∃ k : Nat, k ≤ D.size ∧ i = .int .i64 k ∧ n = .int .i64 (valT (D.data.toList.take k)) ∧ Hid (∀ (i : Nat) (h : i < D.data.toList.length), i < k → digT D.data.toList[i] = true) ∧ w = wr) (fun _ i _ => D.size - (intOf i).toNat)
       case atStart => exact ⟨0, by omega, rfl, rfl, Lib.hid (fun _ _ h => by omega), rfl⟩
       case round =>
        obtain ⟨k, hk, rfl, rfl, HI, rfl⟩ := hrel
        have hlen : D.data.toList.length = D.size := Array.length_toList
        by_cases hkn : k < D.size
        ·have hk1 : (k : Int) < D.size := by omega
         have eK : D.data.toList[k]'(by omega) = D[k]'hkn := rfl
         obtain ⟨b1, b2⟩ := valT_bd D.data.toList k (by omega) (by omega) HI.out
         have b3 : (10 : Int) ^ k ≤ 1000000000 := by
          have h := Nat.pow_le_pow_right (n := 10) (by decide) (show k ≤ 9 by omega)
          have h' : (10 ^ k : Nat) ≤ 1000000000 := h
          have e : ((10 ^ k : Nat) : Int) = (10 : Int) ^ k := by simp
          omega
         have hc := (D[k]'hkn).toNat_lt
         have hnext := valT_take D.data.toList k (by omega)
         rw [eK] at hnext
         have HNX := Lib.hid hnext
         clear hnext
         by_cases hd : digT (D[k]'hkn) = true
         ·have hd' := hd
          unfold digT at hd'
          rw [Bool.and_eq_true, decide_eq_true_eq, decide_eq_true_eq] at hd'
          have d1 : ¬ (((D[k]'hkn).toNat : Int) < 48) := by omega
          have d2 : ¬ (57 < ((D[k]'hkn).toNat : Int)) := by omega
          have w1 : IntKind.u8.wrap (((D[k]'hkn).toNat : Int) - 48) = ((D[k]'hkn).toNat : Int) - 48 := by simp [IntKind.wrap, IntKind.signed, IntKind.bits]; omega
          have w2 : IntKind.i64.wrap (((D[k]'hkn).toNat : Int) - 48) = ((D[k]'hkn).toNat : Int) - 48 := by rw [IntKind.wrap_i64]; omega
          have w3 : IntKind.i64.wrap (10 * valT (D.data.toList.take k)) = 10 * valT (D.data.toList.take k) := by rw [IntKind.wrap_i64]; omega
          have w4 : IntKind.i64.wrap (10 * valT (D.data.toList.take k) + (((D[k]'hkn).toNat : Int) - 48)) = 10 * valT (D.data.toList.take k) + (((D[k]'hkn).toNat : Int) - 48) := by rw [IntKind.wrap_i64]; omega
          have HD := Lib.hid (show digT (D.data.toList[k]'(by omega)) = true from hd)
          clear hd' b1 b2 b3 hc eK hd
          go_wp2_with fail
          exact ⟨⟨k + 1, by omega, rfl, by rw [HNX.out], Lib.hid (fun i h hi => by
           by_cases e : i = k
           ·subst e; exact HD.out
           ·exact HI.out i h (by omega)), by first | trivial | rfl⟩, by simp [intOf]; omega⟩
         ·have HF : Hid (R = (0, false)) := Lib.hid (by
           rw [HA.out, if_neg]
           intro h
           exact hd (List.all_eq_true.1 h _ (List.getElem_mem (h := by omega))))
          clear b1 b2 b3 HNX eK
          by_cases d1 : ((D[k]'hkn).toNat : Int) < 48
          ·go_wp2_with fail
           exact bodyPost_ret (v := .tuple #[.int .i64 R.1, .bool R.2]) (by rw [HF.out]; simp [results, Tryz.results107, go_sem]) rfl ⟨rfl, rfl⟩
          ·have d2 : 57 < ((D[k]'hkn).toNat : Int) := by
            unfold digT at hd
            rw [Bool.and_eq_true, decide_eq_true_eq, decide_eq_true_eq] at hd
            omega
           go_wp2_with fail
           exact bodyPost_ret (v := .tuple #[.int .i64 R.1, .bool R.2]) (by rw [HF.out]; simp [results, Tryz.results107, go_sem]) rfl ⟨rfl, rfl⟩
        ·obtain rfl : k = D.size := by omega
         have hk1 : ¬ ((D.size : Int) < D.size) := by omega
         have hall : D.data.toList.all digT = true := List.all_eq_true.2 (fun x hx => by
          obtain ⟨i, hi, rfl⟩ := List.getElem_of_mem hx
          exact HI.out i hi (by omega))
         have HF : Hid (R = (valT D.data.toList, true)) := Lib.hid (by rw [HA.out, if_pos hall])
         obtain ⟨b1, b2⟩ := valT_bd D.data.toList D.size (by omega) (by omega) HI.out
         have eT : D.data.toList.take D.size = D.data.toList := by rw [← hlen, List.take_length]
         rw [eT] at b1 b2 ⊢
         have w5 : IntKind.i64.wrap (-valT D.data.toList) = -valT D.data.toList := by
          have h := Nat.pow_le_pow_right (n := 10) (by decide) (show D.size ≤ 9 by omega)
          have h' : (10 ^ D.size : Nat) ≤ 1000000000 := h
          have e : ((10 ^ D.size : Nat) : Int) = (10 : Int) ^ D.size := by simp
          rw [IntKind.wrap_i64]; omega
         clear b1 b2 hall
         go_wp2_with fail
         exact bodyPost_ret (v := .tuple #[.int .i64 R.1, .bool R.2]) (by rw [HF.out]; simp [results, Tryz.results107, go_sem]) rfl ⟨rfl, rfl⟩
 ·have s1 : ¬ ((0 : Int) < s.size) := by omega
  have hE : s.data.toList = [] := List.eq_nil_of_length_eq_zero (by have h2 : s.data.toList.length = s.size := Array.length_toList; omega)
  have he : s.toList.isEmpty = true := by rw [ByteArray.toList_eq, hE]; rfl
  rw [hE]
  have HF : Hid (numS [] = (0, false)) := Lib.hid (by decide)
  go_enter Tryz.func107, Tryz.ntmps107
  go_wp2_with fail
  exact bodyPost_ret (v := .tuple #[.int .i64 (numS []).1, .bool (numS []).2]) (by rw [HF.out]; simp [results, Tryz.results107, go_sem]) rfl ⟨rfl, rfl⟩
end Go.Proofs.YtongeeggaigepaaGreatDoor
