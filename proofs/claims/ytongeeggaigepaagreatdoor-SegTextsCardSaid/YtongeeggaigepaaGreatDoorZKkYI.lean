import Derived.Test.YtongeeggaigepaaGreatDoorZKkYG
import Derived.Test.YtongeeggaigepaaGreatDoorZKkRF
import Derived.Test.YtongeeggaigepaaGreatDoorZKkRI
namespace Go.Proofs.YtongeeggaigepaaGreatDoor
open Go.RowKit Go.Sort
def slFct (idx slot : Nat) (zs : List Value) : Fct := ⟨idx, slot, fun v W => ∃ k, v = .slice (some ⟨k, 0, none⟩) 3 3 ∧ Row W k zs, fun v X Y h hb => by
 obtain ⟨k, h1, h2⟩ := h
 exact ⟨k, h1, h2.after hb⟩⟩
def newFctS (idx slot B : Nat) (zs : List Value) : Fct := ⟨idx, slot, fun v W => ∃ C, v = .pointer (some ⟨C, 0, none⟩) ∧ B ≤ C ∧ Row W C zs, fun v X Y h hb => by
 obtain ⟨C, h1, h2, h3⟩ := h
 exact ⟨C, h1, h2, h3.after hb⟩⟩
theorem must_word (x : Int) (w : World) : Calls Tryz.prog 91 #[.int .i64 x, .int .i64 0] w fun e w' => e = .returned (.int .i64 x) ∧ Below w.heap.size w w' := by
 go_enter Tryz.func91, Tryz.ntmps91
 go_wp2_with fail
 refine (for_okS _).mono ?_
 rintro e w1 ⟨rfl, rfl⟩
 go_wp2_with fail
 go_ret
 exact ⟨rfl, Below.refl _ _⟩
set_option maxRecDepth 100000 in
set_option maxHeartbeats 12800000 in
theorem side_core (P : Array Value) (ax ay bx bY r u v : Int) (rs us xns xds yns yds A1s A2s P1s P2s : Bool) (rc0 rc1 rc2 rc3 uc0 uc1 uc2 uc3 xnc0 xnc1 xnc2 xnc3 xdc0 xdc1 xdc2 xdc3 ync0 ync1 ync2 ync3 ydc0 ydc1 ydc2 ydc3 A1c0 A1c1 A1c2 A1c3 A2c0 A2c1 A2c2 A2c3 P1c0 P1c1 P1c2 P1c3 P2c0 P2c1 P2c2 P2c3 : Int) (w : World) (hP : P.toList = [.bool xns, .int .u64 xnc0, .int .u64 xnc1, .int .u64 xnc2, .int .u64 xnc3, .bool xds, .int .u64 xdc0, .int .u64 xdc1, .int .u64 xdc2, .int .u64 xdc3, .bool yns, .int .u64 ync0, .int .u64 ync1, .int .u64 ync2, .int .u64 ync3, .bool yds, .int .u64 ydc0, .int .u64 ydc1, .int .u64 ydc2, .int .u64 ydc3]) (agP : AggTy Tryz.prog 46 P.size)
 (HG : ∀ W, Below w.heap.size w W → Calls Tryz.prog 85 #[.agg P] W fun e w' => e = .returned (.tuple #[nodeV 0 0, .bool false]) ∧ Below W.heap.size W w')
 (HR : ∀ W, Below w.heap.size w W → Calls Tryz.prog 86 #[.agg P] W fun e w' => e = .returned (.int .i64 0) ∧ Below W.heap.size W w')
 (HO1 : ∀ W, Calls Tryz.prog 89 #[.int .i64 r] W fun e w' => e = .returned (.agg #[.bool rs, .int .u64 rc0, .int .u64 rc1, .int .u64 rc2, .int .u64 rc3]) ∧ Below W.heap.size W w')
 (HO2 : ∀ W, Calls Tryz.prog 89 #[.int .i64 u] W fun e w' => e = .returned (.agg #[.bool us, .int .u64 uc0, .int .u64 uc1, .int .u64 uc2, .int .u64 uc3]) ∧ Below W.heap.size W w')
 (HW1 : ∀ W, Calls Tryz.prog 90 #[.int .i64 ay, .agg #[.bool yns, .int .u64 ync0, .int .u64 ync1, .int .u64 ync2, .int .u64 ync3, .bool yds, .int .u64 ydc0, .int .u64 ydc1, .int .u64 ydc2, .int .u64 ydc3]] W fun e w' => e = .returned (.agg #[.bool A1s, .int .u64 A1c0, .int .u64 A1c1, .int .u64 A1c2, .int .u64 A1c3]) ∧ Below W.heap.size W w')
 (HW2 : ∀ W, Calls Tryz.prog 90 #[.int .i64 ax, .agg #[.bool xns, .int .u64 xnc0, .int .u64 xnc1, .int .u64 xnc2, .int .u64 xnc3, .bool xds, .int .u64 xdc0, .int .u64 xdc1, .int .u64 xdc2, .int .u64 xdc3]] W fun e w' => e = .returned (.agg #[.bool A2s, .int .u64 A2c0, .int .u64 A2c1, .int .u64 A2c2, .int .u64 A2c3]) ∧ Below W.heap.size W w')
 (HM1 : ∀ W k, Row W k [.bool rs, .int .u64 rc0, .int .u64 rc1, .int .u64 rc2, .int .u64 rc3, .bool A1s, .int .u64 A1c0, .int .u64 A1c1, .int .u64 A1c2, .int .u64 A1c3, .bool xds, .int .u64 xdc0, .int .u64 xdc1, .int .u64 xdc2, .int .u64 xdc3] → Calls Tryz.prog 88 #[.slice (some ⟨k, 0, none⟩) 3 3] W fun e w' => e = .returned (.tuple #[.agg #[.bool P1s, .int .u64 P1c0, .int .u64 P1c1, .int .u64 P1c2, .int .u64 P1c3], .int .i64 0]) ∧ Below W.heap.size W w')
 (HM2 : ∀ W k, Row W k [.bool us, .int .u64 uc0, .int .u64 uc1, .int .u64 uc2, .int .u64 uc3, .bool A2s, .int .u64 A2c0, .int .u64 A2c1, .int .u64 A2c2, .int .u64 A2c3, .bool yds, .int .u64 ydc0, .int .u64 ydc1, .int .u64 ydc2, .int .u64 ydc3] → Calls Tryz.prog 88 #[.slice (some ⟨k, 0, none⟩) 3 3] W fun e w' => e = .returned (.tuple #[.agg #[.bool P2s, .int .u64 P2c0, .int .u64 P2c1, .int .u64 P2c2, .int .u64 P2c3], .int .i64 0]) ∧ Below W.heap.size W w')
 (HI1 : ∀ W, Calls Tryz.prog 87 #[.agg #[.bool P1s, .int .u64 P1c0, .int .u64 P1c1, .int .u64 P1c2, .int .u64 P1c3], .int .i64 0] W fun e w' => e = .returned (.agg #[.bool P1s, .int .u64 P1c0, .int .u64 P1c1, .int .u64 P1c2, .int .u64 P1c3]) ∧ Below W.heap.size W w')
 (HI2 : ∀ W, Calls Tryz.prog 87 #[.agg #[.bool P2s, .int .u64 P2c0, .int .u64 P2c1, .int .u64 P2c2, .int .u64 P2c3], .int .i64 0] W fun e w' => e = .returned (.agg #[.bool P2s, .int .u64 P2c0, .int .u64 P2c1, .int .u64 P2c2, .int .u64 P2c3]) ∧ Below W.heap.size W w')
 (HC : ∀ W, Calls Tryz.prog 92 #[.agg #[.bool P1s, .int .u64 P1c0, .int .u64 P1c1, .int .u64 P1c2, .int .u64 P1c3], .agg #[.bool P2s, .int .u64 P2c0, .int .u64 P2c1, .int .u64 P2c2, .int .u64 P2c3]] W fun e w' => e = .returned (.tuple #[.int .i64 v, .int .i64 0]) ∧ Below W.heap.size W w') :
 Calls Tryz.prog 50 #[.agg #[.int .i64 ax, .int .i64 ay, .int .i64 bx, .int .i64 bY, .int .i64 r, .int .i64 u], .agg P] w fun e w' => e = .returned (.int .i64 v) ∧ Below w.heap.size w w' := by
 have KHG := Lib.hid HG; clear HG
 have KHR := Lib.hid HR; clear HR
 have KHO1 := Lib.hid HO1; clear HO1
 have KHO2 := Lib.hid HO2; clear HO2
 have KHW1 := Lib.hid HW1; clear HW1
 have KHW2 := Lib.hid HW2; clear HW2
 have KHM1 := Lib.hid HM1; clear HM1
 have KHM2 := Lib.hid HM2; clear HM2
 have KHI1 := Lib.hid HI1; clear HI1
 have KHI2 := Lib.hid HI2; clear HI2
 have KHC := Lib.hid HC; clear HC
 unfold nodeV at *
 go_enter Tryz.func50, Tryz.ntmps50
 go_upto_region 1 with fail
 generalize hW : World.alloc _ _ = W0
 have rS : Row W0 w.heap.size [.int .i64 ax, .int .i64 ay, .int .i64 bx, .int .i64 bY, .int .i64 r, .int .i64 u] := by rw [← hW]; exact (Row.at rfl [_, _, _, _, _, _] _).alloc _
 have rT : Row W0 (w.heap.size + 1) P.toList := by rw [← hW]; exact Row.at (by simp) _ _
 have hB : Below w.heap.size w W0 := by rw [← hW]; exact ((Below.refl _ _).alloc (Nat.le_refl _) _).alloc (by simp) _
 clear hW
 go_wp2_with (first | (refine wpList_load_R rfl _ _ rfl (w.heap.size + 1) rfl P rT agP ?_))
 refine (KHG.out _ hB).mono ?_
 rintro e W1 ⟨rfl, hb⟩
 replace rS := rS.after hb
 replace rT := rT.after hb
 replace hB := hB.trans (hb.mono hB.size)
 clear hb
 go_upto_region 4 with fail
 generalize hW : World.alloc _ _ = W2
 have hu : Below W1.heap.size W1 W2 := by rw [← hW]; exact (Below.refl _ _).alloc (Nat.le_refl _) _
 replace rS := rS.after hu
 replace rT := rT.after hu
 replace hB := hB.trans (hu.mono hB.size)
 clear hW hu
 generalize W1.heap.size = k5 at *
 go_wp2_with (first | (refine wpList_load_R rfl _ _ rfl (w.heap.size + 1) rfl P rT agP ?_))
 refine (KHR.out _ hB).mono ?_
 rintro e W3 ⟨rfl, hb⟩
 replace rS := rS.after hb
 replace rT := rT.after hb
 replace hB := hB.trans (hb.mono hB.size)
 clear hb
 rw [hP] at rT
 go_wp2_with fail
 refine (for_okS _).mono ?_
 rintro e W4 ⟨rfl, rfl⟩
 go_upto_region 5 with fail
 have HS := Lib.hid rS
 have HT := Lib.hid rT
 have hb0 := hB
 clear hB rS rT
 refine wp_region_fct (by kernel_rfl) [] (fun ix => match ix with
  | 0 => some (Value.pointer (some ⟨w.heap.size, 4, none⟩))
  | 1 => some (Value.int .i64 r)
  | 2 => some (Value.agg #[.bool rs, .int .u64 rc0, .int .u64 rc1, .int .u64 rc2, .int .u64 rc3])
  | 3 => some (Value.pointer (some ⟨w.heap.size, 0, none⟩))
  | 4 => some (Value.pointer (some ⟨w.heap.size, 0, none⟩))
  | 5 => some (Value.pointer (some ⟨w.heap.size, 1, none⟩))
  | 6 => some (Value.int .i64 ay)
  | 7 => some (Value.pointer (some ⟨w.heap.size + 1, 10, none⟩))
  | 8 => some (Value.agg #[.bool yns, .int .u64 ync0, .int .u64 ync1, .int .u64 ync2, .int .u64 ync3, .bool yds, .int .u64 ydc0, .int .u64 ydc1, .int .u64 ydc2, .int .u64 ydc3])
  | 9 => some (Value.agg #[.bool A1s, .int .u64 A1c0, .int .u64 A1c1, .int .u64 A1c2, .int .u64 A1c3])
  | 10 => some (Value.pointer (some ⟨w.heap.size + 1, 0, none⟩))
  | 11 => some (Value.pointer (some ⟨w.heap.size + 1, 5, none⟩))
  | 12 => some (Value.agg #[.bool xds, .int .u64 xdc0, .int .u64 xdc1, .int .u64 xdc2, .int .u64 xdc3])
  | 14 => some (Value.tuple #[Value.agg #[.bool P1s, .int .u64 P1c0, .int .u64 P1c1, .int .u64 P1c2, .int .u64 P1c3], Value.int .i64 0])
  | 15 => some (Value.agg #[.bool P1s, .int .u64 P1c0, .int .u64 P1c1, .int .u64 P1c2, .int .u64 P1c3])
  | 16 => some (Value.int .i64 0)
  | 17 => some (Value.agg #[.bool P1s, .int .u64 P1c0, .int .u64 P1c1, .int .u64 P1c2, .int .u64 P1c3])
  | _ => none) (by intro j hj; cases hj) 19 [slFct 13 34 [.bool rs, .int .u64 rc0, .int .u64 rc1, .int .u64 rc2, .int .u64 rc3, .bool A1s, .int .u64 A1c0, .int .u64 A1c1, .int .u64 A1c2, .int .u64 A1c3, .bool xds, .int .u64 xdc0, .int .u64 xdc1, .int .u64 xdc2, .int .u64 xdc3], newFctS 18 7 W3.heap.size [.bool false, .int .u64 0, .int .u64 0, .int .u64 0, .int .u64 0]] (fun sl W => ∃ C, sl 7 = .pointer (some ⟨C, 0, none⟩) ∧ W3.heap.size ≤ C ∧ Row W C [.bool P1s, .int .u64 P1c0, .int .u64 P1c1, .int .u64 P1c2, .int .u64 P1c3] ∧ Below W3.heap.size W3 W) (by kernel_rfl) (by kernel_rfl) (by rfl) ?_ ?_
 ·intro listed a W ix o hI ho hdep hB hF K hK hKf
  have hi : ix < 20 := (Array.getElem?_eq_some_iff.1 ho).1
  have hcase : ix = 0 ∨ ix = 1 ∨ ix = 2 ∨ ix = 3 ∨ ix = 4 ∨ ix = 5 ∨ ix = 6 ∨ ix = 7 ∨ ix = 8 ∨ ix = 9 ∨ ix = 10 ∨ ix = 11 ∨ ix = 12 ∨ ix = 13 ∨ ix = 14 ∨ ix = 15 ∨ ix = 16 ∨ ix = 17 ∨ ix = 18 ∨ ix = 19 := by omega
  clear hi
  rcases hcase with rfl | rfl | rfl | rfl | rfl | rfl | rfl | rfl | rfl | rfl | rfl | rfl | rfl | rfl | rfl | rfl | rfl | rfl | rfl | rfl
  ·obtain rfl := oI ho
   have q2 : a.tmps[2]?.getD undef = Value.pointer (some ⟨w.heap.size, 0, none⟩) := hI.old 2 (noDst_spec (by kernel_rfl))
   clear hdep hI ho hF
   go_simp
   exact hK (by decide) (Value.pointer (some ⟨w.heap.size, 4, none⟩)) _ (fun u hu => oV hu) (Below.refl _ _) (fct_none rfl)
  ·obtain rfl := oI ho
   have d0 : listed.getD 0 false = true := hdep ⟨0, .data⟩ (by simp) rfl
   have q21 : a.tmps[21]?.getD undef = Value.pointer (some ⟨w.heap.size, 4, none⟩) := hI.val 0 _ 21 _ rfl rfl rfl d0
   have x := (HS.out.after hB).c 4 rfl
   clear hdep hI ho hF
   go_simp
   exact hK (by decide) (Value.int .i64 r) _ (fun u hu => oV hu) (Below.refl _ _) (fct_none rfl)
  ·obtain rfl := oI ho
   have d1 : listed.getD 1 false = true := hdep ⟨1, .data⟩ (by simp) rfl
   have q22 : a.tmps[22]?.getD undef = Value.int .i64 r := hI.val 1 _ 22 _ rfl rfl rfl d1
   clear hdep hI ho hF
   go_simp
   refine (KHO1.out _).mono ?_
   rintro e W2 ⟨rfl, hb⟩
   exact hK (by decide) (Value.agg #[.bool rs, .int .u64 rc0, .int .u64 rc1, .int .u64 rc2, .int .u64 rc3]) _ (fun u hu => oV hu) hb (fct_none rfl)
  ·obtain rfl := oI ho
   have q2 : a.tmps[2]?.getD undef = Value.pointer (some ⟨w.heap.size, 0, none⟩) := hI.old 2 (noDst_spec (by kernel_rfl))
   clear hdep hI ho hF
   go_simp
   exact hK (by decide) (Value.pointer (some ⟨w.heap.size, 0, none⟩)) _ (fun u hu => oV hu) (Below.refl _ _) (fct_none rfl)
  ·obtain rfl := oI ho
   have d3 : listed.getD 3 false = true := hdep ⟨3, .data⟩ (by simp) rfl
   have q24 : a.tmps[24]?.getD undef = Value.pointer (some ⟨w.heap.size, 0, none⟩) := hI.val 3 _ 24 _ rfl rfl rfl d3
   clear hdep hI ho hF
   go_simp
   exact hK (by decide) (Value.pointer (some ⟨w.heap.size, 0, none⟩)) _ (fun u hu => oV hu) (Below.refl _ _) (fct_none rfl)
  ·obtain rfl := oI ho
   have d4 : listed.getD 4 false = true := hdep ⟨4, .data⟩ (by simp) rfl
   have q25 : a.tmps[25]?.getD undef = Value.pointer (some ⟨w.heap.size, 0, none⟩) := hI.val 4 _ 25 _ rfl rfl rfl d4
   clear hdep hI ho hF
   go_simp
   exact hK (by decide) (Value.pointer (some ⟨w.heap.size, 1, none⟩)) _ (fun u hu => oV hu) (Below.refl _ _) (fct_none rfl)
  ·obtain rfl := oI ho
   have d5 : listed.getD 5 false = true := hdep ⟨5, .data⟩ (by simp) rfl
   have q26 : a.tmps[26]?.getD undef = Value.pointer (some ⟨w.heap.size, 1, none⟩) := hI.val 5 _ 26 _ rfl rfl rfl d5
   have x := (HS.out.after hB).c 1 rfl
   clear hdep hI ho hF
   go_simp
   exact hK (by decide) (Value.int .i64 ay) _ (fun u hu => oV hu) (Below.refl _ _) (fct_none rfl)
  ·obtain rfl := oI ho
   have q3 : a.tmps[3]?.getD undef = Value.pointer (some ⟨w.heap.size + 1, 0, none⟩) := hI.old 3 (noDst_spec (by kernel_rfl))
   clear hdep hI ho hF
   go_simp
   exact hK (by decide) (Value.pointer (some ⟨w.heap.size + 1, 10, none⟩)) _ (fun u hu => oV hu) (Below.refl _ _) (fct_none rfl)
  ·obtain rfl := oI ho
   have d7 : listed.getD 7 false = true := hdep ⟨7, .data⟩ (by simp) rfl
   have q28 : a.tmps[28]?.getD undef = Value.pointer (some ⟨w.heap.size + 1, 10, none⟩) := hI.val 7 _ 28 _ rfl rfl rfl d7
   have x0 := (HT.out.after hB).c 10 rfl
   have x1 := (HT.out.after hB).c 11 rfl
   have x2 := (HT.out.after hB).c 12 rfl
   have x3 := (HT.out.after hB).c 13 rfl
   have x4 := (HT.out.after hB).c 14 rfl
   have x5 := (HT.out.after hB).c 15 rfl
   have x6 := (HT.out.after hB).c 16 rfl
   have x7 := (HT.out.after hB).c 17 rfl
   have x8 := (HT.out.after hB).c 18 rfl
   have x9 := (HT.out.after hB).c 19 rfl
   clear hdep hI ho hF
   go_simp
   exact hK (by decide) (Value.agg #[.bool yns, .int .u64 ync0, .int .u64 ync1, .int .u64 ync2, .int .u64 ync3, .bool yds, .int .u64 ydc0, .int .u64 ydc1, .int .u64 ydc2, .int .u64 ydc3]) _ (fun u hu => oV hu) (Below.refl _ _) (fct_none rfl)
  ·obtain rfl := oI ho
   have d6 : listed.getD 6 false = true := hdep ⟨6, .data⟩ (by simp) rfl
   have q27 : a.tmps[27]?.getD undef = Value.int .i64 ay := hI.val 6 _ 27 _ rfl rfl rfl d6
   have d8 : listed.getD 8 false = true := hdep ⟨8, .data⟩ (by simp) rfl
   have q29 : a.tmps[29]?.getD undef = Value.agg #[.bool yns, .int .u64 ync0, .int .u64 ync1, .int .u64 ync2, .int .u64 ync3, .bool yds, .int .u64 ydc0, .int .u64 ydc1, .int .u64 ydc2, .int .u64 ydc3] := hI.val 8 _ 29 _ rfl rfl rfl d8
   clear hdep hI ho hF
   go_simp
   refine (KHW1.out _).mono ?_
   rintro e W2 ⟨rfl, hb⟩
   exact hK (by decide) (Value.agg #[.bool A1s, .int .u64 A1c0, .int .u64 A1c1, .int .u64 A1c2, .int .u64 A1c3]) _ (fun u hu => oV hu) hb (fct_none rfl)
  ·obtain rfl := oI ho
   have q3 : a.tmps[3]?.getD undef = Value.pointer (some ⟨w.heap.size + 1, 0, none⟩) := hI.old 3 (noDst_spec (by kernel_rfl))
   clear hdep hI ho hF
   go_simp
   exact hK (by decide) (Value.pointer (some ⟨w.heap.size + 1, 0, none⟩)) _ (fun u hu => oV hu) (Below.refl _ _) (fct_none rfl)
  ·obtain rfl := oI ho
   have d10 : listed.getD 10 false = true := hdep ⟨10, .data⟩ (by simp) rfl
   have q31 : a.tmps[31]?.getD undef = Value.pointer (some ⟨w.heap.size + 1, 0, none⟩) := hI.val 10 _ 31 _ rfl rfl rfl d10
   clear hdep hI ho hF
   go_simp
   exact hK (by decide) (Value.pointer (some ⟨w.heap.size + 1, 5, none⟩)) _ (fun u hu => oV hu) (Below.refl _ _) (fct_none rfl)
  ·obtain rfl := oI ho
   have d11 : listed.getD 11 false = true := hdep ⟨11, .data⟩ (by simp) rfl
   have q32 : a.tmps[32]?.getD undef = Value.pointer (some ⟨w.heap.size + 1, 5, none⟩) := hI.val 11 _ 32 _ rfl rfl rfl d11
   have x0 := (HT.out.after hB).c 5 rfl
   have x1 := (HT.out.after hB).c 6 rfl
   have x2 := (HT.out.after hB).c 7 rfl
   have x3 := (HT.out.after hB).c 8 rfl
   have x4 := (HT.out.after hB).c 9 rfl
   clear hdep hI ho hF
   go_simp
   exact hK (by decide) (Value.agg #[.bool xds, .int .u64 xdc0, .int .u64 xdc1, .int .u64 xdc2, .int .u64 xdc3]) _ (fun u hu => oV hu) (Below.refl _ _) (fct_none rfl)
  ·obtain rfl := oI ho
   have d2 : listed.getD 2 false = true := hdep ⟨2, .data⟩ (by simp) rfl
   have q23 : a.tmps[23]?.getD undef = Value.agg #[.bool rs, .int .u64 rc0, .int .u64 rc1, .int .u64 rc2, .int .u64 rc3] := hI.val 2 _ 23 _ rfl rfl rfl d2
   have d9 : listed.getD 9 false = true := hdep ⟨9, .data⟩ (by simp) rfl
   have q30 : a.tmps[30]?.getD undef = Value.agg #[.bool A1s, .int .u64 A1c0, .int .u64 A1c1, .int .u64 A1c2, .int .u64 A1c3] := hI.val 9 _ 30 _ rfl rfl rfl d9
   have d12 : listed.getD 12 false = true := hdep ⟨12, .data⟩ (by simp) rfl
   have q33 : a.tmps[33]?.getD undef = Value.agg #[.bool xds, .int .u64 xdc0, .int .u64 xdc1, .int .u64 xdc2, .int .u64 xdc3] := hI.val 12 _ 33 _ rfl rfl rfl d12
   clear hdep hI ho hF
   go_simp
   exact hK (by decide) (.slice (some ⟨W.heap.size, 0, none⟩) 3 3) _ (fun u hu => nV hu) ((Below.refl _ _).alloc (Nat.le_refl _) _) (fun p hp e => by
    simp only [List.mem_cons, List.not_mem_nil, or_false] at hp
    rcases hp with rfl | rfl
    ·exact ⟨W.heap.size, rfl, Row.at rfl _ _⟩
    ·exact absurd e (fct_ne (i := 18) rfl))
  ·obtain rfl := oI ho
   have d13 : listed.getD 13 false = true := hdep ⟨13, .data⟩ (by simp) rfl
   obtain ⟨k, hq1, hr⟩ := hF (slFct 13 34 [.bool rs, .int .u64 rc0, .int .u64 rc1, .int .u64 rc2, .int .u64 rc3, .bool A1s, .int .u64 A1c0, .int .u64 A1c1, .int .u64 A1c2, .int .u64 A1c3, .bool xds, .int .u64 xdc0, .int .u64 xdc1, .int .u64 xdc2, .int .u64 xdc3]) (by simp) d13
   have q34 : a.tmps[34]?.getD undef = Value.slice (some ⟨k, 0, none⟩) 3 3 := hq1
   have HC := Lib.hid (KHM1.out W k hr)
   clear hdep hI ho hF hq1
   go_simp
   refine HC.out.mono ?_
   rintro e W2 ⟨rfl, hb⟩
   exact hK (by decide) (Value.tuple #[Value.agg #[.bool P1s, .int .u64 P1c0, .int .u64 P1c1, .int .u64 P1c2, .int .u64 P1c3], Value.int .i64 0]) _ (fun u hu => oV hu) hb (fct_none rfl)
  ·obtain rfl := oI ho
   have d14 : listed.getD 14 false = true := hdep ⟨14, .data⟩ (by simp) rfl
   have q35 : a.tmps[35]?.getD undef = Value.tuple #[Value.agg #[.bool P1s, .int .u64 P1c0, .int .u64 P1c1, .int .u64 P1c2, .int .u64 P1c3], Value.int .i64 0] := hI.val 14 _ 35 _ rfl rfl rfl d14
   clear hdep hI ho hF
   go_simp
   exact hK (by decide) (Value.agg #[.bool P1s, .int .u64 P1c0, .int .u64 P1c1, .int .u64 P1c2, .int .u64 P1c3]) _ (fun u hu => oV hu) (Below.refl _ _) (fct_none rfl)
  ·obtain rfl := oI ho
   have d14 : listed.getD 14 false = true := hdep ⟨14, .data⟩ (by simp) rfl
   have q35 : a.tmps[35]?.getD undef = Value.tuple #[Value.agg #[.bool P1s, .int .u64 P1c0, .int .u64 P1c1, .int .u64 P1c2, .int .u64 P1c3], Value.int .i64 0] := hI.val 14 _ 35 _ rfl rfl rfl d14
   clear hdep hI ho hF
   go_simp
   exact hK (by decide) (Value.int .i64 0) _ (fun u hu => oV hu) (Below.refl _ _) (fct_none rfl)
  ·obtain rfl := oI ho
   have d15 : listed.getD 15 false = true := hdep ⟨15, .data⟩ (by simp) rfl
   have q36 : a.tmps[36]?.getD undef = Value.agg #[.bool P1s, .int .u64 P1c0, .int .u64 P1c1, .int .u64 P1c2, .int .u64 P1c3] := hI.val 15 _ 36 _ rfl rfl rfl d15
   have d16 : listed.getD 16 false = true := hdep ⟨16, .data⟩ (by simp) rfl
   have q37 : a.tmps[37]?.getD undef = Value.int .i64 0 := hI.val 16 _ 37 _ rfl rfl rfl d16
   clear hdep hI ho hF
   go_simp
   refine (KHI1.out _).mono ?_
   rintro e W2 ⟨rfl, hb⟩
   exact hK (by decide) (Value.agg #[.bool P1s, .int .u64 P1c0, .int .u64 P1c1, .int .u64 P1c2, .int .u64 P1c3]) _ (fun u hu => oV hu) hb (fct_none rfl)
  ·obtain rfl := oI ho
   clear hdep hI ho hF
   go_simp
   exact hK (by decide) (.pointer (some ⟨W.heap.size, 0, none⟩)) _ (fun u hu => nV hu) ((Below.refl _ _).alloc (Nat.le_refl _) _) (fun p hp e => by
    simp only [List.mem_cons, List.not_mem_nil, or_false] at hp
    rcases hp with rfl | rfl
    ·exact absurd e (fct_ne (i := 13) rfl)
    ·exact ⟨W.heap.size, rfl, hB.size, Row.at rfl _ _⟩)
  ·obtain rfl := oI ho
   have d17 : listed.getD 17 false = true := hdep ⟨17, .data⟩ (by simp) rfl
   have q38 : a.tmps[38]?.getD undef = Value.agg #[.bool P1s, .int .u64 P1c0, .int .u64 P1c1, .int .u64 P1c2, .int .u64 P1c3] := hI.val 17 _ 38 _ rfl rfl rfl d17
   have d18 : listed.getD 18 false = true := hdep ⟨18, .data⟩ (by simp) rfl
   obtain ⟨C, hq2, hl, hr⟩ := hF (newFctS 18 7 W3.heap.size [.bool false, .int .u64 0, .int .u64 0, .int .u64 0, .int .u64 0]) (by simp) d18
   have q7 : a.tmps[7]?.getD undef = Value.pointer (some ⟨C, 0, none⟩) := hq2
   have z0 := hr.c 0 rfl
   have z1 := hr.c 1 rfl
   have z2 := hr.c 2 rfl
   have z3 := hr.c 3 rfl
   have z4 := hr.c 4 rfl
   have w0 := hr.f 0 rfl
   have w1 := hr.f 1 rfl
   have w2 := hr.f 2 rfl
   have w3 := hr.f 3 rfl
   have w4 := hr.f 4 rfl
   clear hdep hI ho hF
   go_simp
   exact hKf rfl undef _ (fun u hu => nV hu) ⟨C, hq2, hl, hr.putAll [_, _, _, _, _] rfl, below_on hB (On.setCells _ C [_, _, _, _, _] 0 _ (On.refl _ C)) hl⟩
 ·intro listed a W hI hall hfin hend
  obtain ⟨C, hq, hlC, hrC, hbW⟩ := hfin (by decide)
  obtain ⟨f, hf⟩ : ∃ f : Nat → Value, ∀ t, slotOf a t = f t := ⟨_, fun _ => rfl⟩
  have ha := hI.frame [21, 22, 23, 24, 25, 26, 27, 28, 29, 30, 31, 32, 33, 34, 35, 36, 37, 38, 7] (by kernel_rfl) f hf
  have e7 : f 7 = .pointer (some ⟨C, 0, none⟩) := (hf 7).symm.trans hq
  clear hf hI hq hall hfin hend
  subst ha
  simp only [setAll, List.foldl_cons, List.foldl_nil, List.setIfInBounds_toArray, List.set_cons_zero, List.set_cons_succ, e7]
  generalize hWW : W = W5 at *
  clear hWW
  have hB5 := hb0.trans (hbW.mono hb0.size)
  have HS5 := Lib.hid (HS.out.after hbW)
  have HT5 := Lib.hid (HT.out.after hbW)
  clear HS HT hb0 hbW
  have HS := HS5
  have HT := HT5
  have hb0 := hB5
  clear HS5 HT5 hB5
  go_upto_region 6 with fail
  refine wp_region_fct (by kernel_rfl) [] (fun ix => match ix with
   | 0 => some (Value.pointer (some ⟨w.heap.size, 5, none⟩))
   | 1 => some (Value.int .i64 u)
   | 2 => some (Value.agg #[.bool us, .int .u64 uc0, .int .u64 uc1, .int .u64 uc2, .int .u64 uc3])
   | 3 => some (Value.pointer (some ⟨w.heap.size, 0, none⟩))
   | 4 => some (Value.pointer (some ⟨w.heap.size, 0, none⟩))
   | 5 => some (Value.pointer (some ⟨w.heap.size, 0, none⟩))
   | 6 => some (Value.int .i64 ax)
   | 7 => some (Value.pointer (some ⟨w.heap.size + 1, 0, none⟩))
   | 8 => some (Value.agg #[.bool xns, .int .u64 xnc0, .int .u64 xnc1, .int .u64 xnc2, .int .u64 xnc3, .bool xds, .int .u64 xdc0, .int .u64 xdc1, .int .u64 xdc2, .int .u64 xdc3])
   | 9 => some (Value.agg #[.bool A2s, .int .u64 A2c0, .int .u64 A2c1, .int .u64 A2c2, .int .u64 A2c3])
   | 10 => some (Value.pointer (some ⟨w.heap.size + 1, 10, none⟩))
   | 11 => some (Value.pointer (some ⟨w.heap.size + 1, 15, none⟩))
   | 12 => some (Value.agg #[.bool yds, .int .u64 ydc0, .int .u64 ydc1, .int .u64 ydc2, .int .u64 ydc3])
   | 14 => some (Value.tuple #[Value.agg #[.bool P2s, .int .u64 P2c0, .int .u64 P2c1, .int .u64 P2c2, .int .u64 P2c3], Value.int .i64 0])
   | 15 => some (Value.agg #[.bool P2s, .int .u64 P2c0, .int .u64 P2c1, .int .u64 P2c2, .int .u64 P2c3])
   | 16 => some (Value.int .i64 0)
   | 17 => some (Value.agg #[.bool P2s, .int .u64 P2c0, .int .u64 P2c1, .int .u64 P2c2, .int .u64 P2c3])
   | _ => none) (by intro j hj; cases hj) 19 [slFct 13 52 [.bool us, .int .u64 uc0, .int .u64 uc1, .int .u64 uc2, .int .u64 uc3, .bool A2s, .int .u64 A2c0, .int .u64 A2c1, .int .u64 A2c2, .int .u64 A2c3, .bool yds, .int .u64 ydc0, .int .u64 ydc1, .int .u64 ydc2, .int .u64 ydc3], newFctS 18 8 W5.heap.size [.bool false, .int .u64 0, .int .u64 0, .int .u64 0, .int .u64 0]] (fun sl W => ∃ C, sl 8 = .pointer (some ⟨C, 0, none⟩) ∧ W5.heap.size ≤ C ∧ Row W C [.bool P2s, .int .u64 P2c0, .int .u64 P2c1, .int .u64 P2c2, .int .u64 P2c3] ∧ Below W5.heap.size W5 W) (by kernel_rfl) (by kernel_rfl) (by rfl) ?_ ?_
  ·intro listed a W ix o hI ho hdep hB hF K hK hKf
   have hi : ix < 20 := (Array.getElem?_eq_some_iff.1 ho).1
   have hcase : ix = 0 ∨ ix = 1 ∨ ix = 2 ∨ ix = 3 ∨ ix = 4 ∨ ix = 5 ∨ ix = 6 ∨ ix = 7 ∨ ix = 8 ∨ ix = 9 ∨ ix = 10 ∨ ix = 11 ∨ ix = 12 ∨ ix = 13 ∨ ix = 14 ∨ ix = 15 ∨ ix = 16 ∨ ix = 17 ∨ ix = 18 ∨ ix = 19 := by omega
   clear hi
   rcases hcase with rfl | rfl | rfl | rfl | rfl | rfl | rfl | rfl | rfl | rfl | rfl | rfl | rfl | rfl | rfl | rfl | rfl | rfl | rfl | rfl
   ·obtain rfl := oI ho
    have q2 : a.tmps[2]?.getD undef = Value.pointer (some ⟨w.heap.size, 0, none⟩) := hI.old 2 (noDst_spec (by kernel_rfl))
    clear hdep hI ho hF
    go_simp
    exact hK (by decide) (Value.pointer (some ⟨w.heap.size, 5, none⟩)) _ (fun u hu => oV hu) (Below.refl _ _) (fct_none rfl)
   ·obtain rfl := oI ho
    have d0 : listed.getD 0 false = true := hdep ⟨0, .data⟩ (by simp) rfl
    have q39 : a.tmps[39]?.getD undef = Value.pointer (some ⟨w.heap.size, 5, none⟩) := hI.val 0 _ 39 _ rfl rfl rfl d0
    have x := (HS.out.after hB).c 5 rfl
    clear hdep hI ho hF
    go_simp
    exact hK (by decide) (Value.int .i64 u) _ (fun u hu => oV hu) (Below.refl _ _) (fct_none rfl)
   ·obtain rfl := oI ho
    have d1 : listed.getD 1 false = true := hdep ⟨1, .data⟩ (by simp) rfl
    have q40 : a.tmps[40]?.getD undef = Value.int .i64 u := hI.val 1 _ 40 _ rfl rfl rfl d1
    clear hdep hI ho hF
    go_simp
    refine (KHO2.out _).mono ?_
    rintro e W2 ⟨rfl, hb⟩
    exact hK (by decide) (Value.agg #[.bool us, .int .u64 uc0, .int .u64 uc1, .int .u64 uc2, .int .u64 uc3]) _ (fun u hu => oV hu) hb (fct_none rfl)
   ·obtain rfl := oI ho
    have q2 : a.tmps[2]?.getD undef = Value.pointer (some ⟨w.heap.size, 0, none⟩) := hI.old 2 (noDst_spec (by kernel_rfl))
    clear hdep hI ho hF
    go_simp
    exact hK (by decide) (Value.pointer (some ⟨w.heap.size, 0, none⟩)) _ (fun u hu => oV hu) (Below.refl _ _) (fct_none rfl)
   ·obtain rfl := oI ho
    have d3 : listed.getD 3 false = true := hdep ⟨3, .data⟩ (by simp) rfl
    have q42 : a.tmps[42]?.getD undef = Value.pointer (some ⟨w.heap.size, 0, none⟩) := hI.val 3 _ 42 _ rfl rfl rfl d3
    clear hdep hI ho hF
    go_simp
    exact hK (by decide) (Value.pointer (some ⟨w.heap.size, 0, none⟩)) _ (fun u hu => oV hu) (Below.refl _ _) (fct_none rfl)
   ·obtain rfl := oI ho
    have d4 : listed.getD 4 false = true := hdep ⟨4, .data⟩ (by simp) rfl
    have q43 : a.tmps[43]?.getD undef = Value.pointer (some ⟨w.heap.size, 0, none⟩) := hI.val 4 _ 43 _ rfl rfl rfl d4
    clear hdep hI ho hF
    go_simp
    exact hK (by decide) (Value.pointer (some ⟨w.heap.size, 0, none⟩)) _ (fun u hu => oV hu) (Below.refl _ _) (fct_none rfl)
   ·obtain rfl := oI ho
    have d5 : listed.getD 5 false = true := hdep ⟨5, .data⟩ (by simp) rfl
    have q44 : a.tmps[44]?.getD undef = Value.pointer (some ⟨w.heap.size, 0, none⟩) := hI.val 5 _ 44 _ rfl rfl rfl d5
    have x := (HS.out.after hB).c 0 rfl
    clear hdep hI ho hF
    go_simp
    exact hK (by decide) (Value.int .i64 ax) _ (fun u hu => oV hu) (Below.refl _ _) (fct_none rfl)
   ·obtain rfl := oI ho
    have q3 : a.tmps[3]?.getD undef = Value.pointer (some ⟨w.heap.size + 1, 0, none⟩) := hI.old 3 (noDst_spec (by kernel_rfl))
    clear hdep hI ho hF
    go_simp
    exact hK (by decide) (Value.pointer (some ⟨w.heap.size + 1, 0, none⟩)) _ (fun u hu => oV hu) (Below.refl _ _) (fct_none rfl)
   ·obtain rfl := oI ho
    have d7 : listed.getD 7 false = true := hdep ⟨7, .data⟩ (by simp) rfl
    have q46 : a.tmps[46]?.getD undef = Value.pointer (some ⟨w.heap.size + 1, 0, none⟩) := hI.val 7 _ 46 _ rfl rfl rfl d7
    have x0 := (HT.out.after hB).c 0 rfl
    have x1 := (HT.out.after hB).c 1 rfl
    have x2 := (HT.out.after hB).c 2 rfl
    have x3 := (HT.out.after hB).c 3 rfl
    have x4 := (HT.out.after hB).c 4 rfl
    have x5 := (HT.out.after hB).c 5 rfl
    have x6 := (HT.out.after hB).c 6 rfl
    have x7 := (HT.out.after hB).c 7 rfl
    have x8 := (HT.out.after hB).c 8 rfl
    have x9 := (HT.out.after hB).c 9 rfl
    clear hdep hI ho hF
    go_simp
    exact hK (by decide) (Value.agg #[.bool xns, .int .u64 xnc0, .int .u64 xnc1, .int .u64 xnc2, .int .u64 xnc3, .bool xds, .int .u64 xdc0, .int .u64 xdc1, .int .u64 xdc2, .int .u64 xdc3]) _ (fun u hu => oV hu) (Below.refl _ _) (fct_none rfl)
   ·obtain rfl := oI ho
    have d6 : listed.getD 6 false = true := hdep ⟨6, .data⟩ (by simp) rfl
    have q45 : a.tmps[45]?.getD undef = Value.int .i64 ax := hI.val 6 _ 45 _ rfl rfl rfl d6
    have d8 : listed.getD 8 false = true := hdep ⟨8, .data⟩ (by simp) rfl
    have q47 : a.tmps[47]?.getD undef = Value.agg #[.bool xns, .int .u64 xnc0, .int .u64 xnc1, .int .u64 xnc2, .int .u64 xnc3, .bool xds, .int .u64 xdc0, .int .u64 xdc1, .int .u64 xdc2, .int .u64 xdc3] := hI.val 8 _ 47 _ rfl rfl rfl d8
    clear hdep hI ho hF
    go_simp
    refine (KHW2.out _).mono ?_
    rintro e W2 ⟨rfl, hb⟩
    exact hK (by decide) (Value.agg #[.bool A2s, .int .u64 A2c0, .int .u64 A2c1, .int .u64 A2c2, .int .u64 A2c3]) _ (fun u hu => oV hu) hb (fct_none rfl)
   ·obtain rfl := oI ho
    have q3 : a.tmps[3]?.getD undef = Value.pointer (some ⟨w.heap.size + 1, 0, none⟩) := hI.old 3 (noDst_spec (by kernel_rfl))
    clear hdep hI ho hF
    go_simp
    exact hK (by decide) (Value.pointer (some ⟨w.heap.size + 1, 10, none⟩)) _ (fun u hu => oV hu) (Below.refl _ _) (fct_none rfl)
   ·obtain rfl := oI ho
    have d10 : listed.getD 10 false = true := hdep ⟨10, .data⟩ (by simp) rfl
    have q49 : a.tmps[49]?.getD undef = Value.pointer (some ⟨w.heap.size + 1, 10, none⟩) := hI.val 10 _ 49 _ rfl rfl rfl d10
    clear hdep hI ho hF
    go_simp
    exact hK (by decide) (Value.pointer (some ⟨w.heap.size + 1, 15, none⟩)) _ (fun u hu => oV hu) (Below.refl _ _) (fct_none rfl)
   ·obtain rfl := oI ho
    have d11 : listed.getD 11 false = true := hdep ⟨11, .data⟩ (by simp) rfl
    have q50 : a.tmps[50]?.getD undef = Value.pointer (some ⟨w.heap.size + 1, 15, none⟩) := hI.val 11 _ 50 _ rfl rfl rfl d11
    have x0 := (HT.out.after hB).c 15 rfl
    have x1 := (HT.out.after hB).c 16 rfl
    have x2 := (HT.out.after hB).c 17 rfl
    have x3 := (HT.out.after hB).c 18 rfl
    have x4 := (HT.out.after hB).c 19 rfl
    clear hdep hI ho hF
    go_simp
    exact hK (by decide) (Value.agg #[.bool yds, .int .u64 ydc0, .int .u64 ydc1, .int .u64 ydc2, .int .u64 ydc3]) _ (fun u hu => oV hu) (Below.refl _ _) (fct_none rfl)
   ·obtain rfl := oI ho
    have d2 : listed.getD 2 false = true := hdep ⟨2, .data⟩ (by simp) rfl
    have q41 : a.tmps[41]?.getD undef = Value.agg #[.bool us, .int .u64 uc0, .int .u64 uc1, .int .u64 uc2, .int .u64 uc3] := hI.val 2 _ 41 _ rfl rfl rfl d2
    have d9 : listed.getD 9 false = true := hdep ⟨9, .data⟩ (by simp) rfl
    have q48 : a.tmps[48]?.getD undef = Value.agg #[.bool A2s, .int .u64 A2c0, .int .u64 A2c1, .int .u64 A2c2, .int .u64 A2c3] := hI.val 9 _ 48 _ rfl rfl rfl d9
    have d12 : listed.getD 12 false = true := hdep ⟨12, .data⟩ (by simp) rfl
    have q51 : a.tmps[51]?.getD undef = Value.agg #[.bool yds, .int .u64 ydc0, .int .u64 ydc1, .int .u64 ydc2, .int .u64 ydc3] := hI.val 12 _ 51 _ rfl rfl rfl d12
    clear hdep hI ho hF
    go_simp
    exact hK (by decide) (.slice (some ⟨W.heap.size, 0, none⟩) 3 3) _ (fun u hu => nV hu) ((Below.refl _ _).alloc (Nat.le_refl _) _) (fun p hp e => by
     simp only [List.mem_cons, List.not_mem_nil, or_false] at hp
     rcases hp with rfl | rfl
     ·exact ⟨W.heap.size, rfl, Row.at rfl _ _⟩
     ·exact absurd e (fct_ne (i := 18) rfl))
   ·obtain rfl := oI ho
    have d13 : listed.getD 13 false = true := hdep ⟨13, .data⟩ (by simp) rfl
    obtain ⟨k, hq1, hr⟩ := hF (slFct 13 52 [.bool us, .int .u64 uc0, .int .u64 uc1, .int .u64 uc2, .int .u64 uc3, .bool A2s, .int .u64 A2c0, .int .u64 A2c1, .int .u64 A2c2, .int .u64 A2c3, .bool yds, .int .u64 ydc0, .int .u64 ydc1, .int .u64 ydc2, .int .u64 ydc3]) (by simp) d13
    have q52 : a.tmps[52]?.getD undef = Value.slice (some ⟨k, 0, none⟩) 3 3 := hq1
    have HC := Lib.hid (KHM2.out W k hr)
    clear hdep hI ho hF hq1
    go_simp
    refine HC.out.mono ?_
    rintro e W2 ⟨rfl, hb⟩
    exact hK (by decide) (Value.tuple #[Value.agg #[.bool P2s, .int .u64 P2c0, .int .u64 P2c1, .int .u64 P2c2, .int .u64 P2c3], Value.int .i64 0]) _ (fun u hu => oV hu) hb (fct_none rfl)
   ·obtain rfl := oI ho
    have d14 : listed.getD 14 false = true := hdep ⟨14, .data⟩ (by simp) rfl
    have q53 : a.tmps[53]?.getD undef = Value.tuple #[Value.agg #[.bool P2s, .int .u64 P2c0, .int .u64 P2c1, .int .u64 P2c2, .int .u64 P2c3], Value.int .i64 0] := hI.val 14 _ 53 _ rfl rfl rfl d14
    clear hdep hI ho hF
    go_simp
    exact hK (by decide) (Value.agg #[.bool P2s, .int .u64 P2c0, .int .u64 P2c1, .int .u64 P2c2, .int .u64 P2c3]) _ (fun u hu => oV hu) (Below.refl _ _) (fct_none rfl)
   ·obtain rfl := oI ho
    have d14 : listed.getD 14 false = true := hdep ⟨14, .data⟩ (by simp) rfl
    have q53 : a.tmps[53]?.getD undef = Value.tuple #[Value.agg #[.bool P2s, .int .u64 P2c0, .int .u64 P2c1, .int .u64 P2c2, .int .u64 P2c3], Value.int .i64 0] := hI.val 14 _ 53 _ rfl rfl rfl d14
    clear hdep hI ho hF
    go_simp
    exact hK (by decide) (Value.int .i64 0) _ (fun u hu => oV hu) (Below.refl _ _) (fct_none rfl)
   ·obtain rfl := oI ho
    have d15 : listed.getD 15 false = true := hdep ⟨15, .data⟩ (by simp) rfl
    have q54 : a.tmps[54]?.getD undef = Value.agg #[.bool P2s, .int .u64 P2c0, .int .u64 P2c1, .int .u64 P2c2, .int .u64 P2c3] := hI.val 15 _ 54 _ rfl rfl rfl d15
    have d16 : listed.getD 16 false = true := hdep ⟨16, .data⟩ (by simp) rfl
    have q55 : a.tmps[55]?.getD undef = Value.int .i64 0 := hI.val 16 _ 55 _ rfl rfl rfl d16
    clear hdep hI ho hF
    go_simp
    refine (KHI2.out _).mono ?_
    rintro e W2 ⟨rfl, hb⟩
    exact hK (by decide) (Value.agg #[.bool P2s, .int .u64 P2c0, .int .u64 P2c1, .int .u64 P2c2, .int .u64 P2c3]) _ (fun u hu => oV hu) hb (fct_none rfl)
   ·obtain rfl := oI ho
    clear hdep hI ho hF
    go_simp
    exact hK (by decide) (.pointer (some ⟨W.heap.size, 0, none⟩)) _ (fun u hu => nV hu) ((Below.refl _ _).alloc (Nat.le_refl _) _) (fun p hp e => by
     simp only [List.mem_cons, List.not_mem_nil, or_false] at hp
     rcases hp with rfl | rfl
     ·exact absurd e (fct_ne (i := 13) rfl)
     ·exact ⟨W.heap.size, rfl, hB.size, Row.at rfl _ _⟩)
   ·obtain rfl := oI ho
    have d17 : listed.getD 17 false = true := hdep ⟨17, .data⟩ (by simp) rfl
    have q56 : a.tmps[56]?.getD undef = Value.agg #[.bool P2s, .int .u64 P2c0, .int .u64 P2c1, .int .u64 P2c2, .int .u64 P2c3] := hI.val 17 _ 56 _ rfl rfl rfl d17
    have d18 : listed.getD 18 false = true := hdep ⟨18, .data⟩ (by simp) rfl
    obtain ⟨C, hq2, hl, hr⟩ := hF (newFctS 18 8 W5.heap.size [.bool false, .int .u64 0, .int .u64 0, .int .u64 0, .int .u64 0]) (by simp) d18
    have q8 : a.tmps[8]?.getD undef = Value.pointer (some ⟨C, 0, none⟩) := hq2
    have z0 := hr.c 0 rfl
    have z1 := hr.c 1 rfl
    have z2 := hr.c 2 rfl
    have z3 := hr.c 3 rfl
    have z4 := hr.c 4 rfl
    have w0 := hr.f 0 rfl
    have w1 := hr.f 1 rfl
    have w2 := hr.f 2 rfl
    have w3 := hr.f 3 rfl
    have w4 := hr.f 4 rfl
    clear hdep hI ho hF
    go_simp
    exact hKf rfl undef _ (fun u hu => nV hu) ⟨C, hq2, hl, hr.putAll [_, _, _, _, _] rfl, below_on hB (On.setCells _ C [_, _, _, _, _] 0 _ (On.refl _ C)) hl⟩
  ·intro listed a W hI hall hfin hend
   obtain ⟨D, hq, hlD, hrD, hbW⟩ := hfin (by decide)
   obtain ⟨f, hf⟩ : ∃ f : Nat → Value, ∀ t, slotOf a t = f t := ⟨_, fun _ => rfl⟩
   have ha := hI.frame [39, 40, 41, 42, 43, 44, 45, 46, 47, 48, 49, 50, 51, 52, 53, 54, 55, 56, 8] (by kernel_rfl) f hf
   have e8 : f 8 = .pointer (some ⟨D, 0, none⟩) := (hf 8).symm.trans hq
   clear hf hI hq hall hfin hend
   subst ha
   simp only [setAll, List.foldl_cons, List.foldl_nil, List.setIfInBounds_toArray, List.set_cons_zero, List.set_cons_succ, e8]
   have rD := hrD
   have rC := hrC.after hbW
   have hB9 := hb0.trans (hbW.mono hb0.size)
   clear hrD hrC hbW hb0 HS HT
   have x0 := rC.c 0 rfl
   have y0 := rD.c 0 rfl
   have x1 := rC.c 1 rfl
   have y1 := rD.c 1 rfl
   have x2 := rC.c 2 rfl
   have y2 := rD.c 2 rfl
   have x3 := rC.c 3 rfl
   have y3 := rD.c 3 rfl
   have x4 := rC.c 4 rfl
   have y4 := rD.c 4 rfl
   go_wp2_with fail
   refine (KHC.out _).mono ?_
   rintro e W9 ⟨rfl, hb⟩
   have hB10 := hB9.trans (hb.mono hB9.size)
   clear hb
   go_wp2_with fail
   refine (must_word _ _).mono ?_
   rintro e W10 ⟨rfl, hb⟩
   have hB11 := hB10.trans (hb.mono hB10.size)
   go_wp2_with fail
   go_ret
   exact ⟨rfl, hB11⟩
end Go.Proofs.YtongeeggaigepaaGreatDoor

namespace Go.Proofs.YtongeeggaigepaaGreatDoor
open Go.RowKit Go.Sort CrossMath
theorem three_row {w : World} {b : Nat} {x y z : Int} (h : Row w b ((intA x).toList ++ (intA y).toList ++ (intA z).toList)) (zs : Nat → Int) (h0 : zs 0 = x) (h1 : zs 1 = y) (h2 : zs 2 = z) :
 IntsAt w b 0 3 (fun i => decide (zs i < 0)) (fun i k => (W64 (zs i).natAbs k : Nat)) := by
 subst h0
 subst h1
 subst h2
 intro i hi
 match i, hi with
 | 0, _ => exact ⟨h.c 0 rfl, h.c 1 rfl, h.c 2 rfl, h.c 3 rfl, h.c 4 rfl⟩
 | 1, _ => exact ⟨h.c 5 rfl, h.c 6 rfl, h.c 7 rfl, h.c 8 rfl, h.c 9 rfl⟩
 | 2, _ => exact ⟨h.c 10 rfl, h.c 11 rfl, h.c 12 rfl, h.c 13 rfl, h.c 14 rfl⟩
theorem mul3_num (x y z : Int) (b c : Nat) (w : World) (hx : x.natAbs < T256) (hy : y.natAbs < T256) (hz : z.natAbs < T256) (hxy : (x * y).natAbs < T256) (hp : (x * y * z).natAbs < T256)
 (hr : Row w b ((intA x).toList ++ (intA y).toList ++ (intA z).toList)) :
 Calls Tryz.prog 88 #[.slice (some ⟨b, 0, none⟩) 3 c] w fun e w' => e = .returned (.tuple #[.agg (intA (x * y * z)), .int .i64 0]) ∧ Below w.heap.size w w' := by
 have h := mul_nums (some ⟨b, 0, none⟩) b 0 3 c (fun i => if i = 0 then x else if i = 1 then y else z) w (by decide) hr.lt (three_row hr _ rfl rfl rfl) (by
  intro i hi
  match i, hi with
  | 0, _ => exact hx
  | 1, _ => exact hy
  | 2, _ => exact hz) (fun _ => rfl)
 have e1 : zfold (fun a b => a * b) (fun i => if i = 0 then x else if i = 1 then y else z) 1 1 = some x := by
  have := zfold_some (op := fun a b => a * b) (zs := fun i => if i = 0 then x else if i = 1 then y else z) (z0 := 1) (k := 0) rfl (by simp only [if_true, Int.one_mul]; exact hx)
  simpa using this
 have e2 : zfold (fun a b => a * b) (fun i => if i = 0 then x else if i = 1 then y else z) 1 2 = some (x * y) :=
  zfold_some (op := fun a b => a * b) (zs := fun i => if i = 0 then x else if i = 1 then y else z) (k := 1) e1 hxy
 have e3 : zfold (fun a b => a * b) (fun i => if i = 0 then x else if i = 1 then y else z) 1 3 = some (x * y * z) :=
  zfold_some (op := fun a b => a * b) (zs := fun i => if i = 0 then x else if i = 1 then y else z) (k := 2) e2 hp
 rw [e3] at h
 exact h
set_option maxRecDepth 100000 in
set_option maxHeartbeats 3200000 in
theorem side_node (P : Array Value) (ax ay bx bY r u x y v : Int) (w : World) (agP : AggTy Tryz.prog 46 P.size)
 (HG : ∀ W, Below w.heap.size w W → Calls Tryz.prog 85 #[.agg P] W fun e w' => e = .returned (.tuple #[nodeV x y, .bool true]) ∧ Below W.heap.size W w')
 (HT : ∀ W, Calls Tryz.prog 39 #[.agg (lineA ax ay bx bY r u), nodeV x y] W fun e w' => e = .returned (.int .i64 v) ∧ Below W.heap.size W w') :
 Calls Tryz.prog 50 #[.agg (lineA ax ay bx bY r u), .agg P] w fun e w' => e = .returned (.int .i64 v) ∧ Below w.heap.size w w' := by
 have KHG := Lib.hid HG
 have KHT := Lib.hid HT
 clear HG HT
 unfold nodeV at *
 go_enter Tryz.func50, Tryz.ntmps50
 go_upto_region 1 with fail
 generalize hW : World.alloc _ _ = W0
 have rS : Row W0 w.heap.size (lineA ax ay bx bY r u).toList := by rw [← hW]; exact (Row.at rfl [_, _, _, _, _, _] _).alloc _
 have rT : Row W0 (w.heap.size + 1) P.toList := by rw [← hW]; exact Row.at (by simp) _ _
 have hB : Below w.heap.size w W0 := by rw [← hW]; exact ((Below.refl _ _).alloc (Nat.le_refl _) _).alloc (by simp) _
 clear hW
 go_wp2_with (first | (refine wpList_load_R rfl _ _ rfl (w.heap.size + 1) rfl P rT agP ?_))
 refine (KHG.out _ hB).mono ?_
 rintro e W1 ⟨rfl, hb⟩
 replace rS := rS.after hb
 replace hB := hB.trans (hb.mono hB.size)
 clear hb rT
 go_upto_region 2 with fail
 generalize hW : World.alloc _ _ = W2
 have hN : Row W2 W1.heap.size [.int .i64 x, .int .i64 y] := by rw [← hW]; exact Row.at rfl [_, _] _
 have hu : Below W1.heap.size W1 W2 := by rw [← hW]; exact (Below.refl _ _).alloc (Nat.le_refl _) _
 replace rS := rS.after hu
 replace hB := hB.trans (hu.mono hB.size)
 clear hW hu
 generalize W1.heap.size = k5 at *
 have x0 := rS.c 0 rfl
 have x1 := rS.c 1 rfl
 have x2 := rS.c 2 rfl
 have x3 := rS.c 3 rfl
 have x4 := rS.c 4 rfl
 have x5 := rS.c 5 rfl
 have n0 := hN.c 0 rfl
 have n1 := hN.c 1 rfl
 go_wp2_with fail
 refine (KHT.out _).mono ?_
 rintro e W3 ⟨rfl, hb⟩
 replace hB := hB.trans (hb.mono hB.size)
 go_wp2_with fail
 go_ret
 exact ⟨rfl, hB⟩
def sideV (s : Sg) (p : Pt) : Int := cmpI ((s.bx - s.ax) * (p.yn - s.ay * p.yd) * p.xd) ((s.bY - s.ay) * (p.xn - s.ax * p.xd) * p.yd)
abbrev pP (p : Pt) : Array Value := pO (some p.xn) (some p.xd) (some p.yn) (some p.yd)
def RtR (n d : Int) : Prop := n.natAbs < 79228162514264337593543950336 ∧ d.natAbs < 18446744073709551616 ∧ 0 < d ∧ Int.gcd n d = 1
theorem okB_iff (n d : Int) : okB (some n) (some d) = true ↔ RtR n d := by
 unfold okB grB riB RtR oM
 simp only [Bool.and_eq_true, Bool.not_eq_true', Bool.or_eq_false_iff, decide_eq_false_iff_not, decide_eq_true_eq]
 omega
def RtP (p : Pt) : Prop := RtR p.xn p.xd ∧ RtR p.yn p.yd
theorem RtR.T {n d : Int} (h : RtR n d) : n.natAbs < T256 ∧ d.natAbs < T256 := ⟨Nat.lt_trans h.1 (by decide), Nat.lt_trans h.2.1 (by decide)⟩
theorem way_bd {a n d : Int} (ha : Bd a) (h : RtR n d) : (a * d).natAbs ≤ 1237940039285380274899124224 ∧ (n - a * d).natAbs ≤ 158456325028528675187087900672 := by
 have h1 : (a * d).natAbs ≤ 67108864 * 18446744073709551616 := by
  rw [Int.natAbs_mul]
  exact Nat.mul_le_mul (by unfold Bd at ha; omega) (by have := h.2.1; omega)
 have h2 := h.1
 generalize a * d = q at *
 omega
theorem mul3_bd {r q d : Int} (hr : r.natAbs ≤ 134217728) (hq : q.natAbs ≤ 158456325028528675187087900672) (hd : d.natAbs < 18446744073709551616) : (r * q).natAbs < T256 ∧ (r * q * d).natAbs < T256 := by
 have h1 : (r * q).natAbs ≤ 134217728 * 158456325028528675187087900672 := by rw [Int.natAbs_mul]; exact Nat.mul_le_mul hr hq
 refine ⟨Nat.lt_of_le_of_lt h1 (by decide), ?_⟩
 rw [Int.natAbs_mul]
 exact Nat.lt_of_le_of_lt (Nat.mul_le_mul h1 (Nat.le_of_lt hd)) (by decide)
theorem sideOf_right (s : Sg) (p : Pt) (w : World) (hs : BdS s) (hp : RtP p) (ht : TabTz w) (hw0 : 3 < w.heap.size) :
 Calls Tryz.prog 50 #[.agg (lineA s.ax s.ay s.bx s.bY (s.bx - s.ax) (s.bY - s.ay)), .agg (pP p)] w fun e w' => e = .returned (.int .i64 (sideV s p)) ∧ Below w.heap.size w w' := by
 obtain ⟨b1, b2, b3, b4⟩ := hs
 obtain ⟨hx, hy⟩ := hp
 have agP : AggTy Tryz.prog 46 (pP p).size := agg_point
 have HG := fun W => grid_O (some p.xn) (some p.xd) (some p.yn) (some p.yd) hx.T.1 hx.T.2 hy.T.1 hy.T.2 W
 by_cases hg : gridB (some p.xn) (some p.xd) (some p.yn) (some p.yd) = true
 ·obtain ⟨x, y, e1, e2, e3, e4, i1, i2⟩ := gridB_true hg
  rw [hg] at HG
  simp only [if_true] at HG
  have g1 := Option.some.inj e1
  have g2 := Option.some.inj e2
  have g3 := Option.some.inj e3
  have g4 := Option.some.inj e4
  have m1 : smZ (some p.xn) = x := by rw [e1]; exact sm_in i1
  have m2 : smZ (some p.yn) = y := by rw [e3]; exact sm_in i2
  rw [m1, m2] at HG
  refine side_node (pP p) _ _ _ _ _ _ x y _ w agP (fun W _ => HG W) (fun W => ?_)
  have h := turn_any s.ax s.ay s.bx s.bY x y W b1 b2 b3 b4 ((inB_iff x).1 i1) ((inB_iff y).1 i2)
  have ev : sideV s p = cmpI ((s.bx - s.ax) * (y - s.ay)) ((s.bY - s.ay) * (x - s.ax)) := by
   unfold sideV
   rw [g1, g2, g3, g4, Int.mul_one, Int.mul_one, Int.mul_one, Int.mul_one]
  rw [ev]
  exact h
 ·have hg : gridB (some p.xn) (some p.xd) (some p.yn) (some p.yd) = false := by simpa using hg
  rw [hg] at HG
  have hR := fun W (hW : Below w.heap.size w W) => pright_O (some p.xn) (some p.xd) (some p.yn) (some p.yd) hx.T.1 hx.T.2 hy.T.1 hy.T.2 W (ht.below hw0 hW) (Nat.lt_of_lt_of_le hw0 hW.size)
  rw [(okB_iff _ _).2 hx, (okB_iff _ _).2 hy] at hR
  have q1 := way_bd b2 hy
  have q2 := way_bd b1 hx
  have r1 : (s.bx - s.ax).natAbs ≤ 134217728 := by unfold Bd at *; omega
  have r2 : (s.bY - s.ay).natAbs ≤ 134217728 := by unfold Bd at *; omega
  have m1 := mul3_bd r1 q1.2 hx.2.1
  have m2 := mul3_bd r2 q2.2 hy.2.1
  have t1 : (p.yn - s.ay * p.yd).natAbs < T256 := Nat.lt_of_le_of_lt q1.2 (by decide)
  have t2 : (p.xn - s.ax * p.xd).natAbs < T256 := Nat.lt_of_le_of_lt q2.2 (by decide)
  have t3 : (s.bx - s.ax).natAbs < T256 := Nat.lt_of_le_of_lt r1 (by decide)
  have t4 : (s.bY - s.ay).natAbs < T256 := Nat.lt_of_le_of_lt r2 (by decide)
  exact side_core (pP p) s.ax s.ay s.bx s.bY (s.bx - s.ax) (s.bY - s.ay) (sideV s p) _ _ _ _ _ _ _ _ _ _ _ _ _ _ _ _ _ _ _ _ _ _ _ _ _ _ _ _ _ _ _ _ _ _ _ _ _ _ _ _ _ _ _ _ _ _ _ _ _ _ w rfl agP (fun W _ => HG W) hR
   (fun W => of_num (s.bx - s.ax) (by omega) (by omega) W) (fun W => of_num (s.bY - s.ay) (by omega) (by omega) W)
   (fun W => way_num s.ay p.yn p.yd W b2 hy.T.1 hy.T.2 (Nat.lt_of_le_of_lt q1.1 (by decide)) t1) (fun W => way_num s.ax p.xn p.xd W b1 hx.T.1 hx.T.2 (Nat.lt_of_le_of_lt q2.1 (by decide)) t2)
   (fun W k hr => mul3_num _ _ _ k 3 W t3 t1 hx.T.2 m1.1 m1.2 hr) (fun W k hr => mul3_num _ _ _ k 3 W t4 t2 hy.T.2 m2.1 m2.2 hr)
   (fun W => must_int _ rfl (intA_one _) W) (fun W => must_int _ rfl (intA_one _) W) (fun W => cmp_num _ _ W m1.2 m2.2)
end Go.Proofs.YtongeeggaigepaaGreatDoor

namespace Go.Proofs.YtongeeggaigepaaGreatDoor
open Go.RowKit Go.Sort CrossMath
set_option maxRecDepth 100000 in
set_option maxHeartbeats 6400000 in
theorem seen_core (ns ds ms es ps qs : Bool) (nc0 nc1 nc2 nc3 dc0 dc1 dc2 dc3 mc0 mc1 mc2 mc3 ec0 ec1 ec2 ec3 pc0 pc1 pc2 pc3 qc0 qc1 qc2 qc3 : Int) (v : Int) (w : World)
 (H1 : ∀ W k, Row W k [.bool ns, .int .u64 nc0, .int .u64 nc1, .int .u64 nc2, .int .u64 nc3, .bool es, .int .u64 ec0, .int .u64 ec1, .int .u64 ec2, .int .u64 ec3] → Calls Tryz.prog 88 #[.slice (some ⟨k, 0, none⟩) 2 2] W fun e w' => e = .returned (.tuple #[.agg #[.bool ps, .int .u64 pc0, .int .u64 pc1, .int .u64 pc2, .int .u64 pc3], .int .i64 0]) ∧ Below W.heap.size W w')
 (H2 : ∀ W k, Row W k [.bool ms, .int .u64 mc0, .int .u64 mc1, .int .u64 mc2, .int .u64 mc3, .bool ds, .int .u64 dc0, .int .u64 dc1, .int .u64 dc2, .int .u64 dc3] → Calls Tryz.prog 88 #[.slice (some ⟨k, 0, none⟩) 2 2] W fun e w' => e = .returned (.tuple #[.agg #[.bool qs, .int .u64 qc0, .int .u64 qc1, .int .u64 qc2, .int .u64 qc3], .int .i64 0]) ∧ Below W.heap.size W w')
 (H3 : ∀ W, Calls Tryz.prog 92 #[.agg #[.bool ps, .int .u64 pc0, .int .u64 pc1, .int .u64 pc2, .int .u64 pc3], .agg #[.bool qs, .int .u64 qc0, .int .u64 qc1, .int .u64 qc2, .int .u64 qc3]] W fun e w' => e = .returned (.tuple #[.int .i64 v, .int .i64 0]) ∧ Below W.heap.size W w') :
 Calls Tryz.prog 166 #[.agg #[.bool ns, .int .u64 nc0, .int .u64 nc1, .int .u64 nc2, .int .u64 nc3, .bool ds, .int .u64 dc0, .int .u64 dc1, .int .u64 dc2, .int .u64 dc3], .agg #[.bool ms, .int .u64 mc0, .int .u64 mc1, .int .u64 mc2, .int .u64 mc3, .bool es, .int .u64 ec0, .int .u64 ec1, .int .u64 ec2, .int .u64 ec3]] w fun e w' => e = .returned (.int .i64 v) ∧ Below w.heap.size w w' := by
 have K1 := Lib.hid H1; clear H1
 have K2 := Lib.hid H2; clear H2
 have K3 := Lib.hid H3; clear H3
 go_enter Tryz.func166, Tryz.ntmps166
 go_upto_region 1 with fail
 generalize hW : World.alloc _ _ = W0
 have rA : Row W0 w.heap.size [.bool ns, .int .u64 nc0, .int .u64 nc1, .int .u64 nc2, .int .u64 nc3, .bool ds, .int .u64 dc0, .int .u64 dc1, .int .u64 dc2, .int .u64 dc3] := by rw [← hW]; exact (Row.at rfl _ _).alloc _
 have rB : Row W0 (w.heap.size + 1) [.bool ms, .int .u64 mc0, .int .u64 mc1, .int .u64 mc2, .int .u64 mc3, .bool es, .int .u64 ec0, .int .u64 ec1, .int .u64 ec2, .int .u64 ec3] := by rw [← hW]; exact Row.at (by simp) _ _
 have hB : Below w.heap.size w W0 := by rw [← hW]; exact ((Below.refl _ _).alloc (Nat.le_refl _) _).alloc (by simp) _
 clear hW
 have x0 := rA.c 0 rfl
 have y0 := rB.c 0 rfl
 have x1 := rA.c 1 rfl
 have y1 := rB.c 1 rfl
 have x2 := rA.c 2 rfl
 have y2 := rB.c 2 rfl
 have x3 := rA.c 3 rfl
 have y3 := rB.c 3 rfl
 have x4 := rA.c 4 rfl
 have y4 := rB.c 4 rfl
 have x5 := rA.c 5 rfl
 have y5 := rB.c 5 rfl
 have x6 := rA.c 6 rfl
 have y6 := rB.c 6 rfl
 have x7 := rA.c 7 rfl
 have y7 := rB.c 7 rfl
 have x8 := rA.c 8 rfl
 have y8 := rB.c 8 rfl
 have x9 := rA.c 9 rfl
 have y9 := rB.c 9 rfl
 go_wp2_with fail
 refine (K1.out _ _ (Row.at rfl [_, _, _, _, _, _, _, _, _, _] _)).mono ?_
 rintro e W1 ⟨rfl, hb⟩
 replace rA := (rA.alloc _).after hb
 replace rB := (rB.alloc _).after hb
 replace hB := (hB.alloc hB.size _).trans (hb.mono (Nat.le_trans hB.size (by simp)))
 clear hb x0 y0 x1 y1 x2 y2 x3 y3 x4 y4 x5 y5 x6 y6 x7 y7 x8 y8 x9 y9
 go_upto_region 2 with fail
 generalize hW : World.alloc _ _ = W2
 have rP : Row W2 W1.heap.size [.bool ps, .int .u64 pc0, .int .u64 pc1, .int .u64 pc2, .int .u64 pc3] := by rw [← hW]; exact Row.at rfl _ _
 have hu : Below W1.heap.size W1 W2 := by rw [← hW]; exact (Below.refl _ _).alloc (Nat.le_refl _) _
 replace rA := rA.after hu
 replace rB := rB.after hu
 replace hB := hB.trans (hu.mono hB.size)
 clear hW hu
 generalize W1.heap.size = k5 at *
 have x0 := rA.c 0 rfl
 have y0 := rB.c 0 rfl
 have x1 := rA.c 1 rfl
 have y1 := rB.c 1 rfl
 have x2 := rA.c 2 rfl
 have y2 := rB.c 2 rfl
 have x3 := rA.c 3 rfl
 have y3 := rB.c 3 rfl
 have x4 := rA.c 4 rfl
 have y4 := rB.c 4 rfl
 have x5 := rA.c 5 rfl
 have y5 := rB.c 5 rfl
 have x6 := rA.c 6 rfl
 have y6 := rB.c 6 rfl
 have x7 := rA.c 7 rfl
 have y7 := rB.c 7 rfl
 have x8 := rA.c 8 rfl
 have y8 := rB.c 8 rfl
 have x9 := rA.c 9 rfl
 have y9 := rB.c 9 rfl
 go_wp2_with fail
 refine (K2.out _ _ (Row.at rfl [_, _, _, _, _, _, _, _, _, _] _)).mono ?_
 rintro e W3 ⟨rfl, hb⟩
 replace rP := (rP.alloc _).after hb
 replace hB := (hB.alloc hB.size _).trans (hb.mono (Nat.le_trans hB.size (by simp)))
 clear hb rA rB x0 y0 x1 y1 x2 y2 x3 y3 x4 y4 x5 y5 x6 y6 x7 y7 x8 y8 x9 y9
 go_upto_region 3 with fail
 generalize hW : World.alloc _ _ = W4
 have rQ : Row W4 W3.heap.size [.bool qs, .int .u64 qc0, .int .u64 qc1, .int .u64 qc2, .int .u64 qc3] := by rw [← hW]; exact Row.at rfl _ _
 have hu : Below W3.heap.size W3 W4 := by rw [← hW]; exact (Below.refl _ _).alloc (Nat.le_refl _) _
 replace rP := rP.after hu
 replace hB := hB.trans (hu.mono hB.size)
 clear hW hu
 generalize W3.heap.size = k7 at *
 have x0 := rP.c 0 rfl
 have y0 := rQ.c 0 rfl
 have x1 := rP.c 1 rfl
 have y1 := rQ.c 1 rfl
 have x2 := rP.c 2 rfl
 have y2 := rQ.c 2 rfl
 have x3 := rP.c 3 rfl
 have y3 := rQ.c 3 rfl
 have x4 := rP.c 4 rfl
 have y4 := rQ.c 4 rfl
 go_wp2_with fail
 refine (K3.out _).mono ?_
 rintro e W5 ⟨rfl, hb⟩
 replace hB := hB.trans (hb.mono hB.size)
 go_wp2_with fail
 go_ret
 exact ⟨rfl, hB⟩
theorem cross_bd {n d m e : Int} (h : RtR n d) (g : RtR m e) : (n * e).natAbs < T256 ∧ (m * d).natAbs < T256 := by
 constructor
 ·rw [Int.natAbs_mul]
  exact Nat.lt_of_le_of_lt (Nat.mul_le_mul (Nat.le_of_lt h.1) (Nat.le_of_lt g.2.1)) (by decide)
 ·rw [Int.natAbs_mul]
  exact Nat.lt_of_le_of_lt (Nat.mul_le_mul (Nat.le_of_lt g.1) (Nat.le_of_lt h.2.1)) (by decide)
theorem seen_num (n d m e : Int) (w : World) (h : RtR n d) (g : RtR m e) :
 Calls Tryz.prog 166 #[.agg (ratA n d), .agg (ratA m e)] w fun e' w' => e' = .returned (.int .i64 (cmpI (n * e) (m * d))) ∧ Below w.heap.size w w' :=
 seen_core _ _ _ _ _ _ _ _ _ _ _ _ _ _ _ _ _ _ _ _ _ _ _ _ _ _ _ _ _ _ (cmpI (n * e) (m * d)) w (fun W k hr => mul2_num n e k 2 W h.T.1 g.T.2 (cross_bd h g).1 hr) (fun W k hr => mul2_num m d k 2 W g.T.1 h.T.2 (cross_bd h g).2 hr) (fun W => cmp_num _ _ W (cross_bd h g).1 (cross_bd h g).2)
end Go.Proofs.YtongeeggaigepaaGreatDoor

namespace Go.Proofs.YtongeeggaigepaaGreatDoor
open Go.RowKit Go.Sort CrossMath
set_option maxRecDepth 100000 in
set_option maxHeartbeats 3200000 in
theorem order_core (P Q A1 A2 B1 B2 : Array Value) (nb : Bool) (v v1 v2 : Int) (w : World)
 (g1 : AggTy Tryz.prog 44 A1.size) (g2 : AggTy Tryz.prog 44 A2.size) (g3 : AggTy Tryz.prog 44 B1.size) (g4 : AggTy Tryz.prog 44 B2.size)
 (HP : ∀ W b, Row W b P.toList → W.rangeAt b 0 A1.toList ∧ W.rangeAt b 10 A2.toList) (HQ : ∀ W b, Row W b Q.toList → W.rangeAt b 0 B1.toList ∧ W.rangeAt b 10 B2.toList)
 (eX : ∀ W, (binOp .neq 44 (.agg A1) (.agg B1)).run Tryz.prog W = .ok (.bool nb) W)
 (H1 : ∀ W, Calls Tryz.prog 166 #[.agg A1, .agg B1] W fun e w' => e = .returned (.int .i64 v1) ∧ Below W.heap.size W w')
 (H2 : ∀ W, Calls Tryz.prog 166 #[.agg A2, .agg B2] W fun e w' => e = .returned (.int .i64 v2) ∧ Below W.heap.size W w')
 (hv : (nb = true ∧ v = v1) ∨ (nb = false ∧ v = v2)) :
 Calls Tryz.prog 149 #[.agg P, .agg Q] w fun e w' => e = .returned (.int .i64 v) ∧ Below w.heap.size w w' := by
 have K1 := Lib.hid H1; clear H1
 have K2 := Lib.hid H2; clear H2
 have KP := Lib.hid HP; clear HP
 have KQ := Lib.hid HQ; clear HQ
 go_enter Tryz.func149, Tryz.ntmps149
 go_upto_region 1 with fail
 generalize hW : World.alloc _ _ = W0
 have rA : Row W0 w.heap.size P.toList := by rw [← hW]; exact (Row.at rfl _ _).alloc _
 have rB : Row W0 (w.heap.size + 1) Q.toList := by rw [← hW]; exact Row.at (by simp) _ _
 have hB : Below w.heap.size w W0 := by rw [← hW]; exact ((Below.refl _ _).alloc (Nat.le_refl _) _).alloc (by simp) _
 clear hW
 obtain ⟨a1, a2⟩ := KP.out _ _ rA
 obtain ⟨b1, b2⟩ := KQ.out _ _ rB
 clear rA rB
 rcases hv with ⟨rfl, rfl⟩ | ⟨rfl, rfl⟩
 ·go_wp2_with (first | (refine wpList_load_M rfl _ _ rfl w.heap.size 0 rfl A1 a1 g1 ?_) | (refine wpList_load_M rfl _ _ rfl (w.heap.size + 1) 0 rfl B1 b1 g3 ?_))
  refine (K1.out _).mono ?_
  rintro e W1 ⟨rfl, hb⟩
  replace hB := hB.trans (hb.mono hB.size)
  go_wp2_with fail
  go_ret
  exact ⟨rfl, hB⟩
 ·go_wp2_with (first | (refine wpList_load_M rfl _ _ rfl w.heap.size 0 rfl A1 a1 g1 ?_) | (refine wpList_load_M rfl _ _ rfl (w.heap.size + 1) 0 rfl B1 b1 g3 ?_) | (refine wpList_load_M rfl _ _ rfl w.heap.size 10 rfl A2 a2 g2 ?_) | (refine wpList_load_M rfl _ _ rfl (w.heap.size + 1) 10 rfl B2 b2 g4 ?_))
  refine (K2.out _).mono ?_
  rintro e W1 ⟨rfl, hb⟩
  replace hB := hB.trans (hb.mono hB.size)
  go_wp2_with fail
  go_ret
  exact ⟨rfl, hB⟩
def ordP (p q : Pt) : Int := if p.xn = q.xn ∧ p.xd = q.xd then cmpI (p.yn * q.yd) (q.yn * p.yd) else cmpI (p.xn * q.xd) (q.xn * p.xd)
theorem pP_rats (p : Pt) (W : World) (b : Nat) (h : Row W b (pP p).toList) : W.rangeAt b 0 (ratA p.xn p.xd).toList ∧ W.rangeAt b 10 (ratA p.yn p.yd).toList := by
 constructor
 ·intro j v hv
  rw [Nat.zero_add]
  match j, hv with
  | 0, hv => exact h.c 0 hv
  | 1, hv => exact h.c 1 hv
  | 2, hv => exact h.c 2 hv
  | 3, hv => exact h.c 3 hv
  | 4, hv => exact h.c 4 hv
  | 5, hv => exact h.c 5 hv
  | 6, hv => exact h.c 6 hv
  | 7, hv => exact h.c 7 hv
  | 8, hv => exact h.c 8 hv
  | 9, hv => exact h.c 9 hv
  | _ + 10, hv => simp [ratA] at hv
 ·intro j v hv
  match j, hv with
  | 0, hv => exact h.c 10 hv
  | 1, hv => exact h.c 11 hv
  | 2, hv => exact h.c 12 hv
  | 3, hv => exact h.c 13 hv
  | 4, hv => exact h.c 14 hv
  | 5, hv => exact h.c 15 hv
  | 6, hv => exact h.c 16 hv
  | 7, hv => exact h.c 17 hv
  | 8, hv => exact h.c 18 hv
  | 9, hv => exact h.c 19 hv
  | _ + 10, hv => simp [ratA] at hv
theorem neqRat (n d m e : Int) (h : RtR n d) (g : RtR m e) (W : World) : (binOp .neq 44 (.agg (ratA n d)) (.agg (ratA m e))).run Tryz.prog W = .ok (.bool (!(decide (m = n) && decide (e = d)))) W := by
 rw [ratA, ratA, run_neq_struct, show (10000 : Nat) = 9996 + 4 from rfl, eqRatI 9996]
 have e1 := eqI_O n (some m) h.T.1 g.T.1
 have e2 := eqI_O d (some e) h.T.2 g.T.2
 simp only [oS, oM, Option.some.injEq] at e1 e2
 rw [e1, e2]
 rfl
theorem porder_num (p q : Pt) (w : World) (hp : RtP p) (hq : RtP q) :
 Calls Tryz.prog 149 #[.agg (pP p), .agg (pP q)] w fun e' w' => e' = .returned (.int .i64 (ordP p q)) ∧ Below w.heap.size w w' := by
 refine order_core (pP p) (pP q) (ratA p.xn p.xd) (ratA p.yn p.yd) (ratA q.xn q.xd) (ratA q.yn q.yd) _ (ordP p q) _ _ w agg_rat agg_rat agg_rat agg_rat (pP_rats p) (pP_rats q) (neqRat _ _ _ _ hp.1 hq.1) (fun W => seen_num _ _ _ _ W hp.1 hq.1) (fun W => seen_num _ _ _ _ W hp.2 hq.2) ?_
 unfold ordP
 by_cases h : p.xn = q.xn ∧ p.xd = q.xd
 ·right
  rw [if_pos h, h.1, h.2]
  exact ⟨by simp, rfl⟩
 ·left
  rw [if_neg h]
  refine ⟨?_, rfl⟩
  rw [Bool.not_eq_true', Bool.and_eq_false_iff, decide_eq_false_iff_not, decide_eq_false_iff_not]
  omega
end Go.Proofs.YtongeeggaigepaaGreatDoor

namespace Go.Proofs.YtongeeggaigepaaGreatDoor
open Go.RowKit Go.Sort CrossMath
set_option maxRecDepth 100000 in
set_option maxHeartbeats 3200000 in
theorem rightAll_two (P Q : Array Value) (b c : Nat) (w : World) (hs1 : P.size = 20) (hs2 : Q.size = 20) (o1 : OneC P) (o2 : OneC Q)
 (H1 : ∀ W, Below w.heap.size w W → Calls Tryz.prog 86 #[.agg P] W fun e w' => e = .returned (.int .i64 0) ∧ Below W.heap.size W w')
 (H2 : ∀ W, Below w.heap.size w W → Calls Tryz.prog 86 #[.agg Q] W fun e w' => e = .returned (.int .i64 0) ∧ Below W.heap.size W w')
 (hr : Row w b (P ++ Q).toList) : Calls Tryz.prog 148 #[.slice (some ⟨b, 0, none⟩) 2 c] w fun e w' => e = .returned (.int .i64 0) ∧ Below w.heap.size w w' := by
 have H1 := Lib.hid H1
 have H2 := Lib.hid H2
 have Hr := Lib.hid hr
 have g1 : AggTy Tryz.prog 46 P.size := by rw [hs1]; exact agg_point
 have g2 : AggTy Tryz.prog 46 Q.size := by rw [hs2]; exact agg_point
 have l1 : zero_point.toList.length = P.size := by rw [hs1]; rfl
 have l2 : zero_point.toList.length = Q.size := by rw [hs2]; rfl
 go_enter Tryz.func148, Tryz.ntmps148
 go_wp2_with fail
 refine wp_loop_rounds 3 ?_
 rw [rounds_succ]
 go_wp2_with (first
  | (refine wpList_load_M rfl _ _ rfl b 0 rfl P hr.fst g1 ?_)
  | (refine wpList_store_R rfl _ _ _ rfl _ P rfl rfl _ (Row.at rfl zero_point.toList _) l1 g1 o1 ?_; intro w1 r1 q1)
  | (refine wpList_load_R rfl _ _ rfl _ rfl P r1 g1 ?_))
 have hB1 : Below w.heap.size w w1 := below_on ((Below.refl _ w).alloc (Nat.le_refl _) _) q1 (Nat.le_refl _)
 replace hr := (hr.alloc (.cells zero_point 46))
 replace hr := q1.row (Nat.ne_of_lt Hr.out.lt) hr
 refine (H1.out _ hB1).mono ?_
 rintro e w2 ⟨rfl, hb⟩
 replace hr := hr.after hb
 replace hB1 := hB1.trans (hb.mono hB1.size)
 clear hb r1 q1
 go_wp2_with fail
 rw [rounds_succ]
 go_wp2_with (first
  | (refine wpList_load_M rfl _ _ rfl b 20 rfl Q (hr.snd 20 hs1) g2 ?_)
  | (refine wpList_store_R rfl _ _ _ rfl _ Q rfl rfl _ (Row.at rfl zero_point.toList _) l2 g2 o2 ?_; intro w3 r3 q3)
  | (refine wpList_load_R rfl _ _ rfl _ rfl Q r3 g2 ?_))
 have hB3 : Below w.heap.size w w3 := below_on (hB1.alloc hB1.size _) q3 hB1.size
 refine (H2.out _ hB3).mono ?_
 rintro e w4 ⟨rfl, hb⟩
 replace hB3 := hB3.trans (hb.mono hB3.size)
 clear hb r3 q3
 go_wp2_with fail
 rw [rounds_succ]
 go_wp2_with fail
 go_ret
 exact ⟨rfl, hB3⟩
theorem forty_size (P : Array Value) (hp : P.size = 20) : (Array.foldl (fun cs x => cs.setIfInBounds x.snd x.fst) #[.bool false, .int .u64 0, .int .u64 0, .int .u64 0, .int .u64 0, .bool false, .int .u64 0, .int .u64 0, .int .u64 0, .int .u64 0, .bool false, .int .u64 0, .int .u64 0, .int .u64 0, .int .u64 0, .bool false, .int .u64 0, .int .u64 0, .int .u64 0, .int .u64 0, .bool false, .int .u64 0, .int .u64 0, .int .u64 0, .int .u64 0, .bool false, .int .u64 0, .int .u64 0, .int .u64 0, .int .u64 0, .bool false, .int .u64 0, .int .u64 0, .int .u64 0, .int .u64 0, .bool false, .int .u64 0, .int .u64 0, .int .u64 0, .int .u64 0] P.zipIdx 0 20).size = 40 := by
 obtain ⟨p0, p1, p2, p3, p4, p5, p6, p7, p8, p9, p10, p11, p12, p13, p14, p15, p16, p17, p18, p19, rfl⟩ := arr20 P hp
 kernel_rfl
theorem forty_made (P Q : Array Value) (hp : P.size = 20) (hq : Q.size = 20) : Array.foldl (fun cs x => cs.setIfInBounds (20 + x.snd) x.fst) (Array.foldl (fun cs x => cs.setIfInBounds x.snd x.fst) #[.bool false, .int .u64 0, .int .u64 0, .int .u64 0, .int .u64 0, .bool false, .int .u64 0, .int .u64 0, .int .u64 0, .int .u64 0, .bool false, .int .u64 0, .int .u64 0, .int .u64 0, .int .u64 0, .bool false, .int .u64 0, .int .u64 0, .int .u64 0, .int .u64 0, .bool false, .int .u64 0, .int .u64 0, .int .u64 0, .int .u64 0, .bool false, .int .u64 0, .int .u64 0, .int .u64 0, .int .u64 0, .bool false, .int .u64 0, .int .u64 0, .int .u64 0, .int .u64 0, .bool false, .int .u64 0, .int .u64 0, .int .u64 0, .int .u64 0] P.zipIdx 0 20) Q.zipIdx 0 20 = P ++ Q := by
 obtain ⟨p0, p1, p2, p3, p4, p5, p6, p7, p8, p9, p10, p11, p12, p13, p14, p15, p16, p17, p18, p19, rfl⟩ := arr20 P hp
 obtain ⟨q0, q1, q2, q3, q4, q5, q6, q7, q8, q9, q10, q11, q12, q13, q14, q15, q16, q17, q18, q19, rfl⟩ := arr20 Q hq
 kernel_rfl
set_option maxRecDepth 100000 in
set_option maxHeartbeats 3200000 in
theorem pcmpG_core (P Q : Array Value) (v : Int) (w : World) (hs1 : P.size = 20) (hs2 : Q.size = 20)
 (H1 : ∀ W b, Below w.heap.size w W → Row W b (P ++ Q).toList → Calls Tryz.prog 148 #[.slice (some ⟨b, 0, none⟩) 2 2] W fun e w' => e = .returned (.int .i64 0) ∧ Below W.heap.size W w')
 (H2 : ∀ W, Calls Tryz.prog 149 #[.agg P, .agg Q] W fun e w' => e = .returned (.int .i64 v) ∧ Below W.heap.size W w') :
 Calls Tryz.prog 128 #[.agg P, .agg Q] w fun e w' => e = .returned (.tuple #[.int .i64 v, .int .i64 0]) ∧ Below w.heap.size w w' := by
 have H1 := Lib.hid H1
 have H2 := Lib.hid H2
 have g1 : AggTy Tryz.prog 46 P.size := by rw [hs1]; exact agg_point
 have g2 : AggTy Tryz.prog 46 Q.size := by rw [hs2]; exact agg_point
 go_enter Tryz.func128, Tryz.ntmps128
 go_upto_region 1 with fail
 generalize hW : World.alloc _ _ = W0
 have rA : Row W0 w.heap.size P.toList := by rw [← hW]; exact (Row.at rfl _ _).alloc _
 have rB : Row W0 (w.heap.size + 1) Q.toList := by rw [← hW]; exact Row.at (by simp) _ _
 have hB : Below w.heap.size w W0 := by rw [← hW]; exact ((Below.refl _ _).alloc (Nat.le_refl _) _).alloc (by simp) _
 clear hW
 have hz1 := forty_size P hs1
 have hz2 := forty_made P Q hs1 hs2
 go_wp2_with (first | (refine wpList_load_R rfl _ _ rfl w.heap.size rfl P rA g1 ?_) | (refine wpList_load_R rfl _ _ rfl (w.heap.size + 1) rfl Q rB g2 ?_))
 have hB0 : Below w.heap.size w (W0.alloc (.cells (P ++ Q) 46)) := hB.alloc hB.size _
 replace rA := rA.alloc (.cells (P ++ Q) 46)
 replace rB := rB.alloc (.cells (P ++ Q) 46)
 refine (H1.out _ W0.heap.size hB0 (Row.at rfl (P ++ Q).toList _)).mono ?_
 rintro e w1 ⟨rfl, hb⟩
 replace rA := rA.after hb
 replace rB := rB.after hb
 replace hB := hB0.trans (hb.mono (Nat.le_trans hB0.size (Nat.le_refl _)))
 clear hb hB0 hz1 hz2
 go_wp2_with (first | (refine wpList_load_R rfl _ _ rfl w.heap.size rfl P rA g1 ?_) | (refine wpList_load_R rfl _ _ rfl (w.heap.size + 1) rfl Q rB g2 ?_))
 refine (H2.out _).mono ?_
 rintro e w2 ⟨rfl, hb⟩
 replace hB := hB.trans (hb.mono hB.size)
 clear hb
 go_wp2_with fail
 go_ret2
 exact ⟨rfl, hB⟩
theorem pright_num (p : Pt) (w : World) (hp : RtP p) (ht : TabTz w) (hw0 : 3 < w.heap.size) :
 Calls Tryz.prog 86 #[.agg (pP p)] w fun e w' => e = .returned (.int .i64 0) ∧ Below w.heap.size w w' := by
 have h := pright_O (some p.xn) (some p.xd) (some p.yn) (some p.yd) hp.1.T.1 hp.1.T.2 hp.2.T.1 hp.2.T.2 w ht hw0
 rw [(okB_iff _ _).2 hp.1, (okB_iff _ _).2 hp.2] at h
 exact h
theorem pcmp_num (p q : Pt) (w : World) (hp : RtP p) (hq : RtP q) (ht : TabTz w) (hw0 : 3 < w.heap.size) :
 Calls Tryz.prog 128 #[.agg (pP p), .agg (pP q)] w fun e w' => e = .returned (.tuple #[.int .i64 (ordP p q), .int .i64 0]) ∧ Below w.heap.size w w' :=
 pcmpG_core (pP p) (pP q) (ordP p q) w rfl rfl
  (fun W b hW hr => rightAll_two (pP p) (pP q) b 2 W rfl rfl (pO_one _ _ _ _) (pO_one _ _ _ _)
    (fun V hV => pright_num p V hp ((ht.below hw0 hW).below (Nat.lt_of_lt_of_le hw0 hW.size) hV) (Nat.lt_of_lt_of_le (Nat.lt_of_lt_of_le hw0 hW.size) hV.size))
    (fun V hV => pright_num q V hq ((ht.below hw0 hW).below (Nat.lt_of_lt_of_le hw0 hW.size) hV) (Nat.lt_of_lt_of_le (Nat.lt_of_lt_of_le hw0 hW.size) hV.size)) hr)
  (fun W => porder_num p q W hp hq)
end Go.Proofs.YtongeeggaigepaaGreatDoor

namespace Go.Proofs.YtongeeggaigepaaGreatDoor
open Go.RowKit Go.Sort CrossMath
section
variable {P : Program} {ops : Array Oper} {C : World → Prop} {rest : List Oper} {op : Oper} {a : Act} {Q : Act → Prop}
theorem wpQuiet_load_R (hgd : op.guard = none) (ty : TypeId) (x : Operand) (ho : op.op = .load ty x) (b : Nat) (hx : a.eval x = .pointer (some ⟨b, 0, none⟩)) (cs : Array Value) (h : ∀ W, C W → W.rangeAt b 0 cs.toList) (hT : AggTy P ty cs.size)
 (k : wpQuiet P ops C Q rest (a.put op.dst (.agg cs))) : wpQuiet P ops C Q (op :: rest) a := by
 obtain ⟨⟨d, hu, hd⟩, hi⟩ := hT
 have hw : Region.wanted op (yielded ops a.tmps) = true := by simp [Region.wanted, hgd]
 show (if Region.wanted op (yielded ops a.tmps) then op.quiet P a C (wpQuiet P ops C Q rest) else wpQuiet P ops C Q rest (a.put op.dst undef))
 rw [if_pos hw]
 refine ⟨.agg cs, fun W hW => ?_, k⟩
 unfold Oper.quietAt execOp
 simp only [ho, hx, Instr.loadAt, Instr.sureAddr, Sem.run_bind, Sem.run_pure, Result.andThen_ok, run_loadVar_mid W b 0 ty cs.toList d (h W hW) hu hd (by simpa using hi)]
 exact ⟨rfl, rfl⟩
end
set_option maxRecDepth 100000 in
set_option maxHeartbeats 3200000 in
theorem sorder_core (P : Array Value) (x y : Int) (D : Array Value) (v : Int) (w : World) (hsP : P.size = 20)
 (H1 : ∀ W, Below w.heap.size w W → Calls Tryz.prog 119 #[.agg (nodeA x y)] W fun e w' => e = .returned (.tuple #[.agg D, .int .i64 0]) ∧ Below W.heap.size W w')
 (H2 : ∀ W, Below w.heap.size w W → Calls Tryz.prog 129 #[.agg D, .int .i64 0] W fun e w' => e = .returned (.agg D) ∧ Below W.heap.size W w')
 (H3 : ∀ W, Below w.heap.size w W → Calls Tryz.prog 128 #[.agg P, .agg D] W fun e w' => e = .returned (.tuple #[.int .i64 v, .int .i64 0]) ∧ Below W.heap.size W w')
 (H4 : ∀ W, Below w.heap.size w W → Calls Tryz.prog 91 #[.int .i64 v, .int .i64 0] W fun e w' => e = .returned (.int .i64 v) ∧ Below W.heap.size W w') :
 Calls Tryz.prog 95 #[.agg P, .agg (nodeA x y)] w fun e w' => e = .returned (.int .i64 v) ∧ Below w.heap.size w w' := by
 have H1 := Lib.hid H1
 have H2 := Lib.hid H2
 have H3 := Lib.hid H3
 have H4 := Lib.hid H4
 have g1 : AggTy Tryz.prog 46 P.size := by rw [hsP]; exact agg_point
 go_enter Tryz.func95, Tryz.ntmps95
 go_upto_region 1 with fail
 generalize hW : World.alloc _ _ = W0
 have rA : Row W0 w.heap.size P.toList := by rw [← hW]; exact (Row.at rfl _ _).alloc _
 have rB : Row W0 (w.heap.size + 1) (nodeA x y).toList := by rw [← hW]; exact Row.at (by simp) _ _
 have hB : Below w.heap.size w W0 := by rw [← hW]; exact ((Below.refl _ _).alloc (Nat.le_refl _) _).alloc (by simp) _
 clear hW
 have n0 := cell_regrown (rB.c 0 rfl)
 have n1 := cell_regrown (rB.c 1 rfl)
 have hg : ∀ d os, Below w.heap.size w (grow (redrawn W0 d) os) := fun d os => hB.trans ((below_regrown W0 d os).mono hB.size)
 have C1 := Lib.hid (fun d os => Calls.regrown_of (H1.out (grow (redrawn W0 d) os) (hg d os)))
 have C2 := Lib.hid (fun d os => Calls.regrown_of (H2.out (grow (redrawn W0 d) os) (hg d os)))
 have C3 := Lib.hid (fun d os => Calls.regrown_of (H3.out (grow (redrawn W0 d) os) (hg d os)))
 have C4 := Lib.hid (fun d os => Calls.regrown_of (H4.out (grow (redrawn W0 d) os) (hg d os)))
 have RA : Hid (∀ W, (∃ p : Regrown, W = grow (redrawn W0 p.d) p.os) → W.rangeAt w.heap.size 0 P.toList) := Lib.hid (fun W ⟨p, hp⟩ => by rw [hp]; exact (rA.after (below_regrown W0 p.d p.os)).whole)
 clear H1 H2 H3 H4 rB hg
 refine wp_region_quiet_below (by kernel_rfl) (by kernel_rfl) ?_
 refine wpQuiet_load_R rfl _ _ rfl w.heap.size rfl P RA.out g1 ?_
 repeat (quiet_step ((first | with_reducible exact C1.out _ _ | with_reducible exact C2.out _ _ | with_reducible exact C3.out _ _ | with_reducible exact C4.out _ _)))
 refine wpQuiet_nil ?_
 intro _ hw'
 obtain ⟨⟨dq, osq⟩, hw''⟩ := hw'
 subst hw''
 go_wp2
 go_ret
 exact ⟨rfl, hB.trans ((below_regrown W0 dq osq).mono hB.size)⟩
theorem rtdot {x y : Int} (hx : Bd x) (hy : Bd y) : RtP (dotP x y) := by
 have h1 := (show (-134217728 : Int) ≤ x ∧ x ≤ 134217728 from ⟨by unfold Bd at hx; omega, by unfold Bd at hx; omega⟩)
 have h2 := (show (-134217728 : Int) ≤ y ∧ y ≤ 134217728 from ⟨by unfold Bd at hy; omega, by unfold Bd at hy; omega⟩)
 have e1 : (1 : Int).natAbs < 18446744073709551616 := by decide
 have e2 : (0 : Int) < 1 := by decide
 refine ⟨⟨?_, e1, e2, ?_⟩, ⟨?_, e1, e2, ?_⟩⟩
 ·show x.natAbs < _; omega
 ·show Int.gcd x 1 = 1; simp
 ·show y.natAbs < _; omega
 ·show Int.gcd y 1 = 1; simp
theorem sorder_num (p : Pt) (x y : Int) (w : World) (hp : RtP p) (hx : Bd x) (hy : Bd y) (ht : TabTz w) (hw0 : 3 < w.heap.size) :
 Calls Tryz.prog 95 #[.agg (pP p), .agg (nodeA x y)] w fun e w' => e = .returned (.int .i64 (ordP p (dotP x y))) ∧ Below w.heap.size w w' :=
 sorder_core (pP p) x y (dotA x y) _ w rfl (fun W _ => pointof_num x y W hx hy) (fun W _ => must_point (dotA x y) rfl (dotA_one x y) W)
  (fun W hW => pcmp_num p (dotP x y) W hp (rtdot hx hy) (ht.below hw0 hW) (Nat.lt_of_lt_of_le hw0 hW.size)) (fun W _ => must_word _ W)
theorem gcd_mul_one {x n d : Int} (h0 : 0 < d) (hg : Int.gcd n d = 1) (h : n = x * d) : d = 1 ∧ n = x := by
 have h1 : Int.gcd (x * d) d = d.natAbs := by rw [Int.gcd_comm]; exact Int.gcd_mul_left_right .. 
 rw [← h, hg] at h1
 have : d = 1 := by omega
 exact ⟨this, by rw [h, this]; omega⟩
theorem ordP_dot (p : Pt) (x y : Int) (hp : RtP p) : ordP p (dotP x y) = cmpPt p x y := by
 unfold ordP cmpPt dotP
 simp only [Int.mul_one]
 by_cases h : p.xn = x * p.xd
 ·obtain ⟨h1, h2⟩ := gcd_mul_one hp.1.2.2.1 hp.1.2.2.2 h
  rw [if_pos h, if_pos ⟨h2, h1⟩]
  unfold cmpI cmp3
  rfl
 ·rw [if_neg h, if_neg (by rintro ⟨h1, h2⟩; exact h (by rw [h1, h2]; omega))]
  unfold cmpI cmp3
  rfl
set_option maxRecDepth 100000 in
set_option maxHeartbeats 3200000 in
theorem spans_core (P : Array Value) (ax ay bx bY r u : Int) (v1 v2 : Int) (w : World) (hsP : P.size = 20)
 (H1 : ∀ W, Below w.heap.size w W → Calls Tryz.prog 95 #[.agg P, .agg (nodeA ax ay)] W fun e w' => e = .returned (.int .i64 v1) ∧ Below W.heap.size W w')
 (H2 : ∀ W, Below w.heap.size w W → Calls Tryz.prog 95 #[.agg P, .agg (nodeA bx bY)] W fun e w' => e = .returned (.int .i64 v2) ∧ Below W.heap.size W w') :
 Calls Tryz.prog 53 #[.agg (lineA ax ay bx bY r u), .agg P] w fun e w' => e = .returned (.bool (!(v1 == v2))) ∧ Below w.heap.size w w' := by
 have H1 := Lib.hid H1
 have H2 := Lib.hid H2
 have g1 : AggTy Tryz.prog 46 P.size := by rw [hsP]; exact agg_point
 go_enter Tryz.func53, Tryz.ntmps53
 go_upto_region 1 with fail
 generalize hW : World.alloc _ _ = W0
 have rA : Row W0 (w.heap.size + 1) P.toList := by rw [← hW]; exact Row.at (by simp) _ _
 have rB : Row W0 w.heap.size (lineA ax ay bx bY r u).toList := by rw [← hW]; exact (Row.at rfl (lineA ax ay bx bY r u).toList _).alloc _
 have hB : Below w.heap.size w W0 := by rw [← hW]; exact ((Below.refl _ _).alloc (Nat.le_refl _) _).alloc (by simp) _
 clear hW
 have n0 := cell_regrown (rB.c 0 rfl)
 have n1 := cell_regrown (rB.c 1 rfl)
 have n2 := cell_regrown (rB.c 2 rfl)
 have n3 := cell_regrown (rB.c 3 rfl)
 have hg : ∀ d os, Below w.heap.size w (grow (redrawn W0 d) os) := fun d os => hB.trans ((below_regrown W0 d os).mono hB.size)
 have C1 := Lib.hid (fun d os => Calls.regrown_of (H1.out (grow (redrawn W0 d) os) (hg d os)))
 have C2 := Lib.hid (fun d os => Calls.regrown_of (H2.out (grow (redrawn W0 d) os) (hg d os)))
 have RA : Hid (∀ W, (∃ p : Regrown, W = grow (redrawn W0 p.d) p.os) → W.rangeAt (w.heap.size + 1) 0 P.toList) := Lib.hid (fun W ⟨p, hp⟩ => by rw [hp]; exact (rA.after (below_regrown W0 p.d p.os)).whole)
 clear H1 H2 rB hg
 refine wp_region_quiet_below (by kernel_rfl) (by kernel_rfl) ?_
 refine wpQuiet_load_R rfl _ _ rfl (w.heap.size + 1) rfl P RA.out g1 ?_
 iterate 4 (quiet_step ((first | with_reducible exact C1.out _ _ | with_reducible exact C2.out _ _)))
 refine wpQuiet_load_R rfl _ _ rfl (w.heap.size + 1) rfl P RA.out g1 ?_
 repeat (quiet_step ((first | with_reducible exact C1.out _ _ | with_reducible exact C2.out _ _)))
 refine wpQuiet_nil ?_
 intro _ hw'
 obtain ⟨⟨dq, osq⟩, hw''⟩ := hw'
 subst hw''
 go_wp2
 go_ret
 exact ⟨rfl, hB.trans ((below_regrown W0 dq osq).mono hB.size)⟩
end Go.Proofs.YtongeeggaigepaaGreatDoor

namespace Go.Proofs.YtongeeggaigepaaGreatDoor
open Go.RowKit Go.Sort CrossMath
set_option maxRecDepth 100000 in
set_option maxHeartbeats 3200000 in
theorem on1_core (P : Array Value) (ax ay bx bY r u : Int) (v : Int) (b : Bool) (B : Nat) (w : World) (hsP : P.size = 20) (hP : Row w B P.toList)
 (H1 : ∀ W, Below w.heap.size w W → Calls Tryz.prog 50 #[.agg (lineA ax ay bx bY r u), .agg P] W fun e w' => e = .returned (.int .i64 v) ∧ Below W.heap.size W w')
 (H2 : ∀ W, Below w.heap.size w W → Calls Tryz.prog 53 #[.agg (lineA ax ay bx bY r u), .agg P] W fun e w' => e = .returned (.bool b) ∧ Below W.heap.size W w') :
 Calls Tryz.prog 52 #[.agg (lineA ax ay bx bY r u), .pointer (some ⟨B, 0, none⟩)] w fun e w' => e = .returned (.bool (v == 0 && b)) ∧ Below w.heap.size w w' := by
 have H1 := Lib.hid H1
 have H2 := Lib.hid H2
 have g1 : AggTy Tryz.prog 46 P.size := by rw [hsP]; exact agg_point
 go_enter Tryz.func52, Tryz.ntmps52
 go_upto_region 1 with fail
 generalize hW : World.alloc _ _ = W0
 have rA : Row W0 B P.toList := by rw [← hW]; exact hP.alloc _
 have rB : Row W0 w.heap.size (lineA ax ay bx bY r u).toList := by rw [← hW]; exact Row.at rfl (lineA ax ay bx bY r u).toList _
 have hB : Below w.heap.size w W0 := by rw [← hW]; exact (Below.refl _ _).alloc (Nat.le_refl _) _
 clear hW hP
 have gL : AggTy Tryz.prog 89 (lineA ax ay bx bY r u).size := agg_sline
 generalize hl : lineA ax ay bx bY r u = Ln at *
 clear hl
 go_wp2_with (first | (refine wpList_load_R rfl _ _ rfl B rfl P rA g1 ?_) | (refine wpList_load_R rfl _ _ rfl w.heap.size rfl Ln rB gL ?_))
 refine (H1.out _ hB).mono ?_
 rintro e w1 ⟨rfl, hb⟩
 replace rA := rA.after hb
 replace rB := rB.after hb
 replace hB := hB.trans (hb.mono hB.size)
 clear hb
 by_cases hv : v = 0
 ·subst hv
  go_wp2_with (first | (refine wpList_unguard rfl ?_; refine wpList_load_R rfl _ _ rfl B rfl P rA g1 ?_) | (refine wpList_unguard rfl ?_; refine wpList_load_R rfl _ _ rfl w.heap.size rfl Ln rB gL ?_))
  refine (H2.out _ hB).mono ?_
  rintro e w2 ⟨rfl, hb⟩
  replace hB := hB.trans (hb.mono hB.size)
  clear hb
  go_wp2_with fail
  go_ret
  exact ⟨by simp, hB⟩
 ·have hv' : (v == 0) = false := by simp [hv]
  go_wp2_with fail
  go_ret
  exact ⟨by simp [hv'], hB⟩
end Go.Proofs.YtongeeggaigepaaGreatDoor

namespace Go.Proofs.YtongeeggaigepaaGreatDoor
open Go.RowKit Go.Sort CrossMath
set_option maxRecDepth 100000 in
set_option maxHeartbeats 3200000 in
theorem toldb1_core (S A B : Nat) (ax ay bx bY : Int) (b : Bool) (w : World) (h1 : Bd ax) (h2 : Bd ay) (h3 : Bd bx) (h4 : Bd bY) (hne : ¬ (ax = bx ∧ ay = bY)) (hS : Row w S (segA ax ay bx bY).toList) (hA : Row w A [.func (.func 52) #[] #[.pointer (some ⟨B, 0, none⟩)]])
 (HF : ∀ W, Below w.heap.size w W → Calls Tryz.prog 52 #[.agg (lineA ax ay bx bY (bx - ax) (bY - ay)), .pointer (some ⟨B, 0, none⟩)] W fun e w' => e = .returned (.bool b) ∧ Below W.heap.size W w') :
 Calls Tryz.prog 94 #[.pointer (some ⟨S, 0, none⟩), .pointer (some ⟨A, 0, none⟩)] w fun e w' => e = .returned (.bool b) ∧ Below w.heap.size w w' := by
 have H1 := Lib.hid (fun W => check_seg ax ay bx bY W h1 h2 h3 h4 hne)
 have H2 := Lib.hid (fun W => segfrom_any ax ay bx bY W h1 h2 h3 h4)
 have HF := Lib.hid HF
 clear h1 h2 h3 h4 hne
 generalize bx - ax = r at H2 HF
 generalize bY - ay = u at H2 HF
 unfold segV at H1
 have eL : ∀ (args : Array Value) (w : World), (callFunc 52 args).run Tryz.prog w = .ok (.enter 52 args) w := fun args w => Tryz.call52 args w
 have g1 : AggTy Tryz.prog 25 (segA ax ay bx bY).size := agg_seg
 go_enter Tryz.func94, Tryz.ntmps94
 have x0 := hS.c 0 rfl
 have x1 := hS.c 1 rfl
 have x2 := hS.c 2 rfl
 have x3 := hS.c 3 rfl
 go_wp2_with fail
 refine (H1.out _).mono ?_
 rintro e w1 ⟨rfl, hb⟩
 replace hS := hS.after hb
 replace hA := hA.after hb
 have hB : Below w.heap.size w w1 := hb
 clear hb x0 x1 x2 x3
 go_wp2_with fail
 refine (for_okS _).mono ?_
 rintro e w2 ⟨rfl, rfl⟩
 go_wp2_with fail
 have n0 := cell_regrown (hS.c 0 rfl)
 have n1 := cell_regrown (hS.c 1 rfl)
 have n2 := cell_regrown (hS.c 2 rfl)
 have n3 := cell_regrown (hS.c 3 rfl)
 have m0 := cell_regrown (hA.c 0 rfl)
 have hg : ∀ d os, Below w.heap.size w (grow (redrawn w1 d) os) := fun d os => hB.trans ((below_regrown w1 d os).mono hB.size)
 have C1 := Lib.hid (fun d os => Calls.regrown_of (H2.out (grow (redrawn w1 d) os)))
 have C2 := Lib.hid (fun d os => Calls.regrown_of (HF.out (grow (redrawn w1 d) os) (hg d os)))
 clear hS hA H1 H2 HF hg
 refine wp_region_quiet_below (by kernel_rfl) (by kernel_rfl) ?_
 repeat (quiet_step ((first | with_reducible exact C1.out _ _ | with_reducible exact C2.out _ _)))
 refine wpQuiet_nil ?_
 intro _ hw'
 obtain ⟨⟨dq, osq⟩, hw''⟩ := hw'
 subst hw''
 go_wp2
 go_ret
 exact ⟨rfl, hB.trans ((below_regrown w1 dq osq).mono hB.size)⟩
set_option maxRecDepth 100000 in
set_option maxHeartbeats 3200000 in
theorem toldb_core (ax ay bx bY : Int) (B : Nat) (got : Bool) (k : Int) (w : World)
 (H1 : ∀ W S A, Below w.heap.size w W → Row W S (segA ax ay bx bY).toList → Row W A [.func (.func 52) #[] #[.pointer (some ⟨B, 0, none⟩)]] → ∀ caps, caps = #[.pointer (some ⟨S, 0, none⟩), .pointer (some ⟨A, 0, none⟩)] →
   Calls Tryz.prog 93 #[.func (.func 94) #[] caps] W fun e w' => e = .returned (.tuple #[.bool got, .int .i64 k]) ∧ Below W.heap.size W w') :
 Calls Tryz.prog 51 #[.agg (segA ax ay bx bY), .func (.func 52) #[] #[.pointer (some ⟨B, 0, none⟩)]] w fun e w' => e = .returned (.tuple #[.bool got, .int .i64 k]) ∧ Below w.heap.size w w' := by
 have hmf : ∀ (fn : Fn) (first cap : Array Value) (w : World), (Instr.makeFunc fn first cap).run Tryz.prog w = .ok (.func fn first cap) w := fun _ _ _ _ => rfl
 have H1 := Lib.hid H1
 go_enter Tryz.func51, Tryz.ntmps51
 go_wp2_with fail
 have r0 := ((Row.at (w := w) rfl (segA ax ay bx bY).toList 25).alloc (.cells #[.func (.func 52) #[] #[.pointer (some ⟨B, 0, none⟩)]] 106))
 have r1 := (Row.at (w := w.alloc (.cells (segA ax ay bx bY) 25)) (n := w.heap.size + 1) (by simp) [.func (.func 52) #[] #[.pointer (some ⟨B, 0, none⟩)]] 106)
 have hb0 := (((Below.refl w.heap.size w).alloc (Nat.le_refl _) (.cells (segA ax ay bx bY) 25)).alloc (by simp) (.cells #[.func (.func 52) #[] #[.pointer (some ⟨B, 0, none⟩)]] 106))
 generalize World.alloc _ _ = W0 at *
 refine (H1.out W0 _ _ hb0 r0 r1 _ rfl).mono ?_
 rintro e w1 ⟨rfl, hb⟩
 replace hb0 := hb0.trans (hb.mono hb0.size)
 clear r0 r1 hb
 go_wp2_with fail
 go_ret2
 exact ⟨rfl, hb0⟩
set_option maxRecDepth 100000 in
set_option maxHeartbeats 3200000 in
theorem On_core (P : Array Value) (ax ay bx bY : Int) (got : Bool) (k : Int) (w : World) (_hsP : P.size = 20)
 (H1 : ∀ W B, Below w.heap.size w W → Row W B P.toList →
   Calls Tryz.prog 51 #[.agg (segA ax ay bx bY), .func (.func 52) #[] #[.pointer (some ⟨B, 0, none⟩)]] W fun e w' => e = .returned (.tuple #[.bool got, .int .i64 k]) ∧ Below W.heap.size W w') :
 Calls Tryz.prog 20 #[.agg (segA ax ay bx bY), .agg P] w fun e w' => e = .returned (.tuple #[.bool got, .int .i64 k]) ∧ Below w.heap.size w w' := by
 have hmf : ∀ (fn : Fn) (first cap : Array Value) (w : World), (Instr.makeFunc fn first cap).run Tryz.prog w = .ok (.func fn first cap) w := fun _ _ _ _ => rfl
 have H1 := Lib.hid H1
 go_enter Tryz.func20, Tryz.ntmps20
 go_upto_region 1 with fail
 generalize hW : World.alloc _ _ = W0
 have rP : Row W0 (w.heap.size + 1) P.toList := by rw [← hW]; exact Row.at (by simp) _ _
 have rS : Row W0 w.heap.size (segA ax ay bx bY).toList := by rw [← hW]; exact (Row.at rfl (segA ax ay bx bY).toList _).alloc _
 have hB : Below w.heap.size w W0 := by rw [← hW]; exact ((Below.refl _ _).alloc (Nat.le_refl _) _).alloc (by simp) _
 clear hW
 have n0 := rS.c 0 rfl
 have n1 := rS.c 1 rfl
 have n2 := rS.c 2 rfl
 have n3 := rS.c 3 rfl
 go_wp2_with fail
 refine (H1.out W0 _ hB rP).mono ?_
 rintro e w1 ⟨rfl, hb⟩
 replace hB := hB.trans (hb.mono hB.size)
 clear rP rS hb
 go_wp2_with fail
 go_ret2
 exact ⟨rfl, hB⟩
theorem On_right (s : Sg) (p : Pt) (w : World) (hs : BdS s) (hne : NeS s) (hp : RtP p) (ht : TabTz w) (hw0 : 3 < w.heap.size) :
 Calls Tryz.prog 20 #[.agg (sgA s), .agg (pP p)] w fun e w' => e = .returned (.tuple #[.bool (sideV s p == 0 && !(ordP p (dotP s.ax s.ay) == ordP p (dotP s.bx s.bY))), .int .i64 0]) ∧ Below w.heap.size w w' := by
 have hs' := hs
 obtain ⟨h1, h2, h3, h4⟩ := hs'
 have up : ∀ {V W : World}, Below w.heap.size w V → Below V.heap.size V W → Below w.heap.size w W := fun a b => a.trans (b.mono a.size)
 have pos : ∀ {V : World}, Below w.heap.size w V → 3 < V.heap.size := fun a => Nat.lt_of_lt_of_le hw0 a.size
 refine On_core (pP p) s.ax s.ay s.bx s.bY _ 0 w rfl (fun W B hW hP => ?_)
 refine toldb_core s.ax s.ay s.bx s.bY B _ 0 W (fun W1 S A hW1 hS hA caps hc => ?_)
 subst hc
 have hB1 := up hW hW1
 refine caught_bool 94 _ _ W1 (fun args w => Tryz.call94 args w) (fun W2 hW2 => ?_)
 have hB2 := up hB1 hW2
 refine toldb1_core S A B s.ax s.ay s.bx s.bY _ W2 h1 h2 h3 h4 hne (hS.after hW2) (hA.after hW2) (fun W3 hW3 => ?_)
 have hB3 := up hB2 hW3
 refine on1_core (pP p) s.ax s.ay s.bx s.bY _ _ (sideV s p) _ B W3 rfl (((hP.after hW1).after hW2).after hW3) (fun W4 hW4 => ?_) (fun W4 hW4 => ?_)
 ·exact sideOf_right s p W4 hs hp (ht.below hw0 (up hB3 hW4)) (pos (up hB3 hW4))
 ·have hB4 := up hB3 hW4
  exact spans_core (pP p) s.ax s.ay s.bx s.bY _ _ _ _ W4 rfl
   (fun W5 hW5 => sorder_num p s.ax s.ay W5 hp h1 h2 (ht.below hw0 (up hB4 hW5)) (pos (up hB4 hW5)))
   (fun W5 hW5 => sorder_num p s.bx s.bY W5 hp h3 h4 (ht.below hw0 (up hB4 hW5)) (pos (up hB4 hW5)))
theorem cmpI_zero (a b : Int) : (cmpI a b == 0) = decide (a - b = 0) := by
 unfold cmpI
 rw [Bool.eq_iff_iff, decide_eq_true_eq]
 by_cases h1 : a < b
 ·rw [if_pos h1]; constructor
  ·intro h; exact absurd h (by decide)
  ·intro h; omega
 ·rw [if_neg h1]
  by_cases h2 : b < a
  ·rw [if_pos h2]; constructor
   ·intro h; exact absurd h (by decide)
   ·intro h; omega
  ·rw [if_neg h2]; constructor
   ·intro _; omega
   ·intro _; rfl
theorem on_num (s : Sg) (p : Pt) (hp : RtP p) : (sideV s p == 0 && !(ordP p (dotP s.ax s.ay) == ordP p (dotP s.bx s.bY))) = onB s p := by
 rw [ordP_dot p _ _ hp, ordP_dot p _ _ hp]
 unfold sideV onB valS
 rw [cmpI_zero]
 congr 1
 by_cases h : cmpPt p s.ax s.ay = cmpPt p s.bx s.bY
 ·simp [h]
 ·simp [h]
theorem On_num (s : Sg) (p : Pt) (w : World) (hs : BdS s) (hne : NeS s) (hp : RtP p) (ht : TabTz w) (hw0 : 3 < w.heap.size) :
 Calls Tryz.prog 20 #[.agg (sgA s), .agg (pP p)] w fun e w' => e = .returned (.tuple #[.bool (onB s p), .int .i64 0]) ∧ Below w.heap.size w w' := by
 have h := On_right s p w hs hne hp ht hw0
 rw [on_num s p hp] at h
 exact h
end Go.Proofs.YtongeeggaigepaaGreatDoor

namespace Go.Proofs.YtongeeggaigepaaGreatDoor
open Go.RowKit Go.Sort CrossMath
end Go.Proofs.YtongeeggaigepaaGreatDoor

namespace Go.Proofs.YtongeeggaigepaaGreatDoor
open Go.RowKit Go.Sort CrossMath
theorem catch_int_idle (p : Addr) (w : World) :
 CallsD Tryz.prog 117 #[.pointer (some p)] .returning w fun e u' w' => e = .returned (.tuple #[]) ∧ u' = .returning ∧ w' = w := by
 refine callsD_of_wpS Tryz.func117 rfl fun c₀ cs hu => ?_
 apply wpS_seq
 apply wpS_region
 simp [wpOpsS, go_sem, recoverD, hu, Tryz.ntmps117, Exit.thenS]
 change Code.wpS _ _ _ { tmps := #[.pointer (some p), .nilIface, undef, undef, .nilIface, undef, undef, undef, undef, undef, undef, undef, undef, undef, undef, undef], defers := [] } _ _
 refine wpS_of_wp ?_
 go_wp2
 cases c₀
 simp_all [bodyPostS, results, Tryz.results117]
set_option maxRecDepth 100000 in
set_option maxHeartbeats 1600000 in
theorem caught_int (F : FuncId) (caps : Array Value) (b : Int) (w : World) (eF : ∀ (args : Array Value) (w : World), (callFunc F args).run Tryz.prog w = .ok (.enter F args) w)
 (hw : ∀ W, Below w.heap.size w W → Calls Tryz.prog F caps W fun e w' => e = .returned (.int .i64 b) ∧ Below W.heap.size W w') :
 Calls Tryz.prog 83 #[.func (.func F) #[] caps] w fun e w' => e = .returned (.tuple #[.int .i64 b, .int .i64 0]) ∧ Below w.heap.size w w' := by
 have hmf : ∀ (fn : Fn) (first cap : Array Value) (w : World), (Instr.makeFunc fn first cap).run Tryz.prog w = .ok (.func fn first cap) w := fun _ _ _ _ => rfl
 have Hw := Lib.hid hw; clear hw
 go_enter_defers Tryz.func83, Tryz.ntmps83
 go_wp2_with fail
 generalize hW : World.alloc _ _ = W0
 have rE : Row W0 w.heap.size [.int .i64 0] := by rw [← hW]; exact Row.at rfl _ _
 have hB : Below w.heap.size w W0 := by rw [← hW]; exact (Below.refl w.heap.size w).alloc (Nat.le_refl _) _
 clear hW
 refine (Hw.out W0 hB).mono ?_
 rintro e w1 ⟨rfl, hb⟩
 replace rE := rE.after hb
 replace hB := hB.trans (hb.mono hB.size)
 have hE := rE.c 0 rfl
 have fE := rE.f 0 rfl
 clear hb
 go_wp2_with fail
 clear hE fE
 have rE3 : Row (w1.setCell ⟨w.heap.size, 0, none⟩ (.int .i64 0)) w.heap.size [.int .i64 0] := rE.set 0 (by simp) _
 replace hB := below_put1 hB (Nat.le_refl _) 0 (.int .i64 0)
 generalize World.setCell _ _ _ = W3 at rE3 hB ⊢
 refine leaves_cons (f := 117) (args := #[.pointer (some ⟨w.heap.size, 0, none⟩)]) (by simp) (by simp [go_sem]) ?_
 refine (catch_int_idle ⟨w.heap.size, 0, none⟩ _).mono ?_
 rintro e u' w'' ⟨rfl, rfl, rfl⟩
 have l2 := load_errno rE3
 simp [Leaves, settle, results, Tryz.results83, asAddr, l2]
 exact hB
set_option maxRecDepth 100000 in
set_option maxHeartbeats 3200000 in
theorem toldi1_core (S A B : Nat) (ax ay bx bY : Int) (b : Int) (w : World) (h1 : Bd ax) (h2 : Bd ay) (h3 : Bd bx) (h4 : Bd bY) (hne : ¬ (ax = bx ∧ ay = bY)) (hS : Row w S (segA ax ay bx bY).toList) (hA : Row w A [.func (.func 49) #[] #[.pointer (some ⟨B, 0, none⟩)]])
 (HF : ∀ W, Below w.heap.size w W → Calls Tryz.prog 49 #[.agg (lineA ax ay bx bY (bx - ax) (bY - ay)), .pointer (some ⟨B, 0, none⟩)] W fun e w' => e = .returned (.int .i64 b) ∧ Below W.heap.size W w') :
 Calls Tryz.prog 84 #[.pointer (some ⟨S, 0, none⟩), .pointer (some ⟨A, 0, none⟩)] w fun e w' => e = .returned (.int .i64 b) ∧ Below w.heap.size w w' := by
 have H1 := Lib.hid (fun W => check_seg ax ay bx bY W h1 h2 h3 h4 hne)
 have H2 := Lib.hid (fun W => segfrom_any ax ay bx bY W h1 h2 h3 h4)
 have HF := Lib.hid HF
 clear h1 h2 h3 h4 hne
 generalize bx - ax = r at H2 HF
 generalize bY - ay = u at H2 HF
 unfold segV at H1
 have eL : ∀ (args : Array Value) (w : World), (callFunc 49 args).run Tryz.prog w = .ok (.enter 49 args) w := fun args w => Tryz.call49 args w
 have g1 : AggTy Tryz.prog 25 (segA ax ay bx bY).size := agg_seg
 go_enter Tryz.func84, Tryz.ntmps84
 have x0 := hS.c 0 rfl
 have x1 := hS.c 1 rfl
 have x2 := hS.c 2 rfl
 have x3 := hS.c 3 rfl
 go_wp2_with fail
 refine (H1.out _).mono ?_
 rintro e w1 ⟨rfl, hb⟩
 replace hS := hS.after hb
 replace hA := hA.after hb
 have hB : Below w.heap.size w w1 := hb
 clear hb x0 x1 x2 x3
 go_wp2_with fail
 refine (for_okS _).mono ?_
 rintro e w2 ⟨rfl, rfl⟩
 go_wp2_with fail
 have n0 := cell_regrown (hS.c 0 rfl)
 have n1 := cell_regrown (hS.c 1 rfl)
 have n2 := cell_regrown (hS.c 2 rfl)
 have n3 := cell_regrown (hS.c 3 rfl)
 have m0 := cell_regrown (hA.c 0 rfl)
 have hg : ∀ d os, Below w.heap.size w (grow (redrawn w1 d) os) := fun d os => hB.trans ((below_regrown w1 d os).mono hB.size)
 have C1 := Lib.hid (fun d os => Calls.regrown_of (H2.out (grow (redrawn w1 d) os)))
 have C2 := Lib.hid (fun d os => Calls.regrown_of (HF.out (grow (redrawn w1 d) os) (hg d os)))
 clear hS hA H1 H2 HF hg
 refine wp_region_quiet_below (by kernel_rfl) (by kernel_rfl) ?_
 repeat (quiet_step ((first | with_reducible exact C1.out _ _ | with_reducible exact C2.out _ _)))
 refine wpQuiet_nil ?_
 intro _ hw'
 obtain ⟨⟨dq, osq⟩, hw''⟩ := hw'
 subst hw''
 go_wp2
 go_ret
 exact ⟨rfl, hB.trans ((below_regrown w1 dq osq).mono hB.size)⟩
set_option maxRecDepth 100000 in
set_option maxHeartbeats 3200000 in
theorem toldi_core (ax ay bx bY : Int) (B : Nat) (got : Int) (k : Int) (w : World)
 (H1 : ∀ W S A, Below w.heap.size w W → Row W S (segA ax ay bx bY).toList → Row W A [.func (.func 49) #[] #[.pointer (some ⟨B, 0, none⟩)]] → ∀ caps, caps = #[.pointer (some ⟨S, 0, none⟩), .pointer (some ⟨A, 0, none⟩)] →
   Calls Tryz.prog 83 #[.func (.func 84) #[] caps] W fun e w' => e = .returned (.tuple #[.int .i64 got, .int .i64 k]) ∧ Below W.heap.size W w') :
 Calls Tryz.prog 48 #[.agg (segA ax ay bx bY), .func (.func 49) #[] #[.pointer (some ⟨B, 0, none⟩)]] w fun e w' => e = .returned (.tuple #[.int .i64 got, .int .i64 k]) ∧ Below w.heap.size w w' := by
 have hmf : ∀ (fn : Fn) (first cap : Array Value) (w : World), (Instr.makeFunc fn first cap).run Tryz.prog w = .ok (.func fn first cap) w := fun _ _ _ _ => rfl
 have H1 := Lib.hid H1
 go_enter Tryz.func48, Tryz.ntmps48
 go_wp2_with fail
 have r0 := ((Row.at (w := w) rfl (segA ax ay bx bY).toList 25).alloc (.cells #[.func (.func 49) #[] #[.pointer (some ⟨B, 0, none⟩)]] 104))
 have r1 := (Row.at (w := w.alloc (.cells (segA ax ay bx bY) 25)) (n := w.heap.size + 1) (by simp) [.func (.func 49) #[] #[.pointer (some ⟨B, 0, none⟩)]] 104)
 have hb0 := (((Below.refl w.heap.size w).alloc (Nat.le_refl _) (.cells (segA ax ay bx bY) 25)).alloc (by simp) (.cells #[.func (.func 49) #[] #[.pointer (some ⟨B, 0, none⟩)]] 104))
 generalize World.alloc _ _ = W0 at *
 refine (H1.out W0 _ _ hb0 r0 r1 _ rfl).mono ?_
 rintro e w1 ⟨rfl, hb⟩
 replace hb0 := hb0.trans (hb.mono hb0.size)
 clear r0 r1 hb
 go_wp2_with fail
 go_ret2
 exact ⟨rfl, hb0⟩
theorem catch_string_idle (p : Addr) (w : World) :
 CallsD Tryz.prog 130 #[.pointer (some p)] .returning w fun e u' w' => e = .returned (.tuple #[]) ∧ u' = .returning ∧ w' = w := by
 refine callsD_of_wpS Tryz.func130 rfl fun c₀ cs hu => ?_
 apply wpS_seq
 apply wpS_region
 simp [wpOpsS, go_sem, recoverD, hu, Tryz.ntmps130, Exit.thenS]
 change Code.wpS _ _ _ { tmps := #[.pointer (some p), .nilIface, undef, undef, .nilIface, undef, undef, undef, undef, undef, undef, undef, undef, undef, undef, undef], defers := [] } _ _
 refine wpS_of_wp ?_
 go_wp2
 cases c₀
 simp_all [bodyPostS, results, Tryz.results130]
set_option maxRecDepth 100000 in
set_option maxHeartbeats 1600000 in
theorem caught_string (F : FuncId) (caps : Array Value) (b : ByteArray) (w : World) (eF : ∀ (args : Array Value) (w : World), (callFunc F args).run Tryz.prog w = .ok (.enter F args) w)
 (hw : ∀ W, Below w.heap.size w W → Calls Tryz.prog F caps W fun e w' => e = .returned (.string b) ∧ Below W.heap.size W w') :
 Calls Tryz.prog 100 #[.func (.func F) #[] caps] w fun e w' => e = .returned (.tuple #[.string b, .int .i64 0]) ∧ Below w.heap.size w w' := by
 have hmf : ∀ (fn : Fn) (first cap : Array Value) (w : World), (Instr.makeFunc fn first cap).run Tryz.prog w = .ok (.func fn first cap) w := fun _ _ _ _ => rfl
 have Hw := Lib.hid hw; clear hw
 go_enter_defers Tryz.func100, Tryz.ntmps100
 go_wp2_with fail
 generalize hW : World.alloc _ _ = W0
 have rE : Row W0 w.heap.size [.int .i64 0] := by rw [← hW]; exact Row.at rfl _ _
 have hB : Below w.heap.size w W0 := by rw [← hW]; exact (Below.refl w.heap.size w).alloc (Nat.le_refl _) _
 clear hW
 refine (Hw.out W0 hB).mono ?_
 rintro e w1 ⟨rfl, hb⟩
 replace rE := rE.after hb
 replace hB := hB.trans (hb.mono hB.size)
 have hE := rE.c 0 rfl
 have fE := rE.f 0 rfl
 clear hb
 go_wp2_with fail
 clear hE fE
 have rE3 : Row (w1.setCell ⟨w.heap.size, 0, none⟩ (.int .i64 0)) w.heap.size [.int .i64 0] := rE.set 0 (by simp) _
 replace hB := below_put1 hB (Nat.le_refl _) 0 (.int .i64 0)
 generalize World.setCell _ _ _ = W3 at rE3 hB ⊢
 refine leaves_cons (f := 130) (args := #[.pointer (some ⟨w.heap.size, 0, none⟩)]) (by simp) (by simp [go_sem]) ?_
 refine (catch_string_idle ⟨w.heap.size, 0, none⟩ _).mono ?_
 rintro e u' w'' ⟨rfl, rfl, rfl⟩
 have l2 := load_errno rE3
 simp [Leaves, settle, results, Tryz.results100, asAddr, l2]
 exact hB
theorem catch_string_gave (p : Addr) (x c : Int) (older : List PanicEntry) (w : World) (hc : w.cell? p = some (.int .i64 x)) (hz : w.frozen? p = false) :
 CallsD Tryz.prog 130 #[.pointer (some p)] (.panicking ({ v := .iface 26 (.int .i64 c), recovered := false } :: older)) w fun e u' w' =>
  e = .returned (.tuple #[]) ∧ u' = .panicking ({ v := .iface 26 (.int .i64 c), recovered := true } :: older) ∧ w' = w.setCell p (.int .i64 c) := by
 refine callsD_of_wpS Tryz.func130 rfl fun c₀ cs hu => ?_
 apply wpS_seq
 apply wpS_region
 simp [wpOpsS, go_sem, recoverD, hu, Tryz.ntmps130, Exit.thenS]
 change Code.wpS _ _ _ { tmps := #[.pointer (some p), .iface 26 (.int .i64 c), undef, undef, .iface 26 (.int .i64 c), undef, undef, undef, undef, undef, undef, undef, undef, undef, undef, undef], defers := [] } _ _
 have hta : ∀ w, (Instr.typeAssert (.iface 26 (.int .i64 c)) 20 26 true).run Tryz.prog w = .ok (.tuple #[.int .i64 c, .bool true]) w := assert_errno c
 have hnot : ∀ (x : Bool) (w : World), (Op.unary .not (.bool x)).run Tryz.prog w = .ok (.bool (!x)) w := fun _ _ => rfl
 refine wpS_of_wp ?_
 go_wp2
 simp [bodyPostS, results, Tryz.results130]
set_option maxRecDepth 100000 in
set_option maxHeartbeats 1600000 in
theorem caught_string_gave (F : FuncId) (caps : Array Value) (k : Int) (w : World) (eF : ∀ (args : Array Value) (w : World), (callFunc F args).run Tryz.prog w = .ok (.enter F args) w)
 (hw : ∀ W, Below w.heap.size w W → Calls Tryz.prog F caps W fun e w' => e = (Got.gave k).end ∧ Below W.heap.size W w') :
 Calls Tryz.prog 100 #[.func (.func F) #[] caps] w fun e w' => e = .returned (.tuple #[.string ⟨#[]⟩, .int .i64 k]) ∧ Below w.heap.size w w' := by
 have hmf : ∀ (fn : Fn) (first cap : Array Value) (w : World), (Instr.makeFunc fn first cap).run Tryz.prog w = .ok (.func fn first cap) w := fun _ _ _ _ => rfl
 have Hw := Lib.hid hw; clear hw
 go_enter_defers Tryz.func100, Tryz.ntmps100
 go_wp2_with fail
 generalize hW : World.alloc _ _ = W0
 have rE : Row W0 w.heap.size [.int .i64 0] := by rw [← hW]; exact Row.at rfl _ _
 have hB : Below w.heap.size w W0 := by rw [← hW]; exact (Below.refl w.heap.size w).alloc (Nat.le_refl _) _
 clear hW
 refine (Hw.out W0 hB).mono ?_
 rintro e w1 ⟨rfl, hb⟩
 replace rE := rE.after hb
 replace hB := hB.trans (hb.mono hB.size)
 have hE := rE.c 0 rfl
 have fE := rE.f 0 rfl
 clear hb
 simp only [Got.end]
 go_wp2
 refine leaves_cons (f := 130) (args := #[.pointer (some ⟨w.heap.size, 0, none⟩)]) (by simp) (by simp [go_sem]) ?_
 refine (catch_string_gave ⟨w.heap.size, 0, none⟩ 0 k [] _ hE fE).mono ?_
 rintro e u' w'' ⟨rfl, rfl, rfl⟩
 have rE2 : Row (w1.setCell ⟨w.heap.size, 0, none⟩ (.int .i64 k)) w.heap.size [.int .i64 k] := rE.set 0 (by simp) _
 have l2 := load_errno rE2
 simp [Leaves, settle, results, Tryz.results100, asAddr, l2]
 exact below_put1 hB (Nat.le_refl _) 0 (.int .i64 k)
set_option maxRecDepth 100000 in
set_option maxHeartbeats 3200000 in
theorem tolds1_core (S A : Nat) (ax ay bx bY : Int) (b : ByteArray) (w : World) (h1 : Bd ax) (h2 : Bd ay) (h3 : Bd bx) (h4 : Bd bY) (hne : ¬ (ax = bx ∧ ay = bY)) (hS : Row w S (segA ax ay bx bY).toList) (hA : Row w A [.func (.func 63) #[] #[]])
 (HF : ∀ W, Below w.heap.size w W → Calls Tryz.prog 63 #[.agg (lineA ax ay bx bY (bx - ax) (bY - ay))] W fun e w' => e = .returned (.string b) ∧ Below W.heap.size W w') :
 Calls Tryz.prog 101 #[.pointer (some ⟨S, 0, none⟩), .pointer (some ⟨A, 0, none⟩)] w fun e w' => e = .returned (.string b) ∧ Below w.heap.size w w' := by
 have H1 := Lib.hid (fun W => check_seg ax ay bx bY W h1 h2 h3 h4 hne)
 have H2 := Lib.hid (fun W => segfrom_any ax ay bx bY W h1 h2 h3 h4)
 have HF := Lib.hid HF
 clear h1 h2 h3 h4 hne
 generalize bx - ax = r at H2 HF
 generalize bY - ay = u at H2 HF
 unfold segV at H1
 have eL : ∀ (args : Array Value) (w : World), (callFunc 63 args).run Tryz.prog w = .ok (.enter 63 args) w := fun args w => Tryz.call63 args w
 have g1 : AggTy Tryz.prog 25 (segA ax ay bx bY).size := agg_seg
 go_enter Tryz.func101, Tryz.ntmps101
 have x0 := hS.c 0 rfl
 have x1 := hS.c 1 rfl
 have x2 := hS.c 2 rfl
 have x3 := hS.c 3 rfl
 go_wp2_with fail
 refine (H1.out _).mono ?_
 rintro e w1 ⟨rfl, hb⟩
 replace hS := hS.after hb
 replace hA := hA.after hb
 have hB : Below w.heap.size w w1 := hb
 clear hb x0 x1 x2 x3
 go_wp2_with fail
 refine (for_okS _).mono ?_
 rintro e w2 ⟨rfl, rfl⟩
 go_wp2_with fail
 have n0 := cell_regrown (hS.c 0 rfl)
 have n1 := cell_regrown (hS.c 1 rfl)
 have n2 := cell_regrown (hS.c 2 rfl)
 have n3 := cell_regrown (hS.c 3 rfl)
 have m0 := cell_regrown (hA.c 0 rfl)
 have hg : ∀ d os, Below w.heap.size w (grow (redrawn w1 d) os) := fun d os => hB.trans ((below_regrown w1 d os).mono hB.size)
 have C1 := Lib.hid (fun d os => Calls.regrown_of (H2.out (grow (redrawn w1 d) os)))
 have C2 := Lib.hid (fun d os => Calls.regrown_of (HF.out (grow (redrawn w1 d) os) (hg d os)))
 clear hS hA H1 H2 HF hg
 refine wp_region_quiet_below (by kernel_rfl) (by kernel_rfl) ?_
 repeat (quiet_step ((first | with_reducible exact C1.out _ _ | with_reducible exact C2.out _ _)))
 refine wpQuiet_nil ?_
 intro _ hw'
 obtain ⟨⟨dq, osq⟩, hw''⟩ := hw'
 subst hw''
 go_wp2
 go_ret
 exact ⟨rfl, hB.trans ((below_regrown w1 dq osq).mono hB.size)⟩
set_option maxRecDepth 100000 in
set_option maxHeartbeats 3200000 in
theorem tolds_core (ax ay bx bY : Int) (got : ByteArray) (k : Int) (w : World)
 (H1 : ∀ W S A, Below w.heap.size w W → Row W S (segA ax ay bx bY).toList → Row W A [.func (.func 63) #[] #[]] → ∀ caps, caps = #[.pointer (some ⟨S, 0, none⟩), .pointer (some ⟨A, 0, none⟩)] →
   Calls Tryz.prog 100 #[.func (.func 101) #[] caps] W fun e w' => e = .returned (.tuple #[.string got, .int .i64 k]) ∧ Below W.heap.size W w') :
 Calls Tryz.prog 62 #[.agg (segA ax ay bx bY), .func (.func 63) #[] #[]] w fun e w' => e = .returned (.tuple #[.string got, .int .i64 k]) ∧ Below w.heap.size w w' := by
 have hmf : ∀ (fn : Fn) (first cap : Array Value) (w : World), (Instr.makeFunc fn first cap).run Tryz.prog w = .ok (.func fn first cap) w := fun _ _ _ _ => rfl
 have H1 := Lib.hid H1
 go_enter Tryz.func62, Tryz.ntmps62
 go_wp2_with fail
 have r0 := ((Row.at (w := w) rfl (segA ax ay bx bY).toList 25).alloc (.cells #[.func (.func 63) #[] #[]] 115))
 have r1 := (Row.at (w := w.alloc (.cells (segA ax ay bx bY) 25)) (n := w.heap.size + 1) (by simp) [.func (.func 63) #[] #[]] 115)
 have hb0 := (((Below.refl w.heap.size w).alloc (Nat.le_refl _) (.cells (segA ax ay bx bY) 25)).alloc (by simp) (.cells #[.func (.func 63) #[] #[]] 115))
 generalize World.alloc _ _ = W0 at *
 refine (H1.out W0 _ _ hb0 r0 r1 _ rfl).mono ?_
 rintro e w1 ⟨rfl, hb⟩
 replace hb0 := hb0.trans (hb.mono hb0.size)
 clear r0 r1 hb
 go_wp2_with fail
 go_ret2
 exact ⟨rfl, hb0⟩
theorem tolds1_noseg (S A : Nat) (ax ay bx bY : Int) (w : World) (hc : ckI ax ay bx bY = 2) (hS : Row w S (segA ax ay bx bY).toList) :
 Calls Tryz.prog 101 #[.pointer (some ⟨S, 0, none⟩), .pointer (some ⟨A, 0, none⟩)] w fun e w' => e = (Got.gave 2).end ∧ Below w.heap.size w w' := by
 have H1 : Hid (∀ W, Calls Tryz.prog 14 #[segV ax ay bx bY] W fun e w' => e = .returned (.int .i64 2) ∧ Below W.heap.size W w') := Lib.hid (fun W => by
  have := check_any4 ax ay bx bY W
  rw [hc] at this; exact this)
 clear hc
 unfold segV at H1
 go_enter Tryz.func101, Tryz.ntmps101
 have x0 := hS.c 0 rfl
 have x1 := hS.c 1 rfl
 have x2 := hS.c 2 rfl
 have x3 := hS.c 3 rfl
 go_wp2_with fail
 refine (H1.out _).mono ?_
 rintro e w1 ⟨rfl, hb⟩
 clear x0 x1 x2 x3
 go_wp2_with fail
 refine (for_gives 2 _ (by decide)).mono ?_
 rintro e w2 ⟨rfl, rfl⟩
 go_wp2
 exact ⟨rfl, rfl, hb⟩
set_option maxRecDepth 100000 in
set_option maxHeartbeats 3200000 in
theorem Side_core (P : Array Value) (ax ay bx bY : Int) (got : Int) (k : Int) (w : World) (_hsP : P.size = 20)
 (H1 : ∀ W B, Below w.heap.size w W → Row W B P.toList →
   Calls Tryz.prog 48 #[.agg (segA ax ay bx bY), .func (.func 49) #[] #[.pointer (some ⟨B, 0, none⟩)]] W fun e w' => e = .returned (.tuple #[.int .i64 got, .int .i64 k]) ∧ Below W.heap.size W w') :
 Calls Tryz.prog 19 #[.agg (segA ax ay bx bY), .agg P] w fun e w' => e = .returned (.tuple #[.int .i64 got, .int .i64 k]) ∧ Below w.heap.size w w' := by
 have hmf : ∀ (fn : Fn) (first cap : Array Value) (w : World), (Instr.makeFunc fn first cap).run Tryz.prog w = .ok (.func fn first cap) w := fun _ _ _ _ => rfl
 have H1 := Lib.hid H1
 go_enter Tryz.func19, Tryz.ntmps19
 go_upto_region 1 with fail
 generalize hW : World.alloc _ _ = W0
 have rP : Row W0 (w.heap.size + 1) P.toList := by rw [← hW]; exact Row.at (by simp) _ _
 have rS : Row W0 w.heap.size (segA ax ay bx bY).toList := by rw [← hW]; exact (Row.at rfl (segA ax ay bx bY).toList _).alloc _
 have hB : Below w.heap.size w W0 := by rw [← hW]; exact ((Below.refl _ _).alloc (Nat.le_refl _) _).alloc (by simp) _
 clear hW
 have n0 := rS.c 0 rfl
 have n1 := rS.c 1 rfl
 have n2 := rS.c 2 rfl
 have n3 := rS.c 3 rfl
 go_wp2_with fail
 refine (H1.out W0 _ hB rP).mono ?_
 rintro e w1 ⟨rfl, hb⟩
 replace hB := hB.trans (hb.mono hB.size)
 clear rP rS hb
 go_wp2_with fail
 go_ret2
 exact ⟨rfl, hB⟩
set_option maxRecDepth 100000 in
set_option maxHeartbeats 3200000 in
theorem side1_core (P : Array Value) (ax ay bx bY r u : Int) (e0 : Ending) (B : Nat) (w : World) (hsP : P.size = 20) (hP : Row w B P.toList) (he : (∃ v, e0 = .returned (.int .i64 v)) ∨ e0 = (Got.gave 2).end)
 (H1 : ∀ W, Below w.heap.size w W → Calls Tryz.prog 50 #[.agg (lineA ax ay bx bY r u), .agg P] W fun e w' => e = e0 ∧ Below W.heap.size W w') :
 Calls Tryz.prog 49 #[.agg (lineA ax ay bx bY r u), .pointer (some ⟨B, 0, none⟩)] w fun e w' => e = e0 ∧ Below w.heap.size w w' := by
 have H1 := Lib.hid H1
 have g1 : AggTy Tryz.prog 46 P.size := by rw [hsP]; exact agg_point
 go_enter Tryz.func49, Tryz.ntmps49
 go_upto_region 1 with fail
 generalize hW : World.alloc _ _ = W0
 have rA : Row W0 B P.toList := by rw [← hW]; exact hP.alloc _
 have rB : Row W0 w.heap.size (lineA ax ay bx bY r u).toList := by rw [← hW]; exact Row.at rfl (lineA ax ay bx bY r u).toList _
 have hB : Below w.heap.size w W0 := by rw [← hW]; exact (Below.refl _ _).alloc (Nat.le_refl _) _
 clear hW hP
 have gL : AggTy Tryz.prog 89 (lineA ax ay bx bY r u).size := agg_sline
 generalize hl : lineA ax ay bx bY r u = Ln at *
 clear hl
 go_wp2_with (first | (refine wpList_load_R rfl _ _ rfl B rfl P rA g1 ?_) | (refine wpList_load_R rfl _ _ rfl w.heap.size rfl Ln rB gL ?_))
 refine (H1.out _ hB).mono ?_
 rintro e w1 ⟨rfl, hb⟩
 replace hB := hB.trans (hb.mono hB.size)
 clear hb
 rcases he with ⟨v, rfl⟩ | rfl
 ·go_wp2_with fail
  go_ret
  exact ⟨rfl, hB⟩
 ·unfold Got.end
  go_wp2
  exact ⟨rfl, rfl, hB⟩
theorem Side_num (s : Sg) (p : Pt) (w : World) (hs : BdS s) (hne : NeS s) (hp : RtP p) (ht : TabTz w) (hw0 : 3 < w.heap.size) :
 Calls Tryz.prog 19 #[.agg (sgA s), .agg (pP p)] w fun e w' => e = .returned (.tuple #[.int .i64 (sideV s p), .int .i64 0]) ∧ Below w.heap.size w w' := by
 have hs' := hs
 obtain ⟨h1, h2, h3, h4⟩ := hs'
 have up : ∀ {V W : World}, Below w.heap.size w V → Below V.heap.size V W → Below w.heap.size w W := fun a b => a.trans (b.mono a.size)
 have pos : ∀ {V : World}, Below w.heap.size w V → 3 < V.heap.size := fun a => Nat.lt_of_lt_of_le hw0 a.size
 refine Side_core (pP p) s.ax s.ay s.bx s.bY _ 0 w rfl (fun W B hW hP => ?_)
 refine toldi_core s.ax s.ay s.bx s.bY B _ 0 W (fun W1 S A hW1 hS hA caps hc => ?_)
 subst hc
 have hB1 := up hW hW1
 refine caught_int 84 _ _ W1 (fun args w => Tryz.call84 args w) (fun W2 hW2 => ?_)
 have hB2 := up hB1 hW2
 refine toldi1_core S A B s.ax s.ay s.bx s.bY _ W2 h1 h2 h3 h4 hne (hS.after hW2) (hA.after hW2) (fun W3 hW3 => ?_)
 have hB3 := up hB2 hW3
 exact side1_core (pP p) s.ax s.ay s.bx s.bY _ _ _ B W3 rfl (((hP.after hW1).after hW2).after hW3) (.inl ⟨_, rfl⟩) (fun W4 hW4 => sideOf_right s p W4 hs hp (ht.below hw0 (up hB3 hW4)) (pos (up hB3 hW4)))
end Go.Proofs.YtongeeggaigepaaGreatDoor
