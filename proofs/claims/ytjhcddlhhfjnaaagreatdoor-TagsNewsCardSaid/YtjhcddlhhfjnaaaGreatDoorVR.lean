/- The law's own works. -/
import Derived.Test.YtjhcddlhhfjnaaaGreatDoorVQ
namespace Go.Proofs.YtjhcddlhhfjnaaaGreatDoor
open Go.RowKit Go.Sort Go.Shelf

theorem good_133 : Good [(1, 1), (3, 2)] := ⟨by decide, by simp [Rise], by decide, by decide⟩
theorem good_1 : Good [(1, 1)] := ⟨by decide, by simp [Rise], by decide, by decide⟩
theorem new_of {l : List Int} {e : Int} {cs : List (Int × Int)} (hg : Good cs) (h : rnew l = (e, expand cs)) : newA l = (e, cs) := by
  rw [new_same] at h
  obtain ⟨h1, h2⟩ := Prod.mk.inj h
  exact Prod.ext h1 (expand_inj (newA_good l) hg h2)
theorem new_313 : newA [3, 1, 3] = (0, [(1, 1), (3, 2)]) := new_of good_133 rfl
theorem new_0 : newA [0] = (2, []) := by rfl
theorem new_1 : newA [1] = (0, [(1, 1)]) := new_of good_1 rfl
theorem less_2 : lessE [(1, 1)] 2 = 5 := by rfl
theorem parse_21 : parseE ⟨#[50, 32, 49]⟩ = 200 := by
  have h := (parse_same ⟨#[50, 32, 49]⟩).1
  have h2 : rparse [50, 32, 49] = (200, []) := by rfl
  have h3 : rparse [50, 32, 49] = _ := h
  rw [h2] at h3
  exact (Prod.mk.inj h3).1.symm
theorem parse_empty : parseE ⟨#[]⟩ = 0 ∧ parseL ⟨#[]⟩ = [] := ⟨by unfold parseE; rw [if_pos rfl], by unfold parseL; rw [if_pos rfl]⟩
theorem itoa_1 : itoaB 1 = ⟨#[49]⟩ := by simp [itoaB, Lib.itoa, Lib.decDigits]
theorem itoa_3 : itoaB 3 = ⟨#[51]⟩ := by simp [itoaB, Lib.itoa, Lib.decDigits]
theorem text_133 : textB (expand [(1, 1), (3, 2)]) = ⟨#[49, 32, 51, 32, 51]⟩ := by
  show (⟨(Lib.join (([1, 3, 3].map itoaB).map (·.data.toList)) [32]).toArray⟩ : ByteArray) = _
  simp only [List.map_cons, List.map_nil, itoa_1, itoa_3]
  rfl
theorem odd_133 : oddL [(1, 1), (3, 2)] = [1] := by rfl
theorem many_133 : manyI [(1, 1), (3, 2)] 3 = 2 := by rfl
/-- Tags in a box. -/
structure BoxT (w : World) (b : Nat) (cs : List (Int × Int)) (A : Option Addr) (N c : Nat) (W : World) : Prop where
  row : Row W b [.slice A N c]
  len : N = cs.length
  cells : CellsS W A (cntCs cs)
  cap : N ≤ c
  bel : Below w.heap.size w W
theorem BoxT.after {w W W1 : World} {b : Nat} {cs : List (Int × Int)} {A : Option Addr} {N c : Nat} (h : BoxT w b cs A N c W) (hb : Below W.heap.size W W1) : BoxT w b cs A N c W1 :=
  ⟨h.row.after hb, h.len, h.cells.after hb, h.cap, h.bel.trans (hb.mono h.bel.size)⟩
theorem BoxT.made {w W : World} {cs : List (Int × Int)} {A : Option Addr} {N c : Nat} (h1 : N = cs.length) (h2 : CellsS W A (cntCs cs)) (h3 : N ≤ c) (h4 : Below w.heap.size w W) : BoxT w W.heap.size cs A N c (W.alloc (.cells #[.slice A N c] 26)) :=
  ⟨Row.at rfl [_] _, h1, h2.after ((Below.refl _ _).alloc (Nat.le_refl _) _), h3, h4.alloc h4.size _⟩
set_option maxRecDepth 100000 in
set_option maxHeartbeats 6400000 in
theorem works_any (w : World) (hv : VarS w) :
    Calls Tryz.prog 7 #[] w fun e w' => e = .returned (.bool true) ∧ Below w.heap.size w w' := by
  have HV := Lib.hid hv
  clear hv
  have HNew := Lib.hid (fun (l : List Int) q W (h : Row W q (intCs l)) (hl : l.length ≤ 3) => new_any l (some ⟨q, 0, none⟩) l.length l.length W rfl (by omega) (cells_row h))
  go_enter Tryz.func7, Tryz.ntmps7
  go_wp2_with fail
  generalize hW : World.alloc _ _ = V1
  have hr : Row V1 w.heap.size (intCs [3, 1, 3]) := by rw [← hW]; exact Row.at (by simp) (intCs [3, 1, 3]) _
  have HB := Lib.hid (show Below w.heap.size w V1 by rw [← hW]; exact (Below.refl _ _).alloc (Nat.le_refl _) _)
  clear hW
  have h := HNew.out [3, 1, 3] _ V1 hr (by decide)
  rw [new_313] at h
  have HC := Lib.hid h
  clear h hr
  refine HC.out.mono ?_
  rintro e W1 ⟨A1, N1, c1, rfl, hN, hC, hc, _, hb⟩
  clear HC
  have HY1 := Lib.hid (BoxT.made hN hC hc (HB.out.trans (hb.mono HB.out.size)))
  replace HB := Lib.hid (HB.out.trans (hb.mono HB.out.size))
  clear hN hC hc hb
  go_wp2_with fail
  generalize hW : World.alloc _ _ = V2
  have hr : Row V2 (W1.heap.size + 1) (intCs [0]) := by rw [← hW]; exact Row.at (by simp) (intCs [0]) _
  have HU : Hid (Below W1.heap.size W1 V2) := Lib.hid (by rw [← hW]; exact ((Below.refl _ _).alloc (Nat.le_refl _) _).alloc (by simp) _)
  replace HB := Lib.hid (HB.out.trans (HU.out.mono HB.out.size))
  have HX1 : Hid (BoxT w W1.heap.size [(1, 1), (3, 2)] A1 N1 c1 V2) := Lib.hid (by rw [← hW]; exact HY1.out.after ((Below.refl _ _).alloc (Nat.le_refl _) _))
  clear HY1
  clear HU
  clear hW
  have h := HNew.out [0] _ V2 hr (by decide)
  rw [new_0] at h
  have HC := Lib.hid h
  clear h hr
  refine HC.out.mono ?_
  rintro e W2 ⟨A2, N2, c2, rfl, hN, hC, hc, _, hb⟩
  clear HC
  have HY2 := Lib.hid (BoxT.made hN hC hc (HB.out.trans (hb.mono HB.out.size)))
  replace HB := Lib.hid (HB.out.trans (hb.mono HB.out.size))
  replace HX1 := Lib.hid (HX1.out.after hb)
  clear hN hC hc hb
  go_wp2_with fail
  generalize hW : World.alloc _ _ = V3
  have hr : Row V3 (W2.heap.size + 1) (intCs [1]) := by rw [← hW]; exact Row.at (by simp) (intCs [1]) _
  have HU : Hid (Below W2.heap.size W2 V3) := Lib.hid (by rw [← hW]; exact ((Below.refl _ _).alloc (Nat.le_refl _) _).alloc (by simp) _)
  replace HB := Lib.hid (HB.out.trans (HU.out.mono HB.out.size))
  replace HX1 := Lib.hid (HX1.out.after HU.out)
  have HX2 : Hid (BoxT w W2.heap.size [] A2 N2 c2 V3) := Lib.hid (by rw [← hW]; exact HY2.out.after ((Below.refl _ _).alloc (Nat.le_refl _) _))
  clear HY2
  clear HU
  clear hW
  have h := HNew.out [1] _ V3 hr (by decide)
  rw [new_1] at h
  have HC := Lib.hid h
  clear h hr
  refine HC.out.mono ?_
  rintro e W3 ⟨A3, N3, c3, rfl, hN, hC, hc, _, hb⟩
  clear HC
  have HY3 := Lib.hid (BoxT.made hN hC hc (HB.out.trans (hb.mono HB.out.size)))
  replace HB := Lib.hid (HB.out.trans (hb.mono HB.out.size))
  replace HX1 := Lib.hid (HX1.out.after hb)
  replace HX2 := Lib.hid (HX2.out.after hb)
  clear hN hC hc hb
  have x5 := (show Row (W3.alloc (.cells #[.slice A3 N3 c3] 26)) W3.heap.size [.slice A3 N3 c3] from Row.at rfl [_] _).c 0 rfl
  go_wp2_with fail
  generalize hW : World.alloc _ _ = V4
  have HU : Hid (Below W3.heap.size W3 V4) := Lib.hid (by rw [← hW]; exact (Below.refl _ _).alloc (Nat.le_refl _) _)
  replace HB := Lib.hid (HB.out.trans (HU.out.mono HB.out.size))
  replace HX1 := Lib.hid (HX1.out.after HU.out)
  replace HX2 := Lib.hid (HX2.out.after HU.out)
  have HX3 : Hid (BoxT w W3.heap.size [(1, 1)] A3 N3 c3 V4) := Lib.hid (by rw [← hW]; exact HY3.out)
  clear HY3
  clear HU hW
  have h := less_any [(1, 1)] A3 N3 c3 2 V4 HX3.out.len (by have := HX3.out.len; simp at this; omega) HX3.out.cap HX3.out.cells good_1.work
  rw [less_2] at h
  have HC := Lib.hid h
  clear h
  refine HC.out.mono ?_
  rintro e W4 ⟨A4, N4, c4, rfl, hN, hC, hc, _, hb⟩
  clear HC
  have HY4 := Lib.hid (BoxT.made hN hC hc (HB.out.trans (hb.mono HB.out.size)))
  replace HB := Lib.hid (HB.out.trans (hb.mono HB.out.size))
  replace HX1 := Lib.hid (HX1.out.after hb)
  replace HX2 := Lib.hid (HX2.out.after hb)
  replace HX3 := Lib.hid (HX3.out.after hb)
  clear hN hC hc hb
  go_wp2_with fail
  generalize hW : World.alloc _ _ = V5
  have HU : Hid (Below W4.heap.size W4 V5) := Lib.hid (by rw [← hW]; exact (Below.refl _ _).alloc (Nat.le_refl _) _)
  replace HB := Lib.hid (HB.out.trans (HU.out.mono HB.out.size))
  replace HX1 := Lib.hid (HX1.out.after HU.out)
  replace HX2 := Lib.hid (HX2.out.after HU.out)
  replace HX3 := Lib.hid (HX3.out.after HU.out)
  have HX4 : Hid (BoxT w W4.heap.size (lessL [(1, 1)] 2) A4 N4 c4 V5) := Lib.hid (by rw [← hW]; exact HY4.out)
  clear HY4
  clear HU hW
  have h := parsed_any ⟨#[50, 32, 49]⟩ V5 (by decide) (HV.out.after HB.out)
  rw [parse_21] at h
  have HC := Lib.hid h
  clear h
  refine HC.out.mono ?_
  rintro e W5 ⟨A5, N5, c5, rfl, hN, hC, hc, _, hb⟩
  clear HC
  have HY5 := Lib.hid (BoxT.made hN hC hc (HB.out.trans (hb.mono HB.out.size)))
  replace HB := Lib.hid (HB.out.trans (hb.mono HB.out.size))
  replace HX1 := Lib.hid (HX1.out.after hb)
  replace HX2 := Lib.hid (HX2.out.after hb)
  replace HX3 := Lib.hid (HX3.out.after hb)
  replace HX4 := Lib.hid (HX4.out.after hb)
  clear hN hC hc hb
  go_wp2_with fail
  generalize hW : World.alloc _ _ = V6
  have HU : Hid (Below W5.heap.size W5 V6) := Lib.hid (by rw [← hW]; exact (Below.refl _ _).alloc (Nat.le_refl _) _)
  replace HB := Lib.hid (HB.out.trans (HU.out.mono HB.out.size))
  replace HX1 := Lib.hid (HX1.out.after HU.out)
  replace HX2 := Lib.hid (HX2.out.after HU.out)
  replace HX3 := Lib.hid (HX3.out.after HU.out)
  replace HX4 := Lib.hid (HX4.out.after HU.out)
  have HX5 : Hid (BoxT w W5.heap.size (parseL ⟨#[50, 32, 49]⟩) A5 N5 c5 V6) := Lib.hid (by rw [← hW]; exact HY5.out)
  clear HY5
  clear HU hW
  have h := parsed_any ⟨#[]⟩ V6 (by decide) (HV.out.after HB.out)
  rw [parse_empty.1, parse_empty.2] at h
  have HC := Lib.hid h
  clear h
  refine HC.out.mono ?_
  rintro e W6 ⟨A6, N6, c6, rfl, hN, hC, hc, _, hb⟩
  clear HC
  have HY6 := Lib.hid (BoxT.made hN hC hc (HB.out.trans (hb.mono HB.out.size)))
  replace HB := Lib.hid (HB.out.trans (hb.mono HB.out.size))
  replace HX1 := Lib.hid (HX1.out.after hb)
  replace HX2 := Lib.hid (HX2.out.after hb)
  replace HX3 := Lib.hid (HX3.out.after hb)
  replace HX4 := Lib.hid (HX4.out.after hb)
  replace HX5 := Lib.hid (HX5.out.after hb)
  clear hN hC hc hb
  go_upto_region 7 with fail
  generalize hW : World.alloc _ _ = V7
  have HX6 : Hid (BoxT w W6.heap.size [] A6 N6 c6 V7) := Lib.hid (by rw [← hW]; exact HY6.out)
  have hu : Below W6.heap.size W6 V7 := by rw [← hW]; exact (Below.refl _ _).alloc (Nat.le_refl _) _
  replace HX1 := Lib.hid (HX1.out.after hu)
  replace HB := Lib.hid (HB.out.trans (hu.mono HB.out.size))
  have e1 : N1 = 2 := HX1.out.len
  have e6 : N6 = 0 := HX6.out.len
  subst e1 e6
  clear hW hu HY6 HX2 HX3 HX4 HX5 HNew
  have x := HX1.out.row.c 0 rfl
  have h := text_any _ A1 2 c1 V7 HX1.out.len HX1.out.cells good_133 (HV.out.after HB.out)
  rw [text_133] at h
  have HC := Lib.hid h
  clear h
  go_wp2_with fail
  refine HC.out.mono ?_
  rintro e V8 ⟨rfl, hb⟩
  replace HX1 := Lib.hid (HX1.out.after hb)
  replace HX6 := Lib.hid (HX6.out.after hb)
  replace HB := Lib.hid (HB.out.trans (hb.mono HB.out.size))
  clear hb HC x
  have x := HX1.out.row.c 0 rfl
  have h := len_any A1 2 c1 V8
  have HC := Lib.hid h
  clear h
  go_wp2_with fail
  refine HC.out.mono ?_
  rintro e V9 ⟨rfl, hb⟩
  replace HX1 := Lib.hid (HX1.out.after hb)
  replace HX6 := Lib.hid (HX6.out.after hb)
  replace HB := Lib.hid (HB.out.trans (hb.mono HB.out.size))
  clear hb HC x
  have x := HX1.out.row.c 0 rfl
  have h := many_any _ A1 2 c1 3 V9 HX1.out.len (by decide) HX1.out.cells
  rw [many_133] at h
  have HC := Lib.hid h
  clear h
  go_wp2_with fail
  refine HC.out.mono ?_
  rintro e V10 ⟨rfl, hb⟩
  replace HX1 := Lib.hid (HX1.out.after hb)
  replace HX6 := Lib.hid (HX6.out.after hb)
  replace HB := Lib.hid (HB.out.trans (hb.mono HB.out.size))
  clear hb HC x
  have x := HX1.out.row.c 0 rfl
  have h := odd_any _ A1 2 c1 V10 HX1.out.len (by decide) HX1.out.cells (fun p hp => by have := good_133.times p hp; omega)
  rw [odd_133] at h
  have HC := Lib.hid h
  clear h
  go_wp2_with fail
  refine HC.out.mono ?_
  rintro e V11 ⟨R, m, cc, rfl, hm, hC, _, _, hb⟩
  replace HX1 := Lib.hid (HX1.out.after hb)
  replace HX6 := Lib.hid (HX6.out.after hb)
  replace HB := Lib.hid (HB.out.trans (hb.mono HB.out.size))
  have HR := Lib.hid (And.intro hm hC)
  clear hm hC
  clear hb HC x
  have HSm := Lib.hid (fun q Y (h : Row Y q (intCs [1])) (hb : Below V11.heap.size V11 Y) => rsame_any [1] [1] R (some ⟨q, 0, none⟩) m 1 cc 1 Y HR.out.1 rfl (by have := HR.out.1; simp at this; omega) (HR.out.2.after hb) (cells_row h))
  go_wp2_with fail
  generalize hW : World.alloc _ _ = Y
  have hr : Row Y V11.heap.size (intCs [1]) := by rw [← hW]; exact Row.at rfl (intCs [1]) _
  have hb : Below V11.heap.size V11 Y := by rw [← hW]; exact (Below.refl _ _).alloc (Nat.le_refl _) _
  have h := HSm.out _ Y hr hb
  simp only [decide_true] at h
  have HC := Lib.hid h
  replace HX1 := Lib.hid (HX1.out.after hb)
  replace HX6 := Lib.hid (HX6.out.after hb)
  replace HB := Lib.hid (HB.out.trans (hb.mono HB.out.size))
  clear h hr hb hW HSm
  refine HC.out.mono ?_
  rintro e V12 ⟨rfl, hb⟩
  replace HX1 := Lib.hid (HX1.out.after hb)
  replace HX6 := Lib.hid (HX6.out.after hb)
  replace HB := Lib.hid (HB.out.trans (hb.mono HB.out.size))
  clear hb HC HR
  go_wp2_with fail
  refine (num_any 0 _).mono ?_
  rintro e V13 ⟨rfl, rfl⟩
  go_wp2_with fail
  refine (num_any 0 _).mono ?_
  rintro e V14 ⟨rfl, rfl⟩
  go_wp2_with fail
  refine (num_any 0 _).mono ?_
  rintro e V15 ⟨rfl, rfl⟩
  go_wp2_with fail
  refine (num_any 2 _).mono ?_
  rintro e V16 ⟨rfl, rfl⟩
  go_wp2_with fail
  refine (num_any 5 _).mono ?_
  rintro e V17 ⟨rfl, rfl⟩
  go_wp2_with fail
  refine (num_any 200 _).mono ?_
  rintro e V18 ⟨rfl, rfl⟩
  have x := HX6.out.row.c 0 rfl
  go_wp2_with fail
  refine (len_any A6 0 c6 _).mono ?_
  rintro e V19 ⟨rfl, hb⟩
  replace HX1 := Lib.hid (HX1.out.after hb)
  replace HX6 := Lib.hid (HX6.out.after hb)
  replace HB := Lib.hid (HB.out.trans (hb.mono HB.out.size))
  clear hb x
  go_wp2_with fail
  go_ret
  exact ⟨rfl, HB.out⟩
end Go.Proofs.YtjhcddlhhfjnaaaGreatDoor
