/- TagsWith walked. -/
import Derived.Test.YtjhcddlhhfjnaaaGreatDoorVS
namespace Go.Proofs.YtjhcddlhhfjnaaaGreatDoor
open Go.RowKit Go.Sort Go.Shelf

theorem good_with {cs ds : List (Int × Int)} (h : Good cs) (k : Good ds) : Good (fromL (mrg cs ds)) := by
  refine good_from (mrg_rise h.rise k.rise) (fun p hp => ?_) (mrg_pos h.pos k.pos)
  rcases mrg_mem p hp with h1 | h1 | ⟨q, hq, r, hr, e1, _, _, _⟩
  · exact h.num p h1
  · exact k.num p h1
  · rw [e1]; exact h.num q hq
set_option maxRecDepth 100000 in
theorem with_many (A B : Option Addr) (na nb c cb : Nat) (w : World) (hv : VarS w) (hs : 80 < na ∨ (¬ 80 < na ∧ 80 < nb)) :
    Calls Tryz.prog 5 #[.slice A na c, .slice B nb cb] w fun e w' => e = .returned (.bool true) ∧ Below w.heap.size w w' := by
  have HW := Lib.hid (works_any w hv)
  clear hv
  rcases hs with h1 | ⟨h0, h1⟩
  · have hs1 : (80 : Int) < na := by omega
    clear h1
    go_enter Tryz.func5, Tryz.ntmps5
    go_wp2_with fail
    refine HW.out.mono ?_
    rintro e w1 ⟨rfl, hb⟩
    go_wp2_with fail
    go_ret
    exact ⟨rfl, hb⟩
  · have hs0 : ¬ (80 : Int) < na := by omega
    have hs1 : (80 : Int) < nb := by omega
    clear h1 h0
    go_enter Tryz.func5, Tryz.ntmps5
    go_wp2_with fail
    refine HW.out.mono ?_
    rintro e w1 ⟨rfl, hb⟩
    go_wp2_with fail
    go_ret
    exact ⟨rfl, hb⟩
set_option maxRecDepth 100000 in
set_option maxHeartbeats 6400000 in
theorem with_few (a b : List Int) (A B : Option Addr) (na nb c cb : Nat) (w : World) (hv : VarS w) (hna : na = a.length) (hnb : nb = b.length) (ha : ¬ 80 < na) (hb : ¬ 80 < nb) (hA : CellsS w A (intCs a)) (hB : CellsS w B (intCs b)) :
    Calls Tryz.prog 5 #[.slice A na c, .slice B nb cb] w fun e w' => e = .returned (.bool true) ∧ Below w.heap.size w w' := by
  have HV := Lib.hid hv
  have HNa := Lib.hid (fun W (hW : Below w.heap.size w W) => new_any a A na c W hna (by omega) (hA.after hW))
  have HNb := Lib.hid (fun W (hW : Below w.heap.size w W) => new_any b B nb cb W hnb (by omega) (hB.after hW))
  have HRa : Hid (∀ W, Below w.heap.size w W → Calls Tryz.prog 9 #[.slice A na c] W (RTagPost W (newA a).1 (expand (newA a).2))) := Lib.hid (fun W hW => by
    have h := rnew_any a A na c W hna (by omega) (hA.after hW)
    rw [new_same a] at h
    exact h)
  have HRb : Hid (∀ W, Below w.heap.size w W → Calls Tryz.prog 9 #[.slice B nb cb] W (RTagPost W (newA b).1 (expand (newA b).2))) := Lib.hid (fun W hW => by
    have h := rnew_any b B nb cb W hnb (by omega) (hB.after hW)
    rw [new_same b] at h
    exact h)
  have ga := newA_good a
  have gb := newA_good b
  have HRW : Hid (∀ A9 A11 N9 N11 c9 c11 W, N9 = (expand (newA a).2).length → N11 = (expand (newA b).2).length → N9 ≤ c9 → CellsS W A9 (intCs (expand (newA a).2)) → CellsS W A11 (intCs (expand (newA b).2)) →
      Calls Tryz.prog 19 #[.agg #[.slice A9 N9 c9], .agg #[.slice A11 N11 c11]] W (RWPost W (fromE (mrg (newA a).2 (newA b).2)) (expand (fromL (mrg (newA a).2 (newA b).2))))) := Lib.hid (fun A9 A11 N9 N11 c9 c11 W h1 h2 h3 h4 h5 => by
    have b1 := (expand_bound ga).1
    have b2 := (expand_bound gb).1
    have h := rwith_any (expand (newA a).2) (expand (newA b).2) A9 A11 N9 c9 N11 c11 W h1 h2 (by omega) (by omega) h3 h4 h5
    rw [with_same ga gb] at h
    exact h)
  have HG := Lib.hid (And.intro ga (And.intro gb (good_with ga gb)))
  have hs0 : ¬ (80 : Int) < na := by omega
  have hs1 : ¬ (80 : Int) < nb := by omega
  have HB := Lib.hid (Below.refl w.heap.size w)
  clear hv hna hnb ha hb hA hB ga gb
  generalize (newA a).1 = ea at *
  generalize (newA a).2 = ca at *
  generalize (newA b).1 = eb at *
  generalize (newA b).2 = cd at *
  go_enter Tryz.func5, Tryz.ntmps5
  go_wp2_with fail
  refine (HNa.out _ HB.out).mono ?_
  rintro e W1 ⟨A5, N5, c5, rfl, hN, hC, hc, _, hb⟩
  replace HB := Lib.hid (HB.out.trans (hb.mono HB.out.size))
  have HY5 := Lib.hid (BoxT.made hN hC hc HB.out)
  clear hN hC hc hb
  go_wp2_with fail
  generalize hW : World.alloc _ _ = V2
  have HX5 : Hid (BoxT w W1.heap.size ca A5 N5 c5 V2) := Lib.hid (by rw [← hW]; exact HY5.out)
  have hu : Below W1.heap.size W1 V2 := by rw [← hW]; exact (Below.refl _ _).alloc (Nat.le_refl _) _
  replace HB := Lib.hid (HB.out.trans (hu.mono HB.out.size))
  clear hW hu HY5
  refine (HNb.out _ HB.out).mono ?_
  rintro e W3 ⟨A7, N7, c7, rfl, hN, hC, hc, _, hb⟩
  replace HX5 := Lib.hid (HX5.out.after hb)
  replace HB := Lib.hid (HB.out.trans (hb.mono HB.out.size))
  have HY7 := Lib.hid (BoxT.made hN hC hc HB.out)
  clear hN hC hc hb
  go_wp2_with fail
  generalize hW : World.alloc _ _ = V4
  have HX7 : Hid (BoxT w W3.heap.size cd A7 N7 c7 V4) := Lib.hid (by rw [← hW]; exact HY7.out)
  have hu : Below W3.heap.size W3 V4 := by rw [← hW]; exact (Below.refl _ _).alloc (Nat.le_refl _) _
  replace HX5 := Lib.hid (HX5.out.after hu)
  replace HB := Lib.hid (HB.out.trans (hu.mono HB.out.size))
  clear hW hu HY7
  refine (HRa.out _ HB.out).mono ?_
  rintro e W5 ⟨A9, N9, c9, rfl, hN, hC, hc, _, hb⟩
  replace HX5 := Lib.hid (HX5.out.after hb)
  replace HX7 := Lib.hid (HX7.out.after hb)
  replace HB := Lib.hid (HB.out.trans (hb.mono HB.out.size))
  have HY9 := Lib.hid (BoxR.made hN hC hc HB.out)
  clear hN hC hc hb
  go_wp2_with fail
  generalize hW : World.alloc _ _ = V6
  have HX9 : Hid (BoxR w W5.heap.size (expand ca) A9 N9 c9 V6) := Lib.hid (by rw [← hW]; exact HY9.out)
  have hu : Below W5.heap.size W5 V6 := by rw [← hW]; exact (Below.refl _ _).alloc (Nat.le_refl _) _
  replace HX5 := Lib.hid (HX5.out.after hu)
  replace HX7 := Lib.hid (HX7.out.after hu)
  replace HB := Lib.hid (HB.out.trans (hu.mono HB.out.size))
  clear hW hu HY9
  refine (HRb.out _ HB.out).mono ?_
  rintro e W7 ⟨A11, N11, c11, rfl, hN, hC, hc, _, hb⟩
  replace HX5 := Lib.hid (HX5.out.after hb)
  replace HX7 := Lib.hid (HX7.out.after hb)
  replace HX9 := Lib.hid (HX9.out.after hb)
  replace HB := Lib.hid (HB.out.trans (hb.mono HB.out.size))
  have HY11 := Lib.hid (BoxR.made hN hC hc HB.out)
  clear hN hC hc hb
  go_upto_region 7 with fail
  generalize hW : World.alloc _ _ = V8
  have HX11 : Hid (BoxR w W7.heap.size (expand cd) A11 N11 c11 V8) := Lib.hid (by rw [← hW]; exact HY11.out)
  have hu : Below W7.heap.size W7 V8 := by rw [← hW]; exact (Below.refl _ _).alloc (Nat.le_refl _) _
  replace HX5 := Lib.hid (HX5.out.after hu)
  replace HX7 := Lib.hid (HX7.out.after hu)
  replace HX9 := Lib.hid (HX9.out.after hu)
  replace HB := Lib.hid (HB.out.trans (hu.mono HB.out.size))
  clear hW hu HY11
  go_wp2_with fail
  refine (num_any ea _).mono ?_
  rintro e W9 ⟨rfl, rfl⟩
  go_wp2_with fail
  refine (num_any eb _).mono ?_
  rintro e W10 ⟨rfl, rfl⟩
  have x5 := HX5.out.row.c 0 rfl
  have x7 := HX7.out.row.c 0 rfl
  go_wp2_with fail
  clear x5 x7
  refine (with_any ca cd A5 A7 N5 N7 c5 c7 V8 HX5.out.len HX7.out.len (by have := HX5.out.len; have := HG.out.1.len; omega) (by have := HX7.out.len; have := HG.out.2.1.len; omega) HX5.out.cap HX7.out.cap HX5.out.cells HX7.out.cells HG.out.1.work HG.out.2.1.work).mono ?_
  rintro e W11 ⟨A13, N13, c13, rfl, hN, hC, hc, _, hb⟩
  replace HX5 := Lib.hid (HX5.out.after hb)
  replace HX7 := Lib.hid (HX7.out.after hb)
  replace HX9 := Lib.hid (HX9.out.after hb)
  replace HX11 := Lib.hid (HX11.out.after hb)
  replace HB := Lib.hid (HB.out.trans (hb.mono HB.out.size))
  have HY13 := Lib.hid (BoxT.made hN hC hc HB.out)
  clear hN hC hc hb
  go_upto_region 10 with fail
  generalize hW : World.alloc _ _ = V12
  have HX13 : Hid (BoxT w W11.heap.size (fromL (mrg ca cd)) A13 N13 c13 V12) := Lib.hid (by rw [← hW]; exact HY13.out)
  have hu : Below W11.heap.size W11 V12 := by rw [← hW]; exact (Below.refl _ _).alloc (Nat.le_refl _) _
  replace HX5 := Lib.hid (HX5.out.after hu)
  replace HX7 := Lib.hid (HX7.out.after hu)
  replace HX9 := Lib.hid (HX9.out.after hu)
  replace HX11 := Lib.hid (HX11.out.after hu)
  replace HB := Lib.hid (HB.out.trans (hu.mono HB.out.size))
  clear hW hu HY13
  have x9 := HX9.out.row.c 0 rfl
  have x11 := HX11.out.row.c 0 rfl
  go_wp2_with fail
  clear x9 x11
  refine (HRW.out A9 A11 N9 N11 c9 c11 V12 HX9.out.len HX11.out.len HX9.out.cap HX9.out.cells HX11.out.cells).mono ?_
  rintro e W13 ⟨A15, N15, c15, rfl, hN, hC, hc, hb⟩
  replace HX5 := Lib.hid (HX5.out.after hb)
  replace HX7 := Lib.hid (HX7.out.after hb)
  replace HX9 := Lib.hid (HX9.out.after hb)
  replace HX11 := Lib.hid (HX11.out.after hb)
  replace HX13 := Lib.hid (HX13.out.after hb)
  replace HB := Lib.hid (HB.out.trans (hb.mono HB.out.size))
  have HY15 := Lib.hid (BoxR.made hN hC hc HB.out)
  clear hN hC hc hb
  go_upto_region 11 with fail
  generalize hW : World.alloc _ _ = V14
  have HX15 : Hid (BoxR w W13.heap.size (expand (fromL (mrg ca cd))) A15 N15 c15 V14) := Lib.hid (by rw [← hW]; exact HY15.out)
  have hu : Below W13.heap.size W13 V14 := by rw [← hW]; exact (Below.refl _ _).alloc (Nat.le_refl _) _
  replace HX5 := Lib.hid (HX5.out.after hu)
  replace HX7 := Lib.hid (HX7.out.after hu)
  replace HX9 := Lib.hid (HX9.out.after hu)
  replace HX11 := Lib.hid (HX11.out.after hu)
  replace HX13 := Lib.hid (HX13.out.after hu)
  replace HB := Lib.hid (HB.out.trans (hu.mono HB.out.size))
  clear hW hu HY15
  have xp := HX13.out.row.c 0 rfl
  have xq := HX15.out.row.c 0 rfl
  go_wp2_with fail
  clear xp xq
  refine (is_any (fromL (mrg ca cd)) A13 N13 c13 A15 N15 c15 V14 HX13.out.len HX13.out.cells HX15.out.len HX15.out.cells HG.out.2.2 (HV.out.after HB.out)).mono ?_
  rintro e W15 ⟨rfl, hb⟩
  replace HX5 := Lib.hid (HX5.out.after hb)
  replace HX7 := Lib.hid (HX7.out.after hb)
  replace HX9 := Lib.hid (HX9.out.after hb)
  replace HX11 := Lib.hid (HX11.out.after hb)
  replace HX13 := Lib.hid (HX13.out.after hb)
  replace HX15 := Lib.hid (HX15.out.after hb)
  replace HB := Lib.hid (HB.out.trans (hb.mono HB.out.size))
  clear hb
  go_wp2_with fail
  refine (num_any (fromE (mrg ca cd)) _).mono ?_
  rintro e W16 ⟨rfl, rfl⟩
  have xp := HX5.out.row.c 0 rfl
  have xq := HX9.out.row.c 0 rfl
  go_wp2_with fail
  clear xp xq
  refine (is_any ca A5 N5 c5 A9 N9 c9 W15 HX5.out.len HX5.out.cells HX9.out.len HX9.out.cells HG.out.1 (HV.out.after HB.out)).mono ?_
  rintro e W17 ⟨rfl, hb⟩
  replace HX5 := Lib.hid (HX5.out.after hb)
  replace HX7 := Lib.hid (HX7.out.after hb)
  replace HX9 := Lib.hid (HX9.out.after hb)
  replace HX11 := Lib.hid (HX11.out.after hb)
  replace HX13 := Lib.hid (HX13.out.after hb)
  replace HX15 := Lib.hid (HX15.out.after hb)
  replace HB := Lib.hid (HB.out.trans (hb.mono HB.out.size))
  clear hb
  have xp := HX7.out.row.c 0 rfl
  have xq := HX11.out.row.c 0 rfl
  go_wp2_with fail
  clear xp xq
  refine (is_any cd A7 N7 c7 A11 N11 c11 W17 HX7.out.len HX7.out.cells HX11.out.len HX11.out.cells HG.out.2.1 (HV.out.after HB.out)).mono ?_
  rintro e W18 ⟨rfl, hb⟩
  replace HX5 := Lib.hid (HX5.out.after hb)
  replace HX7 := Lib.hid (HX7.out.after hb)
  replace HX9 := Lib.hid (HX9.out.after hb)
  replace HX11 := Lib.hid (HX11.out.after hb)
  replace HX13 := Lib.hid (HX13.out.after hb)
  replace HX15 := Lib.hid (HX15.out.after hb)
  replace HB := Lib.hid (HB.out.trans (hb.mono HB.out.size))
  clear hb
  go_wp2_with fail
  refine (works_any W18 (HV.out.after HB.out)).mono ?_
  rintro e W19 ⟨rfl, hb⟩
  replace HX5 := Lib.hid (HX5.out.after hb)
  replace HX7 := Lib.hid (HX7.out.after hb)
  replace HX9 := Lib.hid (HX9.out.after hb)
  replace HX11 := Lib.hid (HX11.out.after hb)
  replace HX13 := Lib.hid (HX13.out.after hb)
  replace HX15 := Lib.hid (HX15.out.after hb)
  replace HB := Lib.hid (HB.out.trans (hb.mono HB.out.size))
  clear hb
  go_wp2_with fail
  go_ret
  exact ⟨rfl, HB.out⟩
end Go.Proofs.YtjhcddlhhfjnaaaGreatDoor
