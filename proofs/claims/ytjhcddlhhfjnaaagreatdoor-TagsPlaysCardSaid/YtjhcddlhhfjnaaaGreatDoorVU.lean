/- TagsNews walked. -/
import Derived.Test.YtjhcddlhhfjnaaaGreatDoorVT
namespace Go.Proofs.YtjhcddlhhfjnaaaGreatDoor
open Go.RowKit Go.Sort Go.Shelf

theorem own_empty (W : World) (base m : Nat) (hb : base ≤ W.heap.size) (hm : m = W.heap.size) : Own 2 1 (W.alloc (.cells #[] 2)) base (some ⟨m, 0, none⟩) 0 0 [] := by
  subst hm
  exact World.ownsRow_made W #[] 0 hb (Nat.zero_le _) rfl
/-- The copy of the numbers, with one more behind them. -/
structure MoS (w : World) (l : List Int) (A : Option Addr) (g : Nat) (W : World) : Prop where
  src : CellsS W A (intCs l)
  all : CellsL W g 0 (intCs (l ++ [77]))
  bel : Below w.heap.size w W
section
variable {w W W1 : World} {l : List Int} {A : Option Addr} {g : Nat}
theorem MoS.after (h : MoS w l A g W) (hb : Below W.heap.size W W1) : MoS w l A g W1 := ⟨h.src.after hb, h.all.below hb h.all.1, h.bel.trans (hb.mono h.bel.size)⟩
theorem MoS.pre (h : MoS w l A g W) : CellsS W (some ⟨g, 0, none⟩) (intCs l) := fun _ => ⟨g, 0, rfl, h.all.1, fun j v hv => h.all.2 j v (by rw [intCs_append, List.getElem?_append_left (List.getElem?_eq_some_iff.1 hv).1]; exact hv)⟩
theorem MoS.last (h : MoS w l A g W) : W.cell? ⟨g, l.length, none⟩ = some (.int .i64 77) := by
  have := h.all.2 l.length (.int .i64 77) (by simp [intCs])
  rwa [Nat.zero_add] at this
end
set_option maxRecDepth 100000 in
theorem news_many (A : Option Addr) (n c : Nat) (w : World) (hv : VarS w) (hs : 300 < n) :
    Calls Tryz.prog 3 #[.slice A n c] w fun e w' => e = .returned (.bool true) ∧ Below w.heap.size w w' := by
  have HW := Lib.hid (works_any w hv)
  clear hv
  have hs1 : (300 : Int) < n := by omega
  clear hs
  go_enter Tryz.func3, Tryz.ntmps3
  go_wp2_with fail
  refine HW.out.mono ?_
  rintro e w1 ⟨rfl, hb⟩
  go_wp2_with fail
  go_ret
  exact ⟨rfl, hb⟩
set_option maxRecDepth 100000 in
set_option maxHeartbeats 6400000 in
theorem news_few (l : List Int) (A : Option Addr) (n c : Nat) (w : World) (hv : VarS w) (hn : n = l.length) (hs : ¬ 300 < n) (hA : CellsS w A (intCs l)) :
    Calls Tryz.prog 3 #[.slice A n c] w fun e w' => e = .returned (.bool true) ∧ Below w.heap.size w w' := by
  have HV := Lib.hid hv
  have HA := Lib.hid hA
  have HNl := Lib.hid hn
  have HN := Lib.hid (fun g c' W (hW : CellsS W (some ⟨g, 0, none⟩) (intCs l)) => new_any l (some ⟨g, 0, none⟩) n c' W hn (by omega) hW)
  have HR : Hid (∀ W, CellsS W A (intCs l) → Calls Tryz.prog 9 #[.slice A n c] W (RTagPost W (newA l).1 (expand (newA l).2))) := Lib.hid (fun W hW => by
    have h := rnew_any l A n c W hn (by omega) hW
    rw [new_same l] at h
    exact h)
  have HS : Hid (∀ g c' W, CellsS W (some ⟨g, 0, none⟩) (intCs l) → CellsS W A (intCs l) → Calls Tryz.prog 12 #[.slice (some ⟨g, 0, none⟩) n c', .slice A n c] W fun e w' => e = .returned (.bool true) ∧ Below W.heap.size W w') := Lib.hid (fun g c' W h1 h2 => by
    have h := rsame_any l l (some ⟨g, 0, none⟩) A n n c' c W hn hn (by omega) h1 h2
    rw [decide_eq_true rfl] at h
    exact h)
  have HG := Lib.hid (newA_good l)
  have hs0 : ¬ (300 : Int) < n := by omega
  have hs1 : n ≤ 300 := by omega
  clear hv hn hA hs
  generalize (newA l).1 = er at *
  generalize (newA l).2 = cs at *
  go_enter Tryz.func3, Tryz.ntmps3
  go_wp2_with (at_builtin; refine wpList_app rfl (.tmp 12) (.tmp 13) elemI64 rfl w.heap.size (some ⟨w.heap.size, 0, none⟩) 0 0 [] A n c (intCs l) rfl rfl (own_empty _ _ _ (Nat.le_refl _) rfl) (HA.out.after ((Below.refl _ _).alloc (Nat.le_refl _) _)) (by rw [intCs_len, ← HNl.out]) (intCs_one l) (by omega) (by simp) ?_)
  intro A1 c1 w1 hO1 hg1 hb1
  have hB1 : Below w.heap.size w w1 := ((Below.refl _ _).alloc (Nat.le_refl _) _).trans (hb1.mono (Nat.le_refl _))
  have HO1 := Lib.hid (And.intro hO1 hB1)
  clear hO1 hg1 hb1 hB1
  go_wp2_with (at_builtin; refine wpList_app rfl (.tmp 14) (.tmp 15) elemI64 rfl w.heap.size A1 n c1 (intCs l) (some ⟨w1.heap.size, 0, none⟩) 1 1 [.int .i64 77] rfl rfl (HO1.out.1.alloc _) (cells_row (Row.at rfl [.int .i64 77] _)) rfl (intCs_one [77]) (by omega) (by have := HO1.out.2.size; simp; omega) ?_)
  intro A2 c2 w2 hO2 hg2 hb2
  have hB2 : Below w.heap.size w w2 := (HO1.out.2.trans (((Below.refl _ _).alloc HO1.out.2.size _))).trans hb2
  have hle := hO2.le_cap
  rcases hO2.form with ⟨_, h, _⟩ | ⟨g, rfl, hg, hgl⟩
  · omega
  have hcl := hO2.cells
  have HM : Hid (MoS w l A g w2) := Lib.hid ⟨HA.out.after hB2, (by
    obtain ⟨b, o, e, hl⟩ := hcl (by simp)
    cases e
    rw [intCs_append]; exact hl), hB2⟩
  have HB := Lib.hid hB2
  have hc2 : (n : Int) ≤ c2 := by omega
  have hc3 : (n : Int) + 1 ≤ c2 := by omega
  clear hO2 hg2 hb2 hB2 hle hcl HO1 hg hgl
  go_wp2_with fail
  refine (HN.out g c2 _ HM.out.pre).mono ?_
  rintro e W3 ⟨A4, N4, c4, rfl, hN, hC, hc, _, hb⟩
  replace HM := Lib.hid (HM.out.after hb)
  have HY4 := Lib.hid (BoxT.made hN hC hc HM.out.bel)
  clear hN hC hc hb HB
  go_wp2_with fail
  generalize hW : World.alloc _ _ = V3
  have HX4 : Hid (BoxT w W3.heap.size cs A4 N4 c4 V3) := Lib.hid (by rw [← hW]; exact HY4.out)
  have hu : Below W3.heap.size W3 V3 := by rw [← hW]; exact (Below.refl _ _).alloc (Nat.le_refl _) _
  replace HM := Lib.hid (HM.out.after hu)
  clear hu hW HY4
  refine (HR.out _ HM.out.src).mono ?_
  rintro e W4 ⟨A6, N6, c6, rfl, hN, hC, hc, _, hb⟩
  replace HM := Lib.hid (HM.out.after hb)
  replace HX4 := Lib.hid (HX4.out.after hb)
  have HY6 := Lib.hid (BoxR.made hN hC hc HM.out.bel)
  clear hN hC hc hb
  go_upto_region 6 with fail
  generalize hW : World.alloc _ _ = V4
  have HX6 : Hid (BoxR w W4.heap.size (expand cs) A6 N6 c6 V4) := Lib.hid (by rw [← hW]; exact HY6.out)
  have hu : Below W4.heap.size W4 V4 := by rw [← hW]; exact (Below.refl _ _).alloc (Nat.le_refl _) _
  replace HM := Lib.hid (HM.out.after hu)
  replace HX4 := Lib.hid (HX4.out.after hu)
  clear hu hW HY6
  go_wp2_with fail
  refine (num_any er _).mono ?_
  rintro e W5 ⟨rfl, rfl⟩
  have x4 := HX4.out.row.c 0 rfl
  have x6 := HX6.out.row.c 0 rfl
  go_wp2_with fail
  refine (is_any cs A4 N4 c4 A6 N6 c6 V4 HX4.out.len HX4.out.cells HX6.out.len HX6.out.cells HG.out (HV.out.after HX4.out.bel)).mono ?_
  rintro e W6 ⟨rfl, hb⟩
  replace HM := Lib.hid (HM.out.after hb)
  clear hb x4 x6 HX4 HX6
  go_wp2_with fail
  refine (HS.out g c2 _ HM.out.pre HM.out.src).mono ?_
  rintro e W7 ⟨rfl, hb⟩
  replace HM := Lib.hid (HM.out.after hb)
  clear hb
  have hlast := HM.out.last
  rw [← HNl.out] at hlast
  have hwr : IntKind.i64.wrap ((n : Int) + 1) = (n : Int) + 1 := by
    simp [IntKind.wrap, IntKind.signed, IntKind.bits]
    omega
  go_wp2_with fail
  refine (works_any W7 (HV.out.after HM.out.bel)).mono ?_
  rintro e W8 ⟨rfl, hb⟩
  replace HM := Lib.hid (HM.out.after hb)
  clear hb
  go_wp2_with fail
  go_ret
  exact ⟨rfl, HM.out.bel⟩
end Go.Proofs.YtjhcddlhhfjnaaaGreatDoor
