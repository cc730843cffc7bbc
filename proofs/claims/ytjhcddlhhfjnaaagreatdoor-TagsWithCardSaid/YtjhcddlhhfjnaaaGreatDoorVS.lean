/- TagsTexts walked. -/
import Derived.Test.YtjhcddlhhfjnaaaGreatDoorVR
namespace Go.Proofs.YtjhcddlhhfjnaaaGreatDoor
open Go.RowKit Go.Sort Go.Shelf

/-- The document's tags in a box. -/
structure BoxR (w : World) (b : Nat) (l : List Int) (A : Option Addr) (N c : Nat) (W : World) : Prop where
  row : Row W b [.slice A N c]
  len : N = l.length
  cells : CellsS W A (intCs l)
  cap : N ≤ c
  bel : Below w.heap.size w W
theorem BoxR.after {w W W1 : World} {b : Nat} {l : List Int} {A : Option Addr} {N c : Nat} (h : BoxR w b l A N c W) (hb : Below W.heap.size W W1) : BoxR w b l A N c W1 :=
  ⟨h.row.after hb, h.len, h.cells.after hb, h.cap, h.bel.trans (hb.mono h.bel.size)⟩
theorem BoxR.made {w W : World} {l : List Int} {A : Option Addr} {N c : Nat} (h1 : N = l.length) (h2 : CellsS W A (intCs l)) (h3 : N ≤ c) (h4 : Below w.heap.size w W) : BoxR w W.heap.size l A N c (W.alloc (.cells #[.slice A N c] 31)) :=
  ⟨Row.at rfl [_] _, h1, h2.after ((Below.refl _ _).alloc (Nat.le_refl _) _), h3, h4.alloc h4.size _⟩
set_option maxRecDepth 100000 in
theorem texts_many (s : ByteArray) (w : World) (hv : VarS w) (hs : 300 < s.size) :
    Calls Tryz.prog 6 #[.string s] w fun e w' => e = .returned (.bool true) ∧ Below w.heap.size w w' := by
  have HW := Lib.hid (works_any w hv)
  clear hv
  have hs1 : (300 : Int) < s.size := by omega
  go_enter Tryz.func6, Tryz.ntmps6
  go_wp2_with fail
  refine HW.out.mono ?_
  rintro e w1 ⟨rfl, hb⟩
  go_wp2_with fail
  go_ret
  exact ⟨rfl, hb⟩
set_option maxRecDepth 100000 in
set_option maxHeartbeats 3200000 in
theorem texts_few (s : ByteArray) (w : World) (hv : VarS w) (hs : ¬ 300 < s.size) :
    Calls Tryz.prog 6 #[.string s] w fun e w' => e = .returned (.bool true) ∧ Below w.heap.size w w' := by
  have HV := Lib.hid hv
  obtain ⟨h1, hg⟩ := parse_same s
  have HP := Lib.hid (parsed_any s w (by omega) hv)
  have HR : Hid (∀ W, Calls Tryz.prog 21 #[.string s] W (RTagPost W (parseE s) (expand (parseL s)))) := Lib.hid (fun W => by
    have h := rparse_any s W (by omega)
    rw [h1] at h
    exact h)
  have HG := Lib.hid hg
  clear hv hg h1
  have hs1 : ¬ (300 : Int) < s.size := by omega
  clear hs
  generalize parseE s = er at HP HR
  generalize parseL s = cs at HP HR HG
  go_enter Tryz.func6, Tryz.ntmps6
  go_wp2_with fail
  refine HP.out.mono ?_
  rintro e W1 ⟨A, N, c, rfl, hN, hC, hc, _, hb⟩
  have HB1 := Lib.hid (BoxT.made hN hC hc hb)
  clear hN hC hc hb HP
  go_wp2_with fail
  generalize hW : World.alloc _ _ = V1
  have HX1 : Hid (BoxT w W1.heap.size cs A N c V1) := Lib.hid (by rw [← hW]; exact HB1.out)
  clear hW HB1
  refine (HR.out _).mono ?_
  rintro e W2 ⟨A', N', c', rfl, hN, hC, hc, _, hb⟩
  replace HX1 := Lib.hid (HX1.out.after hb)
  have HB2 := Lib.hid (BoxR.made hN hC hc HX1.out.bel)
  clear hN hC hc hb HR
  go_upto_region 5 with fail
  generalize hW : World.alloc _ _ = V2
  have HX2 : Hid (BoxR w W2.heap.size (expand cs) A' N' c' V2) := Lib.hid (by rw [← hW]; exact HB2.out)
  have hu : Below W2.heap.size W2 V2 := by rw [← hW]; exact (Below.refl _ _).alloc (Nat.le_refl _) _
  replace HX1 := Lib.hid (HX1.out.after hu)
  clear hW HB2 hu
  go_wp2_with fail
  refine (num_any er _).mono ?_
  rintro e W3 ⟨rfl, rfl⟩
  have x1 := HX1.out.row.c 0 rfl
  have x2 := HX2.out.row.c 0 rfl
  go_wp2_with fail
  refine (is_any cs A N c A' N' c' V2 HX1.out.len HX1.out.cells HX2.out.len HX2.out.cells HG.out (HV.out.after HX1.out.bel)).mono ?_
  rintro e W4 ⟨rfl, hb⟩
  replace HX1 := Lib.hid (HX1.out.after hb)
  clear hb x1 x2 HX2
  go_wp2_with fail
  refine (works_any W4 (HV.out.after HX1.out.bel)).mono ?_
  rintro e W5 ⟨rfl, hb⟩
  have HB := Lib.hid (HX1.out.bel.trans (hb.mono HX1.out.bel.size))
  clear hb
  go_wp2_with fail
  go_ret
  exact ⟨rfl, HB.out⟩
end Go.Proofs.YtjhcddlhhfjnaaaGreatDoor
