/- law11.num, law11.works; no condition. -/
import Derived.Test.YtncgjlhmgdgokaaBD
namespace Go.Proofs.Ytncgjlhmgdgokaa
open Go.RowKit Go.Sort ArenaMath Go.Maps

theorem num_any (x : Int) (w : World) : Calls Try.prog 11 #[.int .i64 x] w fun e w' => e = .returned (.int .i64 x) ∧ w = w' := by
  go_enter Try.func11, Try.ntmps11
  go_wp2
  go_ret
  exact ⟨rfl, rfl⟩
theorem ArS.footBase {w : World} {base b many m : Nat} {L : List Int} {A : Option Addr} (h : ArS w base b many L m A) : ∀ k, foot b m A k → base ≤ k := fun k hk => by
  obtain ⟨⟨mark, top, c, hs, D, tk, h1, h2⟩, h3⟩ := h
  rcases hk with rfl | rfl | hk
  · exact h1.base.1
  · exact h1.base.2
  · exact h1.hp.line.freshB k hk
/-- An arena all of whose blocks are new. -/
def ArW (w0 : World) (many b m : Nat) (L : List Int) (W : World) : Prop := ∃ A, ArS W w0.heap.size b many L m A ∧ Below w0.heap.size w0 W
section
variable {w0 W : World} {many b m : Nat} {L : List Int}
theorem ArW.turn {A A' : Option Addr} {W' : World} {L' : List Int} (h : ArS W w0.heap.size b many L m A) (hb : Below w0.heap.size w0 W) (h' : ArS W' w0.heap.size b many L' m A') (ho : Only (foot b m A) W W') : ArW w0 many b m L' W' :=
  ⟨A', h', hb.trans (ho.below h.footBase hb.size)⟩
theorem ArW.after {W' : World} (h : ArW w0 many b m L W) (hb : Below W.heap.size W W') : ArW w0 many b m L W' := by
  obtain ⟨A, h1, h2⟩ := h
  exact ⟨A, h1.after hb, h2.trans (hb.mono h2.size)⟩
theorem takeW (h : ArW w0 many b m L W) {x : Int} (hx : LeastFree many L x) (hl : L.length < many) : Calls Try.prog 9 #[.pointer (some ⟨b, 0, none⟩)] W fun e W' => e = .returned (.tuple #[.int .i64 x, .int .i64 0]) ∧ ArW w0 many b m (insR x L) W' := by
  obtain ⟨A, h1, h2⟩ := h
  refine (take_any h1 h2.size).mono ?_
  rintro e W' ⟨hy, _⟩
  obtain ⟨y, A', rfl, hf, ha, ho, _⟩ := hy hl
  obtain rfl : y = x := leastFree_one hf hx
  exact ⟨rfl, ArW.turn h1 h2 ha ho⟩
theorem giveW (h : ArW w0 many b m L W) {x : Int} (hw : (Lit.int .i64 x).wf = true) (er : Int) (L' : List Int)
    (hc : (¬ (0 ≤ x ∧ x < many) ∧ er = 4 ∧ L' = L) ∨ ((0 ≤ x ∧ x < many) ∧ x ∉ L ∧ er = 5 ∧ L' = L) ∨ ((0 ≤ x ∧ x < many) ∧ x ∈ L ∧ er = 0 ∧ L' = delR x L)) :
    Calls Try.prog 13 #[.pointer (some ⟨b, 0, none⟩), .int .i64 x] W fun e W' => e = .returned (.int .i64 er) ∧ ArW w0 many b m L' W' := by
  obtain ⟨A, h1, h2⟩ := h
  refine (give_any x h1 h2.size hw).mono ?_
  rintro e W' ⟨g1, g2, g3⟩
  rcases hc with ⟨c1, rfl, rfl⟩ | ⟨c1, c2, rfl, rfl⟩ | ⟨c1, c2, rfl, rfl⟩
  · obtain ⟨rfl, hb⟩ := g1 c1
    exact ⟨rfl, ArW.after ⟨A, h1, h2⟩ hb⟩
  · obtain ⟨rfl, hb⟩ := g2 c1 c2
    exact ⟨rfl, ArW.after ⟨A, h1, h2⟩ hb⟩
  · obtain ⟨A', rfl, ha, ho, _⟩ := g3 c1 c2
    exact ⟨rfl, ArW.turn h1 h2 ha ho⟩
theorem claimW (h : ArW w0 many b m L W) {x : Int} (hw : (Lit.int .i64 x).wf = true) (er : Int) (L' : List Int)
    (hc : (¬ (0 ≤ x ∧ x < many) ∧ er = 4 ∧ L' = L) ∨ ((0 ≤ x ∧ x < many) ∧ x ∈ L ∧ er = 210 ∧ L' = L) ∨ ((0 ≤ x ∧ x < many) ∧ x ∉ L ∧ er = 0 ∧ L' = insR x L)) :
    Calls Try.prog 12 #[.pointer (some ⟨b, 0, none⟩), .int .i64 x] W fun e W' => e = .returned (.int .i64 er) ∧ ArW w0 many b m L' W' := by
  obtain ⟨A, h1, h2⟩ := h
  refine (claim_any x h1 h2.size hw).mono ?_
  rintro e W' ⟨g1, g2, g3⟩
  rcases hc with ⟨c1, rfl, rfl⟩ | ⟨c1, c2, rfl, rfl⟩ | ⟨c1, c2, rfl, rfl⟩
  · obtain ⟨rfl, hb⟩ := g1 c1
    exact ⟨rfl, ArW.after ⟨A, h1, h2⟩ hb⟩
  · obtain ⟨rfl, hb⟩ := g2 c1 c2
    exact ⟨rfl, ArW.after ⟨A, h1, h2⟩ hb⟩
  · obtain ⟨A', rfl, ha, ho, _⟩ := g3 c1 c2
    exact ⟨rfl, ArW.turn h1 h2 ha ho⟩
theorem ArW.topT (h : ArW w0 many b m L W) : Calls Try.prog 16 #[.pointer (some ⟨b, 0, none⟩)] W fun e W' => e = .returned (.int .i64 (topL L)) ∧ W' = W := by
  obtain ⟨A, h1, _⟩ := h
  exact h1.topT
end
set_option maxRecDepth 100000 in
set_option maxHeartbeats 3200000 in
theorem works_any (w : World) : Calls Try.prog 6 #[] w fun e w' => e = .returned (.bool true) ∧ Below w.heap.size w w' := by
  have f0 : LeastFree 3 [] 0 := ⟨by decide, by decide, by simp, fun y h0 h1 => by omega⟩
  have f1 : LeastFree 3 [0] 1 := ⟨by decide, by decide, by simp, fun y h0 h1 => by have : y = 0 := by omega
                                                                                   simp [this]⟩
  have f2 : LeastFree 3 [1] 0 := ⟨by decide, by decide, by simp, fun y h0 h1 => by omega⟩
  have HF := Lib.hid (And.intro f0 (And.intro f1 f2))
  clear f0 f1 f2
  have HNew := Lib.hid (new_any 3 w.heap.size (by decide) w (Nat.le_refl _))
  go_enter Try.func6, Try.ntmps6
  go_wp2_with fail
  refine HNew.out.mono ?_
  rintro e W1 ⟨rfl, ha, hb⟩
  have H1 := Lib.hid (show ArW w 3 (w.heap.size + 1) w.heap.size [] W1 from ⟨none, ha, hb⟩)
  generalize w.heap.size + 1 = b at *
  clear ha hb HNew
  go_wp2_with fail
  refine (takeW H1.out HF.out.1 (by decide)).mono ?_
  rintro e W2 ⟨rfl, h⟩
  have H2 := Lib.hid (show ArW w 3 b w.heap.size [0] W2 from h)
  clear h H1
  go_wp2_with fail
  refine (takeW H2.out HF.out.2.1 (by decide)).mono ?_
  rintro e W3 ⟨rfl, h⟩
  have H3 := Lib.hid (show ArW w 3 b w.heap.size [0, 1] W3 from h)
  clear h H2
  go_wp2_with fail
  refine (giveW H3.out (by decide) 0 [1] (.inr (.inr ⟨by decide, by simp, rfl, rfl⟩))).mono ?_
  rintro e W4 ⟨rfl, h⟩
  have H4 := Lib.hid h
  clear h H3
  go_wp2_with fail
  refine (takeW H4.out HF.out.2.2 (by decide)).mono ?_
  rintro e W5 ⟨rfl, h⟩
  have H5 := Lib.hid (show ArW w 3 b w.heap.size [0, 1] W5 from h)
  clear h H4
  go_wp2_with fail
  refine H5.out.topT.mono ?_
  rintro e W6 ⟨rfl, rfl⟩
  have et : topL [0, 1] = 2 := rfl
  rw [et]
  clear et
  go_wp2_with fail
  refine (giveW H5.out (x := 2) (by decide) 5 [0, 1] (.inr (.inl ⟨by decide, by simp, rfl, rfl⟩))).mono ?_
  rintro e W7 ⟨rfl, h⟩
  have H7 := Lib.hid h
  clear h H5
  go_wp2_with fail
  refine (claimW H7.out (x := 1) (by decide) 210 [0, 1] (.inr (.inl ⟨by decide, by simp, rfl, rfl⟩))).mono ?_
  rintro e W8 ⟨rfl, h⟩
  have H8 := Lib.hid h
  clear h H7
  go_wp2_with fail
  refine (new_bad (-1) (by decide) _).mono ?_
  rintro e W9 ⟨rfl, rfl⟩
  go_wp2_with fail
  refine (giveW H8.out (x := 3) (by decide) 4 [0, 1] (.inl ⟨by decide, rfl, rfl⟩)).mono ?_
  rintro e W10 ⟨rfl, h⟩
  have H10 := Lib.hid h
  clear h H8
  go_wp2_with ((go_at_call 11; refine (num_any _ _).mono ?_; rintro e w' ⟨rfl, rfl⟩))
  go_ret
  obtain ⟨_, _, hb⟩ := H10.out
  exact ⟨rfl, hb⟩
end Go.Proofs.Ytncgjlhmgdgokaa
