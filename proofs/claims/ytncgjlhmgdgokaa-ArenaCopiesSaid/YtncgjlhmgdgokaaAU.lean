/- Copy of an arena: another one, in blocks of its own; no condition. -/
import Derived.Test.YtncgjlhmgdgokaaAT
namespace Go.Proofs.Ytncgjlhmgdgokaa
open Go.RowKit Go.Sort ArenaMath Go.Maps

theorem clone_any {w : World} {base n c : Nat} {A : Option Addr} {l : List Int} (h : Own 3 1 w base A n c (intCs l)) (hb : n ≤ 1000000) :
    Calls Try.prog 53 #[.slice A n c] w fun e w' => ∃ A' c', e = .returned (.slice A' n c') ∧ Own 3 1 w' w.heap.size A' n c' (intCs l) ∧ Below w.heap.size w w' := by
  have hn : l.length = n := by have := h.len; rw [intCs_len1] at this; omega
  rcases h.form with ⟨rfl, rfl, rfl⟩ | ⟨g, rfl, _, _⟩
  · obtain rfl : l = [] := List.length_eq_zero_iff.1 hn
    refine (Try.slices_Clone_int_nil 0 0 w).mono ?_
    rintro e w' ⟨rfl, rfl⟩
    exact ⟨none, 0, rfl, Own.nil _ _ _ _, Below.refl _ _⟩
  · have hc := h.cells
    refine (Try.slices_Clone_int g 0 n c l w (by omega) (by omega) ?_).mono ?_
    · intro j hj
      obtain ⟨b', o, e, hl⟩ := hc (by rw [intCs_len1]; omega)
      cases e
      refine hl.2 j _ ?_
      rw [List.getD_eq_getElem?_getD, List.getElem?_eq_getElem hj]
      exact intCs_get (List.getElem?_eq_getElem hj)
    · rintro e w' ⟨v, rfl, hr, hnil, hbl⟩
      rw [List.take_of_length_le (by omega)] at hr
      obtain ⟨A', c', rfl⟩ := own_slice hr
      exact ⟨A', c', rfl, hr, hbl⟩
set_option maxRecDepth 100000 in
theorem copied_any {w : World} {base b c : Nat} {rest : List Value} {A : Option Addr} {l : List Int} (h : HpAt w base b rest A c l) (hb : l.length ≤ 1000000) :
    Calls Try.prog 38 #[.pointer (some ⟨b, 0, none⟩)] w fun e w' => ∃ A' c', e = .returned (.agg #[.slice A' l.length c']) ∧ Own 3 1 w' w.heap.size A' l.length c' (intCs l) ∧ Below w.heap.size w w' := by
  have c0 := h.row.c 0 rfl
  have HL := Lib.hid h.line
  have hlt := h.row.lt
  have HR := Lib.hid h.row
  clear h
  go_enter Try.func38, Try.ntmps38
  go_upto_region 1 with fail
  generalize hW : World.alloc _ _ = W0
  have hR2 : Row W0 w.heap.size [.slice none 0 0] := by rw [← hW]; exact Row.at rfl [_] _
  have hB : Below w.heap.size w W0 := by rw [← hW]; exact (Below.refl w.heap.size w).alloc (Nat.le_refl _) _
  clear hW c0
  have c0 := (HR.out.after hB).c 0 rfl
  have HC := Lib.hid (clone_any (HL.out.after hB) hb)
  go_wp2_with fail
  refine HC.out.mono ?_
  rintro e W1 ⟨A', c', rfl, ho, hb1⟩
  have r2 := hR2.after hb1
  have x2 := r2.c 0 rfl
  have f2 := r2.f 0 rfl
  have r3 := (r2.set 0 (by simp) (.slice A' l.length c')).c 0 rfl
  have hfar : ∀ g, ownB A' = some g → g ≠ w.heap.size := fun g hg => by
    have := ho.form
    have h2 := hR2.lt
    rcases this with ⟨e, _⟩ | ⟨g', e, h3, _⟩
    · rw [e] at hg; cases hg
    · rw [e] at hg; cases hg; show g' ≠ w.heap.size; omega
  have HZ := Lib.hid (And.intro ((ho.put (p := ⟨w.heap.size, 0, none⟩) hfar (.slice A' l.length c')).toBase (base' := w.heap.size) hB.size) (below_put1 (hB.trans (hb1.mono hB.size)) (Nat.le_refl _) 0 (.slice A' l.length c')))
  clear c0 ho hb1 r2 hfar HC hB hR2
  go_wp2_with fail
  first
    | exact bodyPost_ret (v := .agg #[.slice A' l.length c']) (by simp [results, Try.results38, go_sem, r3]) rfl ⟨A', c', rfl, HZ.out.1, HZ.out.2⟩
    | (go_ret; exact ⟨A', c', rfl, HZ.out.1, HZ.out.2⟩)
theorem mclone_any {w : World} {m n : Nat} {D : DataW Unit} (h : w.ownsMap Try.prog 3 hElem m n D) :
    Calls Try.prog 39 #[.map (some m)] w fun e w' => e = .returned (.map (some w.heap.size)) ∧ w'.ownsMap Try.prog 3 hElem w.heap.size n D ∧ Below w.heap.size w w' :=
  (AnyW.maps_Clone_owns Try.cloneA 3 hElem m n D w h).mono fun _ _ h => ⟨h.1, h.2.1, h.2.2.2⟩
theorem ArS.toBase {w : World} {base base' b many m : Nat} {L : List Int} {A : Option Addr} (h : ArS w base b many L m A) (hb : base' ≤ base) : ArS w base' b many L m A := by
  obtain ⟨⟨mark, top, c, hs, D, tk, h1, h2⟩, h3⟩ := h
  exact ⟨⟨mark, top, c, hs, D, tk, ⟨⟨h1.hp.row, h1.hp.line.toBase hb, h1.hp.far⟩, h1.map, h1.is, ⟨Nat.le_trans hb h1.base.1, Nat.le_trans hb h1.base.2⟩⟩, h2⟩, h3⟩
set_option maxRecDepth 100000 in
set_option maxHeartbeats 4000000 in
theorem copy_any {w : World} {base b many m : Nat} {L : List Int} {A : Option Addr} (h : ArS w base b many L m A) :
    Calls Try.prog 17 #[.pointer (some ⟨b, 0, none⟩)] w fun e w' => ∃ b' m' A', e = .returned (.pointer (some ⟨b', 0, none⟩)) ∧ ArS w' w.heap.size b' many L m' A' ∧ Below w.heap.size w w' := by
  obtain ⟨⟨mark, top, c, hs, D, tk, hmem, hinv, hsz⟩, hm⟩ := h
  have hlt := hmem.hp.row.lt
  have HT := Lib.hid (there_yes hmem.hp.row)
  have c0 := hmem.hp.row.c 0 rfl
  have c1 := hmem.hp.row.c 1 rfl
  have c2 := hmem.hp.row.c 2 rfl
  have c3 := hmem.hp.row.c 3 rfl
  have c4 := hmem.hp.row.c 4 rfl
  have H := Lib.hid (And.intro hmem (And.intro hinv (And.intro hsz hm)))
  clear hmem hinv hsz hm
  go_enter Try.func17, Try.ntmps17
  go_wp2_with fail
  refine HT.out.mono ?_
  rintro e w1 ⟨rfl, rfl⟩
  go_upto_region 4 with fail
  clear c0 c1 c2 c3 c4 HT
  generalize hW : World.alloc _ _ = W0
  have hR : Row W0 w1.heap.size [.slice A hs.length c, .map (some m), .int .i64 many, .int .i64 mark, .int .i64 top] := by rw [← hW]; exact Row.at rfl [_, _, _, _, _] _
  have hB : Below w1.heap.size w1 W0 := by rw [← hW]; exact (Below.refl w1.heap.size w1).alloc (Nat.le_refl _) _
  clear hW
  have HM := Lib.hid (H.out.1.after hB)
  have HC := Lib.hid (copied_any HM.out.hp (by have := H.out.2.1.hlen H.out.2.2.2; omega))
  go_wp2_with fail
  refine HC.out.mono ?_
  rintro e W1 ⟨A', c', rfl, ho, hb1⟩
  have hfar : ∀ g, ownB A' = some g → W0.heap.size ≤ g ∧ g < W1.heap.size := fun g hg => by
    rcases ho.form with ⟨e, _⟩ | ⟨g', e, h3, h4⟩
    · rw [e] at hg; cases hg
    · rw [e] at hg; cases hg; exact ⟨h3, h4⟩
  have hlt0 := hR.lt
  have r1 := hR.after hb1
  have f0 := r1.f 0 rfl
  have r2 : Row (W1.setCell ⟨w1.heap.size, 0, none⟩ (.slice A' hs.length c')) w1.heap.size [.slice A' hs.length c', .map (some m), .int .i64 many, .int .i64 mark, .int .i64 top] := r1.set 0 (by simp) _
  have c0 := r1.c 0 rfl
  have hB2 : Below w1.heap.size w1 (W1.setCell ⟨w1.heap.size, 0, none⟩ (.slice A' hs.length c')) := below_put1 (hB.trans (hb1.mono hB.size)) (Nat.le_refl _) 0 _
  have ho2 := ho.put (p := ⟨w1.heap.size, 0, none⟩) (fun g hg => by have := hfar g hg; show g ≠ w1.heap.size; omega) (.slice A' hs.length c')
  have HF := Lib.hid (And.intro ho2 hfar)
  clear ho2 ho hfar r1 hR
  go_upto_region 5 with fail
  clear c0 f0
  generalize hW : World.setCell _ _ _ = W2
  rw [hW] at r2 hB2
  replace HF : Hid (Own 3 1 W2 W0.heap.size A' hs.length c' (intCs hs) ∧ (∀ g, ownB A' = some g → W0.heap.size ≤ g ∧ g < W2.heap.size)) := Lib.hid (by rw [← hW]; exact ⟨HF.out.1, by simpa [World.setCell] using HF.out.2⟩)
  clear hW HC HM hb1
  have HM := Lib.hid (H.out.1.after hB2)
  have c1 := HM.out.hp.row.c 1 rfl
  have HC := Lib.hid (mclone_any HM.out.map)
  go_wp2_with fail
  refine HC.out.mono ?_
  rintro e W3 ⟨rfl, hmap, hb3⟩
  have r3 := r2.after hb3
  have f1 := r3.f 1 rfl
  have x1 := r3.c 1 rfl
  have r4 : Row (W3.setCell ⟨w1.heap.size, 1, none⟩ (.map (some W2.heap.size))) w1.heap.size [.slice A' hs.length c', .map (some W2.heap.size), .int .i64 many, .int .i64 mark, .int .i64 top] := r3.set 1 (by simp) _
  have hlt2 := r2.lt
  have HO := Lib.hid ((HF.out.1.after hb3).put (p := ⟨w1.heap.size, 1, none⟩) (fun g hg => by have := HF.out.2 g hg; show g ≠ w1.heap.size; omega) (.map (some W2.heap.size)))
  have HB := Lib.hid (below_put1 (hB2.trans (hb3.mono hB2.size)) (Nat.le_refl _) 1 (.map (some W2.heap.size)))
  have HP := Lib.hid (hmap.only (Only.put (F := fun k => k = w1.heap.size) (Only.refl _ W3) (p := ⟨w1.heap.size, 1, none⟩) (.inl rfl) (.map (some W2.heap.size))) (by show ¬ W2.heap.size = w1.heap.size; omega))
  have HR4 := Lib.hid r4
  have hs0 := hB.size
  have hs2 := hB2.size
  clear c1 r3 hmap hb3 HC r2 r4
  go_wp2_with fail
  go_ret
  refine ⟨_, _, A', rfl, ⟨⟨mark, top, c', hs, D, tk, ⟨⟨HR4.out, HO.out.toBase hs0, ?_⟩, HP.out, H.out.1.is, ⟨Nat.le_refl _, hs2⟩⟩, H.out.2.1, H.out.2.2.1⟩, H.out.2.2.2⟩, HB.out⟩
  intro g hg
  have := HF.out.2 g hg
  omega
theorem copy_none {w : World} {q : Option Addr} (h : NoAr w q) : Calls Try.prog 17 #[.pointer q] w fun e w' => e = .returned (.pointer none) ∧ w' = w := by
  have HT := Lib.hid (h w (Below.refl _ _))
  clear h
  go_enter Try.func17, Try.ntmps17
  go_wp2_with fail
  refine HT.out.mono ?_
  rintro e w1 ⟨rfl, rfl⟩
  go_wp2_with fail
  go_ret
  exact ⟨rfl, rfl⟩
end Go.Proofs.Ytncgjlhmgdgokaa
