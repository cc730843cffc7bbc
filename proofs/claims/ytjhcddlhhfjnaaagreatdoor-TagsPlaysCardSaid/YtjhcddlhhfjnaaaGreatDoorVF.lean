/- The document's New over plain lists. -/
import Derived.Test.YtjhcddlhhfjnaaaGreatDoorVE
namespace Go.Proofs.YtjhcddlhhfjnaaaGreatDoor
open Go.RowKit Go.Sort

/-- The document's New. -/
def rnew (l : List Int) : Int × List Int := if l.any badN then (2, []) else raddAll [] l
structure NS (ad : Int × List Int) (w : World) (l : List Int) (k : Nat) (t : List Int) (A1 : Option Addr) (N1 c1 : Nat) (wr : World) : Prop where
  res : Row wr w.heap.size [.slice none 0 0]
  box : Row wr (w.heap.size + 1) [.slice A1 N1 c1]
  len : N1 = t.length
  cells : CellsS wr A1 (intCs t)
  cap : N1 ≤ c1
  far : ∀ a, A1 = some a → w.heap.size + 2 ≤ a.block
  done : ad = raddAll t (l.drop k)
  bnd : t.length ≤ k
  below : Below w.heap.size w wr
set_option maxRecDepth 100000 in
set_option maxHeartbeats 6400000 in
theorem rnew_any (l : List Int) (A : Option Addr) (N c : Nat) (w : World) (hN : N = l.length) (hb : N ≤ 40000) (hA : CellsS w A (intCs l)) :
    Calls Tryz.prog 9 #[.slice A N c] w (RTagPost w (rnew l).1 (rnew l).2) := by
  have HA := Lib.hid hA
  have HN := Lib.hid hN
  clear hA hN
  obtain ⟨ad, had⟩ : ∃ ad, rnew l = ad := ⟨_, rfl⟩
  rw [had]
  have HAD := Lib.hid had
  clear had
  go_enter Tryz.func9, Tryz.ntmps9
  go_wp2_with fail
  generalize hW : World.alloc _ _ = W0
  have HR : Hid (Row W0 w.heap.size [.slice none 0 0] ∧ Below w.heap.size w W0 ∧ W0.heap.size = w.heap.size + 1) := by
    rw [← hW]
    exact Lib.hid ⟨Row.at rfl [_] _, (Below.refl _ _).alloc (Nat.le_refl _) _, by simp⟩
  clear hW
  go_loopw [4] (fun i wr => ∃ k : Nat, k ≤ N ∧ i = .int .i64 k ∧ Hid ((l.take k).any badN = false) ∧ wr = W0) (fun i _ => N - (intOf i).toNat)
  case atStart => exact ⟨0, Nat.zero_le _, rfl, Lib.hid rfl, rfl⟩
  case round =>
    obtain ⟨k, hk, rfl, HT, hwr⟩ := hrel
    subst hwr
    by_cases hkn : k < N
    · obtain ⟨p, hpk⟩ : ∃ p, l[k]? = some p := ⟨_, List.getElem?_eq_getElem (by rw [← HN.out]; exact hkn)⟩
      obtain ⟨b, o, rfl, hl⟩ := HA.out (by rw [intCs_len, ← HN.out]; omega)
      have HC := Lib.hid (hl.after HR.out.2.1)
      have c0 : wr.cell? ⟨b, o + k, none⟩ = some (.int .i64 p) := HC.out.2 _ _ (intCs_get hpk)
      have HPk := Lib.hid hpk
      have hk1 : (k : Int) < N := by omega
      clear hl hpk
      by_cases h1 : p < 1
      · have z5 := (HR.out.1.set 0 (by simp) (.slice none 0 0)).c 0 rfl
        have HP : Hid (RTagPost w ad.1 ad.2 (.returned (.tuple #[.agg #[.slice none 0 0], .int .i64 2])) (wr.setCell ⟨w.heap.size, 0, none⟩ (.slice none 0 0))) := by
          have hb2 : badN p = true := by simp [badN]; omega
          have h : ad = (2, []) := by rw [← HAD.out, rnew, if_pos (List.any_eq_true.2 ⟨p, List.mem_of_getElem? HPk.out, hb2⟩)]
          rw [h]
          exact Lib.hid ⟨none, 0, 0, rfl, rfl, CellsS.nil _ _, Nat.le_refl _, (fun h => absurd h (by decide)), below_put1 HR.out.2.1 (Nat.le_refl _) 0 _⟩
        have x5 := HR.out.1.c 0 rfl
        have g5 := HR.out.1.f 0 rfl
        clear HT HC
        go_wp2_with fail
        exact bodyPost_ret (v := .tuple #[.agg #[.slice none 0 0], .int .i64 2]) (by simp [results, Tryz.results9, go_sem, z5]) rfl HP.out
      · by_cases h2 : 2147483647 < p
        · have z5 := (HR.out.1.set 0 (by simp) (.slice none 0 0)).c 0 rfl
          have HP : Hid (RTagPost w ad.1 ad.2 (.returned (.tuple #[.agg #[.slice none 0 0], .int .i64 2])) (wr.setCell ⟨w.heap.size, 0, none⟩ (.slice none 0 0))) := by
            have hb2 : badN p = true := by simp [badN]; omega
            have h : ad = (2, []) := by rw [← HAD.out, rnew, if_pos (List.any_eq_true.2 ⟨p, List.mem_of_getElem? HPk.out, hb2⟩)]
            rw [h]
            exact Lib.hid ⟨none, 0, 0, rfl, rfl, CellsS.nil _ _, Nat.le_refl _, (fun h => absurd h (by decide)), below_put1 HR.out.2.1 (Nat.le_refl _) 0 _⟩
          have x5 := HR.out.1.c 0 rfl
          have g5 := HR.out.1.f 0 rfl
          clear HT HC
          go_wp2_with fail
          exact bodyPost_ret (v := .tuple #[.agg #[.slice none 0 0], .int .i64 2]) (by simp [results, Tryz.results9, go_sem, z5]) rfl HP.out
        · have HT2 : Hid ((l.take (k + 1)).any badN = false) := Lib.hid (by
            have hp : badN p = false := by simp [badN]; omega
            rw [List.take_add_one, HPk.out]
            simp [List.any_append, HT.out, hp])
          go_wp2_with fail
          go_roundw
          case rel => exact ⟨k + 1, by omega, by go_num, HT2, trivial⟩
          case measure => simp [intOf]; omega
    · obtain rfl : N = k := by omega
      have HX : Hid (ad = raddAll [] (l.drop 0)) := Lib.hid (by
        have h := HT.out
        rw [List.take_of_length_le (by rw [← HN.out]; exact Nat.le_refl _)] at h
        rw [← HAD.out, rnew, if_neg (by simp [h])]; rfl)
      clear HT
      go_wp2_with fail
      have HS0 : Hid (NS ad w l 0 [] none 0 0 (wr.alloc (.cells #[.slice none 0 0] 31))) := by
        have hBB : Below w.heap.size w (wr.alloc (.cells #[.slice none 0 0] 31)) := HR.out.2.1.alloc HR.out.2.1.size _
        exact Lib.hid ⟨HR.out.1.alloc _, Row.at HR.out.2.2.symm [_] _, rfl, CellsS.nil _ _, Nat.le_refl _, (fun a ha => by cases ha), HX.out, Nat.zero_le _, hBB⟩
      rw [HR.out.2.2]
      generalize World.alloc _ _ = W3 at HS0 ⊢
      clear HR HAD HX
      go_loopw [6] (fun i wr => ∃ (k : Nat) (t : List Int) (A1 : Option Addr) (N1 c1 : Nat), k ≤ N ∧ i = .int .i64 k ∧ Hid (NS ad w l k t A1 N1 c1 wr)) (fun i _ => N - (intOf i).toNat)
      case atStart => exact ⟨0, [], none, 0, 0, Nat.zero_le _, rfl, HS0⟩
      case round =>
        obtain ⟨k, t, A1, N1, c1, hk, rfl, HS⟩ := hrel
        clear HS0
        by_cases hkn : k < N
        · obtain ⟨p, hpk⟩ : ∃ p, l[k]? = some p := ⟨_, List.getElem?_eq_getElem (by rw [← HN.out]; exact hkn)⟩
          obtain ⟨b, o, rfl, hl⟩ := HA.out (by rw [intCs_len, ← HN.out]; omega)
          have HC := Lib.hid (hl.after HS.out.below)
          have HD : Hid (l.drop k = p :: l.drop (k + 1)) := Lib.hid (by
            obtain ⟨h1, h2⟩ := List.getElem?_eq_some_iff.1 hpk
            rw [List.drop_eq_getElem_cons h1, h2])
          have hk1 : (k : Int) < N := by omega
          have z6 : ∀ W, KW wr W → W.cell? ⟨w.heap.size + 1, 0, none⟩ = some (.slice A1 N1 c1) := fun W h => (HS.out.box.after h).c 0 rfl
          have z1 : ∀ W, KW wr W → W.cell? ⟨b, o + k, none⟩ = some (.int .i64 p) := fun W h => (HC.out.after h).2 _ _ (intCs_get hpk)
          have HM := Lib.hid (fun W (h : KW wr W) => rmore_any t p A1 N1 c1 W HS.out.len (by have := HS.out.bnd; have := HS.out.len; omega) HS.out.cap (HS.out.cells.after h))
          clear hl hpk
          by_cases he : rmoreE t p = 0
          · rw [he] at HM
            have HE0 := Lib.hid he
            clear he
            have h00 : KW wr wr := Below.refl _ _
            have hs : KW wr wr.drew := KW.drew h00
            go_wp2_with fail
            go_region_held3 (fun w' : World => KW wr w')
              (repeat (first
                | (with_reducible assumption)
                | (with_reducible refine KW.put ?_ (KW.size (by with_reducible assumption)) _)
                | (with_reducible refine KW.drew ?_)
                | (with_reducible refine KW.alloc ?_ _)
                | (with_reducible refine KW.after ?_ hb)))
              (first
                | (go_at_call 13; (with_reducible refine (HM.out _ (by with_reducible assumption)).mono ?_); rintro e w2 ⟨A2, N2, c2, rfl, hN2, hC2, hc2, hf2, hb⟩; (first | (have r8 : Row w2 wr.heap.size [.slice none 0 0] := Row.after (w := (wr.alloc (.cells #[.slice none 0 0] 31)).drew) (Row.drew (Row.at rfl [_] _)) hb; have y8 := r8.c 0 rfl; have f8 := r8.f 0 rfl) | skip); have H2 := Lib.hid (And.intro hN2 (And.intro hC2 (And.intro hc2 hf2))); clear hN2 hC2 hc2 hf2))
            · have rb : Row (w2.alloc (.cells #[.slice A2 N2 c2] 31)) (w2.heap.size) [.slice A2 N2 c2] := Row.at rfl [_] _
              have hk' : KW wr (w2.alloc (.cells #[.slice A2 N2 c2] 31)) := by assumption
              have rc : CellsS (w2.alloc (.cells #[.slice A2 N2 c2] 31)) A2 (intCs (rmoreL t p)) := H2.out.2.1.after ((Below.refl _ _).alloc (Nat.le_refl _) _)
              have hf : ∀ a, A2 = some a → wr.heap.size ≤ a.block := H2.out.2.2.2 trivial
              have HV := Lib.hid (And.intro rb (And.intro hk' (And.intro rc (And.intro hf (And.intro H2.out.1 H2.out.2.2.1)))))
              clear rc hf
              have y8' := rb.c 0 rfl
              clear rb hk' hb z6 z1 HM h00 hs
              generalize w2.alloc (.cells #[.slice A2 N2 c2] 31) = V at *
              generalize w2.heap.size = b8 at *
              obtain ⟨rb, hk', rc, hf, hN2, hc2⟩ := HV.out
              have q6 := HS.out.box.after hk'
              have y6 := q6.c 0 rfl
              have g6 := q6.f 0 rfl
              have HS2 : Hid (NS ad w l (k + 1) (rmoreL t p) A2 N2 c2 (V.setCell ⟨w.heap.size + 1, 0, none⟩ (.slice A2 N2 c2))) := by
                have hl := HS.out.box.1
                refine Lib.hid ⟨(HS.out.res.after hk').other (by simp <;> omega) _, q6.set 0 (by simp) _, hN2, rc.put (fun _ a ha => by have := hf a ha; show a.block ≠ w.heap.size + 1; omega), hc2, fun a ha => by have := hf a ha; omega, ?_, ?_, below_put1 (HS.out.below.trans (hk'.mono HS.out.below.size)) (by omega) 0 _⟩
                · rw [HS.out.done, HD.out, raddAll, if_pos HE0.out]
                · have := rmoreL_len t p; have := HS.out.bnd; omega
              clear rb hk' rc hf hN2 hc2 q6 HV HS HD HC
              go_wp2_with fail
              go_roundw
              case rel => exact ⟨k + 1, rmoreL t p, A2, N2, c2, by omega, by go_num, HS2⟩
              case measure => simp [intOf]; omega
            · have rb : Row (w2.setCell ⟨wr.heap.size, 0, none⟩ (.slice A2 N2 c2)) (wr.heap.size) [.slice A2 N2 c2] := r8.set 0 (by simp) _
              have hk' : KW wr (w2.setCell ⟨wr.heap.size, 0, none⟩ (.slice A2 N2 c2)) := by assumption
              have rc : CellsS (w2.setCell ⟨wr.heap.size, 0, none⟩ (.slice A2 N2 c2)) A2 (intCs (rmoreL t p)) := H2.out.2.1.put (fun _ a ha => by have h : wr.heap.size + 1 ≤ a.block := (by simpa using H2.out.2.2.2 trivial a ha); show a.block ≠ wr.heap.size; omega)
              have hf : ∀ a, A2 = some a → wr.heap.size ≤ a.block := fun a ha => by have h : wr.heap.size + 1 ≤ a.block := (by simpa using H2.out.2.2.2 trivial a ha); omega
              have HV := Lib.hid (And.intro rb (And.intro hk' (And.intro rc (And.intro hf (And.intro H2.out.1 H2.out.2.2.1)))))
              clear rc hf
              have y8' := rb.c 0 rfl
              clear r8 y8 f8
              clear rb hk' hb z6 z1 HM h00 hs
              generalize w2.setCell ⟨wr.heap.size, 0, none⟩ (.slice A2 N2 c2) = V at *
              obtain ⟨rb, hk', rc, hf, hN2, hc2⟩ := HV.out
              have q6 := HS.out.box.after hk'
              have y6 := q6.c 0 rfl
              have g6 := q6.f 0 rfl
              have HS2 : Hid (NS ad w l (k + 1) (rmoreL t p) A2 N2 c2 (V.setCell ⟨w.heap.size + 1, 0, none⟩ (.slice A2 N2 c2))) := by
                have hl := HS.out.box.1
                refine Lib.hid ⟨(HS.out.res.after hk').other (by simp <;> omega) _, q6.set 0 (by simp) _, hN2, rc.put (fun _ a ha => by have := hf a ha; show a.block ≠ w.heap.size + 1; omega), hc2, fun a ha => by have := hf a ha; omega, ?_, ?_, below_put1 (HS.out.below.trans (hk'.mono HS.out.below.size)) (by omega) 0 _⟩
                · rw [HS.out.done, HD.out, raddAll, if_pos HE0.out]
                · have := rmoreL_len t p; have := HS.out.bnd; omega
              clear rb hk' rc hf hN2 hc2 q6 HV HS HD HC
              go_wp2_with fail
              go_roundw
              case rel => exact ⟨k + 1, rmoreL t p, A2, N2, c2, by omega, by go_num, HS2⟩
              case measure => simp [intOf]; omega
          · have HE0 : Hid (ad = (rmoreE t p, [])) := Lib.hid (by rw [HS.out.done, HD.out, raddAll, if_neg he])
            generalize rmoreE t p = er at HM HE0 he
            have he' : (er == 0) = false := by simpa using he
            have h00 : KW wr wr := Below.refl _ _
            have hs : KW wr wr.drew := KW.drew h00
            go_wp2_with fail
            go_region_held3 (fun w' : World => KW wr w')
              (repeat (first
                | (with_reducible assumption)
                | (with_reducible refine KW.put ?_ (KW.size (by with_reducible assumption)) _)
                | (with_reducible refine KW.drew ?_)
                | (with_reducible refine KW.alloc ?_ _)
                | (with_reducible refine KW.after ?_ hb)))
              (first
                | (go_at_call 13; (with_reducible refine (HM.out _ (by with_reducible assumption)).mono ?_); rintro e w2 ⟨A2, N2, c2, rfl, hN2, hC2, hc2, hf2, hb⟩; (first | (have r8 : Row w2 wr.heap.size [.slice none 0 0] := Row.after (w := (wr.alloc (.cells #[.slice none 0 0] 31)).drew) (Row.drew (Row.at rfl [_] _)) hb; have y8 := r8.c 0 rfl; have f8 := r8.f 0 rfl) | skip); have H2 := Lib.hid (And.intro hN2 (And.intro hC2 (And.intro hc2 hf2))); clear hN2 hC2 hc2 hf2))
            · have rb : Row (w2.alloc (.cells #[.slice A2 N2 c2] 31)) (w2.heap.size) [.slice A2 N2 c2] := Row.at rfl [_] _
              have hk' : KW wr (w2.alloc (.cells #[.slice A2 N2 c2] 31)) := by assumption
              have HV := Lib.hid (And.intro rb hk')
              have y8' := rb.c 0 rfl
              clear rb hk' hb z6 z1 HM h00 hs
              generalize w2.alloc (.cells #[.slice A2 N2 c2] 31) = V at *
              generalize w2.heap.size = b8 at *
              obtain ⟨rb, hk'⟩ := HV.out
              have q5 := HS.out.res.after hk'
              have y5 := q5.c 0 rfl
              have g5 := q5.f 0 rfl
              have r5 : Row (V.setCell ⟨w.heap.size, 0, none⟩ (.slice none 0 0)) w.heap.size [.slice none 0 0] := q5.set 0 (by simp) _
              have z5 := r5.c 0 rfl
              have hBB : Below w.heap.size w (V.setCell ⟨w.heap.size, 0, none⟩ (.slice none 0 0)) := below_put1 (HS.out.below.trans (hk'.mono HS.out.below.size)) (Nat.le_refl _) 0 _
              have HP : Hid (RTagPost w ad.1 ad.2 (.returned (.tuple #[.agg #[.slice none 0 0], .int .i64 er])) (V.setCell ⟨w.heap.size, 0, none⟩ (.slice none 0 0))) := by
                rw [HE0.out]
                exact Lib.hid ⟨none, 0, 0, rfl, rfl, CellsS.nil _ _, Nat.le_refl _, (fun _ a ha => by cases ha), hBB⟩
              clear rb hk' q5 r5 HV hBB HS HD HC
              go_wp2_with fail
              exact bodyPost_ret (v := .tuple #[.agg #[.slice none 0 0], .int .i64 er]) (by simp [results, Tryz.results9, go_sem, z5]) rfl HP.out
            · have rb : Row (w2.setCell ⟨wr.heap.size, 0, none⟩ (.slice A2 N2 c2)) (wr.heap.size) [.slice A2 N2 c2] := r8.set 0 (by simp) _
              have hk' : KW wr (w2.setCell ⟨wr.heap.size, 0, none⟩ (.slice A2 N2 c2)) := by assumption
              have HV := Lib.hid (And.intro rb hk')
              have y8' := rb.c 0 rfl
              clear r8 y8 f8
              clear rb hk' hb z6 z1 HM h00 hs
              generalize w2.setCell ⟨wr.heap.size, 0, none⟩ (.slice A2 N2 c2) = V at *
              obtain ⟨rb, hk'⟩ := HV.out
              have q5 := HS.out.res.after hk'
              have y5 := q5.c 0 rfl
              have g5 := q5.f 0 rfl
              have r5 : Row (V.setCell ⟨w.heap.size, 0, none⟩ (.slice none 0 0)) w.heap.size [.slice none 0 0] := q5.set 0 (by simp) _
              have z5 := r5.c 0 rfl
              have hBB : Below w.heap.size w (V.setCell ⟨w.heap.size, 0, none⟩ (.slice none 0 0)) := below_put1 (HS.out.below.trans (hk'.mono HS.out.below.size)) (Nat.le_refl _) 0 _
              have HP : Hid (RTagPost w ad.1 ad.2 (.returned (.tuple #[.agg #[.slice none 0 0], .int .i64 er])) (V.setCell ⟨w.heap.size, 0, none⟩ (.slice none 0 0))) := by
                rw [HE0.out]
                exact Lib.hid ⟨none, 0, 0, rfl, rfl, CellsS.nil _ _, Nat.le_refl _, (fun _ a ha => by cases ha), hBB⟩
              clear rb hk' q5 r5 HV hBB HS HD HC
              go_wp2_with fail
              exact bodyPost_ret (v := .tuple #[.agg #[.slice none 0 0], .int .i64 er]) (by simp [results, Tryz.results9, go_sem, z5]) rfl HP.out
        · obtain rfl : k = N := by omega
          have hend : l.drop k = [] := List.drop_of_length_le (by rw [← HN.out]; exact Nat.le_refl _)
          have x6 := HS.out.box.c 0 rfl
          have x5 := HS.out.res.c 0 rfl
          have g5 := HS.out.res.f 0 rfl
          have z5 := (HS.out.res.set 0 (by simp) (.slice A1 N1 c1)).c 0 rfl
          have HP : Hid (RTagPost w ad.1 ad.2 (.returned (.tuple #[.agg #[.slice A1 N1 c1], .int .i64 0])) (wr.setCell ⟨w.heap.size, 0, none⟩ (.slice A1 N1 c1))) := by
            have h : ad = (0, t) := by rw [HS.out.done, hend, raddAll]
            rw [h]
            exact Lib.hid ⟨A1, N1, c1, rfl, HS.out.len, HS.out.cells.put (fun _ a ha => by have := HS.out.far a ha; show a.block ≠ w.heap.size; omega), HS.out.cap, (fun _ a ha => by have := HS.out.far a ha; omega), below_put1 HS.out.below (Nat.le_refl _) 0 _⟩
          clear hend HS
          go_wp2_with fail
          exact bodyPost_ret (v := .tuple #[.agg #[.slice A1 N1 c1], .int .i64 0]) (by simp [results, Tryz.results9, go_sem, z5]) rfl HP.out
end Go.Proofs.YtjhcddlhhfjnaaaGreatDoor
