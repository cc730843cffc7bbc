/- The document's Odd over plain lists. -/
import Derived.Test.YtjhcddlhhfjnaaaGreatDoorVF
namespace Go.Proofs.YtjhcddlhhfjnaaaGreatDoor
open Go.RowKit Go.Sort

def roddL (l : List Int) : List Int := (kindsL l).filter fun n => l.count n % 2 == 1
set_option maxRecDepth 100000 in
set_option maxHeartbeats 6400000 in
theorem rodd_any (l : List Int) (A : Option Addr) (N c : Nat) (w : World) (hN : N = l.length) (hb : N ≤ 100000) (hA : CellsS w A (intCs l)) :
    Calls Tryz.prog 34 #[.agg #[.slice A N c]] w (IntPost w (roddL l)) := by
  have HN := Lib.hid hN
  have HK := Lib.hid (fun W (hW : Below w.heap.size w W) => rkinds_any l A N c W hN hb (hA.after hW))
  have HMa := Lib.hid (fun W n (hW : Below w.heap.size w W) => rmany_any l n A N c W hN hb (hA.after hW))
  clear hN hA
  go_enter Tryz.func34, Tryz.ntmps34
  go_wp2_with fail
  generalize hW : World.alloc _ _ = W0
  have hR : Row W0 w.heap.size [.slice A N c] := by rw [← hW]; exact Row.at rfl [_] _
  have hB0 : Below w.heap.size w W0 := by rw [← hW]; exact (Below.refl _ _).alloc (Nat.le_refl _) _
  clear hW
  refine (HK.out _ hB0).mono ?_
  rintro e W1 ⟨KA, NK, cK, rfl, hNK, hCK, hcK, hfK, hbK⟩
  have HR := Lib.hid (And.intro (hR.after hbK) (And.intro (hB0.trans (hbK.mono hB0.size)) hCK))
  have HNK : Hid (NK = (kindsL l).length ∧ NK ≤ 100000) := Lib.hid ⟨hNK, by have := kinds_len l; have := HN.out; omega⟩
  have hNb := HNK.out.2
  clear hR hB0 hbK hCK hcK hfK hNK HK
  go_wp2_with fail
  go_loopw [3, 5] (fun s i wr => ∃ (k m c1 : Nat) (A1 : Option Addr), k ≤ NK ∧ i = .int .i64 k ∧ s = .slice A1 m c1 ∧ m ≤ k ∧ Hid (Own 2 1 wr W1.heap.size A1 m c1 (intCs (((kindsL l).take k).filter fun n => l.count n % 2 == 1))) ∧ Hid (Below W1.heap.size W1 wr)) (fun _ i _ => NK - (intOf i).toNat)
  case atStart => exact ⟨0, 0, 0, none, Nat.zero_le _, rfl, rfl, Nat.le_refl _, Lib.hid (Own.nil _ _ _ _), Lib.hid (Below.refl _ _)⟩
  case round =>
    obtain ⟨k, m, c1, A1, hk, rfl, rfl, hmk, HO, HB⟩ := hrel
    by_cases hkn : k < NK
    · obtain ⟨p, hpk⟩ : ∃ p, (kindsL l)[k]? = some p := ⟨_, List.getElem?_eq_getElem (by rw [← HNK.out.1]; exact hkn)⟩
      obtain ⟨b, o, rfl, hl⟩ := HR.out.2.2 (by rw [intCs_len, ← HNK.out.1]; omega)
      have HT : Hid ((kindsL l).take (k + 1) = (kindsL l).take k ++ [p]) := Lib.hid (by rw [List.take_add_one, hpk]; rfl)
      have hk1 : (k : Int) < NK := by omega
      have HC := Lib.hid (And.intro hl hpk)
      have hHB := HB.out
      have hsz := HB.out.size
      have z1 : ∀ W, KW wr W → W.cell? ⟨w.heap.size, 0, none⟩ = some (.slice A N c) := fun W h => ((HR.out.1.below HB.out HR.out.1.1).after h).c 0 rfl
      have z2 : ∀ W, KW wr W → W.cell? ⟨b, o + k, none⟩ = some (.int .i64 p) := fun W h => ((HC.out.1.below HB.out HC.out.1.1).after h).2 _ _ (intCs_get HC.out.2)
      have HM := Lib.hid (fun W (h : KW wr W) => HMa.out W p (HR.out.2.1.trans ((HB.out.mono HR.out.2.1.size).trans (h.mono (Nat.le_trans HR.out.2.1.size hsz)))))
      have h00 : KW wr wr := Below.refl _ _
      have hs : KW wr wr.drew := KW.drew h00
      clear hl hpk hHB
      generalize hct : l.count p = ct at HM
      have HCt := Lib.hid hct
      clear hct
      by_cases hodd : ct % 2 = 1
      · have hm : Int.tmod (ct : Int) 2 = 1 := by rw [Int.tmod_eq_emod_of_nonneg (by omega)]; omega
        have HF : Hid (((kindsL l).take (k + 1)).filter (fun n => l.count n % 2 == 1) = (((kindsL l).take k).filter fun n => l.count n % 2 == 1) ++ [p]) := Lib.hid (by rw [HT.out, List.filter_append]; congr 1; simp [HCt.out, hodd])
        clear hodd
        go_wp2_with fail
        go_region_held3 (fun w' : World => KW wr w')
          (repeat (first
            | (with_reducible assumption)
            | (with_reducible refine KW.drew ?_)
            | (with_reducible refine KW.alloc ?_ _)
            | (with_reducible refine KW.after ?_ hb)))
          (first
            | (go_at_call 32; (with_reducible refine (HM.out _ (by with_reducible assumption)).mono ?_); rintro e w2 ⟨rfl, hb⟩))
        have hkw : Below wr.heap.size wr w2 := by assumption
        have HO2 := Lib.hid (HO.out.after hkw)
        have HB2 := Lib.hid (HB.out.trans (hkw.mono hsz))
        have y2 := z2 _ hkw
        have hsz2 := HB2.out.size
        clear z1 z2 HM h00 hs hkw hb HO HB
        go_wp2_with (at_builtin; refine wpList_app rfl (.tmp 22) (.tmp 27) elemI64 rfl W1.heap.size A1 m c1 (intCs (((kindsL l).take k).filter fun n => l.count n % 2 == 1)) (some ⟨_, 0, none⟩) 1 1 [.int .i64 p] rfl rfl (HO2.out.alloc _) (cells_row (Row.at rfl [.int .i64 p] _)) rfl (intCs_one [p]) (by omega) (by simp; omega) ?_)
        intro A9 c9 W9 hO9 hg9 hb9
        have HO9 : Hid (Own 2 1 W9 W1.heap.size A9 (m + 1) c9 (intCs (((kindsL l).take (k + 1)).filter fun n => l.count n % 2 == 1))) := Lib.hid (by rw [HF.out, intCs_append]; exact hO9)
        have HB9 : Hid (Below W1.heap.size W1 W9) := Lib.hid ((HB2.out.trans ((Below.refl _ _).alloc (by omega) _)).trans hb9)
        clear hO9 hg9 hb9 y2 HO2 HB2
        go_wp2_with fail
        go_roundw
        case rel => exact ⟨k + 1, m + 1, c9, A9, by omega, by go_num, rfl, by omega, HO9, HB9⟩
        case measure => simp [intOf]; omega
      · have hm : Int.tmod (ct : Int) 2 = 0 := by rw [Int.tmod_eq_emod_of_nonneg (by omega)]; omega
        have HF : Hid (((kindsL l).take (k + 1)).filter (fun n => l.count n % 2 == 1) = ((kindsL l).take k).filter fun n => l.count n % 2 == 1) := Lib.hid (by rw [HT.out, List.filter_append]; simp [HCt.out, hodd])
        clear hodd
        go_wp2_with fail
        go_region_held3 (fun w' : World => KW wr w')
          (repeat (first
            | (with_reducible assumption)
            | (with_reducible refine KW.drew ?_)
            | (with_reducible refine KW.alloc ?_ _)
            | (with_reducible refine KW.after ?_ hb)))
          (first
            | (go_at_call 32; (with_reducible refine (HM.out _ (by with_reducible assumption)).mono ?_); rintro e w2 ⟨rfl, hb⟩))
        have hkw : Below wr.heap.size wr w2 := by assumption
        have HO2 := Lib.hid (HO.out.after hkw)
        have HB2 := Lib.hid (HB.out.trans (hkw.mono hsz))
        have y2 := z2 _ hkw
        have hsz2 := HB2.out.size
        clear z1 z2 HM h00 hs hkw hb HO HB
        have HO9 : Hid (Own 2 1 w2 W1.heap.size A1 m c1 (intCs (((kindsL l).take (k + 1)).filter fun n => l.count n % 2 == 1))) := Lib.hid (by rw [HF.out]; exact HO2.out)
        go_wp2_with fail
        go_roundw
        case rel => exact ⟨k + 1, m, c1, A1, by omega, by go_num, rfl, by omega, HO9, HB2⟩
        case measure => simp [intOf]; omega
    · obtain rfl : k = NK := by omega
      have HP : Hid (IntPost w (roddL l) (.returned (.slice A1 m c1)) wr) := by
        have h := HO.out
        rw [List.take_of_length_le (by rw [← HNK.out.1]; exact Nat.le_refl _)] at h
        have hl := h.len
        rw [intCs_len] at hl
        have hz := HR.out.2.1.size
        exact Lib.hid ⟨A1, m, c1, rfl, by show m = (roddL l).length; unfold roddL; omega, h.cells, h.le_cap, fun a ha => Nat.le_trans hz (h.fresh a ha), HR.out.2.1.trans (HB.out.mono hz)⟩
      go_wp2_with fail
      exact bodyPost_ret (v := .slice A1 m c1) (by simp [results, Tryz.results34, go_sem]) rfl HP.out
end Go.Proofs.YtjhcddlhhfjnaaaGreatDoor
