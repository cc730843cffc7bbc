/- The document's More over plain lists. -/
import Derived.Test.YtjhcddlhhfjnaaaGreatDoorVB
namespace Go.Proofs.YtjhcddlhhfjnaaaGreatDoor
open Go.RowKit Go.Sort

def badN (n : Int) : Bool := decide (n < 1) || decide (2147483647 < n)
def fullN (l : List Int) (n : Int) : Bool := decide (255 ≤ l.count n) || (decide (l.count n = 0) && decide (64 ≤ (kindsL l).length))
def rmoreE (l : List Int) (n : Int) : Int := if badN n then 2 else if fullN l n then 3 else 0
def rmoreL (l : List Int) (n : Int) : List Int := if badN n then l else if fullN l n then l else insL n l
/-- Tags of the document as an answer, with an error. -/
def RTagPost (w : World) (err : Int) (l : List Int) (e : Ending) (w' : World) : Prop :=
  ∃ A N cap, e = .returned (.tuple #[.agg #[.slice A N cap], .int .i64 err]) ∧ N = l.length ∧ CellsS w' A (intCs l) ∧ N ≤ cap ∧ (err = 0 → ∀ a, A = some a → w.heap.size ≤ a.block) ∧ Below w.heap.size w w'
set_option maxRecDepth 100000 in
set_option maxHeartbeats 6400000 in
theorem rmore_any (l : List Int) (n : Int) (A : Option Addr) (N c : Nat) (w : World) (hN : N = l.length) (hb : N ≤ 100000) (hc : N ≤ c) (hA : CellsS w A (intCs l)) :
    Calls Tryz.prog 13 #[.agg #[.slice A N c], .int .i64 n] w (RTagPost w (rmoreE l n) (rmoreL l n)) := by
  have HA := Lib.hid hA
  have HN := Lib.hid (And.intro hN hc)
  have HM := Lib.hid (fun W (hW : Below w.heap.size w W) => rmany_any l n A N c W hN hb (hA.after hW))
  have HK := Lib.hid (fun W (hW : Below w.heap.size w W) => rkinds_any l A N c W hN hb (hA.after hW))
  clear hA hN hc
  cases hbad : badN n with
  | true =>
    have HE : Hid (rmoreE l n = 2 ∧ rmoreL l n = l) := Lib.hid ⟨by rw [rmoreE, if_pos hbad], by rw [rmoreL, if_pos hbad]⟩
    rw [HE.out.1, HE.out.2]
    clear HE HM HK
    have hd : n < 1 ∨ (¬ n < 1 ∧ 2147483647 < n) := by simp [badN] at hbad; omega
    clear hbad
    rcases hd with h1 | ⟨h0, h1⟩
    · go_enter Tryz.func13, Tryz.ntmps13
      go_wp2_with fail
      generalize hW : World.alloc _ _ = W0
      have hR4 : Row W0 (w.heap.size + 1) [.slice A N c] := by rw [← hW]; exact Row.at (by simp) [_] _
      have hB0 : Below w.heap.size w W0 := by rw [← hW]; exact ((Below.refl _ _).alloc (Nat.le_refl _) _).alloc (by simp) _
      clear hW
      have z0 := hR4.c 0 rfl
      exact bodyPost_ret (v := .tuple #[.agg #[.slice A N c], .int .i64 2]) (by simp [results, Tryz.results13, go_sem, z0]) rfl ⟨A, N, c, rfl, HN.out.1, HA.out.after hB0, HN.out.2, (fun h => absurd h (by decide)), hB0⟩
    · go_enter Tryz.func13, Tryz.ntmps13
      go_wp2_with fail
      generalize hW : World.alloc _ _ = W0
      have hR4 : Row W0 (w.heap.size + 1) [.slice A N c] := by rw [← hW]; exact Row.at (by simp) [_] _
      have hB0 : Below w.heap.size w W0 := by rw [← hW]; exact ((Below.refl _ _).alloc (Nat.le_refl _) _).alloc (by simp) _
      clear hW
      have z0 := hR4.c 0 rfl
      exact bodyPost_ret (v := .tuple #[.agg #[.slice A N c], .int .i64 2]) (by simp [results, Tryz.results13, go_sem, z0]) rfl ⟨A, N, c, rfl, HN.out.1, HA.out.after hB0, HN.out.2, (fun h => absurd h (by decide)), hB0⟩
  | false =>
    have hg : ¬ n < 1 ∧ ¬ 2147483647 < n := by simp [badN] at hbad; omega
    have HE : Hid (rmoreE l n = (if fullN l n then 3 else 0) ∧ rmoreL l n = if fullN l n then l else insL n l) := Lib.hid ⟨by rw [rmoreE, if_neg (by simp [hbad])], by rw [rmoreL, if_neg (by simp [hbad])]⟩
    obtain ⟨h0, h1⟩ := hg
    clear hbad
    generalize rmoreE l n = er at HE ⊢
    generalize rmoreL l n = rl at HE ⊢
    go_enter Tryz.func13, Tryz.ntmps13
    go_wp2_with fail
    generalize hW : World.alloc _ _ = W0
    have hR2 : Row W0 w.heap.size [.slice A N c] := by rw [← hW]; exact (Row.at rfl [_] _).alloc _
    have hR4 : Row W0 (w.heap.size + 1) [.slice none 0 0] := by rw [← hW]; exact Row.at (by simp) [_] _
    have hB0 : Below w.heap.size w W0 := by rw [← hW]; exact ((Below.refl _ _).alloc (Nat.le_refl _) _).alloc (by simp) _
    clear hW
    refine (HM.out _ hB0).mono ?_
    rintro e WW ⟨rfl, hb1⟩
    replace hR2 := hR2.after hb1
    replace hR4 := hR4.after hb1
    have hB1 := hB0.trans (hb1.mono hB0.size)
    clear hb1 hB0 HM
    have y2 := hR2.c 0 rfl
    have y4 := hR4.c 0 rfl
    have f4 := hR4.f 0 rfl
    have HF : Hid (fullN l n = (decide (255 ≤ l.count n) || (decide (l.count n = 0) && decide (64 ≤ (kindsL l).length)))) := Lib.hid rfl
    generalize l.count n = m at HF ⊢
    by_cases h255 : (255 : Int) ≤ m
    · have HF2 : Hid (fullN l n = true) := Lib.hid (by rw [HF.out]; simp; omega)
      have HE2 : Hid (er = 3 ∧ rl = l) := by have h := HE.out; rw [HF2.out] at h; exact Lib.hid h
      clear HF HK
      · skip
        have r4 : Row (WW.setCell ⟨w.heap.size + 1, 0, none⟩ (.slice A N c)) (w.heap.size + 1) [.slice A N c] := hR4.set 0 (by simp) _
        have z0 := r4.c 0 rfl
        have hBB : Below w.heap.size w (WW.setCell ⟨w.heap.size + 1, 0, none⟩ (.slice A N c)) := below_put1 hB1 (by omega) 0 _
        have HP : Hid (RTagPost w er rl (.returned (.tuple #[.agg #[.slice A N c], .int .i64 3])) (WW.setCell ⟨w.heap.size + 1, 0, none⟩ (.slice A N c))) := Lib.hid (by rw [HE2.out.1, HE2.out.2]; exact ⟨A, N, c, rfl, HN.out.1, HA.out.after hBB, HN.out.2, (fun h => absurd h (by decide)), hBB⟩)
        clear r4 hBB hB1 hR2 hR4
        go_wp2_with fail
        exact bodyPost_ret (v := .tuple #[.agg #[.slice A N c], .int .i64 3]) (by simp [results, Tryz.results13, go_sem, z0]) rfl HP.out
    · by_cases hm0 : m = 0
      · subst hm0
        clear h255
        go_wp2_with fail
        refine (HK.out _ hB1).mono ?_
        rintro e W3 ⟨A2, N2, c2, rfl, hN2, _, _, _, hb2⟩
        replace hR2 := hR2.after hb2
        replace hR4 := hR4.after hb2
        replace hB1 := hB1.trans (hb2.mono hB1.size)
        clear hb2 HK y2 y4 f4
        have y2 := hR2.c 0 rfl
        have y4 := hR4.c 0 rfl
        have f4 := hR4.f 0 rfl
        by_cases h64 : (64 : Int) ≤ N2
        · have HF2 : Hid (fullN l n = true) := Lib.hid (by rw [HF.out]; simp; omega)
          have HE2 : Hid (er = 3 ∧ rl = l) := by have h := HE.out; rw [HF2.out] at h; exact Lib.hid h
          clear HF
          have r4 : Row (W3.setCell ⟨w.heap.size + 1, 0, none⟩ (.slice A N c)) (w.heap.size + 1) [.slice A N c] := hR4.set 0 (by simp) _
          have z0 := r4.c 0 rfl
          have hBB : Below w.heap.size w (W3.setCell ⟨w.heap.size + 1, 0, none⟩ (.slice A N c)) := below_put1 hB1 (by omega) 0 _
          have HP : Hid (RTagPost w er rl (.returned (.tuple #[.agg #[.slice A N c], .int .i64 3])) (W3.setCell ⟨w.heap.size + 1, 0, none⟩ (.slice A N c))) := Lib.hid (by rw [HE2.out.1, HE2.out.2]; exact ⟨A, N, c, rfl, HN.out.1, HA.out.after hBB, HN.out.2, (fun h => absurd h (by decide)), hBB⟩)
          clear r4 hBB hB1 hR2 hR4
          go_wp2_with fail
          exact bodyPost_ret (v := .tuple #[.agg #[.slice A N c], .int .i64 3]) (by simp [results, Tryz.results13, go_sem, z0]) rfl HP.out
        · have HF2 : Hid (fullN l n = false) := Lib.hid (by rw [HF.out]; simp; omega)
          have HE2 : Hid (er = 0 ∧ rl = insL n l) := by have h := HE.out; rw [HF2.out] at h; exact Lib.hid h
          clear HF
          have hz : w.heap.size + 2 ≤ W3.heap.size := hR4.1
          have HR := Lib.hid (And.intro hR2 (And.intro hR4 (And.intro hB1 hz)))
          clear hR2 hR4 hB1 hz y2 y4 f4
          go_wp2_with fail
          go_loopw [7, 8, 9] (fun s p i wr => ∃ (k m1 c1 : Nat) (A1 : Option Addr) (pt : Bool) (xs : List Int), k ≤ N ∧ i = .int .i64 k ∧ p = .bool pt ∧ s = .slice A1 m1 c1 ∧ m1 = k + (if pt then 1 else 0) ∧ Hid (Own 2 1 wr (w.heap.size + 2) A1 m1 c1 (intCs xs)) ∧ Hid (insL n l = xs ++ (if pt then l.drop k else insL n (l.drop k))) ∧ Hid (Below (w.heap.size + 2) W3 wr)) (fun _ _ i _ => N - (intOf i).toNat)
          case atStart => exact ⟨0, 0, 0, none, false, [], Nat.zero_le _, rfl, rfl, rfl, rfl, Lib.hid (Own.nil _ _ _ _), Lib.hid rfl, Lib.hid (Below.refl _ _)⟩
          case round =>
            obtain ⟨k, m1, c1, A1, pt, xs, hk, rfl, rfl, rfl, hm1, HO, HI, HB⟩ := hrel
            have hzr : w.heap.size + 2 ≤ wr.heap.size := Nat.le_trans HR.out.2.2.2 HB.out.size
            have x0 := (HR.out.1.below HB.out (by omega)).c 0 rfl
            by_cases hkn : k < N
            · obtain ⟨p, hpk⟩ : ∃ p, l[k]? = some p := ⟨_, List.getElem?_eq_getElem (by rw [← HN.out.1]; exact hkn)⟩
              obtain ⟨b, o, rfl, hl⟩ := HA.out (by rw [intCs_len, ← HN.out.1]; omega)
              have hbl := hl.1
              have HC := Lib.hid (hl.after HR.out.2.2.1)
              have c0 : wr.cell? ⟨b, o + k, none⟩ = some (.int .i64 p) := (HC.out.below HB.out (by omega)).2 _ _ (intCs_get hpk)
              have HPk := Lib.hid hpk
              have HD : Hid (l.drop k = p :: l.drop (k + 1)) := Lib.hid (by
                obtain ⟨h1, h2⟩ := List.getElem?_eq_some_iff.1 hpk
                rw [List.drop_eq_getElem_cons h1, h2])
              have hk1 : (k : Int) < N := by omega
              clear hl hpk
              cases pt with
              | true =>
                simp only [if_true] at hm1
                subst hm1
                go_wp2_with (at_builtin; refine wpList_app rfl (.tmp 55) (.tmp 61) elemI64 rfl (w.heap.size + 2) A1 (k + 1) c1 (intCs xs) (some ⟨_, 0, none⟩) 1 1 [.int .i64 p] rfl rfl (HO.out.alloc _) (cells_row (Row.at rfl [.int .i64 p] _)) rfl (intCs_one [p]) (by omega) (by simp; omega) ?_)
                intro A9 c9 W9 hO9 hg9 hb9
                have HO9 : Hid (Own 2 1 W9 (w.heap.size + 2) A9 ((k + 1) + 1) c9 (intCs (xs ++ [p]))) := Lib.hid (by rw [intCs_append]; exact hO9)
                have HB9 : Hid (Below (w.heap.size + 2) W3 W9) := Lib.hid ((HB.out.trans ((Below.refl _ _).alloc (by omega) _)).trans hb9)
                have HI9 : Hid (insL n l = (xs ++ [p]) ++ (if true then l.drop (k + 1) else insL n (l.drop (k + 1)))) := Lib.hid (by rw [HI.out, HD.out]; simp)
                clear hO9 hg9 hb9
                go_wp2_with fail
                go_roundw
                case rel => exact ⟨k + 1, (k + 1) + 1, c9, A9, true, xs ++ [p], by omega, by go_num, rfl, rfl, by simp <;> omega, HO9, HI9, HB9⟩
                case measure => simp [intOf]; omega
              | false =>
                simp only [Bool.false_eq_true, if_false, Nat.add_zero] at hm1
                subst hm1
                by_cases hpn : n < p
                · go_wp2_with (at_builtin; refine wpList_app rfl (.tmp 51) (.tmp 53) elemI64 rfl (w.heap.size + 2) A1 m1 c1 (intCs xs) (some ⟨_, 0, none⟩) 1 1 [.int .i64 n] rfl rfl (HO.out.alloc _) (cells_row (Row.at rfl [.int .i64 n] _)) rfl (intCs_one [n]) (by omega) (by simp; omega) ?_)
                  intro A8 c8 W8 hO8 hg8 hb8
                  have HO8 : Hid (Own 2 1 W8 (w.heap.size + 2) A8 (m1 + 1) c8 (intCs (xs ++ [n]))) := Lib.hid (by rw [intCs_append]; exact hO8)
                  have HB8 : Hid (Below (w.heap.size + 2) W3 W8) := Lib.hid ((HB.out.trans ((Below.refl _ _).alloc (by omega) _)).trans hb8)
                  have hz8 : w.heap.size + 2 ≤ W8.heap.size := Nat.le_trans HR.out.2.2.2 HB8.out.size
                  have w0 := (HR.out.1.below HB8.out (by omega)).c 0 rfl
                  have d0 : W8.cell? ⟨b, o + m1, none⟩ = some (.int .i64 p) := (HC.out.below HB8.out (by omega)).2 _ _ (intCs_get HPk.out)
                  clear hO8 hg8 hb8 x0 c0
                  go_wp2_with (at_builtin; refine wpList_app rfl (.tmp 55) (.tmp 61) elemI64 rfl (w.heap.size + 2) A8 (m1 + 1) c8 (intCs (xs ++ [n])) (some ⟨_, 0, none⟩) 1 1 [.int .i64 p] rfl rfl (HO8.out.alloc _) (cells_row (Row.at rfl [.int .i64 p] _)) rfl (intCs_one [p]) (by omega) (by simp; omega) ?_)
                  intro A9 c9 W9 hO9 hg9 hb9
                  have HO9 : Hid (Own 2 1 W9 (w.heap.size + 2) A9 ((m1 + 1) + 1) c9 (intCs ((xs ++ [n]) ++ [p]))) := Lib.hid (by rw [intCs_append]; exact hO9)
                  have HB9 : Hid (Below (w.heap.size + 2) W3 W9) := Lib.hid ((HB8.out.trans ((Below.refl _ _).alloc (by omega) _)).trans hb9)
                  have HI9 : Hid (insL n l = ((xs ++ [n]) ++ [p]) ++ (if true then l.drop (m1 + 1) else insL n (l.drop (m1 + 1)))) := Lib.hid (by rw [HI.out, HD.out]; simp [insL, hpn])
                  clear hO9 hg9 hb9
                  go_wp2_with fail
                  go_roundw
                  case rel => exact ⟨m1 + 1, (m1 + 1) + 1, c9, A9, true, (xs ++ [n]) ++ [p], by omega, by go_num, rfl, rfl, by simp <;> omega, HO9, HI9, HB9⟩
                  case measure => simp [intOf]; omega
                · go_wp2_with (at_builtin; refine wpList_app rfl (.tmp 55) (.tmp 61) elemI64 rfl (w.heap.size + 2) A1 m1 c1 (intCs xs) (some ⟨_, 0, none⟩) 1 1 [.int .i64 p] rfl rfl (HO.out.alloc _) (cells_row (Row.at rfl [.int .i64 p] _)) rfl (intCs_one [p]) (by omega) (by simp; omega) ?_)
                  intro A9 c9 W9 hO9 hg9 hb9
                  have HO9 : Hid (Own 2 1 W9 (w.heap.size + 2) A9 (m1 + 1) c9 (intCs (xs ++ [p]))) := Lib.hid (by rw [intCs_append]; exact hO9)
                  have HB9 : Hid (Below (w.heap.size + 2) W3 W9) := Lib.hid ((HB.out.trans ((Below.refl _ _).alloc (by omega) _)).trans hb9)
                  have HI9 : Hid (insL n l = (xs ++ [p]) ++ (if false then l.drop (m1 + 1) else insL n (l.drop (m1 + 1)))) := Lib.hid (by rw [HI.out, HD.out, if_neg Bool.false_ne_true, if_neg Bool.false_ne_true, insL, if_neg (by omega : ¬ n < p)]; simp)
                  clear hO9 hg9 hb9
                  go_wp2_with fail
                  go_roundw
                  case rel => exact ⟨m1 + 1, m1 + 1, c9, A9, false, xs ++ [p], by omega, by go_num, rfl, rfl, by simp <;> omega, HO9, HI9, HB9⟩
                  case measure => simp [intOf]; omega
            · obtain rfl : k = N := by omega
              have hend : l.drop k = [] := List.drop_of_length_le (by rw [← HN.out.1]; exact Nat.le_refl _)
              cases pt with
              | true =>
                have HXz : Hid (insL n l = xs) := Lib.hid (by rw [HI.out, hend]; simp)
                have HOz := HO
                have HBz := HB
                clear hend HI HO HB
                simp only [if_true] at hm1
                subst hm1
                have r4 := HR.out.2.1.below HBz.out (by omega)
                have q4 := r4.c 0 rfl
                have g4 := r4.f 0 rfl
                have z0 := (r4.set 0 (by simp) (.slice A1 (k + 1) c1)).c 0 rfl
                have HP : Hid (RTagPost w er rl (.returned (.tuple #[.agg #[.slice A1 (k + 1) c1], .int .i64 0])) (wr.setCell ⟨w.heap.size + 1, 0, none⟩ (.slice A1 (k + 1) c1))) := by
                  have hl := HOz.out.len
                  rw [intCs_len] at hl
                  have hfr := HOz.out.fresh
                  have hbz : Below w.heap.size w wr := HR.out.2.2.1.trans (HBz.out.mono (by omega))
                  rw [HE2.out.1, HE2.out.2, HXz.out]
                  exact Lib.hid ⟨A1, k + 1, c1, rfl, by omega, HOz.out.cells.put (fun _ a ha => by have := hfr a ha; show a.block ≠ w.heap.size + 1; omega), HOz.out.le_cap, (fun _ a ha => by have := hfr a ha; omega), below_put1 hbz (Nat.le_succ _) 0 _⟩
                clear r4 HR HBz HOz HXz HE2
                go_wp2_with fail
                exact bodyPost_ret (v := .tuple #[.agg #[.slice A1 (k + 1) c1], .int .i64 0]) (by simp [results, Tryz.results13, go_sem, z0]) rfl HP.out
              | false =>
                have HXz : Hid (insL n l = xs ++ [n]) := Lib.hid (by rw [HI.out, hend]; simp [insL])
                clear hend HI
                simp only [Bool.false_eq_true, if_false, Nat.add_zero] at hm1
                subst hm1
                go_wp2_with (at_builtin; refine wpList_app rfl (.tmp 65) (.tmp 67) elemI64 rfl (w.heap.size + 2) A1 m1 c1 (intCs xs) (some ⟨_, 0, none⟩) 1 1 [.int .i64 n] rfl rfl (HO.out.alloc _) (cells_row (Row.at rfl [.int .i64 n] _)) rfl (intCs_one [n]) (by omega) (by simp; omega) ?_)
                intro A9 c9 W9 hO9 hg9 hb9
                have HOz : Hid (Own 2 1 W9 (w.heap.size + 2) A9 (m1 + 1) c9 (intCs (xs ++ [n]))) := Lib.hid (by rw [intCs_append]; exact hO9)
                have HBz : Hid (Below (w.heap.size + 2) W3 W9) := Lib.hid ((HB.out.trans ((Below.refl _ _).alloc (by omega) _)).trans hb9)
                clear hO9 hg9 hb9 HO HB x0
                have r4 := HR.out.2.1.below HBz.out (by omega)
                have q4 := r4.c 0 rfl
                have g4 := r4.f 0 rfl
                have z0 := (r4.set 0 (by simp) (.slice A9 (m1 + 1) c9)).c 0 rfl
                have HP : Hid (RTagPost w er rl (.returned (.tuple #[.agg #[.slice A9 (m1 + 1) c9], .int .i64 0])) (W9.setCell ⟨w.heap.size + 1, 0, none⟩ (.slice A9 (m1 + 1) c9))) := by
                  have hl := HOz.out.len
                  rw [intCs_len] at hl
                  have hfr := HOz.out.fresh
                  have hbz : Below w.heap.size w W9 := HR.out.2.2.1.trans (HBz.out.mono (by omega))
                  rw [HE2.out.1, HE2.out.2, HXz.out]
                  exact Lib.hid ⟨A9, (m1 + 1), c9, rfl, by omega, HOz.out.cells.put (fun _ a ha => by have := hfr a ha; show a.block ≠ w.heap.size + 1; omega), HOz.out.le_cap, (fun _ a ha => by have := hfr a ha; omega), below_put1 hbz (Nat.le_succ _) 0 _⟩
                clear r4 HR HBz HOz HXz HE2
                go_wp2_with fail
                exact bodyPost_ret (v := .tuple #[.agg #[.slice A9 (m1 + 1) c9], .int .i64 0]) (by simp [results, Tryz.results13, go_sem, z0]) rfl HP.out
      · have HF2 : Hid (fullN l n = false) := Lib.hid (by rw [HF.out]; simp; omega)
        have HE2 : Hid (er = 0 ∧ rl = insL n l) := by have h := HE.out; rw [HF2.out] at h; exact Lib.hid h
        have hm0' : ((m : Int) == 0) = false := by simp; omega
        clear HF HK hm0
        have hz : w.heap.size + 2 ≤ WW.heap.size := hR4.1
        have HR := Lib.hid (And.intro hR2 (And.intro hR4 (And.intro hB1 hz)))
        clear hR2 hR4 hB1 hz y2 y4 f4
        go_wp2_with fail
        go_loopw [7, 8, 9] (fun s p i wr => ∃ (k m1 c1 : Nat) (A1 : Option Addr) (pt : Bool) (xs : List Int), k ≤ N ∧ i = .int .i64 k ∧ p = .bool pt ∧ s = .slice A1 m1 c1 ∧ m1 = k + (if pt then 1 else 0) ∧ Hid (Own 2 1 wr (w.heap.size + 2) A1 m1 c1 (intCs xs)) ∧ Hid (insL n l = xs ++ (if pt then l.drop k else insL n (l.drop k))) ∧ Hid (Below (w.heap.size + 2) WW wr)) (fun _ _ i _ => N - (intOf i).toNat)
        case atStart => exact ⟨0, 0, 0, none, false, [], Nat.zero_le _, rfl, rfl, rfl, rfl, Lib.hid (Own.nil _ _ _ _), Lib.hid rfl, Lib.hid (Below.refl _ _)⟩
        case round =>
          obtain ⟨k, m1, c1, A1, pt, xs, hk, rfl, rfl, rfl, hm1, HO, HI, HB⟩ := hrel
          have hzr : w.heap.size + 2 ≤ wr.heap.size := Nat.le_trans HR.out.2.2.2 HB.out.size
          have x0 := (HR.out.1.below HB.out (by omega)).c 0 rfl
          by_cases hkn : k < N
          · obtain ⟨p, hpk⟩ : ∃ p, l[k]? = some p := ⟨_, List.getElem?_eq_getElem (by rw [← HN.out.1]; exact hkn)⟩
            obtain ⟨b, o, rfl, hl⟩ := HA.out (by rw [intCs_len, ← HN.out.1]; omega)
            have hbl := hl.1
            have HC := Lib.hid (hl.after HR.out.2.2.1)
            have c0 : wr.cell? ⟨b, o + k, none⟩ = some (.int .i64 p) := (HC.out.below HB.out (by omega)).2 _ _ (intCs_get hpk)
            have HPk := Lib.hid hpk
            have HD : Hid (l.drop k = p :: l.drop (k + 1)) := Lib.hid (by
              obtain ⟨h1, h2⟩ := List.getElem?_eq_some_iff.1 hpk
              rw [List.drop_eq_getElem_cons h1, h2])
            have hk1 : (k : Int) < N := by omega
            clear hl hpk
            cases pt with
            | true =>
              simp only [if_true] at hm1
              subst hm1
              go_wp2_with (at_builtin; refine wpList_app rfl (.tmp 55) (.tmp 61) elemI64 rfl (w.heap.size + 2) A1 (k + 1) c1 (intCs xs) (some ⟨_, 0, none⟩) 1 1 [.int .i64 p] rfl rfl (HO.out.alloc _) (cells_row (Row.at rfl [.int .i64 p] _)) rfl (intCs_one [p]) (by omega) (by simp; omega) ?_)
              intro A9 c9 W9 hO9 hg9 hb9
              have HO9 : Hid (Own 2 1 W9 (w.heap.size + 2) A9 ((k + 1) + 1) c9 (intCs (xs ++ [p]))) := Lib.hid (by rw [intCs_append]; exact hO9)
              have HB9 : Hid (Below (w.heap.size + 2) WW W9) := Lib.hid ((HB.out.trans ((Below.refl _ _).alloc (by omega) _)).trans hb9)
              have HI9 : Hid (insL n l = (xs ++ [p]) ++ (if true then l.drop (k + 1) else insL n (l.drop (k + 1)))) := Lib.hid (by rw [HI.out, HD.out]; simp)
              clear hO9 hg9 hb9
              go_wp2_with fail
              go_roundw
              case rel => exact ⟨k + 1, (k + 1) + 1, c9, A9, true, xs ++ [p], by omega, by go_num, rfl, rfl, by simp <;> omega, HO9, HI9, HB9⟩
              case measure => simp [intOf]; omega
            | false =>
              simp only [Bool.false_eq_true, if_false, Nat.add_zero] at hm1
              subst hm1
              by_cases hpn : n < p
              · go_wp2_with (at_builtin; refine wpList_app rfl (.tmp 51) (.tmp 53) elemI64 rfl (w.heap.size + 2) A1 m1 c1 (intCs xs) (some ⟨_, 0, none⟩) 1 1 [.int .i64 n] rfl rfl (HO.out.alloc _) (cells_row (Row.at rfl [.int .i64 n] _)) rfl (intCs_one [n]) (by omega) (by simp; omega) ?_)
                intro A8 c8 W8 hO8 hg8 hb8
                have HO8 : Hid (Own 2 1 W8 (w.heap.size + 2) A8 (m1 + 1) c8 (intCs (xs ++ [n]))) := Lib.hid (by rw [intCs_append]; exact hO8)
                have HB8 : Hid (Below (w.heap.size + 2) WW W8) := Lib.hid ((HB.out.trans ((Below.refl _ _).alloc (by omega) _)).trans hb8)
                have hz8 : w.heap.size + 2 ≤ W8.heap.size := Nat.le_trans HR.out.2.2.2 HB8.out.size
                have w0 := (HR.out.1.below HB8.out (by omega)).c 0 rfl
                have d0 : W8.cell? ⟨b, o + m1, none⟩ = some (.int .i64 p) := (HC.out.below HB8.out (by omega)).2 _ _ (intCs_get HPk.out)
                clear hO8 hg8 hb8 x0 c0
                go_wp2_with (at_builtin; refine wpList_app rfl (.tmp 55) (.tmp 61) elemI64 rfl (w.heap.size + 2) A8 (m1 + 1) c8 (intCs (xs ++ [n])) (some ⟨_, 0, none⟩) 1 1 [.int .i64 p] rfl rfl (HO8.out.alloc _) (cells_row (Row.at rfl [.int .i64 p] _)) rfl (intCs_one [p]) (by omega) (by simp; omega) ?_)
                intro A9 c9 W9 hO9 hg9 hb9
                have HO9 : Hid (Own 2 1 W9 (w.heap.size + 2) A9 ((m1 + 1) + 1) c9 (intCs ((xs ++ [n]) ++ [p]))) := Lib.hid (by rw [intCs_append]; exact hO9)
                have HB9 : Hid (Below (w.heap.size + 2) WW W9) := Lib.hid ((HB8.out.trans ((Below.refl _ _).alloc (by omega) _)).trans hb9)
                have HI9 : Hid (insL n l = ((xs ++ [n]) ++ [p]) ++ (if true then l.drop (m1 + 1) else insL n (l.drop (m1 + 1)))) := Lib.hid (by rw [HI.out, HD.out]; simp [insL, hpn])
                clear hO9 hg9 hb9
                go_wp2_with fail
                go_roundw
                case rel => exact ⟨m1 + 1, (m1 + 1) + 1, c9, A9, true, (xs ++ [n]) ++ [p], by omega, by go_num, rfl, rfl, by simp <;> omega, HO9, HI9, HB9⟩
                case measure => simp [intOf]; omega
              · go_wp2_with (at_builtin; refine wpList_app rfl (.tmp 55) (.tmp 61) elemI64 rfl (w.heap.size + 2) A1 m1 c1 (intCs xs) (some ⟨_, 0, none⟩) 1 1 [.int .i64 p] rfl rfl (HO.out.alloc _) (cells_row (Row.at rfl [.int .i64 p] _)) rfl (intCs_one [p]) (by omega) (by simp; omega) ?_)
                intro A9 c9 W9 hO9 hg9 hb9
                have HO9 : Hid (Own 2 1 W9 (w.heap.size + 2) A9 (m1 + 1) c9 (intCs (xs ++ [p]))) := Lib.hid (by rw [intCs_append]; exact hO9)
                have HB9 : Hid (Below (w.heap.size + 2) WW W9) := Lib.hid ((HB.out.trans ((Below.refl _ _).alloc (by omega) _)).trans hb9)
                have HI9 : Hid (insL n l = (xs ++ [p]) ++ (if false then l.drop (m1 + 1) else insL n (l.drop (m1 + 1)))) := Lib.hid (by rw [HI.out, HD.out, if_neg Bool.false_ne_true, if_neg Bool.false_ne_true, insL, if_neg (by omega : ¬ n < p)]; simp)
                clear hO9 hg9 hb9
                go_wp2_with fail
                go_roundw
                case rel => exact ⟨m1 + 1, m1 + 1, c9, A9, false, xs ++ [p], by omega, by go_num, rfl, rfl, by simp <;> omega, HO9, HI9, HB9⟩
                case measure => simp [intOf]; omega
          · obtain rfl : k = N := by omega
            have hend : l.drop k = [] := List.drop_of_length_le (by rw [← HN.out.1]; exact Nat.le_refl _)
            cases pt with
            | true =>
              have HXz : Hid (insL n l = xs) := Lib.hid (by rw [HI.out, hend]; simp)
              have HOz := HO
              have HBz := HB
              clear hend HI HO HB
              simp only [if_true] at hm1
              subst hm1
              have r4 := HR.out.2.1.below HBz.out (by omega)
              have q4 := r4.c 0 rfl
              have g4 := r4.f 0 rfl
              have z0 := (r4.set 0 (by simp) (.slice A1 (k + 1) c1)).c 0 rfl
              have HP : Hid (RTagPost w er rl (.returned (.tuple #[.agg #[.slice A1 (k + 1) c1], .int .i64 0])) (wr.setCell ⟨w.heap.size + 1, 0, none⟩ (.slice A1 (k + 1) c1))) := by
                have hl := HOz.out.len
                rw [intCs_len] at hl
                have hfr := HOz.out.fresh
                have hbz : Below w.heap.size w wr := HR.out.2.2.1.trans (HBz.out.mono (by omega))
                rw [HE2.out.1, HE2.out.2, HXz.out]
                exact Lib.hid ⟨A1, k + 1, c1, rfl, by omega, HOz.out.cells.put (fun _ a ha => by have := hfr a ha; show a.block ≠ w.heap.size + 1; omega), HOz.out.le_cap, (fun _ a ha => by have := hfr a ha; omega), below_put1 hbz (Nat.le_succ _) 0 _⟩
              clear r4 HR HBz HOz HXz HE2
              go_wp2_with fail
              exact bodyPost_ret (v := .tuple #[.agg #[.slice A1 (k + 1) c1], .int .i64 0]) (by simp [results, Tryz.results13, go_sem, z0]) rfl HP.out
            | false =>
              have HXz : Hid (insL n l = xs ++ [n]) := Lib.hid (by rw [HI.out, hend]; simp [insL])
              clear hend HI
              simp only [Bool.false_eq_true, if_false, Nat.add_zero] at hm1
              subst hm1
              go_wp2_with (at_builtin; refine wpList_app rfl (.tmp 65) (.tmp 67) elemI64 rfl (w.heap.size + 2) A1 m1 c1 (intCs xs) (some ⟨_, 0, none⟩) 1 1 [.int .i64 n] rfl rfl (HO.out.alloc _) (cells_row (Row.at rfl [.int .i64 n] _)) rfl (intCs_one [n]) (by omega) (by simp; omega) ?_)
              intro A9 c9 W9 hO9 hg9 hb9
              have HOz : Hid (Own 2 1 W9 (w.heap.size + 2) A9 (m1 + 1) c9 (intCs (xs ++ [n]))) := Lib.hid (by rw [intCs_append]; exact hO9)
              have HBz : Hid (Below (w.heap.size + 2) WW W9) := Lib.hid ((HB.out.trans ((Below.refl _ _).alloc (by omega) _)).trans hb9)
              clear hO9 hg9 hb9 HO HB x0
              have r4 := HR.out.2.1.below HBz.out (by omega)
              have q4 := r4.c 0 rfl
              have g4 := r4.f 0 rfl
              have z0 := (r4.set 0 (by simp) (.slice A9 (m1 + 1) c9)).c 0 rfl
              have HP : Hid (RTagPost w er rl (.returned (.tuple #[.agg #[.slice A9 (m1 + 1) c9], .int .i64 0])) (W9.setCell ⟨w.heap.size + 1, 0, none⟩ (.slice A9 (m1 + 1) c9))) := by
                have hl := HOz.out.len
                rw [intCs_len] at hl
                have hfr := HOz.out.fresh
                have hbz : Below w.heap.size w W9 := HR.out.2.2.1.trans (HBz.out.mono (by omega))
                rw [HE2.out.1, HE2.out.2, HXz.out]
                exact Lib.hid ⟨A9, (m1 + 1), c9, rfl, by omega, HOz.out.cells.put (fun _ a ha => by have := hfr a ha; show a.block ≠ w.heap.size + 1; omega), HOz.out.le_cap, (fun _ a ha => by have := hfr a ha; omega), below_put1 hbz (Nat.le_succ _) 0 _⟩
              clear r4 HR HBz HOz HXz HE2
              go_wp2_with fail
              exact bodyPost_ret (v := .tuple #[.agg #[.slice A9 (m1 + 1) c9], .int .i64 0]) (by simp [results, Tryz.results13, go_sem, z0]) rfl HP.out
end Go.Proofs.YtjhcddlhhfjnaaaGreatDoor
