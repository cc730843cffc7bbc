/- The document's Less over plain lists. -/
import Derived.Test.YtjhcddlhhfjnaaaGreatDoorVC
namespace Go.Proofs.YtjhcddlhhfjnaaaGreatDoor
open Go.RowKit Go.Sort

def rlessE (l : List Int) (n : Int) : Int := if badN n then 2 else if l.count n = 0 then 5 else 0
def rlessL (l : List Int) (n : Int) : List Int := if badN n then l else if l.count n = 0 then l else remL n l
set_option maxRecDepth 100000 in
set_option maxHeartbeats 6400000 in
theorem rless_any (l : List Int) (n : Int) (A : Option Addr) (N c : Nat) (w : World) (hN : N = l.length) (hb : N ≤ 100000) (hc : N ≤ c) (hA : CellsS w A (intCs l)) :
    Calls Tryz.prog 15 #[.agg #[.slice A N c], .int .i64 n] w (RTagPost w (rlessE l n) (rlessL l n)) := by
  have HA := Lib.hid hA
  have HN := Lib.hid (And.intro hN hc)
  have HM := Lib.hid (fun W (hW : Below w.heap.size w W) => rmany_any l n A N c W hN hb (hA.after hW))
  clear hA hN hc
  cases hbad : badN n with
  | true =>
    have HE : Hid (rlessE l n = 2 ∧ rlessL l n = l) := Lib.hid ⟨by rw [rlessE, if_pos hbad], by rw [rlessL, if_pos hbad]⟩
    rw [HE.out.1, HE.out.2]
    clear HE HM
    have hd : n < 1 ∨ (¬ n < 1 ∧ 2147483647 < n) := by simp [badN] at hbad; omega
    clear hbad
    rcases hd with h1 | ⟨h0, h1⟩
    · go_enter Tryz.func15, Tryz.ntmps15
      go_wp2_with fail
      generalize hW : World.alloc _ _ = W0
      have hR4 : Row W0 (w.heap.size + 1) [.slice A N c] := by rw [← hW]; exact Row.at (by simp) [_] _
      have hB0 : Below w.heap.size w W0 := by rw [← hW]; exact ((Below.refl _ _).alloc (Nat.le_refl _) _).alloc (by simp) _
      clear hW
      have z0 := hR4.c 0 rfl
      exact bodyPost_ret (v := .tuple #[.agg #[.slice A N c], .int .i64 2]) (by simp [results, Tryz.results15, go_sem, z0]) rfl ⟨A, N, c, rfl, HN.out.1, HA.out.after hB0, HN.out.2, (fun h => absurd h (by decide)), hB0⟩
    · go_enter Tryz.func15, Tryz.ntmps15
      go_wp2_with fail
      generalize hW : World.alloc _ _ = W0
      have hR4 : Row W0 (w.heap.size + 1) [.slice A N c] := by rw [← hW]; exact Row.at (by simp) [_] _
      have hB0 : Below w.heap.size w W0 := by rw [← hW]; exact ((Below.refl _ _).alloc (Nat.le_refl _) _).alloc (by simp) _
      clear hW
      have z0 := hR4.c 0 rfl
      exact bodyPost_ret (v := .tuple #[.agg #[.slice A N c], .int .i64 2]) (by simp [results, Tryz.results15, go_sem, z0]) rfl ⟨A, N, c, rfl, HN.out.1, HA.out.after hB0, HN.out.2, (fun h => absurd h (by decide)), hB0⟩
  | false =>
    have hg : ¬ n < 1 ∧ ¬ 2147483647 < n := by simp [badN] at hbad; omega
    have HE : Hid (rlessE l n = (if l.count n = 0 then 5 else 0) ∧ rlessL l n = if l.count n = 0 then l else remL n l) := Lib.hid ⟨by rw [rlessE, if_neg (by simp [hbad])], by rw [rlessL, if_neg (by simp [hbad])]⟩
    obtain ⟨h0, h1⟩ := hg
    clear hbad
    generalize rlessE l n = er at HE ⊢
    generalize rlessL l n = rl at HE ⊢
    go_enter Tryz.func15, Tryz.ntmps15
    go_wp2_with fail
    generalize hW : World.alloc _ _ = W0
    have hR2 : Row W0 w.heap.size [.slice A N c] := by rw [← hW]; exact (Row.at rfl [_] _).alloc _
    have hR4 : Row W0 (w.heap.size + 1) [.slice none 0 0] := by rw [← hW]; exact Row.at (by simp) [_] _
    have hB0 : Below w.heap.size w W0 := by rw [← hW]; exact ((Below.refl _ _).alloc (Nat.le_refl _) _).alloc (by simp) _
    clear hW
    refine (HM.out _ hB0).mono ?_
    rintro e WW ⟨rfl, hb1⟩
    replace hR2 := hR2.after hb1
    replace hR4 := hR4.after hb1
    have hB1 := hB0.trans (hb1.mono hB0.size)
    clear hb1 hB0 HM
    have y2 := hR2.c 0 rfl
    have y4 := hR4.c 0 rfl
    have f4 := hR4.f 0 rfl
    generalize l.count n = m at HE ⊢
    by_cases hm0 : m = 0
    · have HE2 : Hid (er = 5 ∧ rl = l) := by have h := HE.out; rw [if_pos hm0, if_pos hm0] at h; exact Lib.hid h
      subst hm0
      have r4 : Row (WW.setCell ⟨w.heap.size + 1, 0, none⟩ (.slice A N c)) (w.heap.size + 1) [.slice A N c] := hR4.set 0 (by simp) _
      have z0 := r4.c 0 rfl
      have hBB : Below w.heap.size w (WW.setCell ⟨w.heap.size + 1, 0, none⟩ (.slice A N c)) := below_put1 hB1 (by omega) 0 _
      have HP : Hid (RTagPost w er rl (.returned (.tuple #[.agg #[.slice A N c], .int .i64 5])) (WW.setCell ⟨w.heap.size + 1, 0, none⟩ (.slice A N c))) := Lib.hid (by rw [HE2.out.1, HE2.out.2]; exact ⟨A, N, c, rfl, HN.out.1, HA.out.after hBB, HN.out.2, (fun h => absurd h (by decide)), hBB⟩)
      clear r4 hBB hB1 hR2 hR4 HE
      go_wp2_with fail
      exact bodyPost_ret (v := .tuple #[.agg #[.slice A N c], .int .i64 5]) (by simp [results, Tryz.results15, go_sem, z0]) rfl HP.out
    · have HE2 : Hid (er = 0 ∧ rl = remL n l) := by have h := HE.out; rw [if_neg hm0, if_neg hm0] at h; exact Lib.hid h
      have hm0' : ((m : Int) == 0) = false := by simp; omega
      have hz : w.heap.size + 2 ≤ WW.heap.size := hR4.1
      have HR := Lib.hid (And.intro hR2 (And.intro hR4 (And.intro hB1 hz)))
      clear hR2 hR4 hB1 hz y2 y4 f4 HE
      go_wp2_with fail
      go_loopw [6, 7, 8] (fun s p i wr => ∃ (k m1 c1 : Nat) (A1 : Option Addr) (pt : Bool) (xs : List Int), k ≤ N ∧ i = .int .i64 k ∧ p = .bool pt ∧ s = .slice A1 m1 c1 ∧ m1 ≤ k ∧ Hid (Own 2 1 wr (w.heap.size + 2) A1 m1 c1 (intCs xs)) ∧ Hid (remL n l = xs ++ (if pt then l.drop k else remL n (l.drop k))) ∧ Hid (Below (w.heap.size + 2) WW wr)) (fun _ _ i _ => N - (intOf i).toNat)
      case atStart => exact ⟨0, 0, 0, none, false, [], Nat.zero_le _, rfl, rfl, rfl, Nat.zero_le _, Lib.hid (Own.nil _ _ _ _), Lib.hid rfl, Lib.hid (Below.refl _ _)⟩
      case round =>
        obtain ⟨k, m1, c1, A1, pt, xs, hk, rfl, rfl, rfl, hm1, HO, HI, HB⟩ := hrel
        have hzr : w.heap.size + 2 ≤ wr.heap.size := Nat.le_trans HR.out.2.2.2 HB.out.size
        have x0 := (HR.out.1.below HB.out (by omega)).c 0 rfl
        by_cases hkn : k < N
        · obtain ⟨p, hpk⟩ : ∃ p, l[k]? = some p := ⟨_, List.getElem?_eq_getElem (by rw [← HN.out.1]; exact hkn)⟩
          obtain ⟨b, o, rfl, hl⟩ := HA.out (by rw [intCs_len, ← HN.out.1]; omega)
          have hbl := hl.1
          have HC := Lib.hid (hl.after HR.out.2.2.1)
          have c0 : wr.cell? ⟨b, o + k, none⟩ = some (.int .i64 p) := (HC.out.below HB.out (by omega)).2 _ _ (intCs_get hpk)
          have HD : Hid (l.drop k = p :: l.drop (k + 1)) := Lib.hid (by
            obtain ⟨h1, h2⟩ := List.getElem?_eq_some_iff.1 hpk
            rw [List.drop_eq_getElem_cons h1, h2])
          have hk1 : (k : Int) < N := by omega
          clear hl hpk
          by_cases hpn : p = n
          · cases pt with
            | true =>
              subst hpn
              go_wp2_with (at_builtin; refine wpList_app rfl (.tmp 39) (.tmp 45) elemI64 rfl (w.heap.size + 2) A1 m1 c1 (intCs xs) (some ⟨_, 0, none⟩) 1 1 [.int .i64 p] rfl rfl (HO.out.alloc _) (cells_row (Row.at rfl [.int .i64 p] _)) rfl (intCs_one [p]) (by omega) (by simp; omega) ?_)
              intro A9 c9 W9 hO9 hg9 hb9
              have HO9 : Hid (Own 2 1 W9 (w.heap.size + 2) A9 (m1 + 1) c9 (intCs (xs ++ [p]))) := Lib.hid (by rw [intCs_append]; exact hO9)
              have HB9 : Hid (Below (w.heap.size + 2) WW W9) := Lib.hid ((HB.out.trans ((Below.refl _ _).alloc (by omega) _)).trans hb9)
              have HI9 : Hid (remL p l = (xs ++ [p]) ++ (if true then l.drop (k + 1) else remL p (l.drop (k + 1)))) := Lib.hid (by rw [HI.out, HD.out]; simp)
              clear hO9 hg9 hb9
              go_wp2_with fail
              go_roundw
              case rel => exact ⟨k + 1, m1 + 1, c9, A9, true, xs ++ [p], by omega, by go_num, rfl, rfl, by omega, HO9, HI9, HB9⟩
              case measure => simp [intOf]; omega
            | false =>
              have HI9 : Hid (remL n l = xs ++ (if true then l.drop (k + 1) else remL n (l.drop (k + 1)))) := Lib.hid (by rw [HI.out, HD.out, if_neg Bool.false_ne_true, if_pos rfl, remL, if_pos hpn])
              subst hpn
              go_wp2_with fail
              go_roundw
              case rel => exact ⟨k + 1, m1, c1, A1, true, xs, by omega, by go_num, rfl, rfl, by omega, HO, HI9, HB⟩
              case measure => simp [intOf]; omega
          · have hpn' : (p == n) = false := by simpa using hpn
            have HPN := Lib.hid hpn
            clear hpn
            cases pt with
            | true =>
              go_wp2_with (at_builtin; refine wpList_app rfl (.tmp 39) (.tmp 45) elemI64 rfl (w.heap.size + 2) A1 m1 c1 (intCs xs) (some ⟨_, 0, none⟩) 1 1 [.int .i64 p] rfl rfl (HO.out.alloc _) (cells_row (Row.at rfl [.int .i64 p] _)) rfl (intCs_one [p]) (by omega) (by simp; omega) ?_)
              intro A9 c9 W9 hO9 hg9 hb9
              have HO9 : Hid (Own 2 1 W9 (w.heap.size + 2) A9 (m1 + 1) c9 (intCs (xs ++ [p]))) := Lib.hid (by rw [intCs_append]; exact hO9)
              have HB9 : Hid (Below (w.heap.size + 2) WW W9) := Lib.hid ((HB.out.trans ((Below.refl _ _).alloc (by omega) _)).trans hb9)
              have HI9 : Hid (remL n l = (xs ++ [p]) ++ (if true then l.drop (k + 1) else remL n (l.drop (k + 1)))) := Lib.hid (by rw [HI.out, HD.out]; simp)
              clear hO9 hg9 hb9
              go_wp2_with fail
              go_roundw
              case rel => exact ⟨k + 1, m1 + 1, c9, A9, true, xs ++ [p], by omega, by go_num, rfl, rfl, by omega, HO9, HI9, HB9⟩
              case measure => simp [intOf]; omega
            | false =>
              go_wp2_with (at_builtin; refine wpList_app rfl (.tmp 39) (.tmp 45) elemI64 rfl (w.heap.size + 2) A1 m1 c1 (intCs xs) (some ⟨_, 0, none⟩) 1 1 [.int .i64 p] rfl rfl (HO.out.alloc _) (cells_row (Row.at rfl [.int .i64 p] _)) rfl (intCs_one [p]) (by omega) (by simp; omega) ?_)
              intro A9 c9 W9 hO9 hg9 hb9
              have HO9 : Hid (Own 2 1 W9 (w.heap.size + 2) A9 (m1 + 1) c9 (intCs (xs ++ [p]))) := Lib.hid (by rw [intCs_append]; exact hO9)
              have HB9 : Hid (Below (w.heap.size + 2) WW W9) := Lib.hid ((HB.out.trans ((Below.refl _ _).alloc (by omega) _)).trans hb9)
              have HI9 : Hid (remL n l = (xs ++ [p]) ++ (if false then l.drop (k + 1) else remL n (l.drop (k + 1)))) := Lib.hid (by rw [HI.out, HD.out, if_neg Bool.false_ne_true, if_neg Bool.false_ne_true, remL, if_neg HPN.out]; simp)
              clear hO9 hg9 hb9
              go_wp2_with fail
              go_roundw
              case rel => exact ⟨k + 1, m1 + 1, c9, A9, false, xs ++ [p], by omega, by go_num, rfl, rfl, by omega, HO9, HI9, HB9⟩
              case measure => simp [intOf]; omega
        · obtain rfl : k = N := by omega
          have hend : l.drop k = [] := List.drop_of_length_le (by rw [← HN.out.1]; exact Nat.le_refl _)
          have HXz : Hid (remL n l = xs) := Lib.hid (by rw [HI.out, hend]; cases pt <;> simp [remL])
          clear hend HI
          have r4 := HR.out.2.1.below HB.out (by omega)
          have q4 := r4.c 0 rfl
          have g4 := r4.f 0 rfl
          have z0 := (r4.set 0 (by simp) (.slice A1 m1 c1)).c 0 rfl
          have HP : Hid (RTagPost w er rl (.returned (.tuple #[.agg #[.slice A1 m1 c1], .int .i64 0])) (wr.setCell ⟨w.heap.size + 1, 0, none⟩ (.slice A1 m1 c1))) := by
            have hl := HO.out.len
            rw [intCs_len] at hl
            have hfr := HO.out.fresh
            have hbz : Below w.heap.size w wr := HR.out.2.2.1.trans (HB.out.mono (by omega))
            rw [HE2.out.1, HE2.out.2, HXz.out]
            exact Lib.hid ⟨A1, m1, c1, rfl, by omega, HO.out.cells.put (fun _ a ha => by have := hfr a ha; show a.block ≠ w.heap.size + 1; omega), HO.out.le_cap, (fun _ a ha => by have := hfr a ha; omega), below_put1 hbz (Nat.le_succ _) 0 _⟩
          clear r4 HR HB HO HXz HE2
          go_wp2_with fail
          exact bodyPost_ret (v := .tuple #[.agg #[.slice A1 m1 c1], .int .i64 0]) (by simp [results, Tryz.results15, go_sem, z0]) rfl HP.out
end Go.Proofs.YtjhcddlhhfjnaaaGreatDoor
