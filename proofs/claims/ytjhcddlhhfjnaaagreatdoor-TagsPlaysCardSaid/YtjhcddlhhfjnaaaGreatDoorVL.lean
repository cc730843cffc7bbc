/- The document's Parse. -/
import Derived.Test.YtjhcddlhhfjnaaaGreatDoorVI
namespace Go.Proofs.YtjhcddlhhfjnaaaGreatDoor
open Go.RowKit Go.Sort Go.Shelf

/-- What stands while the document reads. -/
structure RPS (s : ByteArray) (w W0 : World) (k : Nat) (l : List Int) (nn : Int) (dd m c1 : Nat) (A1 : Option Addr) (wr : World) : Prop where
  own : Own 2 1 wr (w.heap.size + 1) A1 m c1 (intCs l)
  bel : Below (w.heap.size + 1) W0 wr
  rel : (k ≤ s.size ∧ rscan s.data.toList [] 0 0 = rscan (s.data.toList.drop k) l nn dd) ∨ (k = s.size + 1 ∧ rscan s.data.toList [] 0 0 = some l)
  n0 : 0 ≤ nn
  n1 : nn < 10 ^ dd
  d1 : dd ≤ 11
  mle : m ≤ k
theorem radd_none : ∀ {l : List Int} {t : List Int}, (raddAll t l).1 ≠ 0 → (raddAll t l).2 = []
  | [], _, h => absurd rfl h
  | n :: r, t, h => by
    rw [raddAll] at h ⊢
    split at h
    · rename_i he
      rw [if_pos he]; exact radd_none h
    · rename_i he
      rw [if_neg he]
theorem rnew_none {l : List Int} (h : (rnew l).1 ≠ 0) : (rnew l).2 = [] := by
  unfold rnew at *
  split at h
  · rename_i hb; rw [if_pos hb]
  · rename_i hb; rw [if_neg hb]; exact radd_none h
theorem pow_ten {d : Nat} (h : d ≤ 10) : (10 : Int) ^ d ≤ 10000000000 := by
  have : d = 0 ∨ d = 1 ∨ d = 2 ∨ d = 3 ∨ d = 4 ∨ d = 5 ∨ d = 6 ∨ d = 7 ∨ d = 8 ∨ d = 9 ∨ d = 10 := by omega
  rcases this with rfl | rfl | rfl | rfl | rfl | rfl | rfl | rfl | rfl | rfl | rfl <;> decide
set_option maxRecDepth 100000 in
set_option maxHeartbeats 6400000 in
theorem rparse_any (s : ByteArray) (w : World) (hs : s.size ≤ 10000) :
    Calls Tryz.prog 21 #[.string s] w (RTagPost w (rparse s.data.toList).1 (rparse s.data.toList).2) := by
  obtain ⟨ad, had⟩ : ∃ ad, rparse s.data.toList = ad := ⟨_, rfl⟩
  rw [had]
  have HAD := Lib.hid had
  clear had
  by_cases h0 : s = ⟨#[]⟩
  · subst h0
    have HE : Hid (ad = (0, [])) := Lib.hid (by rw [← HAD.out]; rfl)
    rw [HE.out]
    clear HE HAD
    go_enter Tryz.func21, Tryz.ntmps21
    go_wp2_with fail
    generalize hW : World.alloc _ _ = W0
    have hR : Row W0 w.heap.size [.slice none 0 0] := by rw [← hW]; exact Row.at rfl [_] _
    have hB0 : Below w.heap.size w W0 := by rw [← hW]; exact (Below.refl _ _).alloc (Nat.le_refl _) _
    clear hW
    have z0 := hR.c 0 rfl
    exact bodyPost_ret (v := .tuple #[.agg #[.slice none 0 0], .int .i64 0]) (by simp [results, Tryz.results21, go_sem, z0]) rfl ⟨none, 0, 0, rfl, rfl, CellsS.nil _ _, Nat.le_refl _, (fun _ a ha => by cases ha), hB0⟩
  · have he1 : s.toList.isEmpty = false := by
      rw [Lib.toList_data, List.isEmpty_eq_false_iff]
      exact fun h => h0 (Go.WideShapes.bytes_inj h)
    have hne : s.data.toList ≠ [] := fun h => h0 (Go.WideShapes.bytes_inj h)
    have HE : Hid (ad = match rscan s.data.toList [] 0 0 with
      | none => (200, [])
      | some l => rnew l) := Lib.hid (by rw [← HAD.out, rparse, if_neg hne]; rfl)
    clear h0 HAD hne
    go_enter Tryz.func21, Tryz.ntmps21
    go_wp2_with fail
    generalize hW : World.alloc _ _ = W0
    have hR : Row W0 w.heap.size [.slice none 0 0] := by rw [← hW]; exact Row.at rfl [_] _
    have hB0 : Below w.heap.size w W0 := by rw [← hW]; exact (Below.refl _ _).alloc (Nat.le_refl _) _
    have hz : W0.heap.size = w.heap.size + 1 := by rw [← hW]; simp
    clear hW
    have HR := Lib.hid (And.intro hR (And.intro hB0 hz))
    clear hR hB0 hz
    go_loopw [4, 5, 6, 7] (fun sl n d i wr => ∃ (k m c1 : Nat) (A1 : Option Addr) (l : List Int) (nn : Int) (dd : Nat), k ≤ s.size + 1 ∧ i = .int .i64 k ∧ sl = .slice A1 m c1 ∧ n = .int .i64 nn ∧ d = .int .i64 dd ∧ Hid (RPS s w W0 k l nn dd m c1 A1 wr)) (fun _ _ _ i _ => s.size + 1 - (intOf i).toNat)
    case atStart => exact ⟨0, 0, 0, none, [], 0, 0, by omega, rfl, rfl, rfl, rfl, Lib.hid ⟨Own.nil _ _ _ _, Below.refl _ _, .inl ⟨Nat.zero_le _, rfl⟩, Int.le_refl _, by decide, by decide, Nat.le_refl _⟩⟩
    case round =>
      obtain ⟨k, m, c1, A1, l, nn, dd, hk, rfl, rfl, rfl, rfl, HS⟩ := hrel
      by_cases hks : k ≤ s.size
      · have hk1 : (k : Int) ≤ s.size := by omega
        have x5 := (HR.out.1.below HS.out.bel (Nat.lt_succ_self _)).c 0 rfl
        have g5 := (HR.out.1.below HS.out.bel (Nat.lt_succ_self _)).f 0 rfl
        have z5 := ((HR.out.1.below HS.out.bel (Nat.lt_succ_self _)).set 0 (by simp) (.slice none 0 0)).c 0 rfl
        have hR0 : rscan s.data.toList [] 0 0 = rscan (s.data.toList.drop k) l nn dd := by
          rcases HS.out.rel with h | h
          · exact h.2
          · omega
        by_cases hke : k = s.size
        · have HRl : Hid (rscan s.data.toList [] 0 0 = rclose l nn dd) := Lib.hid (by
            rw [hR0, List.drop_of_length_le (by rw [hke]; simp)]; rfl)
          have hke' : ((k : Int) == (s.size : Int)) = true := by rw [hke]; simp
          clear hR0
          by_cases hd0 : dd = 0
          · have HX : Hid (rscan s.data.toList [] 0 0 = none) := Lib.hid (by rw [HRl.out]; exact by rw [rclose, if_pos hd0])
            subst hd0
            have HP : Hid (RTagPost w ad.1 ad.2 (.returned (.tuple #[.agg #[.slice none 0 0], .int .i64 200])) (wr.setCell ⟨w.heap.size, 0, none⟩ (.slice none 0 0))) := by
              have h : ad = (200, []) := by rw [HE.out, HX.out]
              rw [h]
              exact Lib.hid ⟨none, 0, 0, rfl, rfl, CellsS.nil _ _, Nat.le_refl _, (fun h => absurd h (by decide)), below_put1 (HR.out.2.1.trans (HS.out.bel.mono (Nat.le_succ _))) (Nat.le_refl _) 0 _⟩
            clear HS HX
            go_wp2_with fail
            exact bodyPost_ret (v := .tuple #[.agg #[.slice none 0 0], .int .i64 200]) (by simp [results, Tryz.results21, go_sem, z5]) rfl HP.out
          · have hd0' : ((dd : Int) == 0) = false := by simpa using hd0
            by_cases hn1 : nn < 1
            · have HX : Hid (rscan s.data.toList [] 0 0 = none) := Lib.hid (by rw [HRl.out]; exact by rw [rclose, if_neg hd0, if_pos hn1])
              have HP : Hid (RTagPost w ad.1 ad.2 (.returned (.tuple #[.agg #[.slice none 0 0], .int .i64 200])) (wr.setCell ⟨w.heap.size, 0, none⟩ (.slice none 0 0))) := by
                have h : ad = (200, []) := by rw [HE.out, HX.out]
                rw [h]
                exact Lib.hid ⟨none, 0, 0, rfl, rfl, CellsS.nil _ _, Nat.le_refl _, (fun h => absurd h (by decide)), below_put1 (HR.out.2.1.trans (HS.out.bel.mono (Nat.le_succ _))) (Nat.le_refl _) 0 _⟩
              clear HS HX
              go_wp2_with fail
              exact bodyPost_ret (v := .tuple #[.agg #[.slice none 0 0], .int .i64 200]) (by simp [results, Tryz.results21, go_sem, z5]) rfl HP.out
            · by_cases hn2 : 2147483647 < nn
              · have HX : Hid (rscan s.data.toList [] 0 0 = none) := Lib.hid (by rw [HRl.out]; exact by rw [rclose, if_neg hd0, if_neg hn1, if_pos hn2])
                have HP : Hid (RTagPost w ad.1 ad.2 (.returned (.tuple #[.agg #[.slice none 0 0], .int .i64 200])) (wr.setCell ⟨w.heap.size, 0, none⟩ (.slice none 0 0))) := by
                  have h : ad = (200, []) := by rw [HE.out, HX.out]
                  rw [h]
                  exact Lib.hid ⟨none, 0, 0, rfl, rfl, CellsS.nil _ _, Nat.le_refl _, (fun h => absurd h (by decide)), below_put1 (HR.out.2.1.trans (HS.out.bel.mono (Nat.le_succ _))) (Nat.le_refl _) 0 _⟩
                clear HS HX
                go_wp2_with fail
                exact bodyPost_ret (v := .tuple #[.agg #[.slice none 0 0], .int .i64 200]) (by simp [results, Tryz.results21, go_sem, z5]) rfl HP.out
              · have hml := HS.out.own.len
                rw [intCs_len, Nat.mul_one] at hml
                cases hlast : l.getLast? with
                | none =>
                  have hl0 : l = [] := by simpa using hlast
                  have hm0 : m = 0 := by rw [hl0] at hml; simpa using hml.symm
                  have HX : Hid (rscan s.data.toList [] 0 0 = some (l ++ [nn])) := Lib.hid (by rw [HRl.out]; exact by rw [rclose, if_neg hd0, if_neg hn1, if_neg hn2, hlast])
                  clear hml hlast
                  subst hm0
                  subst hl0
                  have HO := Lib.hid HS.out.own
                  have hwz : w.heap.size + 1 ≤ wr.heap.size := by rw [← HR.out.2.2]; exact HS.out.bel.size
                  have hmk := HS.out.mle
                  go_wp2_with (at_builtin; refine wpList_app rfl (.tmp 53) (.tmp 55) elemI64 rfl (w.heap.size + 1) A1 0 c1 (intCs []) (some ⟨_, 0, none⟩) 1 1 [.int .i64 nn] rfl rfl (HO.out.alloc _) (cells_row (Row.at rfl [.int .i64 nn] _)) rfl (intCs_one [nn]) (by omega) (by simp; omega) ?_)
                  intro A9 c9 W9 hO9 hg9 hb9
                  have HS9 : Hid (RPS s w W0 (k + 1) ([] ++ [nn]) 0 0 (0 + 1) c9 A9 W9) := Lib.hid ⟨by rw [intCs_append]; exact hO9, (HS.out.bel.trans ((Below.refl _ _).alloc (by omega) _)).trans hb9, .inr ⟨by omega, by rw [HX.out]⟩, Int.le_refl _, by decide, by decide, by omega⟩
                  clear hO9 hg9 hb9 HO HS z5 x5 g5
                  go_wp2_with fail
                  go_roundw
                  case rel => exact ⟨k + 1, 0 + 1, c9, A9, [] ++ [nn], 0, 0, by omega, by go_num, rfl, rfl, rfl, HS9⟩
                  case measure => simp [intOf]; omega
                | some q =>
                  have hlne : l ≠ [] := fun h => by rw [h] at hlast; cases hlast
                  have hm1 : 0 < l.length := List.length_pos_iff.2 hlne
                  obtain ⟨j, hj⟩ : ∃ j : Nat, (m : Int) - 1 = j := ⟨m - 1, by omega⟩
                  have hm0 : (0 : Int) < m := by omega
                  have hjm : (j : Int) < m := by omega
                  have hmk0 := HS.out.mle
                  have hwj : wrap64 (j : Int) = j := by unfold wrap64; omega
                  clear hmk0
                  have hjl : l[j]? = some q := by
                    rw [List.getLast?_eq_getElem?] at hlast
                    rw [show j = l.length - 1 by omega]; exact hlast
                  obtain ⟨b, o, rfl, hcl⟩ := HS.out.own.cells (by rw [intCs_len]; omega)
                  have c0 : wr.cell? ⟨b, o + j, none⟩ = some (.int .i64 q) := hcl.2 _ _ (intCs_get hjl)
                  clear hcl hjl hlne hm1
                  by_cases hq : nn < q
                  · have HX : Hid (rscan s.data.toList [] 0 0 = none) := Lib.hid (by rw [HRl.out]; exact by rw [rclose, if_neg hd0, if_neg hn1, if_neg hn2, hlast]; exact if_pos hq)
                    clear hml hlast
                    have HP : Hid (RTagPost w ad.1 ad.2 (.returned (.tuple #[.agg #[.slice none 0 0], .int .i64 200])) (wr.setCell ⟨w.heap.size, 0, none⟩ (.slice none 0 0))) := by
                      have h : ad = (200, []) := by rw [HE.out, HX.out]
                      rw [h]
                      exact Lib.hid ⟨none, 0, 0, rfl, rfl, CellsS.nil _ _, Nat.le_refl _, (fun h => absurd h (by decide)), below_put1 (HR.out.2.1.trans (HS.out.bel.mono (Nat.le_succ _))) (Nat.le_refl _) 0 _⟩
                    clear HS HX
                    go_wp2_with fail
                    exact bodyPost_ret (v := .tuple #[.agg #[.slice none 0 0], .int .i64 200]) (by simp [results, Tryz.results21, go_sem, z5]) rfl HP.out
                  · have HX : Hid (rscan s.data.toList [] 0 0 = some (l ++ [nn])) := Lib.hid (by rw [HRl.out]; exact by rw [rclose, if_neg hd0, if_neg hn1, if_neg hn2, hlast]; exact if_neg hq)
                    clear hml hlast
                    have HO := Lib.hid HS.out.own
                    have hwz : w.heap.size + 1 ≤ wr.heap.size := by rw [← HR.out.2.2]; exact HS.out.bel.size
                    have hmk := HS.out.mle
                    go_wp2_with (at_builtin; refine wpList_app rfl (.tmp 53) (.tmp 55) elemI64 rfl (w.heap.size + 1) (some ⟨b, o, none⟩) m c1 (intCs l) (some ⟨_, 0, none⟩) 1 1 [.int .i64 nn] rfl rfl (HO.out.alloc _) (cells_row (Row.at rfl [.int .i64 nn] _)) rfl (intCs_one [nn]) (by omega) (by simp; omega) ?_)
                    intro A9 c9 W9 hO9 hg9 hb9
                    have HS9 : Hid (RPS s w W0 (k + 1) (l ++ [nn]) 0 0 (m + 1) c9 A9 W9) := Lib.hid ⟨by rw [intCs_append]; exact hO9, (HS.out.bel.trans ((Below.refl _ _).alloc (by omega) _)).trans hb9, .inr ⟨by omega, by rw [HX.out]⟩, Int.le_refl _, by decide, by decide, by omega⟩
                    clear hO9 hg9 hb9 HO HS z5 x5 g5
                    go_wp2_with fail
                    go_roundw
                    case rel => exact ⟨k + 1, m + 1, c9, A9, l ++ [nn], 0, 0, by omega, by go_num, rfl, rfl, rfl, HS9⟩
                    case measure => simp [intOf]; omega
        · have hk4 : k < s.size := by omega
          have hk3 : (k : Int) < s.size := by omega
          have hke' : ((k : Int) == (s.size : Int)) = false := by simp; omega
          have hdr : s.data.toList.drop k = s[k] :: s.data.toList.drop (k + 1) := by
            rw [List.drop_eq_getElem_cons (by simpa using hk4)]
            rfl
          rw [hdr] at hR0
          by_cases h32 : s[k] = 32
          · have HRl : Hid (rscan s.data.toList [] 0 0 = match rclose l nn dd with
              | none => none
              | some l' => rscan (s.data.toList.drop (k + 1)) l' 0 0) := Lib.hid (by rw [hR0, rscan, if_pos h32]; rfl)
            have h32' : ((s[k].toNat : Int) == 32) = true := by rw [h32]; rfl
            clear hR0 hdr h32
            by_cases hd0 : dd = 0
            · have HX : Hid (rscan s.data.toList [] 0 0 = none) := Lib.hid (by rw [HRl.out, (by rw [rclose, if_pos hd0] : rclose l nn dd = none)])
              subst hd0
              have HP : Hid (RTagPost w ad.1 ad.2 (.returned (.tuple #[.agg #[.slice none 0 0], .int .i64 200])) (wr.setCell ⟨w.heap.size, 0, none⟩ (.slice none 0 0))) := by
                have h : ad = (200, []) := by rw [HE.out, HX.out]
                rw [h]
                exact Lib.hid ⟨none, 0, 0, rfl, rfl, CellsS.nil _ _, Nat.le_refl _, (fun h => absurd h (by decide)), below_put1 (HR.out.2.1.trans (HS.out.bel.mono (Nat.le_succ _))) (Nat.le_refl _) 0 _⟩
              clear HS HX
              go_wp2_with fail
              exact bodyPost_ret (v := .tuple #[.agg #[.slice none 0 0], .int .i64 200]) (by simp [results, Tryz.results21, go_sem, z5]) rfl HP.out
            · have hd0' : ((dd : Int) == 0) = false := by simpa using hd0
              by_cases hn1 : nn < 1
              · have HX : Hid (rscan s.data.toList [] 0 0 = none) := Lib.hid (by rw [HRl.out, (by rw [rclose, if_neg hd0, if_pos hn1] : rclose l nn dd = none)])
                have HP : Hid (RTagPost w ad.1 ad.2 (.returned (.tuple #[.agg #[.slice none 0 0], .int .i64 200])) (wr.setCell ⟨w.heap.size, 0, none⟩ (.slice none 0 0))) := by
                  have h : ad = (200, []) := by rw [HE.out, HX.out]
                  rw [h]
                  exact Lib.hid ⟨none, 0, 0, rfl, rfl, CellsS.nil _ _, Nat.le_refl _, (fun h => absurd h (by decide)), below_put1 (HR.out.2.1.trans (HS.out.bel.mono (Nat.le_succ _))) (Nat.le_refl _) 0 _⟩
                clear HS HX
                go_wp2_with fail
                exact bodyPost_ret (v := .tuple #[.agg #[.slice none 0 0], .int .i64 200]) (by simp [results, Tryz.results21, go_sem, z5]) rfl HP.out
              · by_cases hn2 : 2147483647 < nn
                · have HX : Hid (rscan s.data.toList [] 0 0 = none) := Lib.hid (by rw [HRl.out, (by rw [rclose, if_neg hd0, if_neg hn1, if_pos hn2] : rclose l nn dd = none)])
                  have HP : Hid (RTagPost w ad.1 ad.2 (.returned (.tuple #[.agg #[.slice none 0 0], .int .i64 200])) (wr.setCell ⟨w.heap.size, 0, none⟩ (.slice none 0 0))) := by
                    have h : ad = (200, []) := by rw [HE.out, HX.out]
                    rw [h]
                    exact Lib.hid ⟨none, 0, 0, rfl, rfl, CellsS.nil _ _, Nat.le_refl _, (fun h => absurd h (by decide)), below_put1 (HR.out.2.1.trans (HS.out.bel.mono (Nat.le_succ _))) (Nat.le_refl _) 0 _⟩
                  clear HS HX
                  go_wp2_with fail
                  exact bodyPost_ret (v := .tuple #[.agg #[.slice none 0 0], .int .i64 200]) (by simp [results, Tryz.results21, go_sem, z5]) rfl HP.out
                · have hml := HS.out.own.len
                  rw [intCs_len, Nat.mul_one] at hml
                  cases hlast : l.getLast? with
                  | none =>
                    have hl0 : l = [] := by simpa using hlast
                    have hm0 : m = 0 := by rw [hl0] at hml; simpa using hml.symm
                    have HX : Hid (rscan s.data.toList [] 0 0 = rscan (s.data.toList.drop (k + 1)) (l ++ [nn]) 0 0) := Lib.hid (by rw [HRl.out, (by rw [rclose, if_neg hd0, if_neg hn1, if_neg hn2, hlast] : rclose l nn dd = some (l ++ [nn]))])
                    clear hml hlast
                    subst hm0
                    subst hl0
                    have HO := Lib.hid HS.out.own
                    have hwz : w.heap.size + 1 ≤ wr.heap.size := by rw [← HR.out.2.2]; exact HS.out.bel.size
                    have hmk := HS.out.mle
                    go_wp2_with (at_builtin; refine wpList_app rfl (.tmp 53) (.tmp 55) elemI64 rfl (w.heap.size + 1) A1 0 c1 (intCs []) (some ⟨_, 0, none⟩) 1 1 [.int .i64 nn] rfl rfl (HO.out.alloc _) (cells_row (Row.at rfl [.int .i64 nn] _)) rfl (intCs_one [nn]) (by omega) (by simp; omega) ?_)
                    intro A9 c9 W9 hO9 hg9 hb9
                    have HS9 : Hid (RPS s w W0 (k + 1) ([] ++ [nn]) 0 0 (0 + 1) c9 A9 W9) := Lib.hid ⟨by rw [intCs_append]; exact hO9, (HS.out.bel.trans ((Below.refl _ _).alloc (by omega) _)).trans hb9, .inl ⟨by omega, by rw [HX.out]⟩, Int.le_refl _, by decide, by decide, by omega⟩
                    clear hO9 hg9 hb9 HO HS z5 x5 g5
                    go_wp2_with fail
                    go_roundw
                    case rel => exact ⟨k + 1, 0 + 1, c9, A9, [] ++ [nn], 0, 0, by omega, by go_num, rfl, rfl, rfl, HS9⟩
                    case measure => simp [intOf]; omega
                  | some q =>
                    have hlne : l ≠ [] := fun h => by rw [h] at hlast; cases hlast
                    have hm1 : 0 < l.length := List.length_pos_iff.2 hlne
                    obtain ⟨j, hj⟩ : ∃ j : Nat, (m : Int) - 1 = j := ⟨m - 1, by omega⟩
                    have hm0 : (0 : Int) < m := by omega
                    have hjm : (j : Int) < m := by omega
                    have hmk0 := HS.out.mle
                    have hwj : wrap64 (j : Int) = j := by unfold wrap64; omega
                    clear hmk0
                    have hjl : l[j]? = some q := by
                      rw [List.getLast?_eq_getElem?] at hlast
                      rw [show j = l.length - 1 by omega]; exact hlast
                    obtain ⟨b, o, rfl, hcl⟩ := HS.out.own.cells (by rw [intCs_len]; omega)
                    have c0 : wr.cell? ⟨b, o + j, none⟩ = some (.int .i64 q) := hcl.2 _ _ (intCs_get hjl)
                    clear hcl hjl hlne hm1
                    by_cases hq : nn < q
                    · have HX : Hid (rscan s.data.toList [] 0 0 = none) := Lib.hid (by rw [HRl.out, (by rw [rclose, if_neg hd0, if_neg hn1, if_neg hn2, hlast]; exact if_pos hq : rclose l nn dd = none)])
                      clear hml hlast
                      have HP : Hid (RTagPost w ad.1 ad.2 (.returned (.tuple #[.agg #[.slice none 0 0], .int .i64 200])) (wr.setCell ⟨w.heap.size, 0, none⟩ (.slice none 0 0))) := by
                        have h : ad = (200, []) := by rw [HE.out, HX.out]
                        rw [h]
                        exact Lib.hid ⟨none, 0, 0, rfl, rfl, CellsS.nil _ _, Nat.le_refl _, (fun h => absurd h (by decide)), below_put1 (HR.out.2.1.trans (HS.out.bel.mono (Nat.le_succ _))) (Nat.le_refl _) 0 _⟩
                      clear HS HX
                      go_wp2_with fail
                      exact bodyPost_ret (v := .tuple #[.agg #[.slice none 0 0], .int .i64 200]) (by simp [results, Tryz.results21, go_sem, z5]) rfl HP.out
                    · have HX : Hid (rscan s.data.toList [] 0 0 = rscan (s.data.toList.drop (k + 1)) (l ++ [nn]) 0 0) := Lib.hid (by rw [HRl.out, (by rw [rclose, if_neg hd0, if_neg hn1, if_neg hn2, hlast]; exact if_neg hq : rclose l nn dd = some (l ++ [nn]))])
                      clear hml hlast
                      have HO := Lib.hid HS.out.own
                      have hwz : w.heap.size + 1 ≤ wr.heap.size := by rw [← HR.out.2.2]; exact HS.out.bel.size
                      have hmk := HS.out.mle
                      go_wp2_with (at_builtin; refine wpList_app rfl (.tmp 53) (.tmp 55) elemI64 rfl (w.heap.size + 1) (some ⟨b, o, none⟩) m c1 (intCs l) (some ⟨_, 0, none⟩) 1 1 [.int .i64 nn] rfl rfl (HO.out.alloc _) (cells_row (Row.at rfl [.int .i64 nn] _)) rfl (intCs_one [nn]) (by omega) (by simp; omega) ?_)
                      intro A9 c9 W9 hO9 hg9 hb9
                      have HS9 : Hid (RPS s w W0 (k + 1) (l ++ [nn]) 0 0 (m + 1) c9 A9 W9) := Lib.hid ⟨by rw [intCs_append]; exact hO9, (HS.out.bel.trans ((Below.refl _ _).alloc (by omega) _)).trans hb9, .inl ⟨by omega, by rw [HX.out]⟩, Int.le_refl _, by decide, by decide, by omega⟩
                      clear hO9 hg9 hb9 HO HS z5 x5 g5
                      go_wp2_with fail
                      go_roundw
                      case rel => exact ⟨k + 1, m + 1, c9, A9, l ++ [nn], 0, 0, by omega, by go_num, rfl, rfl, rfl, HS9⟩
                      case measure => simp [intOf]; omega
          · have h32n : ¬ s[k].toNat = 32 := fun h => h32 (UInt8.toNat_inj.1 (by rw [h]; rfl))
            have h32' : ((s[k].toNat : Int) == 32) = false := by simp; omega
            by_cases hA : s[k].toNat < 48
            · have HX : Hid (rscan s.data.toList [] 0 0 = none) := Lib.hid (by rw [hR0, rscan, if_neg h32, if_pos (UInt8.lt_iff_toNat_lt.2 (show s[k].toNat < (48 : UInt8).toNat from hA))])
              have hA' : (s[k].toNat : Int) < 48 := by omega
              clear hR0 hdr
              have HP : Hid (RTagPost w ad.1 ad.2 (.returned (.tuple #[.agg #[.slice none 0 0], .int .i64 200])) (wr.setCell ⟨w.heap.size, 0, none⟩ (.slice none 0 0))) := by
                have h : ad = (200, []) := by rw [HE.out, HX.out]
                rw [h]
                exact Lib.hid ⟨none, 0, 0, rfl, rfl, CellsS.nil _ _, Nat.le_refl _, (fun h => absurd h (by decide)), below_put1 (HR.out.2.1.trans (HS.out.bel.mono (Nat.le_succ _))) (Nat.le_refl _) 0 _⟩
              clear HS HX
              go_wp2_with fail
              exact bodyPost_ret (v := .tuple #[.agg #[.slice none 0 0], .int .i64 200]) (by simp [results, Tryz.results21, go_sem, z5]) rfl HP.out
            · have hA' : ¬ (s[k].toNat : Int) < 48 := by omega
              have qA : ¬ s[k] < 48 := fun h => hA (UInt8.lt_iff_toNat_lt.1 h)
              by_cases hC : 57 < s[k].toNat
              · have HX : Hid (rscan s.data.toList [] 0 0 = none) := Lib.hid (by rw [hR0, rscan, if_neg h32, if_neg qA, if_pos (UInt8.lt_iff_toNat_lt.2 (show (57 : UInt8).toNat < s[k].toNat from hC))])
                have hC' : 57 < (s[k].toNat : Int) := by omega
                clear hR0 hdr
                have HP : Hid (RTagPost w ad.1 ad.2 (.returned (.tuple #[.agg #[.slice none 0 0], .int .i64 200])) (wr.setCell ⟨w.heap.size, 0, none⟩ (.slice none 0 0))) := by
                  have h : ad = (200, []) := by rw [HE.out, HX.out]
                  rw [h]
                  exact Lib.hid ⟨none, 0, 0, rfl, rfl, CellsS.nil _ _, Nat.le_refl _, (fun h => absurd h (by decide)), below_put1 (HR.out.2.1.trans (HS.out.bel.mono (Nat.le_succ _))) (Nat.le_refl _) 0 _⟩
                clear HS HX
                go_wp2_with fail
                exact bodyPost_ret (v := .tuple #[.agg #[.slice none 0 0], .int .i64 200]) (by simp [results, Tryz.results21, go_sem, z5]) rfl HP.out
              · have hC' : ¬ 57 < (s[k].toNat : Int) := by omega
                have qC : ¬ 57 < s[k] := fun h => hC (UInt8.lt_iff_toNat_lt.1 h)
                by_cases hZ : s[k].toNat = 48 ∧ dd = 0
                · have HX : Hid (rscan s.data.toList [] 0 0 = none) := Lib.hid (by rw [hR0, rscan, if_neg h32, if_neg qA, if_neg qC, if_pos ⟨UInt8.toNat_inj.1 (by rw [hZ.1]; rfl), hZ.2⟩])
                  have hZ' : ((s[k].toNat : Int) == 48) = true := by simp; omega
                  have hd' : ((dd : Int) == 0) = true := by simp; omega
                  clear hR0 hdr
                  have HP : Hid (RTagPost w ad.1 ad.2 (.returned (.tuple #[.agg #[.slice none 0 0], .int .i64 200])) (wr.setCell ⟨w.heap.size, 0, none⟩ (.slice none 0 0))) := by
                    have h : ad = (200, []) := by rw [HE.out, HX.out]
                    rw [h]
                    exact Lib.hid ⟨none, 0, 0, rfl, rfl, CellsS.nil _ _, Nat.le_refl _, (fun h => absurd h (by decide)), below_put1 (HR.out.2.1.trans (HS.out.bel.mono (Nat.le_succ _))) (Nat.le_refl _) 0 _⟩
                  clear HS HX
                  go_wp2_with fail
                  exact bodyPost_ret (v := .tuple #[.agg #[.slice none 0 0], .int .i64 200]) (by simp [results, Tryz.results21, go_sem, z5]) rfl HP.out
                · have qZ : ¬ (s[k] = 48 ∧ dd = 0) := fun h => hZ ⟨by rw [h.1]; rfl, h.2⟩
                  by_cases hT : 10 < dd
                  · have HX : Hid (rscan s.data.toList [] 0 0 = none) := Lib.hid (by rw [hR0, rscan, if_neg h32, if_neg qA, if_neg qC, if_neg qZ, if_pos hT])
                    have hT' : 10 < (dd : Int) := by omega
                    have hd' : ((dd : Int) == 0) = false := by simp; omega
                    clear hR0 hdr
                    by_cases hZ1 : s[k].toNat = 48
                    · have hZ' : ((s[k].toNat : Int) == 48) = true := by simp; omega
                      have HP : Hid (RTagPost w ad.1 ad.2 (.returned (.tuple #[.agg #[.slice none 0 0], .int .i64 200])) (wr.setCell ⟨w.heap.size, 0, none⟩ (.slice none 0 0))) := by
                        have h : ad = (200, []) := by rw [HE.out, HX.out]
                        rw [h]
                        exact Lib.hid ⟨none, 0, 0, rfl, rfl, CellsS.nil _ _, Nat.le_refl _, (fun h => absurd h (by decide)), below_put1 (HR.out.2.1.trans (HS.out.bel.mono (Nat.le_succ _))) (Nat.le_refl _) 0 _⟩
                      clear HS HX
                      go_wp2_with fail
                      exact bodyPost_ret (v := .tuple #[.agg #[.slice none 0 0], .int .i64 200]) (by simp [results, Tryz.results21, go_sem, z5]) rfl HP.out
                    · have hZ' : ((s[k].toNat : Int) == 48) = false := by simp; omega
                      have HP : Hid (RTagPost w ad.1 ad.2 (.returned (.tuple #[.agg #[.slice none 0 0], .int .i64 200])) (wr.setCell ⟨w.heap.size, 0, none⟩ (.slice none 0 0))) := by
                        have h : ad = (200, []) := by rw [HE.out, HX.out]
                        rw [h]
                        exact Lib.hid ⟨none, 0, 0, rfl, rfl, CellsS.nil _ _, Nat.le_refl _, (fun h => absurd h (by decide)), below_put1 (HR.out.2.1.trans (HS.out.bel.mono (Nat.le_succ _))) (Nat.le_refl _) 0 _⟩
                      clear HS HX
                      go_wp2_with fail
                      exact bodyPost_ret (v := .tuple #[.agg #[.slice none 0 0], .int .i64 200]) (by simp [results, Tryz.results21, go_sem, z5]) rfl HP.out
                  · have hT' : ¬ 10 < (dd : Int) := by omega
                    have hp := pow_ten (d := dd) (by omega)
                    have hn0 := HS.out.n0
                    have hn1 := HS.out.n1
                    have HS9 : Hid (RPS s w W0 (k + 1) l (10 * nn + ((s[k].toNat : Int) - 48)) (dd + 1) m c1 A1 wr) := by
                      refine Lib.hid ⟨HS.out.own, HS.out.bel, .inl ⟨by omega, ?_⟩, by omega, ?_, by omega, by have := HS.out.mle; omega⟩
                      · rw [hR0, rscan, if_neg h32, if_neg qA, if_neg qC, if_neg qZ, if_neg hT]
                        congr 1
                        omega
                      · rw [Int.pow_succ]; omega
                    have hv1 : 10 * nn ≤ 100000000000 := by omega
                    have hv2 : (0 : Int) ≤ (s[k].toNat : Int) - 48 := by omega
                    have hv3 : (s[k].toNat : Int) - 48 ≤ 9 := by omega
                    clear HS hp hn1 z5 x5 g5 hR0 hdr
                    by_cases hZ1 : s[k].toNat = 48
                    · have hZ' : ((s[k].toNat : Int) == 48) = true := by simp; omega
                      have hd' : ((dd : Int) == 0) = false := by simp; omega
                      go_wp2_with fail
                      go_roundw
                      case rel => exact ⟨k + 1, m, c1, A1, l, _, dd + 1, by omega, by go_num, rfl, by go_num, by go_num, HS9⟩
                      case measure => simp [intOf]; omega
                    · have hZ' : ((s[k].toNat : Int) == 48) = false := by simp; omega
                      go_wp2_with fail
                      go_roundw
                      case rel => exact ⟨k + 1, m, c1, A1, l, _, dd + 1, by omega, by go_num, rfl, by go_num, by go_num, HS9⟩
                      case measure => simp [intOf]; omega
      · have hR1 : rscan s.data.toList [] 0 0 = some l := by
          rcases HS.out.rel with h | h
          · omega
          · exact h.2
        have hk9 : ¬ (k : Int) ≤ s.size := by omega
        have hln := HS.out.own.len
        rw [intCs_len, Nat.mul_one] at hln
        have HNw := Lib.hid (rnew_any l A1 m c1 wr (by omega) (by have := HS.out.mle; omega) HS.out.own.cells)
        have HX : Hid (ad = rnew l) := Lib.hid (by rw [HE.out, hR1])
        clear hR1 hln
        go_wp2_with fail
        refine HNw.out.mono ?_
        rintro e W2 ⟨A2, N2, c2, rfl, hN2, hC2, hc2, hf2, hb2⟩
        have hwz : w.heap.size + 1 ≤ wr.heap.size := by rw [← HR.out.2.2]; exact HS.out.bel.size
        have r5 := (HR.out.1.below HS.out.bel (Nat.lt_succ_self _)).after hb2
        have y5 := r5.c 0 rfl
        have f5 := r5.f 0 rfl
        have z9 := (r5.set 0 (by simp) (.slice A2 N2 c2)).c 0 rfl
        have hB9 : Below w.heap.size w W2 := (HR.out.2.1.trans (HS.out.bel.mono (Nat.le_succ _))).trans (hb2.mono (by omega))
        have HP : Hid (RTagPost w ad.1 ad.2 (.returned (.tuple #[.agg #[.slice A2 N2 c2], .int .i64 (rnew l).1])) (W2.setCell ⟨w.heap.size, 0, none⟩ (.slice A2 N2 c2))) := by
          rw [HX.out]
          refine Lib.hid ⟨A2, N2, c2, rfl, hN2, hC2.put (fun h0 a ha => ?_), hc2, fun h a ha => by have := hf2 h a ha; omega, below_put1 hB9 (Nat.le_refl _) 0 _⟩
          by_cases he : (rnew l).1 = 0
          · have := hf2 he a ha
            show a.block ≠ w.heap.size
            omega
          · rw [rnew_none he] at h0; cases h0
        clear hN2 hC2 hc2 hf2 hb2 r5 HNw HS hB9
        generalize (rnew l).1 = er at HP ⊢
        go_wp2_with fail
        exact bodyPost_ret (v := .tuple #[.agg #[.slice A2 N2 c2], .int .i64 er]) (by simp [results, Tryz.results21, go_sem, z9]) rfl HP.out
end Go.Proofs.YtjhcddlhhfjnaaaGreatDoor
