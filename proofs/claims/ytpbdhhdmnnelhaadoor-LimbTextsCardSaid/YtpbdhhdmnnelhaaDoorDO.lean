/- Contract of the document's Parse, of a text of no right form. -/
import Derived.Test.YtpbdhhdmnnelhaaDoorDM
namespace Go.Proofs.YtpbdhhdmnnelhaaDoor
open Go.RowKit

theorem parse_out {w W : World} (hr : Row W w.heap.size [.bool false, .slice none 0 0]) (hb : Below w.heap.size w W) :
    Row ((W.setCell ⟨w.heap.size, 0, none⟩ (.bool false)).setCell ⟨w.heap.size, 1, none⟩ (.slice none 0 0)) w.heap.size [.bool false, .slice none 0 0] ∧ Below w.heap.size w ((W.setCell ⟨w.heap.size, 0, none⟩ (.bool false)).setCell ⟨w.heap.size, 1, none⟩ (.slice none 0 0)) :=
  ⟨(hr.set 0 (by simp) _).set 1 (by simp) _, below_put1 (below_put1 hb (Nat.le_refl _) _ _) (Nat.le_refl _) _ _⟩
set_option maxRecDepth 100000 in
set_option maxHeartbeats 1000000 in
theorem refparse_empty (s : ByteArray) (w : World) (hs : s.size = 0) : Calls Tryd.prog 38 #[.string s] w (PPost w 0 111) := by
  have he : s.toList.isEmpty = true := by
    rw [ByteArray.toList_eq]
    have h2 : s.data.toList.length = s.size := Array.length_toList
    rw [hs] at h2
    rw [List.eq_nil_of_length_eq_zero h2]; rfl
  go_enter Tryd.func38, Tryd.ntmps38
  go_upto_region 1 with fail
  have HR0 : Hid (Row (w.alloc (.cells #[.bool false, .slice none 0 0] 30)) w.heap.size [.bool false, .slice none 0 0]) := Lib.hid (Row.at rfl _ _)
  have HB0 : Hid (Below w.heap.size w (w.alloc (.cells #[.bool false, .slice none 0 0] 30))) := Lib.hid ((Below.refl _ _).alloc (Nat.le_refl _) _)
  generalize World.alloc _ _ = W0 at HR0 HB0 ⊢
  have a0 := HR0.out.c 0 rfl
  have a1 := HR0.out.c 1 rfl
  have b0 := HR0.out.f 0 rfl
  have b1 := HR0.out.f 1 rfl
  go_wp2_with fail
  clear a0 a1 b0 b1
  obtain ⟨r9, hB9⟩ := parse_out HR0.out HB0.out
  generalize World.setCell _ _ _ = W9 at r9 hB9 ⊢
  exact bodyPost_ret (v := .tuple #[.agg #[.bool false, .slice none 0 0], .int .i64 111]) (by simp [results, Tryd.results38, go_sem, r9.c 0 rfl, r9.c 1 rfl]) rfl (PPost.nought hB9)
set_option maxRecDepth 100000 in
set_option maxHeartbeats 2000000 in
theorem refparse_no (s D : ByteArray) (neg : Bool) (w : World) (hs : s.size ≤ 1000) (h0 : 0 < s.size) (hn : (((s[0]'h0).toNat : Int) == 45) = neg) (hD : (if neg = true then s.extract 1 s.size else s) = D) (hDs : D.size ≤ 1000)
    (hbad : D.size = 0 ∨ ∃ hD0 : 0 < D.size, (((D[0]'hD0).toNat : Int) = 48 ∧ (1 < D.size ∨ neg = true)) ∨ ∃ k, ∃ h : k < D.size, isDig (D[k]'h) = false) :
    Calls Tryd.prog 38 #[.string s] w (PPost w 0 111) := by
  have hs0 : (0 : Int) < s.size := by omega
  have HBad := Lib.hid hbad
  have HD := Lib.hid hD
  clear hbad hD
  go_enter Tryd.func38, Tryd.ntmps38
  go_upto_if 20 with fail
  have HR0 : Hid (Row (w.alloc (.cells #[.bool false, .slice none 0 0] 30)) w.heap.size [.bool false, .slice none 0 0]) := Lib.hid (Row.at rfl _ _)
  have HB0 : Hid (Below w.heap.size w (w.alloc (.cells #[.bool false, .slice none 0 0] 30))) := Lib.hid ((Below.refl _ _).alloc (Nat.le_refl _) _)
  generalize World.alloc _ _ = W0 at HR0 HB0 ⊢
  go_cut [4, 5] from 11 (fun b d wx => b = .bool neg ∧ d = .string D ∧ wx = W0)
  case first =>
    cases neg
    · have hD2 := HD.out.symm
      simp only [Bool.false_eq_true, if_false] at hD2
      have HD2 := Lib.hid hD2
      clear hD2
      go_wp2_with fail
      go_meet
      exact ⟨rfl, by rw [HD2.out], rfl⟩
    · have hD2 := HD.out.symm
      simp only [if_true] at hD2
      have HD2 := Lib.hid hD2
      clear hD2
      go_wp2_with fail
      go_meet
      exact ⟨rfl, by rw [HD2.out], rfl⟩
  case rest =>
    obtain ⟨rfl, rfl, rfl⟩ := hcut
    clear hn hs0 h0 HD
    have a0 := HR0.out.c 0 rfl
    have a1 := HR0.out.c 1 rfl
    have b0 := HR0.out.f 0 rfl
    have b1 := HR0.out.f 1 rfl
    obtain ⟨r9, hB9⟩ := parse_out HR0.out HB0.out
    have R9 := Lib.hid r9
    have B9 := Lib.hid hB9
    clear r9 hB9
    rcases Nat.eq_zero_or_pos D.size with hz | hD0
    · have he : D.toList.isEmpty = true := by
        rw [ByteArray.toList_eq]
        have h2 : D.data.toList.length = D.size := Array.length_toList
        rw [hz] at h2
        rw [List.eq_nil_of_length_eq_zero h2]; rfl
      clear hz HBad
      go_wp2_with fail
      clear a0 a1 b0 b1
      generalize World.setCell _ _ _ = W9 at R9 B9 ⊢
      have r9 := R9.out
      exact bodyPost_ret (v := .tuple #[.agg #[.bool false, .slice none 0 0], .int .i64 111]) (by simp [results, Tryd.results38, go_sem, r9.c 0 rfl, r9.c 1 rfl]) rfl (PPost.nought B9.out)
    · have he : D.toList.isEmpty = false := by
        rw [ByteArray.toList_eq]
        have h2 : D.data.toList.length = D.size := Array.length_toList
        cases h : D.data.toList with
        | nil => rw [h] at h2; simp at h2; omega
        | cons _ _ => rfl
      have hD1 : (0 : Int) < D.size := by omega
      have hD2 : ¬ ((D.size : Nat) : Int) = 0 := by omega
      by_cases h48 : ((D[0]'hD0).toNat : Int) = 48 ∧ (1 < D.size ∨ neg = true)
      · obtain ⟨h1, h2⟩ := h48
        clear HBad
        by_cases h3 : 1 < D.size
        · have h4 : (1 : Int) < D.size := by omega
          clear h2 h3
          go_wp2_with fail
          clear a0 a1 b0 b1
          generalize World.setCell _ _ _ = W9 at R9 B9 ⊢
          have r9 := R9.out
          exact bodyPost_ret (v := .tuple #[.agg #[.bool false, .slice none 0 0], .int .i64 111]) (by simp [results, Tryd.results38, go_sem, r9.c 0 rfl, r9.c 1 rfl]) rfl (PPost.nought B9.out)
        · have h4 : ¬ (1 : Int) < D.size := by omega
          obtain rfl : neg = true := by rcases h2 with h | h <;> first | exact absurd h h3 | exact h
          clear h2 h3
          go_wp2_with fail
          clear a0 a1 b0 b1
          generalize World.setCell _ _ _ = W9 at R9 B9 ⊢
          have r9 := R9.out
          exact bodyPost_ret (v := .tuple #[.agg #[.bool false, .slice none 0 0], .int .i64 111]) (by simp [results, Tryd.results38, go_sem, r9.c 0 rfl, r9.c 1 rfl]) rfl (PPost.nought B9.out)
      · have HEx : Hid (∃ k, ∃ h : k < D.size, isDig (D[k]'h) = false) := Lib.hid (by
          rcases HBad.out with h | ⟨_, h | h⟩
          · omega
          · exact absurd h h48
          · exact h)
        have HOk : Hid (((D[0]'hD0).toNat : Int) = 48 → D.size = 1 ∧ neg = false) := Lib.hid (fun h => by
          have h1 : ¬ (1 < D.size ∨ neg = true) := fun h2 => h48 ⟨h, h2⟩
          refine ⟨by omega, ?_⟩
          cases neg
          · rfl
          · exact absurd (Or.inr rfl) h1)
        clear HBad h48
        go_upto_region 5 with fail
        go_cut [37] from 11 (fun q wx => q = .bool false ∧ wx = wc)
        case first =>
          by_cases h48 : ((D[0]'hD0).toNat : Int) = 48
          · obtain ⟨hz1, rfl⟩ := HOk.out h48
            go_wp2_with fail
            go_meet
            exact ⟨rfl, rfl⟩
          · go_wp2_with fail
            go_meet
            exact ⟨rfl, rfl⟩
        case rest =>
          obtain ⟨rfl, rfl⟩ := hcut
          clear he HOk hD2
          go_wp2_with fail
          go_loopw [6] (fun v wr => ∃ k : Nat, k ≤ D.size ∧ v = .int .i64 k ∧ wr = wc ∧ Hid (∀ (i : Nat) (h : i < D.size), i < k → isDig (D[i]'h) = true)) (fun v _ => D.size - (intOf v).toNat)
          case atStart => exact ⟨0, by omega, rfl, rfl, Lib.hid (fun _ _ h => by omega)⟩
          case round =>
            obtain ⟨k, hk, rfl, rfl, HI⟩ := hrel
            by_cases hkn : k < D.size
            · have hk1 : (k : Int) < D.size := by omega
              by_cases hd : isDig (D[k]'hkn) = true
              · obtain ⟨d1, d2⟩ := (isDig_at _).1 hd
                go_wp2_with fail
                exact ⟨⟨k + 1, by omega, rfl, by first | trivial | rfl, Lib.hid (fun i h hi => by
                  by_cases e : i = k
                  · subst e; exact hd
                  · exact HI.out i h (by omega))⟩, by simp [intOf]; omega⟩
              · clear HEx HI
                by_cases d1 : ((D[k]'hkn).toNat : Int) < 48
                · go_wp2_with fail
                  clear a0 a1 b0 b1
                  generalize World.setCell _ _ _ = W9 at R9 B9 ⊢
                  have r9 := R9.out
                  exact bodyPost_ret (v := .tuple #[.agg #[.bool false, .slice none 0 0], .int .i64 111]) (by simp [results, Tryd.results38, go_sem, r9.c 0 rfl, r9.c 1 rfl]) rfl (PPost.nought B9.out)
                · have d2 : (57 : Int) < (D[k]'hkn).toNat := by
                    apply Int.not_le.1
                    intro h
                    exact hd ((isDig_at _).2 ⟨d1, by omega⟩)
                  go_wp2_with fail
                  clear a0 a1 b0 b1
                  generalize World.setCell _ _ _ = W9 at R9 B9 ⊢
                  have r9 := R9.out
                  exact bodyPost_ret (v := .tuple #[.agg #[.bool false, .slice none 0 0], .int .i64 111]) (by simp [results, Tryd.results38, go_sem, r9.c 0 rfl, r9.c 1 rfl]) rfl (PPost.nought B9.out)
            · obtain rfl : k = D.size := by omega
              exfalso
              obtain ⟨i, h, hf⟩ := HEx.out
              have := HI.out i h h
              rw [hf] at this
              cases this
end Go.Proofs.YtpbdhhdmnnelhaaDoor
