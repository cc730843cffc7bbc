/- Contract of the circle's ways: those of its quarters behind each other. -/
import Derived.Test.YtfdofajknnocfaaOE
namespace Go.Proofs.Ytfdofajknnocfaa
open Go.RowKit Go.Sort

set_option maxHeartbeats 12800000 in
set_option maxRecDepth 100000 in
theorem ways_any (A0 A1 A2 A3 : Option Addr) (N0 N1 N2 N3 c0 c1 c2 c3 : Nat) (l0 l1 l2 l3 : List (Int × Int)) (w : World) (h0 : QRead w A0 N0 c0 l0) (h1 : QRead w A1 N1 c1 l1) (h2 : QRead w A2 N2 c2 l2) (h3 : QRead w A3 N3 c3 l3)
    (hn : N0 ≤ 20 ∧ N1 ≤ 20 ∧ N2 ≤ 20 ∧ N3 ≤ 20) :
    Calls Try.prog 39 #[.agg #[.slice A0 N0 c0, .slice A1 N1 c1, .slice A2 N2 c2, .slice A3 N3 c3]] w (SortPost w (l0 ++ l1 ++ l2 ++ l3)) := by
  obtain ⟨n0, n1, n2, n3⟩ := hn
  have H0 := Lib.hid h0
  have H1 := Lib.hid h1
  have H2 := Lib.hid h2
  have H3 := Lib.hid h3
  clear h0 h1 h2 h3
  have ix0 := ix40 (.slice A0 N0 c0) (.slice A1 N1 c1) (.slice A2 N2 c2) (.slice A3 N3 c3)
  have ix1 := ix41 (.slice A0 N0 c0) (.slice A1 N1 c1) (.slice A2 N2 c2) (.slice A3 N3 c3)
  have ix2 := ix42 (.slice A0 N0 c0) (.slice A1 N1 c1) (.slice A2 N2 c2) (.slice A3 N3 c3)
  have ix3 := ix43 (.slice A0 N0 c0) (.slice A1 N1 c1) (.slice A2 N2 c2) (.slice A3 N3 c3)
  go_enter Try.func39, Try.ntmps39
  go_wp2
  have hB : Below w.heap.size w (w.alloc (.cells #[.slice A0 N0 c0, .slice A1 N1 c1, .slice A2 N2 c2, .slice A3 N3 c3] 59)) := (Below.refl _ _).alloc (Nat.le_refl _) _
  generalize World.alloc _ _ = W0 at hB ⊢
  refine wp_loop_rounds 5 ?_
  obtain ⟨P0, hP0⟩ : ∃ P : List (Int × Int), P = [] := ⟨_, rfl⟩
  have HO : Hid (OwnW W0 w.heap.size none P0 0 0) := Lib.hid (by rw [hP0]; exact OwnW.start _ _)
  have HP := Lib.hid hP0
  clear hP0
  rw [rounds_succ]
  go_wp2
  go_loopw [3, 14] (fun so i wr => ∃ (j M capl : Nat) (Al : Option Addr), j ≤ N0 ∧ i = .int .i64 j ∧ so = .slice Al M capl ∧ M ≤ 0 + j ∧ Hid (OwnW wr w.heap.size Al (P0 ++ l0.take j) M capl) ∧ Below w.heap.size w wr) (fun _ i _ => N0 - (intOf i).toNat)
  case atStart => exact ⟨0, _, _, _, Nat.zero_le _, rfl, rfl, by omega, Lib.hid (by rw [List.take_zero, List.append_nil]; exact HO.out), hB⟩
  case round =>
    obtain ⟨j, M, capl, Al, hj, rfl, rfl, hM, HW, hBr⟩ := hrel
    clear HO hB
    by_cases hjn : j < N0
    · have hj1 : (j : Int) < N0 := by omega
      obtain ⟨g, rfl, hl⟩ := H0.out.2.2 (by omega)
      obtain ⟨p, hp⟩ : ∃ p, l0[j]? = some p := ⟨_, List.getElem?_eq_getElem (by rw [← H0.out.1]; exact hjn)⟩
      obtain ⟨z0, z1, z2⟩ := (hl.below hBr hl.1).2 j p hp
      rw [Nat.zero_add] at z0 z1 z2
      have HT : Hid (P0 ++ l0.take (j + 1) = (P0 ++ l0.take j) ++ [p]) := Lib.hid (by rw [List.take_add_one, hp, ← List.append_assoc]; rfl)
      clear hp hl
      go_wp2_with (at_builtin; refine wpList_push rfl _ _ rfl w.heap.size _ _ _ _ (wr.heap.size + 1) p rfl (by first | rfl | simp [Act.eval, Act.put]) ((HW.out.below ((Below.refl _ _).alloc (Nat.le_refl _) _)).below ((Below.refl _ _).alloc (Nat.le_refl _) _)) (Row.at (by simp) (wayL p.1 p.2) _) (by omega) (by have := hBr.size; simp; omega) ?_)
      rintro A' M' cap' w4 hm e4 hb4
      have hB4 : Below w.heap.size w w4 := ((hBr.alloc hBr.size _).alloc (by have := hBr.size; simp; omega) _).trans hb4
      have HM4 : Hid (OwnW w4 w.heap.size A' (P0 ++ l0.take (j + 1)) M' cap') := Lib.hid (by
        rw [HT.out]
        first | exact hm | (rw [List.append_assoc]; exact hm))
      clear hm hb4 HW HT z0 z1 z2 hBr
      go_wp2
      go_roundw
      case rel => exact ⟨j + 1, M', cap', A', by omega, by go_num, rfl, by omega, HM4, hB4⟩
      case measure => simp [intOf]; omega
    · obtain rfl : j = N0 := by omega
      obtain ⟨P1, hP⟩ : ∃ P, P = P0 ++ l0 := ⟨_, rfl⟩
      have HP0 := Lib.hid hP
      clear hP
      have HO : Hid (OwnW wr w.heap.size Al P1 M capl) := Lib.hid (by
        rw [HP0.out]
        have h := HW.out
        rw [List.take_of_length_le (by rw [← H0.out.1]; exact Nat.le_refl _)] at h
        exact h)
      have hB := hBr
      clear HW hBr
      go_wp2_with fail
      rw [rounds_succ]
      go_wp2
      go_loopw [3, 14] (fun so i wr => ∃ (j M capl : Nat) (Al : Option Addr), j ≤ N1 ∧ i = .int .i64 j ∧ so = .slice Al M capl ∧ M ≤ 20 + j ∧ Hid (OwnW wr w.heap.size Al (P1 ++ l1.take j) M capl) ∧ Below w.heap.size w wr) (fun _ i _ => N1 - (intOf i).toNat)
      case atStart => exact ⟨0, _, _, _, Nat.zero_le _, rfl, rfl, by omega, Lib.hid (by rw [List.take_zero, List.append_nil]; exact HO.out), hB⟩
      case round =>
        obtain ⟨j, M, capl, Al, hj, rfl, rfl, hM, HW, hBr⟩ := hrel
        clear HO hB
        by_cases hjn : j < N1
        · have hj1 : (j : Int) < N1 := by omega
          obtain ⟨g, rfl, hl⟩ := H1.out.2.2 (by omega)
          obtain ⟨p, hp⟩ : ∃ p, l1[j]? = some p := ⟨_, List.getElem?_eq_getElem (by rw [← H1.out.1]; exact hjn)⟩
          obtain ⟨z0, z1, z2⟩ := (hl.below hBr hl.1).2 j p hp
          rw [Nat.zero_add] at z0 z1 z2
          have HT : Hid (P1 ++ l1.take (j + 1) = (P1 ++ l1.take j) ++ [p]) := Lib.hid (by rw [List.take_add_one, hp, ← List.append_assoc]; rfl)
          clear hp hl
          go_wp2_with (at_builtin; refine wpList_push rfl _ _ rfl w.heap.size _ _ _ _ (wr.heap.size + 1) p rfl (by first | rfl | simp [Act.eval, Act.put]) ((HW.out.below ((Below.refl _ _).alloc (Nat.le_refl _) _)).below ((Below.refl _ _).alloc (Nat.le_refl _) _)) (Row.at (by simp) (wayL p.1 p.2) _) (by omega) (by have := hBr.size; simp; omega) ?_)
          rintro A' M' cap' w4 hm e4 hb4
          have hB4 : Below w.heap.size w w4 := ((hBr.alloc hBr.size _).alloc (by have := hBr.size; simp; omega) _).trans hb4
          have HM4 : Hid (OwnW w4 w.heap.size A' (P1 ++ l1.take (j + 1)) M' cap') := Lib.hid (by
            rw [HT.out]
            first | exact hm | (rw [List.append_assoc]; exact hm))
          clear hm hb4 HW HT z0 z1 z2 hBr
          go_wp2
          go_roundw
          case rel => exact ⟨j + 1, M', cap', A', by omega, by go_num, rfl, by omega, HM4, hB4⟩
          case measure => simp [intOf]; omega
        · obtain rfl : j = N1 := by omega
          obtain ⟨P2, hP⟩ : ∃ P, P = P1 ++ l1 := ⟨_, rfl⟩
          have HP1 := Lib.hid hP
          clear hP
          have HO : Hid (OwnW wr w.heap.size Al P2 M capl) := Lib.hid (by
            rw [HP1.out]
            have h := HW.out
            rw [List.take_of_length_le (by rw [← H1.out.1]; exact Nat.le_refl _)] at h
            exact h)
          have hB := hBr
          clear HW hBr
          go_wp2_with fail
          rw [rounds_succ]
          go_wp2
          go_loopw [3, 14] (fun so i wr => ∃ (j M capl : Nat) (Al : Option Addr), j ≤ N2 ∧ i = .int .i64 j ∧ so = .slice Al M capl ∧ M ≤ 40 + j ∧ Hid (OwnW wr w.heap.size Al (P2 ++ l2.take j) M capl) ∧ Below w.heap.size w wr) (fun _ i _ => N2 - (intOf i).toNat)
          case atStart => exact ⟨0, _, _, _, Nat.zero_le _, rfl, rfl, by omega, Lib.hid (by rw [List.take_zero, List.append_nil]; exact HO.out), hB⟩
          case round =>
            obtain ⟨j, M, capl, Al, hj, rfl, rfl, hM, HW, hBr⟩ := hrel
            clear HO hB
            by_cases hjn : j < N2
            · have hj1 : (j : Int) < N2 := by omega
              obtain ⟨g, rfl, hl⟩ := H2.out.2.2 (by omega)
              obtain ⟨p, hp⟩ : ∃ p, l2[j]? = some p := ⟨_, List.getElem?_eq_getElem (by rw [← H2.out.1]; exact hjn)⟩
              obtain ⟨z0, z1, z2⟩ := (hl.below hBr hl.1).2 j p hp
              rw [Nat.zero_add] at z0 z1 z2
              have HT : Hid (P2 ++ l2.take (j + 1) = (P2 ++ l2.take j) ++ [p]) := Lib.hid (by rw [List.take_add_one, hp, ← List.append_assoc]; rfl)
              clear hp hl
              go_wp2_with (at_builtin; refine wpList_push rfl _ _ rfl w.heap.size _ _ _ _ (wr.heap.size + 1) p rfl (by first | rfl | simp [Act.eval, Act.put]) ((HW.out.below ((Below.refl _ _).alloc (Nat.le_refl _) _)).below ((Below.refl _ _).alloc (Nat.le_refl _) _)) (Row.at (by simp) (wayL p.1 p.2) _) (by omega) (by have := hBr.size; simp; omega) ?_)
              rintro A' M' cap' w4 hm e4 hb4
              have hB4 : Below w.heap.size w w4 := ((hBr.alloc hBr.size _).alloc (by have := hBr.size; simp; omega) _).trans hb4
              have HM4 : Hid (OwnW w4 w.heap.size A' (P2 ++ l2.take (j + 1)) M' cap') := Lib.hid (by
                rw [HT.out]
                first | exact hm | (rw [List.append_assoc]; exact hm))
              clear hm hb4 HW HT z0 z1 z2 hBr
              go_wp2
              go_roundw
              case rel => exact ⟨j + 1, M', cap', A', by omega, by go_num, rfl, by omega, HM4, hB4⟩
              case measure => simp [intOf]; omega
            · obtain rfl : j = N2 := by omega
              obtain ⟨P3, hP⟩ : ∃ P, P = P2 ++ l2 := ⟨_, rfl⟩
              have HP2 := Lib.hid hP
              clear hP
              have HO : Hid (OwnW wr w.heap.size Al P3 M capl) := Lib.hid (by
                rw [HP2.out]
                have h := HW.out
                rw [List.take_of_length_le (by rw [← H2.out.1]; exact Nat.le_refl _)] at h
                exact h)
              have hB := hBr
              clear HW hBr
              go_wp2_with fail
              rw [rounds_succ]
              go_wp2
              go_loopw [3, 14] (fun so i wr => ∃ (j M capl : Nat) (Al : Option Addr), j ≤ N3 ∧ i = .int .i64 j ∧ so = .slice Al M capl ∧ M ≤ 60 + j ∧ Hid (OwnW wr w.heap.size Al (P3 ++ l3.take j) M capl) ∧ Below w.heap.size w wr) (fun _ i _ => N3 - (intOf i).toNat)
              case atStart => exact ⟨0, _, _, _, Nat.zero_le _, rfl, rfl, by omega, Lib.hid (by rw [List.take_zero, List.append_nil]; exact HO.out), hB⟩
              case round =>
                obtain ⟨j, M, capl, Al, hj, rfl, rfl, hM, HW, hBr⟩ := hrel
                clear HO hB
                by_cases hjn : j < N3
                · have hj1 : (j : Int) < N3 := by omega
                  obtain ⟨g, rfl, hl⟩ := H3.out.2.2 (by omega)
                  obtain ⟨p, hp⟩ : ∃ p, l3[j]? = some p := ⟨_, List.getElem?_eq_getElem (by rw [← H3.out.1]; exact hjn)⟩
                  obtain ⟨z0, z1, z2⟩ := (hl.below hBr hl.1).2 j p hp
                  rw [Nat.zero_add] at z0 z1 z2
                  have HT : Hid (P3 ++ l3.take (j + 1) = (P3 ++ l3.take j) ++ [p]) := Lib.hid (by rw [List.take_add_one, hp, ← List.append_assoc]; rfl)
                  clear hp hl
                  go_wp2_with (at_builtin; refine wpList_push rfl _ _ rfl w.heap.size _ _ _ _ (wr.heap.size + 1) p rfl (by first | rfl | simp [Act.eval, Act.put]) ((HW.out.below ((Below.refl _ _).alloc (Nat.le_refl _) _)).below ((Below.refl _ _).alloc (Nat.le_refl _) _)) (Row.at (by simp) (wayL p.1 p.2) _) (by omega) (by have := hBr.size; simp; omega) ?_)
                  rintro A' M' cap' w4 hm e4 hb4
                  have hB4 : Below w.heap.size w w4 := ((hBr.alloc hBr.size _).alloc (by have := hBr.size; simp; omega) _).trans hb4
                  have HM4 : Hid (OwnW w4 w.heap.size A' (P3 ++ l3.take (j + 1)) M' cap') := Lib.hid (by
                    rw [HT.out]
                    first | exact hm | (rw [List.append_assoc]; exact hm))
                  clear hm hb4 HW HT z0 z1 z2 hBr
                  go_wp2
                  go_roundw
                  case rel => exact ⟨j + 1, M', cap', A', by omega, by go_num, rfl, by omega, HM4, hB4⟩
                  case measure => simp [intOf]; omega
                · obtain rfl : j = N3 := by omega
                  obtain ⟨P4, hP⟩ : ∃ P, P = P3 ++ l3 := ⟨_, rfl⟩
                  have HP3 := Lib.hid hP
                  clear hP
                  have HO : Hid (OwnW wr w.heap.size Al P4 M capl) := Lib.hid (by
                    rw [HP3.out]
                    have h := HW.out
                    rw [List.take_of_length_le (by rw [← H3.out.1]; exact Nat.le_refl _)] at h
                    exact h)
                  have hB := hBr
                  clear HW hBr
                  go_wp2_with fail
                  rw [rounds_succ]
                  go_wp2_with fail
                  go_ret
                  exact ⟨Al, M, capl, rfl, by have h := HO.out; rw [HP3.out, HP2.out, HP1.out, HP0.out, HP.out] at h; simpa using h, hB⟩
end Go.Proofs.Ytfdofajknnocfaa
