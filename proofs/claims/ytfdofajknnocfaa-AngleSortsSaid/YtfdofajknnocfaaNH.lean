/- The statements' own works: the chapter's rows; no condition. -/
import Derived.Test.YtfdofajknnocfaaNG
namespace Go.Proofs.Ytfdofajknnocfaa
open Go.RowKit Go.Sort

theorem works0 (w : World) : Calls Try.prog 8 #[wayV 1 0, wayV 0 1] w fun e w' => e = .returned (.tuple #[.int .i64 (-1), .int .i64 0]) ∧ Below w.heap.size w w' := by
  have h := cmp_any 1 0 0 1 w
  rw [show toldI (mayB 1 0 && mayB 0 1) (ordA 1 0 0 1) = (-1) by kernel_rfl, show errI (mayB 1 0 && mayB 0 1) = 0 by kernel_rfl] at h
  exact h
theorem works1 (w : World) : Calls Try.prog 8 #[wayV 0 (-1), wayV 0 1] w fun e w' => e = .returned (.tuple #[.int .i64 1, .int .i64 0]) ∧ Below w.heap.size w w' := by
  have h := cmp_any 0 (-1) 0 1 w
  rw [show toldI (mayB 0 (-1) && mayB 0 1) (ordA 0 (-1) 0 1) = 1 by kernel_rfl, show errI (mayB 0 (-1) && mayB 0 1) = 0 by kernel_rfl] at h
  exact h
theorem works2 (w : World) : Calls Try.prog 8 #[wayV 2 2, wayV 5 5] w fun e w' => e = .returned (.tuple #[.int .i64 0, .int .i64 0]) ∧ Below w.heap.size w w' := by
  have h := cmp_any 2 2 5 5 w
  rw [show toldI (mayB 2 2 && mayB 5 5) (ordA 2 2 5 5) = 0 by kernel_rfl, show errI (mayB 2 2 && mayB 5 5) = 0 by kernel_rfl] at h
  exact h
theorem works3 (w : World) : Calls Try.prog 9 #[wayV 1 2, wayV (-2) (-4)] w fun e w' => e = .returned (.tuple #[.bool true, .int .i64 0]) ∧ Below w.heap.size w w' := by
  have h := opp_any 1 2 (-2) (-4) w
  rw [show (mayB 1 2 && mayB (-2) (-4) && oppA 1 2 (-2) (-4)) = true by kernel_rfl, show errI (mayB 1 2 && mayB (-2) (-4)) = 0 by kernel_rfl] at h
  exact h
theorem works4 (w : World) : Calls Try.prog 18 #[wayV 1 0, wayV 0 1, wayV 1 1] w fun e w' => e = .returned (.tuple #[.bool true, .int .i64 0]) ∧ Below w.heap.size w w' := by
  have h := bet_any 1 0 0 1 1 1 w
  rw [show (mayB 1 0 && mayB 0 1 && mayB 1 1 && betA 1 0 0 1 1 1) = true by kernel_rfl, show errI (mayB 1 0 && mayB 0 1 && mayB 1 1) = 0 by kernel_rfl] at h
  exact h
theorem works5 (w : World) : Calls Try.prog 18 #[wayV 0 1, wayV 1 0, wayV 1 1] w fun e w' => e = .returned (.tuple #[.bool false, .int .i64 0]) ∧ Below w.heap.size w w' := by
  have h := bet_any 0 1 1 0 1 1 w
  rw [show (mayB 0 1 && mayB 1 0 && mayB 1 1 && betA 0 1 1 0 1 1) = false by kernel_rfl, show errI (mayB 0 1 && mayB 1 0 && mayB 1 1) = 0 by kernel_rfl] at h
  exact h
theorem works6 (b c : Nat) (w : World) (h : Row w b [.int .i64 0, .int .i64 1, .int .i64 (-1), .int .i64 0, .int .i64 2, .int .i64 0]) : Calls Try.prog 21 #[wayV 1 0, .slice (some ⟨b, 0, none⟩) 3 c] w fun e w' => e = .returned (.tuple #[.int .i64 0, .int .i64 0]) ∧ Below w.heap.size w w' := by
  have h := nextw_any 1 0 _ _ b 0 3 c w (by omega) (ways3 h)
  rw [show toldI (allM (consF 1 (sel3 0 (-1) 2)) (consF 0 (sel3 1 0 0)) (3 + 1)) ((firstI (aheadA 1 0 (sel3 0 (-1) 2) (sel3 1 0 0)) 3 : Nat) : Int) = 0 by kernel_rfl, show nextE (allM (consF 1 (sel3 0 (-1) 2)) (consF 0 (sel3 1 0 0)) (3 + 1)) 3 = 0 by kernel_rfl] at h
  exact h
set_option maxHeartbeats 3200000 in
set_option maxRecDepth 100000 in
theorem works_true (w : World) : Calls Try.prog 15 #[] w fun e w' => e = .returned (.bool true) ∧ Below w.heap.size w w' := by
  go_enter Try.func15, Try.ntmps15
  go_wp2_with fail
  refine (works0 _).mono ?_
  rintro e w1 ⟨rfl, hb⟩
  have hB : Below w.heap.size w w1 := hb
  clear hb
  go_wp2_with fail
  refine (works1 _).mono ?_
  rintro e w2 ⟨rfl, hb⟩
  replace hB := hB.trans (hb.mono hB.size)
  clear hb
  go_wp2_with fail
  refine (works2 _).mono ?_
  rintro e w3 ⟨rfl, hb⟩
  replace hB := hB.trans (hb.mono hB.size)
  clear hb
  go_wp2_with fail
  refine (works3 _).mono ?_
  rintro e w4 ⟨rfl, hb⟩
  replace hB := hB.trans (hb.mono hB.size)
  clear hb
  go_wp2_with fail
  refine (works4 _).mono ?_
  rintro e w5 ⟨rfl, hb⟩
  replace hB := hB.trans (hb.mono hB.size)
  clear hb
  go_wp2_with fail
  refine (works5 _).mono ?_
  rintro e w6 ⟨rfl, hb⟩
  replace hB := hB.trans (hb.mono hB.size)
  clear hb
  go_wp2_with fail
  refine (works6 _ _ _ (Row.at rfl _ _)).mono ?_
  rintro e w7 ⟨rfl, hb⟩
  replace hB := (hB.alloc hB.size _).trans (hb.mono (by simp; have := hB.size; omega))
  clear hb
  go_wp2
  go_ret
  exact ⟨rfl, hB⟩
end Go.Proofs.Ytfdofajknnocfaa
