/- Package angle's order and opposite, and the document's own answers of two and three ways; no condition. -/
import Derived.Test.YtfdofajknnocfaaNA
import Derived.Deep.RegionHeld3
import Derived.Lib.QuietBelow
namespace Go.Proofs.Ytfdofajknnocfaa
open Go.RowKit

/-- Cells of a way, of an arm. -/
abbrev wayL (x y : Int) : List Value := [.int .i64 x, .int .i64 y]
abbrev armL (x y q : Int) : List Value := [.int .i64 x, .int .i64 y, .int .i64 q]
/-- The order of two arms, as it is worked out. -/
def ordW (x y q u v r : Int) : Int := if cmpI q r = 0 then sideW x y u v else cmpI q r
theorem ordW_zero {x y q u v r : Int} (h : cmpI q r = 0) : ordW x y q u v r = sideW x y u v := by simp [ordW, h]
theorem ordW_some {x y q u v r : Int} (h : cmpI q r ≠ 0) : ordW x y q u v r = cmpI q r := by simp [ordW, h]
/-- The first one that is not nought. -/
def orI (a b : Int) : Int := if a = 0 then b else a
def oppW (x y q u v r : Int) : Bool := decide (sideW x y u v = 0) && !decide (q = r)

set_option maxHeartbeats 800000 in
set_option maxRecDepth 100000 in
theorem or_two (a b : Int) (B : Nat) (w : World) (hr : Row w B [.int .i64 a, .int .i64 b]) :
    Calls Try.prog 45 #[.slice (some ⟨B, 0, none⟩) 2 2] w fun e w' => e = .returned (.int .i64 (orI a b)) ∧ w = w' := by
  have c0 := hr.c 0 rfl
  have c1 := hr.c 1 rfl
  clear hr
  by_cases ha : a = 0
  · subst ha
    by_cases hb : b = 0
    · subst hb
      go_enter Try.func45, Try.ntmps45
      go_wp2
      refine wp_loop_rounds 3 ?_
      iterate 3 (rw [rounds_succ]; go_wp2)
      go_ret
      exact ⟨rfl, rfl⟩
    · go_enter Try.func45, Try.ntmps45
      go_wp2
      refine wp_loop_rounds 3 ?_
      iterate 2 (rw [rounds_succ]; go_wp2)
      go_ret
      exact ⟨rfl, rfl⟩
  · have HV := Lib.hid (show orI a b = a by rw [orI, if_neg ha])
    go_enter Try.func45, Try.ntmps45
    go_wp2
    refine wp_loop_rounds 3 ?_
    iterate 1 (rw [rounds_succ]; go_wp2)
    go_ret
    exact ⟨by first | rfl | (rw [HV.out]; rfl), rfl⟩

set_option maxHeartbeats 1600000 in
set_option maxRecDepth 100000 in
theorem order_any (x y q u v r : Int) (w : World) :
    Calls Try.prog 27 #[armV x y q, armV u v r] w fun e w' => e = .returned (.int .i64 (ordW x y q u v r)) ∧ Below w.heap.size w w' := by
  have HO := Lib.hid (show orI (cmpI q r) (sideW x y u v) = ordW x y q u v r from rfl)
  go_enter Try.func27, Try.ntmps27
  go_wp2_with fail
  have hS : RS w [(w.heap.size, armL x y q), (w.heap.size + 1, armL u v r)] _ :=
    ((RS.nil w).new (B := w.heap.size) rfl (armL x y q) 50).new (B := w.heap.size + 1) (by simp) (armL u v r) 50
  generalize World.alloc _ _ = W0 at hS ⊢
  generalize hL : [(w.heap.size, armL x y q), (w.heap.size + 1, armL u v r)] = L at hS
  have HL := Lib.hid hL; clear hL
  have a0 : ∀ W, SL w L W → W.cell? ⟨w.heap.size, 0, none⟩ = some (.int .i64 x) := fun W h => h.c 0 (by rw [← HL.out]; rfl) 0 rfl
  have a1 : ∀ W, SL w L W → W.cell? ⟨w.heap.size, 1, none⟩ = some (.int .i64 y) := fun W h => h.c 0 (by rw [← HL.out]; rfl) 1 rfl
  have a2 : ∀ W, SL w L W → W.cell? ⟨w.heap.size, 2, none⟩ = some (.int .i64 q) := fun W h => h.c 0 (by rw [← HL.out]; rfl) 2 rfl
  have b0 : ∀ W, SL w L W → W.cell? ⟨w.heap.size + 1, 0, none⟩ = some (.int .i64 u) := fun W h => h.c 1 (by rw [← HL.out]; rfl) 0 rfl
  have b1 : ∀ W, SL w L W → W.cell? ⟨w.heap.size + 1, 1, none⟩ = some (.int .i64 v) := fun W h => h.c 1 (by rw [← HL.out]; rfl) 1 rfl
  have b2 : ∀ W, SL w L W → W.cell? ⟨w.heap.size + 1, 2, none⟩ = some (.int .i64 r) := fun W h => h.c 1 (by rw [← HL.out]; rfl) 2 rfl
  have hs : SL w L W0.drew := SL.drew hS
  clear hS
  go_region_held3 (fun w' : World => SL w L w')
    (repeat (first
      | (with_reducible assumption)
      | (with_reducible refine SL.alloc ?_ _)
      | (with_reducible refine SL.drew ?_)
      | (with_reducible refine SL.after ?_ hb)))
    (first
      | (go_at_call 46; refine (compare_int _ _ _).mono ?_; (try clear hb); rintro e w' ⟨rfl, rfl⟩)
      | (go_at_call 47; refine (side_any _ _ _ _ _ _ _).mono ?_; (try clear hb); rintro e w' ⟨rfl, hb⟩)
      | (go_at_call 45; refine (or_two _ _ _ _ (by first | exact Row.at rfl _ _ | exact (Row.at rfl _ _).drew)).mono ?_; rintro e w' ⟨rfl, rfl⟩))
  all_goals
    have hq := ‹SL w L _›
    clear a0 a1 a2 b0 b1 b2
    go_wp2
    go_ret
    exact ⟨by rw [← HO.out]; rfl, hq.2⟩

set_option maxHeartbeats 1600000 in
set_option maxRecDepth 100000 in
theorem opposite_any (x y q u v r : Int) (w : World) :
    Calls Try.prog 30 #[armV x y q, armV u v r] w fun e w' => e = .returned (.bool (oppW x y q u v r)) ∧ Below w.heap.size w w' := by
  have HB := Lib.hid (fun o o2 => ((Below.refl w.heap.size w).alloc (Nat.le_refl _) o).alloc (by simp) o2)
  by_cases h1 : sideW x y u v = 0
  · by_cases h2 : q = r
    all_goals
      have h3 : (q != r) = !decide (q = r) := by by_cases h : q = r <;> simp [h]
      simp only [h2, decide_true, decide_false, Bool.not_true, Bool.not_false] at h3
      have HO := Lib.hid (show oppW x y q u v r = _ by simp only [oppW, h1, h2, decide_true, decide_false, Bool.not_true, Bool.not_false, Bool.and_true, Bool.and_false]; rfl)
      have HS := Lib.hid h1
      clear h1
      go_enter Try.func30, Try.ntmps30
      go_wp2_with fail
      refine (side_any _ _ _ _ _ _ _).mono ?_
      rintro e w1 ⟨rfl, hb⟩
      obtain ⟨hc, hf⟩ := bcell hb
      rw [HS.out]
      have hB : Below w.heap.size w w1 := Below.trans (HB.out _ _) (hb.mono (by simp; omega))
      clear hb
      go_wp2
      go_ret
      exact ⟨by rw [HO.out]; rfl, hB⟩
  · have HO := Lib.hid (show oppW x y q u v r = false by simp only [oppW, h1, decide_false, Bool.false_and])
    have h2 : (sideW x y u v == 0) = false := by simpa using h1
    clear h1
    go_enter Try.func30, Try.ntmps30
    go_wp2_with fail
    refine (side_any _ _ _ _ _ _ _).mono ?_
    rintro e w1 ⟨rfl, hb⟩
    obtain ⟨hc, hf⟩ := bcell hb
    have hB : Below w.heap.size w w1 := Below.trans (HB.out _ _) (hb.mono (by simp; omega))
    clear hb
    go_wp2
    go_ret
    exact ⟨by rw [HO.out]; rfl, hB⟩
end Go.Proofs.Ytfdofajknnocfaa
