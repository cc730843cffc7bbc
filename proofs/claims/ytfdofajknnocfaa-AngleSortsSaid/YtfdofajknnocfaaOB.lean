/- What is known of angle's circle under way: rows by quarters. -/
import Derived.Test.YtfdofajknnocfaaOA
import Derived.Test.YtfdofajknnocfaaNW
namespace Go.Proofs.Ytfdofajknnocfaa
open Go.RowKit Go.Sort

theorem infoArm2 : (Try.prog.info? 50).map (fun i => (i.zero, i.size, i.bytes)) = some (some (armV 0 0 0), 3, 24) := by kernel_rfl
/-- Arms in memory, as a list of their ways. -/
def ArmsL (w : World) (b o : Nat) (ws : List (Int × Int)) : Prop :=
  b < w.heap.size ∧ ∀ i p, ws[i]? = some p → w.cell? ⟨b, o + i * 3, none⟩ = some (.int .i64 p.1) ∧ w.cell? ⟨b, o + i * 3 + 1, none⟩ = some (.int .i64 p.2) ∧ w.cell? ⟨b, o + i * 3 + 2, none⟩ = some (.int .i64 (quart p.1 p.2))
theorem ArmsL.below {w w1 : World} {b o B : Nat} {ws : List (Int × Int)} (h : ArmsL w b o ws) (hb : Below B w w1) (hB : b < B) : ArmsL w1 b o ws := by
  refine ⟨Nat.lt_of_lt_of_le h.1 hb.size, fun i p hi => ?_⟩
  have hc : ∀ j, w1.cell? ⟨b, j, none⟩ = w.cell? ⟨b, j, none⟩ := fun j => hb.cell (p := ⟨b, j, none⟩) hB
  rw [hc, hc, hc]
  exact h.2 i p hi
theorem quart_nat (x y : Int) : ∃ m : Nat, m < 4 ∧ quart x y = m := by
  unfold quart
  split
  · exact ⟨3, by omega, rfl⟩
  · split
    · exact ⟨2, by omega, rfl⟩
    · split
      · exact ⟨1, by omega, rfl⟩
      · exact ⟨0, by omega, rfl⟩
/-- The class of a way. -/
def keyQ (p : Int × Int) : Nat := (quart p.1 p.2).toNat
def partQ (ws : List (Int × Int)) (q : Nat) : List (Int × Int) := ws.filter fun p => keyQ p == q
theorem partQ_snoc (ws : List (Int × Int)) (x : Int × Int) : partQ (ws ++ [x]) = upd (partQ ws) (keyQ x) (partQ ws (keyQ x) ++ [x]) := by
  funext q
  unfold partQ upd
  rw [List.filter_append]
  by_cases e : q = keyQ x
  · subst e; simp
  · rw [if_neg e]
    have : (keyQ x == q) = false := by simpa using fun h => e h.symm
    simp [this]
/-- What is known of the circle under way. -/
structure CirK (C : Nat) (A : Nat → Option Addr) (N cap : Nat → Nat) (L : Nat → List (Int × Int)) (W0 W : World) : Prop where
  rows : Rows4 (C + 1) A N cap L W
  cells : Cells4 C A N cap W
  emp : ∀ q, q < 4 → N q = 0 → A q = none ∧ cap q = 0
  below : Below C W0 W
end Go.Proofs.Ytfdofajknnocfaa
