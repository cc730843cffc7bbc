/- The frame of layer 11's statements: a slice of acts as an argument, opened; a world for the witness. -/
import Derived.Test.YtncgjlhmgdgokaaRows
import Derived.Test.YtncgjlhmgdgokaaBF
import Derived.OpenShut
import Derived.ChangeArms
import Derived.WideShapes
import Derived.WalkArith
import Derived.RowKit
import Derived.ProofKit
import Derived.Deep.DeepHandedRow
import Derived.Lib.LaidTab
import Derived.Deep.SlicePairs
namespace Go.Proofs.Ytncgjlhmgdgokaa
open Go.ChangeShapes Go.WideShapes Go.ChangeAt Go.RowKit Go.Deep

theorem cellsAct : Try.prog.cellsOf 52 = 2 := by kernel_rfl
theorem cellsInt : Try.prog.cellsOf 3 = 1 := by kernel_rfl
theorem own : ownKnob Try.prog.godebug = none := by kernel_rfl
noncomputable def bareWorld (os : Os) : World := World.holding Try.prog os ⟨#[], #[], []⟩
theorem laidOut : laidOutB Try.prog = true := by kernel_rfl
set_option maxRecDepth 100000 in
/-- A slice of acts that came in: where its acts lie. -/
theorem open_acts_arg {H : Type} {enc : TypeId × Value → H} {w : World} {spare : Nat → Bool} {held : Bool} {A : Option Addr} {n c : Nat} {d : DataW H} {p : List MemPlace}
    (h : DataW.Trod enc Try.prog w 0 spare held 22 (.slice A n c) d p) :
    ∃ (ws : List (Int × Int)), ws.length = n ∧ (∀ p, p ∈ ws → (Lit.int .i64 p.1).wf = true ∧ (Lit.int .i64 p.2).wf = true) ∧ ActsS w A ws := by
  obtain ⟨fuel, hf⟩ := h
  rcases open_slice_pairs Try.underlying22 Try.underlying52 cellsAct rfl rfl cellsInt cellsInt hf with ⟨hcs, _⟩ | ⟨a, len, cap, mm, nn, V0, V1, D0, D1, P0, P1, hcs, _, hl, _, hmm, _, hi⟩
  · simp [Value.cells] at hcs
    obtain ⟨rfl, rfl, rfl⟩ := hcs
    exact ⟨[], rfl, fun p hp => (List.not_mem_nil hp).elim, fun h => absurd h (by simp)⟩
  · simp [Value.cells] at hcs
    obtain ⟨rfl, rfl, rfl⟩ := hcs
    have hle : n ≤ mm := by rw [hmm]; split <;> omega
    have H1 : ∀ i, ∃ q : Int × Int, i < n → ((Lit.int .i64 q.1).wf = true ∧ (Lit.int .i64 q.2).wf = true) ∧ w.cell? (a.add (i * 2)) = some (.int .i64 q.1) ∧ w.cell? (a.add (i * 2 + 1)) = some (.int .i64 q.2) := fun i => by
      by_cases e : i < n
      · obtain ⟨c0, c1, g0, g1⟩ := hi i (by omega)
        obtain ⟨x, ex, _, wx⟩ := DataW.trod_int Try.underlying3 g0
        obtain ⟨y, ey, _, wy⟩ := DataW.trod_int Try.underlying3 g1
        simp at ex ey
        exact ⟨(x, y), fun _ => ⟨⟨wx, wy⟩, by rw [c0, ex], by rw [c1, ey]⟩⟩
      · exact ⟨(0, 0), fun h => absurd h e⟩
    have hq := fun i => Classical.choose_spec (H1 i)
    refine ⟨(List.range n).map fun i => Classical.choose (H1 i), by simp, fun p hp => ?_, fun hn => ?_⟩
    · obtain ⟨i, hi, rfl⟩ := List.mem_map.1 hp
      exact (hq i (List.mem_range.1 hi)).1
    · have hn0 : 0 < n := by simpa using hn
      obtain ⟨b, o, spot⟩ := a
      have c00 := ((hq 0) hn0).2.1
      have hspot : spot = none := by simpa [Addr.add] using World.cell?_spot c00
      subst hspot
      refine ⟨b, o, rfl, block_lt_of_cell c00, fun i p hi => ?_⟩
      obtain ⟨hi1, hi2⟩ := List.getElem?_eq_some_iff.1 hi
      have hin : i < n := by simpa using hi1
      have e : p = Classical.choose (H1 i) := by rw [← hi2]; simp
      have h := ((hq i) hin).2
      rw [e]
      have e : ∀ j, (⟨b, o, none⟩ : Addr).add j = ⟨b, o + j, none⟩ := fun j => by simp [Addr.add]
      exact ⟨by rw [← h.1, e], by rw [← h.2, e]; rfl⟩
end Go.Proofs.Ytncgjlhmgdgokaa
