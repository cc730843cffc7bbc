/- The frame of AngleSorts: a slice of ways as an argument, opened. -/
import Derived.Test.YtfdofajknnocfaaNP
import Derived.Test.YtfdofajknnocfaaNX
import Derived.Deep.SlicePairs
namespace Go.Proofs.Ytfdofajknnocfaa
open Go.RowKit Go.ChangeShapes Go.WideShapes Go.Deep

theorem laidOut : laidOutB Try.prog = true := by kernel_rfl
set_option maxRecDepth 100000 in
/-- A slice of ways that came in: where its ways lie. -/
theorem open_ways_arg {H : Type} {enc : TypeId × Value → H} {w : World} {spare : Nat → Bool} {held : Bool} {A : Option Addr} {n c : Nat} {d : DataW H} {p : List MemPlace}
    (h : DataW.Trod enc Try.prog w 0 spare held 39 (.slice A n c) d p) :
    ∃ (ws : List (Int × Int)), ws.length = n ∧ (∀ p, p ∈ ws → (Lit.int .i64 p.1).wf = true ∧ (Lit.int .i64 p.2).wf = true) ∧ (0 < n → ∃ b o, A = some ⟨b, o, none⟩ ∧ WaysL w b o ws) := by
  obtain ⟨fuel, hf⟩ := h
  rcases open_slice_pairs Try.underlying39 Try.underlying23 cellsWay rfl rfl cellsI64 cellsI64 hf with ⟨hcs, _⟩ | ⟨a, len, cap, mm, nn, V0, V1, D0, D1, P0, P1, hcs, _, hl, _, hmm, _, hi⟩
  · simp [Value.cells] at hcs
    obtain ⟨rfl, rfl, rfl⟩ := hcs
    exact ⟨[], rfl, fun p hp => (List.not_mem_nil hp).elim, fun h => by omega⟩
  · simp [Value.cells] at hcs
    obtain ⟨rfl, rfl, rfl⟩ := hcs
    have hle : n ≤ mm := by rw [hmm]; split <;> omega
    have H1 : ∀ i, ∃ q : Int × Int, i < n → ((Lit.int .i64 q.1).wf = true ∧ (Lit.int .i64 q.2).wf = true) ∧ w.cell? (a.add (i * 2)) = some (.int .i64 q.1) ∧ w.cell? (a.add (i * 2 + 1)) = some (.int .i64 q.2) := fun i => by
      by_cases e : i < n
      · obtain ⟨c0, c1, g0, g1⟩ := hi i (by omega)
        obtain ⟨x, ex, _, wx⟩ := DataW.trod_int Try.underlying2 g0
        obtain ⟨y, ey, _, wy⟩ := DataW.trod_int Try.underlying2 g1
        simp at ex ey
        exact ⟨(x, y), fun _ => ⟨⟨wx, wy⟩, by rw [c0, ex], by rw [c1, ey]⟩⟩
      · exact ⟨(0, 0), fun h => absurd h e⟩
    have hq := fun i => Classical.choose_spec (H1 i)
    refine ⟨(List.range n).map fun i => Classical.choose (H1 i), by simp, fun p hp => ?_, fun hn => ?_⟩
    · obtain ⟨i, hi, rfl⟩ := List.mem_map.1 hp
      exact (hq i (List.mem_range.1 hi)).1
    · obtain ⟨b, o, spot⟩ := a
      have c00 := ((hq 0) hn).2.1
      have hspot : spot = none := by simpa [Addr.add] using World.cell?_spot c00
      subst hspot
      refine ⟨b, o, rfl, block_lt_of_cell c00, fun i p hi => ?_⟩
      obtain ⟨hi1, hi2⟩ := List.getElem?_eq_some_iff.1 hi
      have hin : i < n := by simpa using hi1
      have e : p = Classical.choose (H1 i) := by rw [← hi2]; simp
      have h := ((hq i) hin).2
      rw [e]
      have e : ∀ j, (⟨b, o, none⟩ : Addr).add j = ⟨b, o + j, none⟩ := fun j => by simp [Addr.add]
      exact ⟨by rw [← h.1, e], by rw [← h.2, e]; rfl⟩
end Go.Proofs.Ytfdofajknnocfaa
