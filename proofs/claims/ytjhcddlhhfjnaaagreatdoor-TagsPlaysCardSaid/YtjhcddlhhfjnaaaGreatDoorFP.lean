/- A slice of calls as an argument, opened. -/
import Derived.Test.YtjhcddlhhfjnaaaGreatDoorFS
import Derived.Test.YtjhcddlhhfjnaaaGreatDoorVW
import Derived.Deep.SlicePairs
namespace Go.Proofs.YtjhcddlhhfjnaaaGreatDoor
open Go.RowKit Go.ChangeShapes Go.WideShapes Go.Deep

theorem cellsAct : Tryz.prog.cellsOf 41 = 2 := by kernel_rfl
theorem cellsBool : Tryz.prog.cellsOf 4 = 1 := by kernel_rfl
theorem actCs_of : ∀ (l : List (Bool × Int)) (j : Nat) (u : Value), (actCs l)[j]? = some u → ∃ i p, l[i]? = some p ∧ ((j = i * 2 ∧ u = .bool p.1) ∨ (j = i * 2 + 1 ∧ u = .int .i64 p.2))
  | [], j, u, h => by simp [actCs] at h
  | p :: r, 0, u, h => ⟨0, p, rfl, .inl ⟨rfl, by simpa [actCs] using h.symm⟩⟩
  | p :: r, 1, u, h => ⟨0, p, rfl, .inr ⟨rfl, by simpa [actCs] using h.symm⟩⟩
  | p :: r, j + 2, u, h => by
    obtain ⟨i, q, hi, hj⟩ := actCs_of r j u (by simpa [actCs] using h)
    exact ⟨i + 1, q, by simpa using hi, hj.elim (fun h => .inl ⟨by omega, h.2⟩) (fun h => .inr ⟨by omega, h.2⟩)⟩
set_option maxRecDepth 100000 in
/-- A slice of calls that came in: where they lie. -/
theorem open_acts_arg {H : Type} {enc : TypeId × Value → H} {w : World} {spare : Nat → Bool} {held : Bool} {A : Option Addr} {n c : Nat} {d : DataW H} {p : List MemPlace}
    (h : DataW.Trod enc Tryz.prog w 0 spare held 38 (.slice A n c) d p) :
    ∃ (l : List (Bool × Int)), l.length = n ∧ n ≤ c ∧ CellsS w A (actCs l) := by
  obtain ⟨fuel, hf⟩ := h
  rcases open_slice_pairs Tryz.underlying38 Tryz.underlying41 cellsAct rfl rfl cellsBool cI64 hf with ⟨hcs, _⟩ | ⟨a, len, cap, mm, nn, V0, V1, D0, D1, P0, P1, hcs, _, hl, _, hmm, _, hi⟩
  · simp [Value.cells] at hcs
    obtain ⟨rfl, rfl, rfl⟩ := hcs
    exact ⟨[], rfl, Nat.le_refl _, CellsS.nil _ _⟩
  · simp [Value.cells] at hcs
    obtain ⟨rfl, rfl, rfl⟩ := hcs
    have hle : n ≤ mm := by rw [hmm]; split <;> omega
    have H1 : ∀ i, ∃ q : Bool × Int, i < n → w.cell? (a.add (i * 2)) = some (.bool q.1) ∧ w.cell? (a.add (i * 2 + 1)) = some (.int .i64 q.2) := fun i => by
      by_cases e : i < n
      · obtain ⟨c0, c1, g0, g1⟩ := hi i (by omega)
        obtain ⟨x, ex, _⟩ := DataW.trod_bool Tryz.underlying4 g0
        obtain ⟨y, ey, _, wy⟩ := DataW.trod_int Tryz.underlying2 g1
        simp at ex ey
        exact ⟨(x, y), fun _ => ⟨by rw [c0, ex], by rw [c1, ey]⟩⟩
      · exact ⟨(false, 0), fun h => absurd h e⟩
    have hq := fun i => Classical.choose_spec (H1 i)
    refine ⟨(List.range n).map fun i => Classical.choose (H1 i), by simp, hl, fun h0 => ?_⟩
    have hn : 0 < n := by
      rw [actCs_len] at h0
      simp at h0; omega
    obtain ⟨b, o, spot⟩ := a
    have c00 := ((hq 0) hn).1
    have hspot : spot = none := by simpa [Addr.add] using World.cell?_spot c00
    subst hspot
    have e : ∀ j, (⟨b, o, none⟩ : Addr).add j = ⟨b, o + j, none⟩ := fun j => by simp [Addr.add]
    refine ⟨b, o, rfl, block_lt_of_cell c00, fun j v hv => ?_⟩
    obtain ⟨i, p, hi, hc⟩ := actCs_of _ j v hv
    obtain ⟨hi1, hi2⟩ := List.getElem?_eq_some_iff.1 hi
    have hin : i < n := by simpa using hi1
    have ep : p = Classical.choose (H1 i) := by rw [← hi2]; simp
    have h := (hq i) hin
    rcases hc with ⟨rfl, rfl⟩ | ⟨rfl, rfl⟩
    · rw [ep, ← h.1, e]
    · rw [ep, ← h.2, e]
end Go.Proofs.YtjhcddlhhfjnaaaGreatDoor
