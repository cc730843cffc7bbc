/- A slice of numbers as an argument, opened. -/
import Derived.Test.YtjhcddlhhfjnaaaGreatDoorFR
import Derived.ChangeSlices
namespace Go.Proofs.YtjhcddlhhfjnaaaGreatDoor
open Go.RowKit Go.ChangeShapes Go.WideShapes

theorem laidOut : laidOutB Tryz.prog = true := by kernel_rfl
theorem cI64 : Tryz.prog.cellsOf 2 = 1 := by kernel_rfl
/-- A slice of numbers that came in: where they lie. -/
theorem open_int_arg {H : Type} {enc : TypeId × Value → H} {w : World} {spare : Nat → Bool} {held : Bool} {A : Option Addr} {n c : Nat} {d : DataW H} {p : List MemPlace}
    (h : DataW.Trod enc Tryz.prog w 0 spare held 22 (.slice A n c) d p) :
    ∃ (l : List Int), l.length = n ∧ n ≤ c ∧ (∀ x ∈ l, (Lit.int .i64 x).wf = true) ∧ CellsS w A (intCs l) := by
  obtain ⟨fuel, hf⟩ := h
  rcases open_ints Tryz.underlying22 Tryz.underlying2 cI64 hf with ⟨hcs, _⟩ | ⟨a, len, cap, zs, hcs, _, hl, _, hz, _, hi, hwf⟩
  · simp [Value.cells] at hcs
    obtain ⟨rfl, rfl, rfl⟩ := hcs
    exact ⟨[], rfl, Nat.le_refl _, fun x hx => (List.not_mem_nil hx).elim, CellsS.nil _ _⟩
  · simp [Value.cells] at hcs
    obtain ⟨rfl, rfl, rfl⟩ := hcs
    have hle : n ≤ zs.length := by rw [hz]; split <;> omega
    refine ⟨zs.take n, by simp; omega, hl, fun x hx => hwf x (List.mem_of_mem_take hx), fun h0 => ?_⟩
    have hn0 : 0 < n := by
      rw [intCs_len] at h0
      simp at h0; omega
    obtain ⟨b, o, spot⟩ := a
    have c0 := hi 0 (by omega)
    have hspot : spot = none := by simpa [Addr.add] using World.cell?_spot c0
    subst hspot
    refine ⟨b, o, rfl, block_lt_of_cell c0, fun j v hv => ?_⟩
    unfold intCs at hv
    rw [List.getElem?_map] at hv
    obtain ⟨x, hx, rfl⟩ := Option.map_eq_some_iff.1 hv
    obtain ⟨hj, hx⟩ := List.getElem?_eq_some_iff.1 hx
    simp at hj hx
    have := hi j (by omega)
    rw [show (⟨b, o, none⟩ : Addr).add j = ⟨b, o + j, none⟩ by unfold Addr.add; split <;> simp_all, List.getD_eq_getElem?_getD, List.getElem?_eq_getElem (by omega), hx] at this
    exact this
end Go.Proofs.YtjhcddlhhfjnaaaGreatDoor
