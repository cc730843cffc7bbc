/- A slice of segments as an argument, opened. -/
import Derived.Test.YtdfmmkidknginaaGreatDoorNkQC
import Derived.Test.YtdfmmkidknginaaGreatDoorZKkZG
import Derived.Deep.SlicePairs
namespace Go.Proofs.YtdfmmkidknginaaGreatDoor
open Go.ChangeShapes Go.WideShapes Go.ChangeAt Go.RowKit Go.Deep CrossMath

theorem laidOut : laidOutB Tryz.prog = true := by kernel_rfl
theorem open_segc {H : Type} {enc : TypeId × Value → H} {w : World} {base : Nat} {spare : Nat → Bool} {held : Bool} {fuel : Nat} {cs : List Value} {y : DataW H × List MemPlace} (hl : cs.length = 4)
    (h : DataW.trod enc Tryz.prog w base spare held fuel 25 cs = some y) : ∃ ax ay bx bY : Int, cs = [.int .i64 ax, .int .i64 ay, .int .i64 bx, .int .i64 bY] := by
  match cs, hl with
  | [c0, c1, c2, c3], _ =>
    obtain ⟨xs, n, _, hx, _, hlen, hg⟩ := DataW.trod_struct Tryz.underlying25 h
    match xs, hlen with
    | [y0, y1], _ =>
      have g0 : DataW.trod enc Tryz.prog w base spare held n 23 (([c0, c1, c2, c3].drop 0).take (Tryz.prog.cellsOf 23)) = some y0 := hg 0 _ rfl
      have g1 : DataW.trod enc Tryz.prog w base spare held n 23 (([c0, c1, c2, c3].drop 2).take (Tryz.prog.cellsOf 23)) = some y1 := hg 1 _ rfl
      rw [cellsNode] at g0 g1
      obtain ⟨a, b, rfl, rfl, _, _, _⟩ := open_node (y := y0) g0
      obtain ⟨c, e, rfl, rfl, _, _, _⟩ := open_node (y := y1) g1
      exact ⟨a, b, c, e, rfl⟩
set_option maxRecDepth 100000 in
/-- A slice of segments that came in: where they lie. -/
theorem open_segs_arg {H : Type} {enc : TypeId × Value → H} {w : World} {spare : Nat → Bool} {held : Bool} {A : Option Addr} {n c : Nat} {d : DataW H} {p : List MemPlace}
    (h : DataW.Trod enc Tryz.prog w 0 spare held 70 (.slice A n c) d p) : ∃ L : List Sg, L.length = n ∧ CellsS w A (segCs L) := by
  obtain ⟨fuel, hf⟩ := h
  rcases open_slice Tryz.underlying70 hf with ⟨hcs, _⟩ | ⟨a, len, cap, mm, nn, D, Pl, hcs, _, hl, _, hmm, _, hi⟩
  · simp [Value.cells] at hcs
    obtain ⟨rfl, rfl, rfl⟩ := hcs
    exact ⟨[], rfl, CellsS.nil _ _⟩
  · simp [Value.cells] at hcs
    obtain ⟨rfl, rfl, rfl⟩ := hcs
    have hle : n ≤ mm := by rw [hmm]; split <;> omega
    have H1 : ∀ i, ∃ s : Sg, i < n → ∀ j v, [Value.int .i64 s.ax, .int .i64 s.ay, .int .i64 s.bx, .int .i64 s.bY][j]? = some v → w.cell? (a.add (i * 4 + j)) = some v := fun i => by
      by_cases e : i < n
      · obtain ⟨cs', hc, ht⟩ := hi i (by omega)
        rw [cellsSeg] at hc
        obtain ⟨_, hcl, hat⟩ := World.cells?_some hc
        obtain ⟨ax, ay, bx, bY, rfl⟩ := open_segc hcl ht
        refine ⟨⟨ax, ay, bx, bY⟩, fun _ j v hv => ?_⟩
        have hj : j < 4 := by
          have := (List.getElem?_eq_some_iff.1 hv).1
          simpa using this
        rw [← Go.Deep.add_add, hat j hj]
        exact hv
      · exact ⟨⟨0, 0, 0, 0⟩, fun h => absurd h e⟩
    have hq := fun i => Classical.choose_spec (H1 i)
    refine ⟨(List.range n).map fun i => Classical.choose (H1 i), by simp, fun h0 => ?_⟩
    have hn : 0 < n := by
      rw [segCs_len] at h0
      simp at h0; omega
    obtain ⟨b, o, spot⟩ := a
    have c00 := (hq 0) hn 0 _ rfl
    have hspot : spot = none := by simpa [Addr.add] using World.cell?_spot c00
    subst hspot
    refine ⟨b, o, rfl, block_lt_of_cell c00, fun k v hv => ?_⟩
    have hk := (List.getElem?_eq_some_iff.1 hv).1
    rw [segCs_len] at hk
    simp at hk
    have hi4 : k / 4 < n := by omega
    have hg : ((List.range n).map fun i => Classical.choose (H1 i))[k / 4]? = some (Classical.choose (H1 (k / 4))) := by
      rw [List.getElem?_map, List.getElem?_range hi4]; rfl
    obtain ⟨g0, g1, g2, g3⟩ := segCs_get _ _ _ hg
    have e : ∀ j, (⟨b, o, none⟩ : Addr).add j = ⟨b, o + j, none⟩ := fun j => by simp [Addr.add]
    have hh := hq (k / 4) hi4
    have h4 : k = k / 4 * 4 ∨ k = k / 4 * 4 + 1 ∨ k = k / 4 * 4 + 2 ∨ k = k / 4 * 4 + 3 := by omega
    rcases h4 with h4 | h4 | h4 | h4
    · rw [h4] at hv ⊢
      rw [g0] at hv; cases hv
      rw [← e]; exact hh 0 _ rfl
    · rw [h4] at hv ⊢
      rw [g1] at hv; cases hv
      rw [← e]; exact hh 1 _ rfl
    · rw [h4] at hv ⊢
      rw [g2] at hv; cases hv
      rw [← e]; exact hh 2 _ rfl
    · rw [h4] at hv ⊢
      rw [g3] at hv; cases hv
      rw [← e]; exact hh 3 _ rfl
end Go.Proofs.YtdfmmkidknginaaGreatDoor
