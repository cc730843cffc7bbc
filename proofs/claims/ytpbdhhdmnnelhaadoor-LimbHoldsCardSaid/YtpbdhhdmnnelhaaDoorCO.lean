/- A slice of Ints as an argument, opened; when all of them may be, their numbers. -/
import Derived.Test.YtpbdhhdmnnelhaaDoorFr
import Derived.Test.YtpbdhhdmnnelhaaDoorCD
import Derived.Deep.Slices
namespace Go.Proofs.YtpbdhhdmnnelhaaDoor
open Go.RowKit Go.ChangeShapes Go.WideShapes Go.Deep

theorem laidOut : laidOutB Tryd.prog = true := by kernel_rfl
set_option maxRecDepth 100000 in
theorem open_ivc {H : Type} {enc : TypeId × Value → H} {w : World} {base : Nat} {spare : Nat → Bool} {held : Bool} {fuel : Nat} {cs : List Value} {x : DataW H × List MemPlace}
    (hl : cs.length = 5) (h : DataW.trod enc Tryd.prog w base spare held fuel 25 cs = some x) :
    ∃ (s : Bool) (a b c e : Int), cs = [.bool s, .int .u64 a, .int .u64 b, .int .u64 c, .int .u64 e] ∧ (0 ≤ a ∧ a < 18446744073709551616) ∧ (0 ≤ b ∧ b < 18446744073709551616) ∧ (0 ≤ c ∧ c < 18446744073709551616) ∧ (0 ≤ e ∧ e < 18446744073709551616) := by
  match cs, hl with
  | [c0, c1, c2, c3, c4], _ =>
    obtain ⟨xs, n, _, hx, _, hlen, hg⟩ := DataW.trod_struct Tryd.underlying25 h
    match xs, hlen with
    | [y0, y1], _ =>
      have g0 : DataW.trod enc Tryd.prog w base spare held n 4 (([c0, c1, c2, c3, c4].drop 0).take (Tryd.prog.cellsOf 4)) = some y0 := hg 0 _ rfl
      have g1 : DataW.trod enc Tryd.prog w base spare held n 23 (([c0, c1, c2, c3, c4].drop 1).take (Tryd.prog.cellsOf 23)) = some y1 := hg 1 _ rfl
      rw [cellsB] at g0
      rw [cellsMag] at g1
      obtain ⟨s, es, ey⟩ := DataW.trod_bool Tryd.underlying4 (x := y0) g0
      obtain ⟨a, b, c, e, e1, e2, e3, e4, ez, wa, wb, wc, we⟩ := open_mag (y := y1) g1
      subst e1 e2 e3 e4
      simp at es
      subst es
      exact ⟨s, a, b, c, e, rfl, wf_bd wa, wf_bd wb, wf_bd wc, wf_bd we⟩
theorem row4_BdF {a b c d : Int} (ha : 0 ≤ a ∧ a < 18446744073709551616) (hb : 0 ≤ b ∧ b < 18446744073709551616) (hc : 0 ≤ c ∧ c < 18446744073709551616) (hd : 0 ≤ d ∧ d < 18446744073709551616) : BdF (row4 a b c d) := row4_in ha hb hc hd
/-- A slice of Ints that came in: where its Ints lie. -/
theorem open_ints_arg {H : Type} {enc : TypeId × Value → H} {w : World} {spare : Nat → Bool} {held : Bool} {A : Option Addr} {n c : Nat} {d : DataW H} {p : List MemPlace} (hw : 0 < w.heap.size)
    (h : DataW.Trod enc Tryd.prog w 0 spare held 44 (.slice A n c) d p) :
    ∃ (b o : Nat) (neg : Nat → Bool) (m : Nat → Nat → Int), (0 < n → A = some ⟨b, o, none⟩) ∧ b < w.heap.size ∧ IntsAt w b o n neg m ∧ ∀ k, BdF (m k) := by
  obtain ⟨fuel, hf⟩ := h
  rcases open_slice Tryd.underlying44 hf with ⟨hcs, _⟩ | ⟨a, len, cap, mm, nn, D, Pl, hcs, _, hl, _, hmm, _, hi⟩
  · simp [Value.cells] at hcs
    obtain ⟨rfl, rfl, rfl⟩ := hcs
    exact ⟨0, 0, fun _ => false, fun _ _ => 0, fun h => by omega, hw, fun i hi => by omega, fun _ => zero_bd⟩
  · simp [Value.cells] at hcs
    obtain ⟨rfl, rfl, rfl⟩ := hcs
    rcases Nat.eq_zero_or_pos n with rfl | hn
    · exact ⟨0, 0, fun _ => false, fun _ _ => 0, fun h => by omega, hw, fun i hi => by omega, fun _ => zero_bd⟩
    · have hle : n ≤ mm := by rw [hmm]; split <;> omega
      have H1 : ∀ i, ∃ q : Bool × (Nat → Int), BdF q.2 ∧ (i < n → ∀ j v, [Value.bool q.1, .int .u64 (q.2 0), .int .u64 (q.2 1), .int .u64 (q.2 2), .int .u64 (q.2 3)][j]? = some v → w.cell? (a.add (i * 5 + j)) = some v) := fun i => by
        by_cases e : i < n
        · obtain ⟨cs', hc, ht⟩ := hi i (by omega)
          rw [cellsInt] at hc
          obtain ⟨_, hcl, hat⟩ := World.cells?_some hc
          obtain ⟨s, x0, x1, x2, x3, rfl, h0, h1, h2, h3⟩ := open_ivc hcl ht
          refine ⟨(s, row4 x0 x1 x2 x3), row4_BdF h0 h1 h2 h3, fun _ j v hv => ?_⟩
          have hj : j < 5 := by
            have := (List.getElem?_eq_some_iff.1 hv).1
            simpa using this
          rw [← Go.Deep.add_add, hat j hj]
          exact hv
        · exact ⟨(false, fun _ => 0), zero_bd, fun h => absurd h e⟩
      have hq := fun i => Classical.choose_spec (H1 i)
      obtain ⟨b, o, spot⟩ := a
      have c00 := (hq 0).2 hn 0 _ rfl
      have hspot : spot = none := by simpa [Addr.add] using World.cell?_spot c00
      subst hspot
      refine ⟨b, o, fun i => (Classical.choose (H1 i)).1, fun i => (Classical.choose (H1 i)).2, fun _ => rfl, block_lt_of_cell c00, fun i hi => ?_, fun k => (hq k).1⟩
      have h := (hq i).2 hi
      have e : ∀ j, (⟨b, o, none⟩ : Addr).add (i * 5 + j) = ⟨b, o + i * 5 + j, none⟩ := fun j => by simp [Addr.add, Nat.add_assoc]
      exact ⟨(congrArg w.cell? (e 0)).symm.trans (h 0 _ rfl), (congrArg w.cell? (e 1)).symm.trans (h 1 _ rfl), (congrArg w.cell? (e 2)).symm.trans (h 2 _ rfl), (congrArg w.cell? (e 3)).symm.trans (h 3 _ rfl), (congrArg w.cell? (e 4)).symm.trans (h 4 _ rfl)⟩
/-- Ints that all may be are those of numbers. -/
theorem ints_nums {w : World} {b o n : Nat} {neg : Nat → Bool} {m : Nat → Nat → Int} (hi : IntsAt w b o n neg m) (hm : ∀ k, BdF (m k)) (hr : ∀ i, i < n → (neg i && zeroB (m i 0) (m i 1) (m i 2) (m i 3)) = false) :
    ∃ zs : Nat → Int, (∀ i, i < n → (zs i).natAbs < T256) ∧ IntsAt w b o n (fun i => decide (zs i < 0)) (fun i k => (W64 (zs i).natAbs k : Nat)) := by
  have H1 : ∀ i, ∃ z : Int, i < n → z.natAbs < T256 ∧ neg i = decide (z < 0) ∧ m i 0 = (W64 z.natAbs 0 : Nat) ∧ m i 1 = (W64 z.natAbs 1 : Nat) ∧ m i 2 = (W64 z.natAbs 2 : Nat) ∧ m i 3 = (W64 z.natAbs 3 : Nat) := fun i => by
    by_cases e : i < n
    · obtain ⟨z, hz, _, h0, h1, h2, h3, h4⟩ := iv_num (neg i) (m i 0) (m i 1) (m i 2) (m i 3) (hm i 0) (hm i 1) (hm i 2) (hm i 3) (hr i e)
      exact ⟨z, fun _ => ⟨hz, h0, h1, h2, h3, h4⟩⟩
    · exact ⟨0, fun h => absurd h e⟩
  obtain ⟨zs, hzs⟩ : ∃ zs : Nat → Int, ∀ i, i < n → (zs i).natAbs < T256 ∧ neg i = decide (zs i < 0) ∧ m i 0 = (W64 (zs i).natAbs 0 : Nat) ∧ m i 1 = (W64 (zs i).natAbs 1 : Nat) ∧ m i 2 = (W64 (zs i).natAbs 2 : Nat) ∧ m i 3 = (W64 (zs i).natAbs 3 : Nat) :=
    ⟨fun i => Classical.choose (H1 i), fun i => Classical.choose_spec (H1 i)⟩
  refine ⟨zs, fun i hn => (hzs i hn).1, fun i hn => ?_⟩
  obtain ⟨_, h0, h1, h2, h3, h4⟩ := hzs i hn
  have h := hi i hn
  rw [h0, h1, h2, h3, h4] at h
  exact h
end Go.Proofs.YtpbdhhdmnnelhaaDoor
