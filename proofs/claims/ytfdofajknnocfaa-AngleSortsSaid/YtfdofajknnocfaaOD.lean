/- A quarter's arms, sorted where they lie. -/
import Derived.Test.YtfdofajknnocfaaOB
import Derived.Test.YtfdofajknnocfaaOC
namespace Go.Proofs.Ytfdofajknnocfaa
open Go.RowKit Go.Sort

theorem encA_get (p : Int × Int) (r : Nat) (hr : r < 3) : (encA p)[r]! = (if r = 0 then .int .i64 p.1 else if r = 1 then .int .i64 p.2 else .int .i64 (quart p.1 p.2)) := by
  match r, hr with
  | 0, _ => rfl
  | 1, _ => rfl
  | 2, _ => rfl
  | _ + 3, h => omega
theorem holds_cells {W : World} {g : Nat} {d : Array (Int × Int)} (h : HoldsK encA 3 W g 0 d) (hg : g < W.heap.size) : ArmsL W g 0 d.toList := by
  refine ⟨hg, fun i p hi => ?_⟩
  have hlt : i < d.size := by
    have := (List.getElem?_eq_some_iff.1 hi).1
    simpa using this
  have hp : d[i]! = p := by
    rw [getElem!_pos d i hlt]
    have := (List.getElem?_eq_some_iff.1 hi).2
    simpa using this
  have hc : ∀ r, r < 3 → W.cell? ⟨g, i * 3 + r, none⟩ = some ((encA p)[r]!) := fun r hr => by
    have h1 := (h (i * 3 + r) (by rw [size_flatK]; omega)).1
    rw [get_flatK _ _ _ _ (by omega), show (i * 3 + r) / 3 = i by omega, show (i * 3 + r) % 3 = r by omega, hp, Nat.zero_add] at h1
    exact h1
  have h0 := hc 0 (by omega)
  have h1 := hc 1 (by omega)
  have h2 := hc 2 (by omega)
  rw [encA_get p 0 (by omega)] at h0
  rw [encA_get p 1 (by omega)] at h1
  rw [encA_get p 2 (by omega)] at h2
  rw [Nat.zero_add]
  exact ⟨h0, h1, h2⟩
theorem holds_of {W : World} {base g N cap : Nat} {l : List (Int × Int)} (h : OwnA W base (some ⟨g, 0, none⟩) l N cap) : HoldsK encA 3 W g 0 l.toArray := by
  obtain ⟨ho, rfl⟩ := h
  intro j hj
  rw [size_flatK, List.size_toArray] at hj
  obtain ⟨i, r, hr, rfl⟩ : ∃ i r, r < 3 ∧ j = i * 3 + r := ⟨j / 3, j % 3, by omega, by omega⟩
  have hi : i < l.length := by omega
  obtain ⟨p, hp⟩ : ∃ p, l[i]? = some p := ⟨_, List.getElem?_eq_getElem hi⟩
  have hs : i < l.toArray.size := by simpa using hi
  have ha : l.toArray[i]! = p := by
    rw [getElem!_pos l.toArray i hs]
    have := (List.getElem?_eq_some_iff.1 hp).2
    simpa using this
  refine ⟨?_, by rw [Nat.zero_add]; exact ho.frozenAt _⟩
  rw [get_flatK encA 3 l.toArray (i * 3 + r) (by rw [List.size_toArray]; omega), show (i * 3 + r) / 3 = i by omega, show (i * 3 + r) % 3 = r by omega, ha, Nat.zero_add, ho.cellAt _ hj, id]
  obtain ⟨g0, g1, g2⟩ := armCs_get l i p hp
  rw [encA_get p r hr]
  match r, hr with
  | 0, _ => exact g0
  | 1, _ => exact g1
  | 2, _ => exact g2
  | _ + 3, h => omega
/-- What a quarter's slice has, ahead of its sort, and behind. -/
def QPre (w : World) (A : Option Addr) (N cap : Nat) (l : List (Int × Int)) : Prop := N = l.length ∧ ((N = 0 → A = none ∧ cap = 0) ∧ N ≤ cap) ∧ (0 < N → ∃ g, A = some ⟨g, 0, none⟩ ∧ HoldsK encA 3 w g 0 l.toArray ∧ g < w.heap.size)
def QRead (w : World) (A : Option Addr) (N cap : Nat) (l : List (Int × Int)) : Prop := N = l.length ∧ ((N = 0 → A = none ∧ cap = 0) ∧ N ≤ cap) ∧ (0 < N → ∃ g, A = some ⟨g, 0, none⟩ ∧ ArmsL w g 0 l)
theorem sort_q (l : List (Int × Int)) (A : Option Addr) (N cap : Nat) (q : Int) (w : World) (h20 : l.length ≤ 20) (h : QPre w A N cap l) (hq : ∀ p, p ∈ l → Ins.OkP p ∧ quart p.1 p.2 = q) :
    Calls Try.prog 50 #[.slice A N cap, .func (.func 51) #[] #[]] w fun e w' => e = .returned (.tuple #[]) ∧ w.grownBy w' (A.map (·.block)) ∧ QRead w' A N cap (Ins.srt Ins.ltT l) := by
  obtain ⟨hN, ⟨h0, hc⟩, h1⟩ := h
  have hsl : (Ins.srt Ins.ltT l).length = l.length := by
    rw [← Ins.sort_quarter l q hq, Array.length_toList, sort_size]; simp
  by_cases hz : N = 0
  · obtain ⟨rfl, rfl⟩ := h0 hz
    subst hz
    refine (sorted_none w).mono ?_
    rintro e w' ⟨he, rfl⟩
    exact ⟨he, ⟨rfl, rfl, rfl, Nat.le_refl _, fun _ _ _ => rfl⟩, by rw [hsl]; exact hN, ⟨fun _ => ⟨rfl, rfl⟩, Nat.le_refl _⟩, fun h => absurd h (by omega)⟩
  · obtain ⟨g, rfl, hh, hg⟩ := h1 (by omega)
    subst hN
    have hs := sorted_any l.toArray g cap w hh hg (by simpa using h20)
    rw [List.size_toArray] at hs
    refine hs.mono ?_
    rintro e w' ⟨he, hk, hh'⟩
    refine ⟨he, hk, hsl.symm, ⟨fun h => absurd h hz, hc⟩, fun _ => ⟨g, rfl, ?_⟩⟩
    have := holds_cells hh' (Nat.lt_of_lt_of_le hg hk.size)
    rw [List.size_toArray, Ins.sort_quarter l q hq] at this
    exact this
end Go.Proofs.Ytfdofajknnocfaa
