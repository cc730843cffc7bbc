/- The heap's swap, empty, least; no condition. -/
import Derived.Test.YtncgjlhmgdgokaaAD
import Derived.BigRegion
import Derived.BigQuiet
import Derived.Deep.QuietTactic
namespace Go.Proofs.Ytncgjlhmgdgokaa
open Go.RowKit Go.Sort ArenaMath

theorem sw_self (l : List Int) (i : Nat) (hi : i < l.length) : sw l i i = l := by
  have h : ∀ k, k < l.length → gt (sw l i i) k = gt l k := fun k _ => by
    rw [gt_sw hi hi]; by_cases e : k = i
    · rw [if_pos e, e]
    · rw [if_neg e, if_neg e]
  refine List.ext_getElem? fun k => ?_
  by_cases hk : k < l.length
  · rw [gt_get (by rw [sw_len]; exact hk), gt_get hk, h k hk]
  · rw [List.getElem?_eq_none (by rw [sw_len]; omega), List.getElem?_eq_none (by omega)]
set_option maxRecDepth 1000000 in
set_option maxHeartbeats 16000000 in
theorem swap_core (b g n c i j : Nat) (xi xj : Int) (w : World) (hi : (i : Int) < n) (hj : (j : Int) < n)
    (h0 : w.cell? ⟨b, 0, none⟩ = some (.slice (some ⟨g, 0, none⟩) n c)) (ci : w.cell? ⟨g, i, none⟩ = some (.int .i64 xi)) (cj : w.cell? ⟨g, j, none⟩ = some (.int .i64 xj)) (fi : w.frozen? ⟨g, i, none⟩ = false) (fj : w.frozen? ⟨g, j, none⟩ = false) (hij : i ≠ j) :
    Calls Try.prog 56 #[.pointer (some ⟨b, 0, none⟩), .int .i64 i, .int .i64 j] w fun e w' => e = .returned (.tuple #[]) ∧ w' = (((w.setCell ⟨g, i, none⟩ (.int .i64 xj)).setCell ⟨g, j, none⟩ (.int .i64 xi)).drew) := by
  have e1 : (i : Int).toNat = i := by omega
  have e2 : (j : Int).toNat = j := by omega
  have p1 : (0 : Int) ≤ i := by omega
  have p2 : (0 : Int) ≤ j := by omega
  go_enter Try.func56, Try.ntmps56
  go_wp2_with fail
  go_region
  go_wp2
  go_end0
  exact ⟨rfl, rfl⟩
set_option maxRecDepth 1000000 in
set_option maxHeartbeats 16000000 in
theorem swap_same (b g n c i : Nat) (xi : Int) (w : World) (hi : (i : Int) < n)
    (h0 : w.cell? ⟨b, 0, none⟩ = some (.slice (some ⟨g, 0, none⟩) n c)) (ci : w.cell? ⟨g, i, none⟩ = some (.int .i64 xi)) (fi : w.frozen? ⟨g, i, none⟩ = false) :
    Calls Try.prog 56 #[.pointer (some ⟨b, 0, none⟩), .int .i64 i, .int .i64 i] w fun e w' => e = .returned (.tuple #[]) ∧ w' = (((w.setCell ⟨g, i, none⟩ (.int .i64 xi)).setCell ⟨g, i, none⟩ (.int .i64 xi)).drew) := by
  have e1 : (i : Int).toNat = i := by omega
  have p1 : (0 : Int) ≤ i := by omega
  go_enter Try.func56, Try.ntmps56
  go_wp2_with fail
  go_region
  go_wp2
  go_end0
  exact ⟨rfl, rfl⟩
/-- What a call of the heap leaves: its line has turned, nothing else. -/
theorem swap_any {w : World} {base b c : Nat} {rest : List Value} {A : Option Addr} {l : List Int} (h : HpAt w base b rest A c l) (i j : Nat) (hi : i < l.length) (hj : j < l.length) :
    Calls Try.prog 56 #[.pointer (some ⟨b, 0, none⟩), .int .i64 i, .int .i64 j] w fun e w' => e = .returned (.tuple #[]) ∧ HpAt w' base b rest A c (sw l i j) ∧ Only (fun k => ownB A = some k) w w' := by
  obtain ⟨g, hA, _, _, _⟩ := h.some (by omega)
  have fr : ∀ k, k < l.length → w.frozen? ⟨g, k, none⟩ = false := fun k hk => by
    subst hA
    obtain ⟨_, h2⟩ := h.line
    rcases h2 with ⟨h2, _⟩ | ⟨g', cap', cur, hv, _, hh, _⟩
    · cases h2
    · cases hv
      simp [World.frozen?, hh]
  by_cases e : i = j
  · subst e
    refine (swap_same b g l.length c i (gt l i) w (by omega) (by rw [h.row.c 0 rfl, hA]) (h.cell hA hi) (fr i hi)).mono ?_
    rintro e w' ⟨rfl, rfl⟩
    have h1 := (h.put hA i hi (gt l i)).put hA i (by simpa using hi) (gt l i)
    have e2 : (l.set i (gt l i)).set i (gt l i) = sw l i i := rfl
    rw [e2] at h1
    subst hA
    exact ⟨rfl, ⟨h1.row.drew, h1.line.drew, h1.far⟩, (((Only.refl (fun k => ownB (some ⟨g, 0, none⟩) = some k) w).put (p := ⟨g, i, none⟩) (.inl rfl) _).put (p := ⟨g, i, none⟩) (.inl rfl) _).drew⟩
  · refine (swap_core b g l.length c i j (gt l i) (gt l j) w (by omega) (by omega) (by rw [h.row.c 0 rfl, hA]) (h.cell hA hi) (h.cell hA hj) (fr i hi) (fr j hj) e).mono ?_
    rintro e w' ⟨rfl, rfl⟩
    have h1 := (h.put hA i hi (gt l j)).put hA j (by simpa using hj) (gt l i)
    subst hA
    exact ⟨rfl, ⟨h1.row.drew, h1.line.drew, h1.far⟩, (((Only.refl (fun k => ownB (some ⟨g, 0, none⟩) = some k) w).put (p := ⟨g, i, none⟩) (.inl rfl) _).put (p := ⟨g, j, none⟩) (.inl rfl) _).drew⟩
theorem empty_any {w : World} {base b c : Nat} {rest : List Value} {A : Option Addr} {l : List Int} (h : HpAt w base b rest A c l) :
    Calls Try.prog 46 #[.pointer (some ⟨b, 0, none⟩)] w fun e w' => e = .returned (.bool (decide (l.length = 0))) ∧ w' = w := by
  have h0 := h.row.c 0 rfl
  have e1 : ((l.length : Int) == 0) = decide (l.length = 0) := by
    rw [show ((l.length : Int) == 0) = decide ((l.length : Int) = 0) from rfl, decide_eq_decide]; omega
  generalize l.length = n at h0 e1 ⊢
  clear h
  go_enter Try.func46, Try.ntmps46
  go_wp2
  go_ret
  exact ⟨rfl, rfl⟩
end Go.Proofs.Ytncgjlhmgdgokaa
