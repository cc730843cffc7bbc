/- Contract of the circle's from: the first quarter, from this one on, that has any. -/
import Derived.Test.YtfdofajknnocfaaOF
namespace Go.Proofs.Ytfdofajknnocfaa
open Go.RowKit Go.Sort

/-- The slice of a quarter. -/
def sliceQ (A : Nat → Option Addr) (N cap : Nat → Nat) (q : Nat) : Value := .slice (A q) (N q) (cap q)
/-- A circle's value. -/
def circV (A : Nat → Option Addr) (N cap : Nat → Nat) : Value := .agg #[.slice (A 0) (N 0) (cap 0), .slice (A 1) (N 1) (cap 1), .slice (A 2) (N 2) (cap 2), .slice (A 3) (N 3) (cap 3)]
theorem ix_circ (A : Nat → Option Addr) (N cap : Nat → Nat) (W : World) {q : Nat} (hq : q < 4) : (Instr.index 59 (circV A N cap) (.int .i64 (q : Nat))).run Try.prog W = .ok (sliceQ A N cap q) W := by
  match q, hq with
  | 0, _ => exact ix40 _ _ _ _ W
  | 1, _ => exact ix41 _ _ _ _ W
  | 2, _ => exact ix42 _ _ _ _ W
  | 3, _ => exact ix43 _ _ _ _ W
set_option maxHeartbeats 6400000 in
set_option maxRecDepth 100000 in
theorem from_any (A : Nat → Option Addr) (N cap : Nat → Nat) : ∀ (k q : Nat) (w : World), q + k < 1000 → (∀ i, i < k → N ((q + i) % 4) = 0) → 0 < N ((q + k) % 4) →
    Calls Try.prog 60 #[circV A N cap, .int .i64 (q : Nat)] w fun e w' => e = .returned (sliceQ A N cap ((q + k) % 4)) ∧ Below w.heap.size w w'
  | 0, q, w, hq, _, hN => by
    rw [Nat.add_zero] at hN ⊢
    obtain ⟨r, hr⟩ : ∃ r, q % 4 = r := ⟨_, rfl⟩
    have hr4 : r < 4 := by omega
    have hI : (q : Int) % 4 = (r : Nat) := by omega
    have hI2 : Int.tmod (q : Int) 4 = (r : Nat) := by rw [Int.tmod_eq_emod_of_nonneg (by omega)]; exact hI
    rw [hr] at hN ⊢
    unfold circV
    rcases (show r = 0 ∨ r = 1 ∨ r = 2 ∨ r = 3 by omega) with rfl | rfl | rfl | rfl
    case inl =>
      go_enter Try.func60, Try.ntmps60
      have hN0 : ¬ N 0 = 0 := by omega
      go_wp2
      go_ret
      exact ⟨rfl, (Below.refl _ _).alloc (Nat.le_refl _) _⟩
    case inr.inl =>
      go_enter Try.func60, Try.ntmps60
      have hN0 : ¬ N 1 = 0 := by omega
      go_wp2
      go_ret
      exact ⟨rfl, (Below.refl _ _).alloc (Nat.le_refl _) _⟩
    case inr.inr.inl =>
      go_enter Try.func60, Try.ntmps60
      have hN0 : ¬ N 2 = 0 := by omega
      go_wp2
      go_ret
      exact ⟨rfl, (Below.refl _ _).alloc (Nat.le_refl _) _⟩
    case inr.inr.inr =>
      go_enter Try.func60, Try.ntmps60
      have hN0 : ¬ N 3 = 0 := by omega
      go_wp2
      go_ret
      exact ⟨rfl, (Below.refl _ _).alloc (Nat.le_refl _) _⟩
  | k + 1, q, w, hq, h0, hN => by
    have IH := Lib.hid (fun w => from_any A N cap k (q + 1) w (by omega) (fun i hi => by rw [Nat.add_assoc, Nat.add_comm 1]; exact h0 (i + 1) (by omega)) (by rw [Nat.add_assoc, Nat.add_comm 1]; exact hN))
    have h00 := h0 0 (by omega)
    rw [Nat.add_zero] at h00
    clear h0 hN
    obtain ⟨r, hr⟩ : ∃ r, q % 4 = r := ⟨_, rfl⟩
    have hr4 : r < 4 := by omega
    have hI : (q : Int) % 4 = (r : Nat) := by omega
    have hI2 : Int.tmod (q : Int) 4 = (r : Nat) := by rw [Int.tmod_eq_emod_of_nonneg (by omega)]; exact hI
    rw [hr] at h00
    unfold circV at IH ⊢
    rcases (show r = 0 ∨ r = 1 ∨ r = 2 ∨ r = 3 by omega) with rfl | rfl | rfl | rfl
    case inl =>
      have hN0 : (((N 0 : Nat) : Int) == 0) = true := by simp [h00]
      clear h00
      go_enter Try.func60, Try.ntmps60
      go_wp2_with fail
      have hB := (Below.refl w.heap.size w).alloc (Nat.le_refl _) (.cells #[.slice (A 0) (N 0) (cap 0), .slice (A 1) (N 1) (cap 1), .slice (A 2) (N 2) (cap 2), .slice (A 3) (N 3) (cap 3)] 59)
      refine (by simpa using IH.out _ : Calls _ _ _ _ _).mono ?_
      rintro e W1 ⟨rfl, hB1⟩
      have hB2 := hB.trans (hB1.mono hB.size)
      clear hB hB1 IH
      go_wp2
      go_ret
      rw [show q + (k + 1) = q + 1 + k by omega]
      exact ⟨rfl, hB2⟩
    case inr.inl =>
      have hN0 : (((N 1 : Nat) : Int) == 0) = true := by simp [h00]
      clear h00
      go_enter Try.func60, Try.ntmps60
      go_wp2_with fail
      have hB := (Below.refl w.heap.size w).alloc (Nat.le_refl _) (.cells #[.slice (A 0) (N 0) (cap 0), .slice (A 1) (N 1) (cap 1), .slice (A 2) (N 2) (cap 2), .slice (A 3) (N 3) (cap 3)] 59)
      refine (by simpa using IH.out _ : Calls _ _ _ _ _).mono ?_
      rintro e W1 ⟨rfl, hB1⟩
      have hB2 := hB.trans (hB1.mono hB.size)
      clear hB hB1 IH
      go_wp2
      go_ret
      rw [show q + (k + 1) = q + 1 + k by omega]
      exact ⟨rfl, hB2⟩
    case inr.inr.inl =>
      have hN0 : (((N 2 : Nat) : Int) == 0) = true := by simp [h00]
      clear h00
      go_enter Try.func60, Try.ntmps60
      go_wp2_with fail
      have hB := (Below.refl w.heap.size w).alloc (Nat.le_refl _) (.cells #[.slice (A 0) (N 0) (cap 0), .slice (A 1) (N 1) (cap 1), .slice (A 2) (N 2) (cap 2), .slice (A 3) (N 3) (cap 3)] 59)
      refine (by simpa using IH.out _ : Calls _ _ _ _ _).mono ?_
      rintro e W1 ⟨rfl, hB1⟩
      have hB2 := hB.trans (hB1.mono hB.size)
      clear hB hB1 IH
      go_wp2
      go_ret
      rw [show q + (k + 1) = q + 1 + k by omega]
      exact ⟨rfl, hB2⟩
    case inr.inr.inr =>
      have hN0 : (((N 3 : Nat) : Int) == 0) = true := by simp [h00]
      clear h00
      go_enter Try.func60, Try.ntmps60
      go_wp2_with fail
      have hB := (Below.refl w.heap.size w).alloc (Nat.le_refl _) (.cells #[.slice (A 0) (N 0) (cap 0), .slice (A 1) (N 1) (cap 1), .slice (A 2) (N 2) (cap 2), .slice (A 3) (N 3) (cap 3)] 59)
      refine (by simpa using IH.out _ : Calls _ _ _ _ _).mono ?_
      rintro e W1 ⟨rfl, hB1⟩
      have hB2 := hB.trans (hB1.mono hB.size)
      clear hB hB1 IH
      go_wp2
      go_ret
      rw [show q + (k + 1) = q + 1 + k by omega]
      exact ⟨rfl, hB2⟩
end Go.Proofs.Ytfdofajknnocfaa
