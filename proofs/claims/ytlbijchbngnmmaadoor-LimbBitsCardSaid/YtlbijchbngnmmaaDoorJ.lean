/- Contracts of package limb's after and of what it calls, for sums; the Ints lie in memory. -/
import Derived.Test.YtlbijchbngnmmaaDoorI
namespace Go.Proofs.YtlbijchbngnmmaaDoor
open Go.RowKit

abbrev StepR := Bool → Bool → (Nat → Int) → (Nat → Int) → Option (Bool × (Nat → Int))
/-- One step after the other. -/
def foldR (st : StepR) (neg : Nat → Bool) (m : Nat → Nat → Int) (s0 : Bool) (x0 : Nat → Int) : Nat → Option (Bool × (Nat → Int))
  | 0 => some (s0, x0)
  | k + 1 => match foldR st neg m s0 x0 k with
    | some (s, x) => st s (neg k) x (m k)
    | none => none
theorem foldR_none {st : StepR} {neg : Nat → Bool} {m : Nat → Nat → Int} {s0 : Bool} {x0 : Nat → Int} {k n : Nat} (hk : k ≤ n) (h : foldR st neg m s0 x0 k = none) : foldR st neg m s0 x0 n = none := by
  induction n with
  | zero => obtain rfl : k = 0 := by omega
            exact h
  | succ n ih =>
    by_cases e : k = n + 1
    · subst e; exact h
    · rw [foldR, ih (by omega)]
def BdF (x : Nat → Int) : Prop := ∀ i, 0 ≤ x i ∧ x i < B64
theorem sumF_bd (x y : Nat → Int) : BdF (sumF x y) := fun _ => ⟨Int.emod_nonneg _ (by decide), Int.emod_lt_of_pos _ (by decide)⟩
theorem difF_bd (x y : Nat → Int) : BdF (difF x y) := fun _ => ⟨Int.emod_nonneg _ (by decide), Int.emod_lt_of_pos _ (by decide)⟩
theorem plusR_bd {s t : Bool} {x y : Nat → Int} {q : Bool × (Nat → Int)} (h : plusR s t x y = some q) : BdF q.2 := by
  unfold plusR at h
  split at h
  · split at h
    · cases h; exact sumF_bd _ _
    · cases h
  · split at h <;> (cases h; exact difF_bd _ _)
theorem IntsAt.kb {w w1 : World} {b o n N : Nat} {neg : Nat → Bool} {m : Nat → Nat → Int} (h : IntsAt w b o n neg m) (hb : KB w.heap.size N w w1) (hlt : b < w.heap.size) (hn : b ≠ N) : IntsAt w1 b o n neg m := by
  intro i hi
  have hc : ∀ j, w1.cell? ⟨b, j, none⟩ = w.cell? ⟨b, j, none⟩ := fun j => hb.cell (p := ⟨b, j, none⟩) hlt hn
  rw [hc, hc, hc, hc, hc]
  exact h i hi

set_option maxHeartbeats 800000 in
theorem sum_run (N L S b o n c : Nat) (neg : Nat → Bool) (m : Nat → Nat → Int) (s0 : Bool) (x0 : Nat → Int) (w : World) (hn : n ≤ 1000000000000000000)
    (hL : w.cell? ⟨L, 0, none⟩ = some (.slice (some ⟨b, o, none⟩) n c)) (hS : w.cell? ⟨S, 0, none⟩ = some (.func (.func 45) #[.pointer (some ⟨N, 0, none⟩)] #[]))
    (lS : S < w.heap.size) (lb : b < w.heap.size) (nS : S ≠ N) (nb : b ≠ N)
    (hi : IntsAt w b o n neg m) (hr : Row w N (numv s0 x0 0)) (hx : BdF x0) (hm : ∀ k, BdF (m k)) :
    Calls Tryd.prog 66 #[.pointer (some ⟨L, 0, none⟩), .pointer (some ⟨S, 0, none⟩)] w (NumPost N w (foldR plusR neg m s0 x0 n)) := by
  have Hi := Lib.hid hi; clear hi
  have Hm := Lib.hid hm; clear hm
  have Hx := Lib.hid hx; clear hx
  go_enter Tryd.func66, Tryd.ntmps66
  go_wp2
  have HS := Lib.hid hS; clear hS hL
  go_loopw [6] (fun i wr => ∃ k : Nat, k ≤ n ∧ i = .int .i64 k ∧ KB w.heap.size N w wr ∧ ∃ s x, Hid (foldR plusR neg m s0 x0 k = some (s, x)) ∧ Row wr N (numv s x 0) ∧ Hid (BdF x)) (fun i _ => n - (intOf i).toNat)
  case atStart => exact ⟨0, Nat.zero_le _, rfl, KB.refl _ _ _, s0, x0, Lib.hid rfl, hr, Hx⟩
  case round =>
    obtain ⟨k, hk, rfl, hB, s, x, HF, hr', HB⟩ := hrel
    by_cases hkn : k < n
    · obtain ⟨c0, c1, c2, c3, c4⟩ := (Hi.out.kb hB lb nb) k hkn
      have hk1 : (k : Int) < n := by omega
      have hS' : ∀ ob, (wr.alloc ob).cell? ⟨S, 0, none⟩ = some (.func (.func 45) #[.pointer (some ⟨N, 0, none⟩)] #[]) := fun ob => by
        rw [World.cell?_alloc_past ob S 0 (Nat.lt_of_lt_of_le lS hB.size)]; exact (hB.cell (p := ⟨S, 0, none⟩) lS nS).trans HS.out
      go_wp2_with fail
      refine (plus_any N s (neg k) x (m k) _ (hr'.alloc _) HB.out (Hm.out k)).mono ?_
      rintro e w2 ⟨hk2, h2⟩
      have hB2 : KB w.heap.size N w w2 := (hB.alloc hB.size _).trans hk2 (by have := hB.size; simp; omega)
      clear hk2 c0 c1 c2 c3 c4 hS'
      cases hq : plusR s (neg k) x (m k) with
      | none =>
        rw [hq] at h2
        have HP : Hid (∀ w', KB w.heap.size N w w' → NumPost N w (foldR plusR neg m s0 x0 n) (.panicked [{ v := .iface 40 (.int .i64 110), recovered := false }]) w') := by
          have hf : foldR plusR neg m s0 x0 n = none := foldR_none (k := k + 1) (by omega) (by rw [foldR, HF.out]; exact hq)
          rw [hf]
          exact Lib.hid (fun w' h => ⟨h, rfl⟩)
        clear hq
        obtain rfl := h2
        go_wp2
        exact ⟨rfl, HP.out _ hB2⟩
      | some q =>
        obtain ⟨s', x'⟩ := q
        rw [hq] at h2
        obtain ⟨rfl, h3⟩ := h2
        have HF' : Hid (foldR plusR neg m s0 x0 (k + 1) = some (s', x')) := Lib.hid (by rw [foldR, HF.out]; exact hq)
        have HB' : Hid (BdF x') := Lib.hid (plusR_bd hq)
        clear hq
        go_wp2
        go_roundw
        case rel => exact ⟨k + 1, by omega, by go_num, hB2, s', x', HF', h3, HB'⟩
        case measure => simp [intOf]; omega
    · obtain rfl : k = n := by omega
      have HP : Hid (∀ w', KB w.heap.size N w w' → Row w' N (numv s x 0) → NumPost N w (foldR plusR neg m s0 x0 k) (.returned (.tuple #[])) w') := by
        rw [HF.out]
        exact Lib.hid (fun w' h1 h2 => ⟨h1, rfl, h2⟩)
      go_wp2
      go_end0
      exact HP.out _ hB hr'

/-- What caught tells of work that a number has done. -/
def CaughtPost (N : Nat) (w : World) (r : Option (Bool × (Nat → Int))) (e : Ending) (w' : World) : Prop :=
  KB w.heap.size N w w' ∧ match r with
    | some (s, x) => e = .returned (.int .i64 0) ∧ Row w' N (numv s x 0)
    | none => e = .returned (.int .i64 110)
set_option maxHeartbeats 800000 in
theorem caught_sum (caps : Array Value) (N : Nat) (r : Option (Bool × (Nat → Int))) (w : World) (hN : N < w.heap.size)
    (hw : Calls Tryd.prog 66 caps (w.alloc (.cells #[.int .i64 0] 40)) (NumPost N (w.alloc (.cells #[.int .i64 0] 40)) r)) :
    Calls Tryd.prog 61 #[.func (.func 66) #[] caps] w (CaughtPost N w r) := by
  have hmf : ∀ (fn : Fn) (first cap : Array Value) (w : World), (Instr.makeFunc fn first cap).run Tryd.prog w = .ok (.func fn first cap) w := fun _ _ _ _ => rfl
  have Hw := Lib.hid hw; clear hw
  go_enter_defers Tryd.func61, Tryd.ntmps61
  go_wp2_with fail
  refine Hw.out.mono ?_
  rintro e w1 ⟨hk, h1⟩
  have hE : w1.cell? ⟨w.heap.size, 0, none⟩ = some (.int .i64 0) := by
    rw [hk.cell (p := ⟨w.heap.size, 0, none⟩) (by simp) (by simp; omega)]; exact (Row.new w [.int .i64 0] 40).c 0 rfl
  have fE : w1.frozen? ⟨w.heap.size, 0, none⟩ = false := by
    rw [hk.frozen (p := ⟨w.heap.size, 0, none⟩) (by simp) (by simp; omega)]; exact (Row.new w [.int .i64 0] 40).f 0 rfl
  have hB : KB w.heap.size N w w1 := ((KB.refl w.heap.size N w).alloc (Nat.le_refl _) _).trans hk (by simp)
  clear hk
  cases r with
  | none =>
    obtain rfl := h1
    go_wp2
    refine leaves_cons (f := 83) (args := #[.pointer (some ⟨w.heap.size, 0, none⟩)]) (by simp) (by simp [go_sem]) ?_
    refine (catch_panicking ⟨w.heap.size, 0, none⟩ 0 110 [] _ hE fE).mono ?_
    rintro e u' w'' ⟨rfl, rfl, rfl⟩
    have hS := World.cell?_setCell_same' w1 ⟨w.heap.size, 0, none⟩ (.int .i64 110) (by rw [hE]; rfl)
    simp [Leaves, settle, results, Tryd.results61, go_sem, hS]
    exact ⟨hB.put1 (Or.inr (Nat.le_refl _)) _ _, rfl⟩
  | some q =>
    obtain ⟨s, x⟩ := q
    obtain ⟨rfl, h2⟩ := h1
    have hS := World.cell?_setCell_same' w1 ⟨w.heap.size, 0, none⟩ (.int .i64 0) (by rw [hE]; rfl)
    go_wp2
    refine leaves_cons (f := 83) (args := #[.pointer (some ⟨w.heap.size, 0, none⟩)]) (by simp) (by simp [go_sem]) ?_
    refine (catch_idle ⟨w.heap.size, 0, none⟩ _).mono ?_
    rintro e u' w'' ⟨rfl, rfl, rfl⟩
    simp [Leaves, settle, results, Tryd.results61, go_sem, hS]
    exact ⟨hB.put1 (Or.inr (Nat.le_refl _)) _ _, rfl, h2.other (by simp; omega) _⟩
end Go.Proofs.YtlbijchbngnmmaaDoor
