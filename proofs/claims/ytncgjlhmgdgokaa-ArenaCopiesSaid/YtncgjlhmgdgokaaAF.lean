/- The heap's least: which of a thing and its two children is the least; no condition. -/
import Derived.Test.YtncgjlhmgdgokaaAE
namespace Go.Proofs.Ytncgjlhmgdgokaa
open Go.RowKit Go.Sort ArenaMath

/-- The place of the least one of the thing at i and its children. -/
def least1 (l : List Int) (i : Nat) : Nat := if 2 * i + 1 < l.length ∧ gt l (2 * i + 1) < gt l i then 2 * i + 1 else i
def leastL (l : List Int) (i : Nat) : Nat := if 2 * i + 2 < l.length ∧ gt l (2 * i + 2) < gt l (least1 l i) then 2 * i + 2 else least1 l i
theorem leastL_spec (l : List Int) (i : Nat) : (leastL l i = i ∨ (0 < leastL l i ∧ leastL l i < l.length ∧ par (leastL l i) = i ∧ gt l (leastL l i) < gt l i)) ∧ ∀ j, 0 < j → j < l.length → par j = i → gt l (leastL l i) ≤ gt l j := by
  have hch : ∀ j, 0 < j → par j = i → j = 2 * i + 1 ∨ j = 2 * i + 2 := fun j h0 h => by unfold par at h; omega
  have p1 : par (2 * i + 1) = i := by unfold par; omega
  have p2 : par (2 * i + 2) = i := by unfold par; omega
  unfold leastL least1
  by_cases h1 : 2 * i + 1 < l.length ∧ gt l (2 * i + 1) < gt l i
  · rw [if_pos h1]
    by_cases h2 : 2 * i + 2 < l.length ∧ gt l (2 * i + 2) < gt l (2 * i + 1)
    · rw [if_pos h2]
      refine ⟨.inr ⟨by omega, h2.1, p2, by omega⟩, fun j h0 hj hp => ?_⟩
      rcases hch j h0 hp with rfl | rfl <;> omega
    · rw [if_neg h2]
      refine ⟨.inr ⟨by omega, h1.1, p1, h1.2⟩, fun j h0 hj hp => ?_⟩
      rcases hch j h0 hp with rfl | rfl <;> omega
  · rw [if_neg h1]
    by_cases h2 : 2 * i + 2 < l.length ∧ gt l (2 * i + 2) < gt l i
    · rw [if_pos h2]
      refine ⟨.inr ⟨by omega, h2.1, p2, h2.2⟩, fun j h0 hj hp => ?_⟩
      rcases hch j h0 hp with rfl | rfl <;> omega
    · rw [if_neg h2]
      refine ⟨.inl rfl, fun j h0 hj hp => ?_⟩
      rcases hch j h0 hp with rfl | rfl <;> omega
theorem leastL_none (l : List Int) (i : Nat) (hi : l.length ≤ i) : leastL l i = i := by
  unfold leastL least1
  rw [if_neg (by omega), if_neg (by omega)]
set_option maxRecDepth 1000000 in
set_option maxHeartbeats 16000000 in
theorem least_core (b g n c i : Nat) (A : Option Addr) (xi xl xr xm : Int) (t1 t2 : Bool) (m1 : Nat) (w : World) (hb : i < 1000000000)
    (h0 : w.cell? ⟨b, 0, none⟩ = some (.slice A n c)) (hA : i < n → A = some ⟨g, 0, none⟩) (ci : i < n → w.cell? ⟨g, i, none⟩ = some (.int .i64 xi)) (cl : 2 * i + 1 < n → w.cell? ⟨g, 2 * i + 1, none⟩ = some (.int .i64 xl)) (cr : 2 * i + 2 < n → w.cell? ⟨g, 2 * i + 2, none⟩ = some (.int .i64 xr))
    (ht1 : decide (xl < xi) = t1) (hm1 : cond t1 (2 * i + 1) i = m1) (hxm : cond t1 xl xi = xm) (ht2 : decide (xr < xm) = t2) :
    Calls Try.prog 57 #[.pointer (some ⟨b, 0, none⟩), .int .i64 i] w fun e w' => e = .returned (.int .i64 ((if 2 * i + 1 < n then (if 2 * i + 2 < n ∧ t2 = true then 2 * i + 2 else m1) else i : Nat) : Int)) ∧ Below w.heap.size w w' := by
  have e1 : IntKind.i64.wrap (2 * (i : Int)) = 2 * i := IntWalk.i64_in _ (by omega)
  have e2 : IntKind.i64.wrap (2 * (i : Int) + 1) = 2 * i + 1 := IntWalk.i64_in _ (by omega)
  have e3 : IntKind.i64.wrap (2 * (i : Int) + 2) = 2 * i + 2 := IntWalk.i64_in _ (by omega)
  have e4 : IntKind.i64.wrap (2 * (i : Int) + 1 + 1) = 2 * i + 2 := (IntWalk.i64_in _ (by omega)).trans (by omega)
  have e5 : IntKind.i64.wrap (2 * (i : Int) + 2 + 1) = 2 * i + 3 := (IntWalk.i64_in _ (by omega)).trans (by omega)
  have l1 : decide (2 * (i : Int) + 1 ≤ 2 * i + 2) = true := decide_eq_true (by omega)
  have l2 : decide (2 * (i : Int) + 2 ≤ 2 * i + 2) = true := decide_eq_true (by omega)
  have l3 : decide (2 * (i : Int) + 3 ≤ 2 * i + 2) = false := decide_eq_false (by omega)
  have HB0 := Lib.hid (Below.refl w.heap.size w)
  by_cases c1 : 2 * i + 1 < n
  · have hin : i < n := by omega
    obtain rfl := hA hin
    have ci' := ci hin
    have cl' := cl c1
    have c1' : decide (2 * (i : Int) + 1 < n) = true := decide_eq_true (by omega)
    have q1 : (2 * (i : Int) + 1) < n := by omega
    have q0 : (i : Int) < n := by omega
    have p1 : (0 : Int) ≤ 2 * (i : Int) + 1 := by omega
    have n1 : (2 * (i : Int) + 1).toNat = 2 * i + 1 := by omega
    rw [if_pos c1]
    by_cases c2 : 2 * i + 2 < n
    · have cr' := cr c2
      have c2' : decide (2 * (i : Int) + 2 < n) = true := decide_eq_true (by omega)
      have q2 : (2 * (i : Int) + 2) < n := by omega
      have p2 : (0 : Int) ≤ 2 * (i : Int) + 2 := by omega
      have n2 : (2 * (i : Int) + 2).toNat = 2 * i + 2 := by omega
      clear hA ci cl cr hb hin c1
      cases t1 <;> cases t2
      · have em : i = m1 := hm1
        subst em
        obtain rfl : xi = xm := hxm
        have eR : ((if 2 * i + 2 < n ∧ false = true then 2 * i + 2 else i : Nat) : Int) = (i : Int) := by rw [if_neg (by simp)]
        rw [eR]
        clear eR
        go_enter Try.func57, Try.ntmps57
        go_wp2_with fail
        refine wp_loop_rounds 3 ?_
        rw [rounds_succ]
        go_wp2_with fail
        go_quiet (fail)
        go_wp2_with fail
        rw [rounds_succ]
        go_wp2_with fail
        go_quiet (fail)
        go_wp2_with fail
        rw [rounds_succ]
        go_wp2_with fail
        go_ret
        exact ⟨rfl, below_drewN HB0.out _⟩
      · have em : i = m1 := hm1
        subst em
        obtain rfl : xi = xm := hxm
        have eR : ((if 2 * i + 2 < n ∧ true = true then 2 * i + 2 else i : Nat) : Int) = 2 * (i : Int) + 2 := by rw [if_pos ⟨c2, rfl⟩]; omega
        rw [eR]
        clear eR
        go_enter Try.func57, Try.ntmps57
        go_wp2_with fail
        refine wp_loop_rounds 3 ?_
        rw [rounds_succ]
        go_wp2_with fail
        go_quiet (fail)
        go_wp2_with fail
        rw [rounds_succ]
        go_wp2_with fail
        go_quiet (fail)
        go_wp2_with fail
        rw [rounds_succ]
        go_wp2_with fail
        go_ret
        exact ⟨rfl, below_drewN HB0.out _⟩
      · obtain rfl : 2 * i + 1 = m1 := hm1
        obtain rfl : xl = xm := hxm
        have eR : ((if 2 * i + 2 < n ∧ false = true then 2 * i + 2 else (2 * i + 1) : Nat) : Int) = 2 * (i : Int) + 1 := by rw [if_neg (by simp)]; omega
        rw [eR]
        clear eR
        go_enter Try.func57, Try.ntmps57
        go_wp2_with fail
        refine wp_loop_rounds 3 ?_
        rw [rounds_succ]
        go_wp2_with fail
        go_quiet (fail)
        go_wp2_with fail
        rw [rounds_succ]
        go_wp2_with fail
        go_quiet (fail)
        go_wp2_with fail
        rw [rounds_succ]
        go_wp2_with fail
        go_ret
        exact ⟨rfl, below_drewN HB0.out _⟩
      · obtain rfl : 2 * i + 1 = m1 := hm1
        obtain rfl : xl = xm := hxm
        have eR : ((if 2 * i + 2 < n ∧ true = true then 2 * i + 2 else (2 * i + 1) : Nat) : Int) = 2 * (i : Int) + 2 := by rw [if_pos ⟨c2, rfl⟩]; omega
        rw [eR]
        clear eR
        go_enter Try.func57, Try.ntmps57
        go_wp2_with fail
        refine wp_loop_rounds 3 ?_
        rw [rounds_succ]
        go_wp2_with fail
        go_quiet (fail)
        go_wp2_with fail
        rw [rounds_succ]
        go_wp2_with fail
        go_quiet (fail)
        go_wp2_with fail
        rw [rounds_succ]
        go_wp2_with fail
        go_ret
        exact ⟨rfl, below_drewN HB0.out _⟩
    · have c2' : decide (2 * (i : Int) + 2 < n) = false := decide_eq_false (by omega)
      rw [if_neg (fun h => c2 h.1)]
      clear hA ci cl cr hb hin c1 c2 ht2 hxm
      cases t1
      · have em : i = m1 := hm1
        subst em
        go_enter Try.func57, Try.ntmps57
        go_wp2_with fail
        refine wp_loop_rounds 3 ?_
        rw [rounds_succ]
        go_wp2_with fail
        go_quiet (fail)
        go_wp2_with fail
        rw [rounds_succ]
        go_wp2_with fail
        go_ret
        exact ⟨rfl, below_drewN HB0.out _⟩
      · obtain rfl : 2 * i + 1 = m1 := hm1
        have eR : ((2 * i + 1 : Nat) : Int) = 2 * (i : Int) + 1 := by omega
        rw [eR]
        clear eR
        go_enter Try.func57, Try.ntmps57
        go_wp2_with fail
        refine wp_loop_rounds 3 ?_
        rw [rounds_succ]
        go_wp2_with fail
        go_quiet (fail)
        go_wp2_with fail
        rw [rounds_succ]
        go_wp2_with fail
        go_ret
        exact ⟨rfl, below_drewN HB0.out _⟩
  · have c1' : decide (2 * (i : Int) + 1 < n) = false := decide_eq_false (by omega)
    rw [if_neg c1]
    clear hA ci cl cr hb c1 ht1 ht2 hxm hm1
    go_enter Try.func57, Try.ntmps57
    go_wp2_with fail
    refine wp_loop_rounds 1 ?_
    rw [rounds_succ]
    go_wp2_with fail
    go_ret
    exact ⟨rfl, HB0.out⟩
theorem least_any {w : World} {base b c : Nat} {rest : List Value} {A : Option Addr} {l : List Int} (h : HpAt w base b rest A c l) (i : Nat) (hb : i < 1000000000) :
    Calls Try.prog 57 #[.pointer (some ⟨b, 0, none⟩), .int .i64 i] w fun e w' => e = .returned (.int .i64 (leastL l i : Nat)) ∧ Below w.heap.size w w' := by
  obtain ⟨g, hA⟩ : ∃ g, 0 < l.length → A = some ⟨g, 0, none⟩ := by
    by_cases h0 : 0 < l.length
    · obtain ⟨g, hA, _⟩ := h.some h0
      exact ⟨g, fun _ => hA⟩
    · exact ⟨0, fun q => absurd q h0⟩
  have key := least_core b g l.length c i A (gt l i) (gt l (2 * i + 1)) (gt l (2 * i + 2)) _ _ _ _ w hb (h.row.c 0 rfl) (fun q => hA (by omega)) (fun q => h.cell (hA (by omega)) q) (fun q => h.cell (hA (by omega)) q) (fun q => h.cell (hA (by omega)) q) rfl rfl rfl rfl
  refine key.mono fun e w' ⟨h1, h2⟩ => ⟨?_, h2⟩
  rw [h1]
  congr 3
  unfold leastL least1
  by_cases c1 : 2 * i + 1 < l.length
  · rw [if_pos c1]
    by_cases t1 : gt l (2 * i + 1) < gt l i
    · simp [c1, t1]
    · simp [t1]
  · rw [if_neg c1, if_neg (fun q => c1 (by have := q.1; omega)), if_neg (fun q => c1 q.1)]
end Go.Proofs.Ytncgjlhmgdgokaa
