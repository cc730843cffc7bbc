/- Contracts of package limb's checkAll and of the words' size, up and down; no condition but that words are words. -/
import Derived.Test.YtlbijchbngnmmaaDoorA
namespace Go.Proofs.YtlbijchbngnmmaaDoor
open Go.RowKit

/-- The first error of n Ints. -/
def errAll (neg : Nat → Bool) (m : Nat → Nat → Int) : Nat → Int
  | 0 => 0
  | k + 1 => if errAll neg m k = 0 then errArg (neg k) (m k 0) (m k 1) (m k 2) (m k 3) else errAll neg m k
theorem errAll_some {neg : Nat → Bool} {m : Nat → Nat → Int} {k n : Nat} (hk : k < n) (h0 : errAll neg m k = 0) (h : errArg (neg k) (m k 0) (m k 1) (m k 2) (m k 3) ≠ 0) :
    errAll neg m n = errArg (neg k) (m k 0) (m k 1) (m k 2) (m k 3) := by
  induction n with
  | zero => omega
  | succ n ih =>
    by_cases e : k = n
    · subst e; rw [errAll, if_pos h0]
    · rw [errAll, ih (by omega), if_neg h]
/-- n Ints lie in memory from there on. -/
def IntsAt (w : World) (b o n : Nat) (neg : Nat → Bool) (m : Nat → Nat → Int) : Prop :=
  ∀ i, i < n → w.cell? ⟨b, o + i * 5, none⟩ = some (.bool (neg i)) ∧ w.cell? ⟨b, o + i * 5 + 1, none⟩ = some (.int .u64 (m i 0)) ∧ w.cell? ⟨b, o + i * 5 + 2, none⟩ = some (.int .u64 (m i 1)) ∧
    w.cell? ⟨b, o + i * 5 + 3, none⟩ = some (.int .u64 (m i 2)) ∧ w.cell? ⟨b, o + i * 5 + 4, none⟩ = some (.int .u64 (m i 3))
theorem IntsAt.below {w w1 : World} {b o n : Nat} {neg : Nat → Bool} {m : Nat → Nat → Int} (h : IntsAt w b o n neg m) (hb : Below w.heap.size w w1) (hlt : b < w.heap.size) : IntsAt w1 b o n neg m := by
  intro i hi
  have hc := (bcell hb).1
  rw [hc b _ hlt, hc b _ hlt, hc b _ hlt, hc b _ hlt, hc b _ hlt]
  exact h i hi
set_option maxHeartbeats 400000 in
theorem checkAll_any (neg : Nat → Bool) (m : Nat → Nat → Int) (n b o c : Nat) (w : World) (hn : n ≤ 1000000000000000000) (hlt : b < w.heap.size) (hx : IntsAt w b o n neg m) :
    Calls Tryd.prog 50 #[.slice (some ⟨b, o, none⟩) n c] w fun e w' => e = .returned (.int .i64 (errAll neg m n)) ∧ Below w.heap.size w w' := by
  go_enter Tryd.func50, Tryd.ntmps50
  have Hx := Lib.hid hx; clear hx
  go_wp2
  go_loopw [8] (fun i wr => ∃ k : Nat, k ≤ n ∧ i = .int .i64 k ∧ Hid (errAll neg m k = 0) ∧ Below w.heap.size w wr) (fun i _ => n - (intOf i).toNat)
  case atStart => exact ⟨0, Nat.zero_le _, rfl, Lib.hid rfl, Below.refl _ _⟩
  case round =>
    obtain ⟨k, hk, rfl, HO, hB⟩ := hrel
    by_cases hkn : k < n
    · obtain ⟨c0, c1, c2, c3, c4⟩ := (Hx.out.below hB hlt) k hkn
      have hk1 : (k : Int) < n := by omega
      by_cases hc : errArg (neg k) (m k 0) (m k 1) (m k 2) (m k 3) = 0
      · have HO' : Hid (errAll neg m (k + 1) = 0) := Lib.hid (by rw [errAll, if_pos HO.out, hc])
        go_wp2_with fail
        refine (check_any _ _ _ _ _ _).mono ?_
        rintro e w1 ⟨rfl, hb1⟩
        rw [hc]; clear hc
        go_wp2
        go_roundw
        case rel => exact ⟨k + 1, by omega, by go_num, HO', (hB.alloc hB.size _).trans (hb1.mono (by simp; have := hB.size; omega))⟩
        case measure => simp [intOf]; omega
      · have HO' : Hid (errAll neg m n = errArg (neg k) (m k 0) (m k 1) (m k 2) (m k 3)) := Lib.hid (errAll_some hkn HO.out hc)
        have hne : (errArg (neg k) (m k 0) (m k 1) (m k 2) (m k 3) != 0) = true := by simpa using hc
        clear hc
        go_wp2_with fail
        refine (check_any _ _ _ _ _ _).mono ?_
        rintro e w1 ⟨rfl, hb1⟩
        go_wp2
        go_ret
        exact ⟨by rw [HO'.out]; rfl, (hB.alloc hB.size _).trans (hb1.mono (by simp; have := hB.size; omega))⟩
    · have hkn' : k = n := by omega
      have HN : Hid (errAll neg m n = 0) := Lib.hid (by rw [← hkn']; exact HO.out)
      clear hkn'
      go_wp2
      go_ret
      exact ⟨by rw [HN.out]; rfl, hB⟩
set_option maxHeartbeats 400000 in
theorem checkAll_none (w : World) :
    Calls Tryd.prog 50 #[.slice none 0 0] w fun e w' => e = .returned (.int .i64 0) ∧ Below w.heap.size w w' := by
  go_enter Tryd.func50, Tryd.ntmps50
  go_wp2
  refine wp_loop_rounds 1 ?_
  rw [rounds_succ]
  go_wp2
  exact bodyPost_ret (v := .int .i64 0) (by simp [results, Tryd.results50, go_sem]) rfl ⟨rfl, Below.refl _ _⟩

/-- The words' count up to the highest that is not 0. -/
def sizeF (a b c d : Int) : Int := if d = 0 then (if c = 0 then (if b = 0 then (if a = 0 then 0 else 1) else 2) else 3) else 4
set_option maxHeartbeats 400000 in
theorem size_any (a b c d : Int) (w : World) :
    Calls Tryd.prog 71 #[wv a b c d] w fun e w' => e = .returned (.int .i64 (sizeF a b c d)) ∧ Below w.heap.size w w' := by
  by_cases hd : d = 0
  · subst hd
    by_cases hc : c = 0
    · subst hc
      by_cases hb : b = 0
      · subst hb
        by_cases ha : a = 0
        · subst ha
          rw [show sizeF 0 0 0 0 = 0 from rfl]
          go_enter Tryd.func71, Tryd.ntmps71
          go_wp2
          refine wp_loop_rounds 5 ?_
          iterate 5 (rw [rounds_succ]; go_wp2)
          go_ret
          exact ⟨rfl, (Below.refl _ _).alloc (Nat.le_refl _) _⟩
        · have H := Lib.hid (show sizeF a 0 0 0 = 1 by simp [sizeF, ha])
          have hd' : (a == 0) = false := by simpa using ha
          clear ha
          go_enter Tryd.func71, Tryd.ntmps71
          go_wp2
          refine wp_loop_rounds 4 ?_
          iterate 4 (rw [rounds_succ]; go_wp2)
          go_ret
          exact ⟨by rw [H.out]; rfl, (Below.refl _ _).alloc (Nat.le_refl _) _⟩
      · have H := Lib.hid (show sizeF a b 0 0 = 2 by simp [sizeF, hb])
        have hd' : (b == 0) = false := by simpa using hb
        clear hb
        go_enter Tryd.func71, Tryd.ntmps71
        go_wp2
        refine wp_loop_rounds 3 ?_
        iterate 3 (rw [rounds_succ]; go_wp2)
        go_ret
        exact ⟨by rw [H.out]; rfl, (Below.refl _ _).alloc (Nat.le_refl _) _⟩
    · have H := Lib.hid (show sizeF a b c 0 = 3 by simp [sizeF, hc])
      have hd' : (c == 0) = false := by simpa using hc
      clear hc
      go_enter Tryd.func71, Tryd.ntmps71
      go_wp2
      refine wp_loop_rounds 2 ?_
      iterate 2 (rw [rounds_succ]; go_wp2)
      go_ret
      exact ⟨by rw [H.out]; rfl, (Below.refl _ _).alloc (Nat.le_refl _) _⟩
  · have H := Lib.hid (show sizeF a b c d = 4 by simp [sizeF, hd])
    have hd' : (d == 0) = false := by simpa using hd
    clear hd
    go_enter Tryd.func71, Tryd.ntmps71
    go_wp2
    refine wp_loop_rounds 1 ?_
    rw [rounds_succ]
    go_wp2
    go_ret
    exact ⟨by rw [H.out]; rfl, (Below.refl _ _).alloc (Nat.le_refl _) _⟩
end Go.Proofs.YtlbijchbngnmmaaDoor
