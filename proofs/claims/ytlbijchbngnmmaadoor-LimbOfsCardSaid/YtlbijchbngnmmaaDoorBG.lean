/- Contracts of the document's mags, Cmp, Sign by the numbers' values. -/
import Derived.Test.YtlbijchbngnmmaaDoorBD
namespace Go.Proofs.YtlbijchbngnmmaaDoor
open Go.RowKit

def cmpN (a b : Nat) : Int := if a < b then -1 else if b < a then 1 else 0
theorem ordD_digR (a b n : Nat) : ordD (digR a) (digR b) n = cmpN (a % 65536 ^ n) (b % 65536 ^ n) := by
  induction n with
  | zero => rw [ordD, Nat.pow_zero, Nat.mod_one, Nat.mod_one]; rfl
  | succ n ih =>
    have h1 := Nat.mod_lt a (Nat.pow_pos (n := n) (show 0 < 65536 by decide))
    have h2 := Nat.mod_lt b (Nat.pow_pos (n := n) (show 0 < 65536 by decide))
    rw [ordD, ih, div_add_mod_pow, div_add_mod_pow]
    unfold digR cmpN
    generalize a % 65536 ^ n = α at *
    generalize b % 65536 ^ n = β at *
    generalize 65536 ^ n = p at *
    generalize D16 a n = x
    generalize D16 b n = y
    rcases Nat.lt_trichotomy x y with h | h | h
    · have : (x + 1) * p ≤ y * p := Nat.mul_le_mul_right _ h
      rw [Nat.add_mul] at this
      rw [if_pos (by omega), if_pos (by omega)]
    · subst h
      simp only [Int.lt_irrefl, if_false, Nat.add_lt_add_iff_right]
    · have : (y + 1) * p ≤ x * p := Nat.mul_le_mul_right _ h
      rw [Nat.add_mul] at this
      rw [if_neg (by omega), if_pos (by omega), if_neg (by omega), if_pos (by omega)]
theorem mags_val (a b : Nat) : magsF (digR a) (digR b) (L16 a) (L16 b) = cmpN a b := by
  have h1 := Nat.le_max_left (L16 a) (L16 b)
  have h2 := Nat.le_max_right (L16 a) (L16 b)
  generalize max (L16 a) (L16 b) = n at *
  rw [← cut_digR h1, ← cut_digR h2, mags_cut _ _ (fun i => (digR_bd a i).1) (fun i => (digR_bd b i).1), ordD_digR, mod_pow_all h1, mod_pow_all h2]

set_option maxHeartbeats 400000 in
theorem mags_z (a b : Nat) (A B : Option Addr) (c c' : Nat) (w : World) (ha : DS w a A) (hb : DS w b B) (la : L16 a ≤ 1000000) (lb : L16 b ≤ 1000000) :
    Calls Tryd.prog 56 #[.slice A (L16 a) c, .slice B (L16 b) c'] w fun e w' => e = .returned (.int .i64 (cmpN a b)) ∧ ∃ k, w' = w.drewN k := by
  by_cases hnm : L16 a = L16 b
  · rcases Nat.eq_zero_or_pos (L16 a) with h0 | hp
    · have e1 := L16_zero h0
      have e2 := L16_zero (hnm ▸ h0)
      subst e1 e2
      clear ha hb
      rw [show cmpN 0 0 = 0 from rfl, L16_nought]
      go_enter Tryd.func56, Tryd.ntmps56
      go_wp2
      refine wp_loop_rounds 1 ?_
      iterate 1 (rw [rounds_succ]; go_wp2)
      go_ret
      exact ⟨rfl, 0, rfl⟩
    · obtain ⟨p, rfl, hl, hx⟩ := ha hp
      obtain ⟨q, rfl, hl', hy⟩ := hb (hnm ▸ hp)
      have := mags_any (digR a) (digR b) (L16 a) (L16 b) p 0 c q 0 c' w la lb (fun i hi => by rw [Nat.zero_add]; exact hx i hi) (fun i hi => by rw [Nat.zero_add]; exact hy i hi)
      rw [mags_val] at this
      exact this
  · have HM := Lib.hid (mags_val a b)
    generalize cmpN a b = v at *
    clear ha hb
    generalize hn : L16 a = n at *
    generalize hm : L16 b = m at *
    have HM' : Hid (v = if n < m then -1 else 1) := by
      refine Lib.hid (HM.out.symm.trans ?_)
      unfold magsF
      rw [if_neg hnm]
    clear hn hm HM
    by_cases hl : n < m
    · have HM := Lib.hid (HM'.out.trans (if_pos hl))
      have h1 : (n : Int) ≠ m := by omega
      have h2 : (n : Int) < m := by omega
      rw [HM.out]
      clear HM HM'
      go_enter Tryd.func56, Tryd.ntmps56
      go_wp2
      go_ret
      exact ⟨rfl, 0, rfl⟩
    · have HM := Lib.hid (HM'.out.trans (if_neg hl))
      have h1 : (n : Int) ≠ m := by omega
      have h2 : ¬ (n : Int) < m := by omega
      rw [HM.out]
      clear HM HM'
      go_enter Tryd.func56, Tryd.ntmps56
      go_wp2
      go_ret
      exact ⟨rfl, 0, rfl⟩

theorem cmp_signs (x y : Int) : cmpI x y = (match decide (x < 0), decide (y < 0) with
    | true, true => cmpN y.natAbs x.natAbs
    | true, false => -1
    | false, true => 1
    | false, false => cmpN x.natAbs y.natAbs) := by
  unfold cmpI cmpN
  by_cases hx : x < 0 <;> by_cases hy : y < 0 <;> simp only [hx, hy, decide_true, decide_false] <;> (repeat' split) <;> omega

set_option maxHeartbeats 400000 in
theorem cmp_z (x y : Int) (A B : Option Addr) (c c' : Nat) (w : World) (ha : DS w x.natAbs A) (hb : DS w y.natAbs B) (la : L16 x.natAbs ≤ 1000000) (lb : L16 y.natAbs ≤ 1000000) :
    Calls Tryd.prog 35 #[bigv x A c, bigv y B c'] w fun e w' => e = .returned (.int .i64 (cmpI x y)) ∧ Below w.heap.size w w' := by
  have H1 := Lib.hid (fun W (hW : Below w.heap.size w W) => mags_z x.natAbs y.natAbs A B c c' W (ha.below hW) (hb.below hW) la lb)
  have H2 := Lib.hid (fun W (hW : Below w.heap.size w W) => mags_z y.natAbs x.natAbs B A c' c W (hb.below hW) (ha.below hW) lb la)
  rw [bigv, bigv, cmp_signs]
  clear ha hb
  generalize x.natAbs = a at *
  generalize y.natAbs = b at *
  generalize L16 a = n at *
  generalize L16 b = m at *
  generalize cmpN a b = v at *
  generalize cmpN b a = v' at *
  cases decide (x < 0) <;> cases decide (y < 0)
  · go_enter Tryd.func35, Tryd.ntmps35
    go_wp2_with fail
    generalize hW : World.alloc _ _ = W0
    have hB : Below w.heap.size w W0 := by rw [← hW]; exact ((Below.refl w.heap.size w).alloc (Nat.le_refl _) _).alloc (by simp) _
    clear hW
    refine (H1.out _ hB).mono ?_
    rintro e w1 ⟨rfl, kd, rfl⟩
    go_wp2_with fail
    go_ret
    exact ⟨rfl, below_drewN hB kd⟩
  · go_enter Tryd.func35, Tryd.ntmps35
    go_wp2_with fail
    go_ret
    exact ⟨rfl, ((Below.refl w.heap.size w).alloc (Nat.le_refl _) _).alloc (by simp) _⟩
  · go_enter Tryd.func35, Tryd.ntmps35
    go_wp2_with fail
    go_ret
    exact ⟨rfl, ((Below.refl w.heap.size w).alloc (Nat.le_refl _) _).alloc (by simp) _⟩
  · go_enter Tryd.func35, Tryd.ntmps35
    go_wp2_with fail
    generalize hW : World.alloc _ _ = W0
    have hB : Below w.heap.size w W0 := by rw [← hW]; exact ((Below.refl w.heap.size w).alloc (Nat.le_refl _) _).alloc (by simp) _
    clear hW
    refine (H2.out _ hB).mono ?_
    rintro e w1 ⟨rfl, kd, rfl⟩
    go_wp2_with fail
    go_ret
    exact ⟨rfl, below_drewN hB kd⟩

theorem bigv_nought : bigv 0 none 0 = .agg #[.bool false, .slice none 0 0] := by
  rw [bigv]
  show Value.agg #[.bool (decide ((0 : Int) < 0)), .slice none (L16 0) 0] = _
  rw [L16_nought]; rfl
theorem refsign_z (x : Int) (A : Option Addr) (c : Nat) (w : World) (ha : DS w x.natAbs A) (la : L16 x.natAbs ≤ 1000000) :
    Calls Tryd.prog 16 #[bigv x A c] w fun e w' => e = .returned (.int .i64 (cmpI x 0)) ∧ Below w.heap.size w w' := by
  have H1 := Lib.hid (fun W (hW : Below w.heap.size w W) => cmp_z x 0 A none c 0 W (ha.below hW) (DS.nought none) la (by show L16 0 ≤ _; rw [L16_nought]; omega))
  rw [bigv_nought, bigv] at H1
  rw [bigv]
  clear ha
  generalize decide (x < 0) = s at *
  generalize L16 x.natAbs = n at *
  generalize cmpI x 0 = v at *
  go_enter Tryd.func16, Tryd.ntmps16
  go_wp2_with fail
  have hB : Below w.heap.size w (w.alloc (Obj.cells #[.bool s, .slice A n c] 30)) := (Below.refl w.heap.size w).alloc (Nat.le_refl _) _
  refine (H1.out _ hB).mono ?_
  rintro e w1 ⟨rfl, hb⟩
  go_wp2_with fail
  go_ret
  exact ⟨rfl, hB.trans (hb.mono hB.size)⟩
end Go.Proofs.YtlbijchbngnmmaaDoor
