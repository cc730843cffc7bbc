/- LimbQuos: what its calls answer at right Ints; LimbQuos at every two Ints. -/
import Derived.Test.YtpbdhhdmnnelhaaDoorEU
import Derived.Test.YtpbdhhdmnnelhaaDoorEN
import Derived.Test.YtpbdhhdmnnelhaaDoorCO
namespace Go.Proofs.YtpbdhhdmnnelhaaDoor
open Go.RowKit

theorem gcd_lt (x y : Int) (hx : x.natAbs < T256) (hy : y.natAbs < T256) : Int.gcd x y < T256 := by
  show x.natAbs.gcd y.natAbs < T256
  rcases Nat.eq_zero_or_pos x.natAbs with h | h
  · rw [h, Nat.gcd_zero_left]; exact hy
  · exact Nat.lt_of_le_of_lt (Nat.le_of_dvd h (Nat.gcd_dvd_left _ _)) hx
theorem out_ok (z : Int) (A : Option Addr) (c : Nat) (w : World) (hz : z.natAbs < T256) (hd : DS w z.natAbs A) :
    Calls Tryd.prog 27 #[bigv z A c] w fun e w' => e = .returned (.tuple #[ivz z, .int .i64 0]) ∧ Below w.heap.size w w' := by
  have h := out_z z A c w hd
  rw [outV, if_pos hz] at h
  exact h
theorem head_z (x y : Int) (w : World) (hx : x.natAbs < T256) (hy : y.natAbs < T256) (hz : TabTz w) (hw0 : 0 < w.heap.size) (hg : 0 < w.heap.size) (qs rs : Bool) (q0 q1 q2 q3 r0 r1 r2 r3 ke : Int)
    (hQ : ∀ W, Calls Tryd.prog 30 #[ivz x, ivz y] W fun e w' => e = .returned (.tuple #[iv qs q0 q1 q2 q3, iv rs r0 r1 r2 r3, .int .i64 ke]) ∧ Below W.heap.size W w') :
    QHead w (decide (x < 0)) (decide (y < 0)) qs rs (decide (((Int.gcd x y : Nat) : Int) < 0)) (L16 x.natAbs) (L16 y.natAbs) (L16 (Int.gcd x y)) x.natAbs y.natAbs (Int.gcd x y)
      (W64 x.natAbs 0 : Nat) (W64 x.natAbs 1 : Nat) (W64 x.natAbs 2 : Nat) (W64 x.natAbs 3 : Nat) (W64 y.natAbs 0 : Nat) (W64 y.natAbs 1 : Nat) (W64 y.natAbs 2 : Nat) (W64 y.natAbs 3 : Nat) q0 q1 q2 q3 r0 r1 r2 r3
      (W64 (Int.gcd x y) 0 : Nat) (W64 (Int.gcd x y) 1 : Nat) (W64 (Int.gcd x y) 2 : Nat) (W64 (Int.gcd x y) 3 : Nat) ke := by
  refine ⟨hQ, fun W hW => gcd_z x y W hx hy (hz.below hg hW) (Nat.lt_of_lt_of_le hw0 hW.size), fun W => ?_, fun W => ?_, fun W => from_z x W hx, fun W => from_z y W hy, fun A1 A2 c1 c2 W h1 h2 h3 h4 => refgcd_z x y A1 A2 c1 c2 W h1 h2 h3 h4 hx hy,
    fun A c W h => out_ok (Int.gcd x y : Nat) A c W (gcd_lt x y hx hy) h⟩
  · have h := right_any (decide (x < 0)) (W64 x.natAbs 0 : Nat) (W64 x.natAbs 1 : Nat) (W64 x.natAbs 2 : Nat) (W64 x.natAbs 3 : Nat) W
    rw [right_num x hx] at h
    exact h
  · have h := right_any (decide (y < 0)) (W64 y.natAbs 0 : Nat) (W64 y.natAbs 1 : Nat) (W64 y.natAbs 2 : Nat) (W64 y.natAbs 3 : Nat) W
    rw [right_num y hy] at h
    exact h
theorem is_zero (z : Int) (hz : z.natAbs < T256) (W : World) :
    (binOp .eql 25 (iv (decide (z < 0)) (W64 z.natAbs 0 : Nat) (W64 z.natAbs 1 : Nat) (W64 z.natAbs 2 : Nat) (W64 z.natAbs 3 : Nat)) (iv false 0 0 0 0)).run Tryd.prog W = .ok (.bool (decide (z = 0))) W := by
  rw [eqlInt]
  have h := zeroB_W64 hz
  unfold zeroB at h
  rw [h]
  by_cases h0 : z = 0
  · subst h0; rfl
  · rw [decide_eq_false h0, Bool.and_false]
theorem tdiv_lt (x y : Int) (hx : x.natAbs < T256) : (x.tdiv y).natAbs < T256 := by
  rw [Int.natAbs_tdiv]; exact Nat.lt_of_le_of_lt (Nat.div_le_self _ _) hx
theorem tmod_lt (x y : Int) (hx : x.natAbs < T256) : (x.tmod y).natAbs < T256 := by
  rw [Int.natAbs_tmod]; exact Nat.lt_of_le_of_lt (Nat.mod_le _ _) hx
theorem quos_r (x y : Int) (w : World) (ht : Tab10 w) (hz : TabTz w) (hw0 : 0 < w.heap.size) (hx : x.natAbs < T256) (hy : y.natAbs < T256) :
    Calls Tryd.prog 5 #[ivz x, ivz y] w fun e w' => e = .returned (.bool true) ∧ Below w.heap.size w w' := by
  have hg : 0 < w.heap.size := block_lt_of_cell (hz 0 (by decide))
  by_cases h0 : y = 0
  · refine quos_core (decide (y = 0)) (decide (x < 0)) (decide (y < 0)) false false _ _ _ _ 0 0 _ _ _ 0 0 _ _ _ _ _ _ _ _ 0 0 0 0 0 0 0 0 _ _ _ _ 2 w ht hz hw0
      (head_z x y w hx hy hz hw0 hg false false 0 0 0 0 0 0 0 0 2 fun W => ?_) (is_zero y hy) (.inl ⟨decide_eq_true h0, ⟨rfl, rfl, rfl, rfl, rfl⟩, ⟨rfl, rfl, rfl, rfl, rfl⟩, rfl⟩)
    subst h0
    have h := quo_zero (decide (x < 0)) (W64 x.natAbs 0 : Nat) (W64 x.natAbs 1 : Nat) (W64 x.natAbs 2 : Nat) (W64 x.natAbs 3 : Nat) W (ivz_right x hx)
    rw [← ivz_nought]
    exact h
  · refine quos_core (decide (y = 0)) (decide (x < 0)) (decide (y < 0)) (decide (x.tdiv y < 0)) (decide (x.tmod y < 0)) _ _ _ _ (L16 (x.tdiv y).natAbs) (L16 (x.tmod y).natAbs) _ _ _ (x.tdiv y).natAbs (x.tmod y).natAbs _ _ _ _ _ _ _ _
      (W64 (x.tdiv y).natAbs 0 : Nat) (W64 (x.tdiv y).natAbs 1 : Nat) (W64 (x.tdiv y).natAbs 2 : Nat) (W64 (x.tdiv y).natAbs 3 : Nat) (W64 (x.tmod y).natAbs 0 : Nat) (W64 (x.tmod y).natAbs 1 : Nat) (W64 (x.tmod y).natAbs 2 : Nat) (W64 (x.tmod y).natAbs 3 : Nat) _ _ _ _ 0 w ht hz hw0
      (head_z x y w hx hy hz hw0 hg _ _ _ _ _ _ _ _ _ _ 0 fun W => quo_z x y W hx hy h0) (is_zero y hy) (.inr ⟨decide_eq_false h0, rfl, fun A1 A2 c1 c2 W h1 h2 => ?_, fun A c W h => ?_, fun A c W h => ?_⟩)
    · exact refquo_z x y A1 A2 c1 c2 W h1 h2 (by have := L16_int.1 hx; omega) (by have := L16_int.1 hy; omega) h0
    · exact out_ok (x.tdiv y) A c W (tdiv_lt x y hx) h
    · exact out_ok (x.tmod y) A c W (tmod_lt x y hx) h
theorem quos_true (s t : Bool) (a0 a1 a2 a3 b0 b1 b2 b3 : Int) (w : World) (ht : Tab10 w) (hz : TabTz w) (hw0 : 0 < w.heap.size)
    (ha0 : 0 ≤ a0 ∧ a0 < 18446744073709551616) (ha1 : 0 ≤ a1 ∧ a1 < 18446744073709551616) (ha2 : 0 ≤ a2 ∧ a2 < 18446744073709551616) (ha3 : 0 ≤ a3 ∧ a3 < 18446744073709551616)
    (hb0 : 0 ≤ b0 ∧ b0 < 18446744073709551616) (hb1 : 0 ≤ b1 ∧ b1 < 18446744073709551616) (hb2 : 0 ≤ b2 ∧ b2 < 18446744073709551616) (hb3 : 0 ≤ b3 ∧ b3 < 18446744073709551616) :
    Calls Tryd.prog 5 #[iv s a0 a1 a2 a3, iv t b0 b1 b2 b3] w fun e w' => e = .returned (.bool true) ∧ Below w.heap.size w w' := by
  by_cases h : (rightB s a0 a1 a2 a3 && rightB t b0 b1 b2 b3) = true
  · obtain ⟨h1, h2⟩ := Bool.and_eq_true_iff.1 h
    have h1' : (s && zeroB a0 a1 a2 a3) = false := by unfold rightB at h1; revert h1; cases (s && zeroB a0 a1 a2 a3) <;> simp
    have h2' : (t && zeroB b0 b1 b2 b3) = false := by unfold rightB at h2; revert h2; cases (t && zeroB b0 b1 b2 b3) <;> simp
    obtain ⟨x, hx, hex, _⟩ := iv_num s a0 a1 a2 a3 ha0 ha1 ha2 ha3 h1'
    obtain ⟨y, hy, hey, _⟩ := iv_num t b0 b1 b2 b3 hb0 hb1 hb2 hb3 h2'
    rw [hex, hey]
    exact quos_r x y w ht hz hw0 hx hy
  · have hr : (rightB s a0 a1 a2 a3 && rightB t b0 b1 b2 b3) = false := by cases hq : (rightB s a0 a1 a2 a3 && rightB t b0 b1 b2 b3) <;> simp_all
    refine quos_wrong s t a0 a1 a2 a3 b0 b1 b2 b3 w ht hz hw0 ?_ hr
    rw [errAll_two, right_err, right_err]
    revert hr
    cases rightB s a0 a1 a2 a3 <;> cases rightB t b0 b1 b2 b3 <;> simp
end Go.Proofs.YtpbdhhdmnnelhaaDoor
