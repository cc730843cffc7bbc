/- limb's twos by numbers: how many twos divide one, or both; and the mathematics of limb's shared. -/
import Derived.Test.YthmobcpdbgmbeaaGreatDoorEJ
import Derived.Test.YthmobcpdbgmbeaaGreatDoorEI
import Derived.Test.YthmobcpdbgmbeaaGreatDoorBA
import Derived.Test.YthmobcpdbgmbeaaGreatDoorEF
namespace Go.Proofs.YthmobcpdbgmbeaaGreatDoor
open Go.RowKit
theorem bitB_word {z j : Nat} (_ : j < 256) : bitB (W64 z) j = z.testBit j := by
  unfold bitB W64
  rw [show (18446744073709551616 : Nat) = 2 ^ 64 from rfl, ← Nat.pow_mul, Nat.testBit_mod_two_pow, Nat.testBit_div_two_pow, decide_eq_true (by omega : j % 64 < 64), Bool.true_and]
  congr 1
  omega
theorem T256_two : T256 = 2 ^ 256 := by decide
theorem ctz_all {x : Nat} (h0 : x ≠ 0) (h : x < T256) : ∃ m, x = 2 ^ Lib.ctz 256 x * (2 * m + 1) ∧ Lib.ctz 256 x < 256 := by
  unfold Lib.ctz
  rw [if_neg h0]
  exact Lib.ctzFrom_spec 256 x (Nat.pos_of_ne_zero h0) (by rw [← T256_two]; exact h)
theorem first_place {z : Nat} (h0 : z ≠ 0) (h : z < T256) : ∃ rest, bitsTo (W64 z) 4 = Lib.ctz 256 z :: rest := by
  obtain ⟨m, e, hk⟩ := ctz_all h0 h
  generalize Lib.ctz 256 z = k at *
  refine ⟨(List.range 256).filter (fun j => bitB (W64 z) j && decide (j ≠ k)), ?_⟩
  rw [bitsTo_list (W64 z) (fun i => W64_lt z i)]
  refine filter_low _ _ k 256 hk ?_ ?_ (fun _ => rfl)
  · rw [bitB_word hk, e, Nat.testBit_two_pow_mul]; simp
  · intro j hj
    rw [bitB_word (by omega), e, Nat.testBit_two_pow_mul, decide_eq_false (by omega), Bool.false_and]
theorem no_place : bitsTo (W64 0) 4 = [] := by
  rw [bitsTo_list (W64 0) (fun i => W64_lt 0 i), List.filter_eq_nil_iff]
  intro j hj
  rw [bitB_word (by simpa using hj)]; simp
/-- How many twos divide both; of nought any number does. -/
def bothT (x y : Nat) : Nat := if y = 0 then Lib.ctz 256 x else min (Lib.ctz 256 x) (Lib.ctz 256 y)
theorem both_least {x y : Nat} (hy : y < T256) : least (Lib.ctz 256 x) (bitsTo (W64 y) 4) = bothT x y := by
  unfold bothT
  by_cases h : y = 0
  · subst h; rw [no_place, if_pos rfl]; rfl
  · obtain ⟨r, e⟩ := first_place h hy
    rw [e, if_neg h]; rfl
theorem twos_z (z b c : Nat) (w : World) (h0 : z ≠ 0) (h : z < T256) (hr : Row w b [.int .u64 (W64 z 0 : Nat), .int .u64 (W64 z 1 : Nat), .int .u64 (W64 z 2 : Nat), .int .u64 (W64 z 3 : Nat)]) (ht : TabTz w) (hw0 : 0 < w.heap.size) :
    Calls Tryz.prog 153 #[.slice (some ⟨b, 0, none⟩) 1 c] w fun e w' => e = .returned (.int .i64 (Lib.ctz 256 z : Nat)) ∧ Below w.heap.size w w' := by
  obtain ⟨r, e⟩ := first_place h0 h
  obtain ⟨_, _, hk⟩ := ctz_all h0 h
  exact twos_one b c _ r (W64 z) (fun i => W64_lt z i) e hk w hr ht hw0
theorem twos_zz (x y b c : Nat) (w : World) (h0 : x ≠ 0) (h : x < T256) (hy : y < T256) (hr : Row w b [.int .u64 (W64 x 0 : Nat), .int .u64 (W64 x 1 : Nat), .int .u64 (W64 x 2 : Nat), .int .u64 (W64 x 3 : Nat), .int .u64 (W64 y 0 : Nat), .int .u64 (W64 y 1 : Nat), .int .u64 (W64 y 2 : Nat), .int .u64 (W64 y 3 : Nat)]) (ht : TabTz w) (hw0 : 0 < w.heap.size) :
    Calls Tryz.prog 153 #[.slice (some ⟨b, 0, none⟩) 2 c] w fun e w' => e = .returned (.int .i64 (bothT x y : Nat)) ∧ Below w.heap.size w w' := by
  obtain ⟨r, e⟩ := first_place h0 h
  obtain ⟨_, _, hk⟩ := ctz_all h0 h
  rw [← both_least hy]
  exact twos_two_any b c _ r _ (W64 x) (W64 y) (fun i => W64_lt x i) (fun i => W64_lt y i) e rfl hk w hr ht hw0
/-- A number's odd part. -/
def oddP (z : Nat) : Nat := z / 2 ^ Lib.ctz 256 z
theorem oddP_spec {z : Nat} (h0 : z ≠ 0) (h : z < T256) : z = 2 ^ Lib.ctz 256 z * oddP z ∧ oddP z % 2 = 1 ∧ oddP z ≤ z ∧ Lib.ctz 256 z < 256 := by
  obtain ⟨m, e, hk⟩ := ctz_all h0 h
  have hp : 0 < 2 ^ Lib.ctz 256 z := Nat.pow_pos (by decide)
  have h1 : oddP z = 2 * m + 1 := by
    unfold oddP
    rw (occs := .pos [1]) [e]
    exact Nat.mul_div_cancel_left _ hp
  exact ⟨by rw [h1]; exact e, by omega, Nat.div_le_self _ _, hk⟩
theorem oddP_gcd {a z : Nat} (ha : a % 2 = 1) (h0 : z ≠ 0) (h : z < T256) : a.gcd (oddP z) = a.gcd z := by
  obtain ⟨e, _⟩ := oddP_spec h0 h
  rw (occs := .pos [2]) [e]
  exact (gcd_twos ha _ _).symm
/-- The twos that divide both, and the odd part's divisor: the divisor of both. -/
theorem gcd_both {x y : Nat} (h0 : x ≠ 0) (hx : x < T256) (hy : y < T256) : (oddP x).gcd y * 2 ^ bothT x y = x.gcd y ∧ bothT x y < 256 := by
  obtain ⟨e, ho, _, hk⟩ := oddP_spec h0 hx
  unfold bothT
  by_cases hz : y = 0
  · subst hz
    rw [if_pos rfl, Nat.gcd_zero_right, Nat.gcd_zero_right, Nat.mul_comm]
    exact ⟨e.symm, hk⟩
  · obtain ⟨e2, ho2, _, hk2⟩ := oddP_spec hz hy
    rw [if_neg hz]
    refine ⟨?_, by omega⟩
    have hg : (oddP x).gcd y = (oddP x).gcd (oddP y) := (oddP_gcd ho hz hy).symm
    rw [hg]
    generalize oddP x = p at *
    generalize oddP y = q at *
    generalize Lib.ctz 256 x = i at *
    generalize Lib.ctz 256 y = j at *
    subst e
    subst e2
    by_cases hij : i ≤ j
    · obtain ⟨d, rfl⟩ : ∃ d, j = i + d := ⟨j - i, by omega⟩
      rw [Nat.min_eq_left hij, Nat.pow_add, Nat.mul_assoc, Nat.gcd_mul_left, gcd_twos ho, Nat.mul_comm]
    · obtain ⟨d, rfl⟩ : ∃ d, i = j + d := ⟨i - j, by omega⟩
      rw [Nat.min_eq_right (by omega), Nat.pow_add, Nat.mul_assoc, Nat.gcd_mul_left, Nat.gcd_comm (2 ^ d * p), gcd_twos ho2, Nat.gcd_comm q, Nat.mul_comm]
end Go.Proofs.YthmobcpdbgmbeaaGreatDoor
namespace Go.Proofs.YthmobcpdbgmbeaaGreatDoor
open Go.RowKit
theorem dif_words {m n : Nat} (hle : m ≤ n) (hn : n < T256) (i : Nat) (hi : i < 4) : difF (fun i => ((W64 n i : Nat) : Int)) (fun i => ((W64 m i : Nat) : Int)) i = ((W64 (n - m) i : Nat) : Int) := by
  have hx := cast_bd (R := W64 n) (fun i => W64_lt n i)
  have hy := cast_bd (R := W64 m) (fun i => W64_lt m i)
  have h1 := valI_diff hx hy 4
  have h2 := valI_bd (difF_bd (fun i => ((W64 n i : Nat) : Int)) (fun i => ((W64 m i : Nat) : Int))) 4
  have h3 := borF_bd (fun i => ((W64 n i : Nat) : Int)) (fun i => ((W64 m i : Nat) : Int)) 4
  have hd : ∀ i, 0 ≤ difF (fun i => ((W64 n i : Nat) : Int)) (fun i => ((W64 m i : Nat) : Int)) i ∧ difF (fun i => ((W64 n i : Nat) : Int)) (fun i => ((W64 m i : Nat) : Int)) i < B64 := difF_bd _ _
  generalize difF (fun i => ((W64 n i : Nat) : Int)) (fun i => ((W64 m i : Nat) : Int)) = d at *
  obtain ⟨e, he⟩ : ∃ e : Nat → Nat, ∀ i, d i = (e i : Int) := ⟨fun i => (d i).toNat, fun i => (Int.toNat_of_nonneg (hd i).1).symm⟩
  have hel : ∀ i, e i < 18446744073709551616 := fun i => by
    have h4 := (hd i).2
    rw [he] at h4
    unfold B64 at h4
    omega
  rw [show d = fun i => (e i : Int) from funext he] at h1 h2 ⊢
  rw [valI_cast, valI_cast, valI_cast, valW_W64, valW_W64, ← T256_w, Nat.mod_eq_of_lt hn, Nat.mod_eq_of_lt (Nat.lt_of_le_of_lt hle hn)] at h1
  rw [valI_cast] at h2
  have h5 : valW e 4 = n - m := by
    rcases (show borF (fun i => ((W64 n i : Nat) : Int)) (fun i => ((W64 m i : Nat) : Int)) 4 = 0 ∨ borF (fun i => ((W64 n i : Nat) : Int)) (fun i => ((W64 m i : Nat) : Int)) 4 = 1 by omega) with h | h
    · rw [h, Int.zero_mul] at h1
      omega
    · rw [h, Int.one_mul] at h1
      have h6 := h2.2
      generalize B64 ^ 4 = P at *
      omega
  show ((e i : Nat) : Int) = _
  rw [← h5, W64_val 4 (fun i _ => hel i) i hi]
theorem takeFrom_z (m n bM bN c c' : Nat) (w : World) (hle : m ≤ n) (hn : n < T256) (hne : bM ≠ bN) (hM : R4 w bM (W64 m)) (hN : R4 w bN (W64 n)) :
    Calls Tryz.prog 152 #[.slice (some ⟨bN, 0, none⟩) 4 c, .slice (some ⟨bM, 0, none⟩) 4 c'] w fun e w' => e = .returned (.tuple #[]) ∧ On w w' bN ∧ R4 w' bN (W64 (n - m)) := by
  refine (takeFrom_any (fun i => ((W64 n i : Nat) : Int)) (fun i => ((W64 m i : Nat) : Int)) 4 bN 0 bM 0 c c' w (by decide) hne (fun i hi => by rw [Nat.zero_add]; exact hN.2 i hi) (fun i hi => by rw [Nat.zero_add]; exact (hM.2 i hi).1) (cast_bd (fun i => W64_lt n i)) (cast_bd (fun i => W64_lt m i))).mono ?_
  rintro e w' ⟨rfl, ho, hc, _⟩
  refine ⟨rfl, ho, by rw [ho.size]; exact hN.1, fun i hi => ⟨?_, (ho.frozen _).trans (hN.2 i hi).2⟩⟩
  have h := hc i hi
  rw [Nat.zero_add, dif_words hle hn i hi] at h
  exact h
theorem down_z (z k : Nat) (w : World) (hz : z < T256) (hk : k < 256) :
    Calls Tryz.prog 154 #[wv (W64 z 0 : Nat) (W64 z 1 : Nat) (W64 z 2 : Nat) (W64 z 3 : Nat), .int .i64 (k : Nat)] w fun e w' =>
      e = .returned (wv (W64 (z / 2 ^ k) 0 : Nat) (W64 (z / 2 ^ k) 1 : Nat) (W64 (z / 2 ^ k) 2 : Nat) (W64 (z / 2 ^ k) 3 : Nat)) ∧ Below w.heap.size w w' := by
  have h := down_any z (k / 64) (k % 64) w hz (by omega) (by omega)
  rw [show 64 * (k / 64) + k % 64 = k by omega] at h
  exact h
theorem up_z (z k : Nat) (w : World) (hk : k < 256) :
    Calls Tryz.prog 157 #[wv (W64 z 0 : Nat) (W64 z 1 : Nat) (W64 z 2 : Nat) (W64 z 3 : Nat), .int .i64 (k : Nat)] w fun e w' =>
      e = .returned (wv (W64 (z * 2 ^ k) 0 : Nat) (W64 (z * 2 ^ k) 1 : Nat) (W64 (z * 2 ^ k) 2 : Nat) (W64 (z * 2 ^ k) 3 : Nat)) ∧ Below w.heap.size w w' := by
  have h := up_any z (k / 64) (k % 64) w (by omega) (by omega)
  rw [show 64 * (k / 64) + k % 64 = k by omega] at h
  exact h
/-- How many words a number has: one, or more. -/
theorem size_one (z : Nat) (hz : z < T256) : (sizeF (W64 z 0 : Nat) (W64 z 1 : Nat) (W64 z 2 : Nat) (W64 z 3 : Nat) = 1 → z < 18446744073709551616) := by
  intro h
  rcases Nat.eq_zero_or_pos z with rfl | hp
  · decide
  · obtain ⟨t, _, h1, _, h2⟩ := size_top hz hp
    rw [h] at h1
    obtain rfl : t = 0 := by omega
    simpa using h2
end Go.Proofs.YthmobcpdbgmbeaaGreatDoor
