/- Contract of limb's sharedOdd: the greatest divisor of two odd words. -/
import Derived.Test.YthmobcpdbgmbeaaGreatDoorP
import Derived.Test.YthmobcpdbgmbeaaGreatDoorEA
namespace Go.Proofs.YthmobcpdbgmbeaaGreatDoor
open Go.RowKit
theorem ctz_split {x : Nat} (h0 : x ≠ 0) (h : x < 18446744073709551616) : ∃ m, x = 2 ^ Lib.ctz 64 x * (2 * m + 1) ∧ Lib.ctz 64 x < 64 := by
  have h1 := Lib.ctzFrom_spec 64 x (Nat.pos_of_ne_zero h0) h
  unfold Lib.ctz
  rw [if_neg h0]
  exact h1
theorem gcd_twos {a : Nat} (ha : a % 2 = 1) (k n : Nat) : a.gcd (2 ^ k * n) = a.gcd n := by
  apply Nat.Coprime.gcd_mul_left_cancel_right
  apply Nat.Coprime.pow_left
  rw [Nat.Coprime, Nat.gcd_rec, ha]
  rfl
/-- A round of sharedOdd: the less from the greater, and halved till odd. -/
theorem odd_step {a b : Nat} (ha : a % 2 = 1) (hb : b % 2 = 1) (hab : a < b) (hbl : b < 18446744073709551616) :
    ∃ k c, Lib.ctz 64 (b - a) = k ∧ k < 64 ∧ (b - a) / 2 ^ k = c ∧ c % 2 = 1 ∧ c < b ∧ a.gcd c = a.gcd b := by
  obtain ⟨m, e, hk⟩ := ctz_split (x := b - a) (by omega) (by omega)
  generalize Lib.ctz 64 (b - a) = k at *
  have hp : 0 < 2 ^ k := Nat.pow_pos (by decide)
  have hd : (b - a) / 2 ^ k = 2 * m + 1 := by rw [e, Nat.mul_div_cancel_left _ hp]
  refine ⟨k, 2 * m + 1, rfl, hk, hd, by omega, ?_, ?_⟩
  · have h1 : (b - a) / 2 ^ k ≤ b - a := Nat.div_le_self _ _
    omega
  · rw [← Nat.gcd_sub_self_right (Nat.le_of_lt hab), e, gcd_twos ha]
set_option maxRecDepth 100000 in
set_option maxHeartbeats 1600000 in
theorem odd_any (m n : Nat) (hm : m % 2 = 1) (hn : n % 2 = 1) (lm : m < 18446744073709551616) (ln : n < 18446744073709551616) (w : World) (ht : TabTz w) :
    Calls Tryz.prog 156 #[.int .u64 (m : Nat), .int .u64 (n : Nat)] w fun e w' => e = .returned (.int .u64 (Nat.gcd m n : Nat)) ∧ w = w' := by
  have Htz := Lib.hid (fun (x : Nat) (hx : x < 18446744073709551616) => (Tryz.bits_TrailingZeros64 x hx w (fun _ => ht)).mono fun _ _ (h : _ ∧ _) => (⟨h.1, h.2.symm⟩ : _ ∧ w = _))
  have HM := Lib.hid (show m % 2 = 1 ∧ m < 18446744073709551616 from ⟨hm, lm⟩)
  have HN := Lib.hid (show n % 2 = 1 ∧ n < 18446744073709551616 from ⟨hn, ln⟩)
  clear hm hn lm ln ht
  go_enter Tryz.func156, Tryz.ntmps156
  go_wp2_with fail
  go_loopw [0, 1] (fun v u wr => ∃ a b : Nat, v = .int .u64 (a : Nat) ∧ u = .int .u64 (b : Nat) ∧ Hid (a % 2 = 1 ∧ a < 18446744073709551616) ∧ Hid (b % 2 = 1 ∧ b < 18446744073709551616) ∧ Hid (a.gcd b = m.gcd n) ∧ wr = w) (fun v u _ => (intOf v + intOf u).toNat)
  case atStart => exact ⟨m, n, rfl, rfl, HM, HN, Lib.hid rfl, rfl⟩
  case round =>
    obtain ⟨a, b, rfl, rfl, HA, HB, HG, rfl⟩ := hrel
    clear HM HN
    rcases Nat.lt_trichotomy a b with h | h | h
    · obtain ⟨k, c, e1, hk, e2, hc, hcb, hg⟩ := odd_step HA.out.1 HB.out.1 h HB.out.2
      have hbl := HB.out.2
      have HC := Lib.hid (show c % 2 = 1 ∧ c < 18446744073709551616 from ⟨hc, by omega⟩)
      have HG2 : Hid (a.gcd c = m.gcd n) := Lib.hid (hg.trans (HG.out))
      have hT := Htz.out (b - a) (by omega)
      rw [e1] at hT
      have HT := Lib.hid hT
      have hne : ¬ (a : Int) = b := by omega
      have hmin : min (a : Int) b = a := by omega
      have hmax : max (a : Int) b = b := by omega
      have hle : (a : Int) ≤ b := by omega
      have hsub : IntKind.u64.wrap ((b : Int) - a) = ((b - a : Nat) : Int) := by
        rw [show (b : Int) - a = ((b - a : Nat) : Int) by omega]
        simp [IntKind.wrap, IntKind.bits, IntKind.signed]; omega
      have hshr : ((b - a : Nat) : Int) / 2 ^ k = (c : Int) := by
        rw [← e2]; simp
      have hk0 : ¬ (k : Int) < 0 := by omega
      have hk1 : (k : Int) < 64 := by omega
      clear hT hc hg e1 HG e2
      go_wp2_with fail
      refine HT.out.mono ?_
      rintro e w2 ⟨rfl, rfl⟩
      go_wp2_with fail
      refine ⟨⟨a, c, rfl, rfl, HA, HC, HG2, trivial⟩, ?_⟩
      · simp [intOf]; omega
    · subst h
      rw [Nat.gcd_self] at HG
      have HR := HG
      clear HG HA HB
      go_wp2_with fail
      go_ret
      exact ⟨by show Ending.returned (.int .u64 (a : Nat)) = _; rw [HR.out], rfl⟩
    · obtain ⟨k, c, e1, hk, e2, hc, hcb, hg⟩ := odd_step HB.out.1 HA.out.1 h HA.out.2
      have hbl := HA.out.2
      have HC := Lib.hid (show c % 2 = 1 ∧ c < 18446744073709551616 from ⟨hc, by omega⟩)
      have HG2 : Hid (b.gcd c = m.gcd n) := Lib.hid (hg.trans ((Nat.gcd_comm b a).trans HG.out))
      have hT := Htz.out (a - b) (by omega)
      rw [e1] at hT
      have HT := Lib.hid hT
      have hne : ¬ (a : Int) = b := by omega
      have hmin : min (a : Int) b = b := by omega
      have hmax : max (a : Int) b = a := by omega
      have hle : (b : Int) ≤ a := by omega
      have hsub : IntKind.u64.wrap ((a : Int) - b) = ((a - b : Nat) : Int) := by
        rw [show (a : Int) - b = ((a - b : Nat) : Int) by omega]
        simp [IntKind.wrap, IntKind.bits, IntKind.signed]; omega
      have hshr : ((a - b : Nat) : Int) / 2 ^ k = (c : Int) := by
        rw [← e2]; simp
      have hk0 : ¬ (k : Int) < 0 := by omega
      have hk1 : (k : Int) < 64 := by omega
      clear hT hc hg e1 HG e2
      go_wp2_with fail
      refine HT.out.mono ?_
      rintro e w2 ⟨rfl, rfl⟩
      go_wp2_with fail
      refine ⟨⟨b, c, rfl, rfl, HB, HC, HG2, trivial⟩, ?_⟩
      · simp [intOf]; omega
end Go.Proofs.YthmobcpdbgmbeaaGreatDoor
