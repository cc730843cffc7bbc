import Derived.Test.YtongeeggaigepaaGreatDoorZKkEA
import Derived.Test.YtongeeggaigepaaGreatDoorZKkBX
import Derived.Test.YtongeeggaigepaaGreatDoorZKkDD
namespace Go.Proofs.YtongeeggaigepaaGreatDoor
open Go.RowKit
theorem R4.row {w : World} {b : Nat} {x : Nat → Nat} (h : R4 w b x) : Row w b [.int .u64 (x 0 : Nat), .int .u64 (x 1 : Nat), .int .u64 (x 2 : Nat), .int .u64 (x 3 : Nat)] := ⟨h.1, fun i v hv => by
 match i, hv with
 | 0, hv => exact ⟨(h.2 0 (by decide)).1.trans hv, (h.2 0 (by decide)).2⟩
 | 1, hv => exact ⟨(h.2 1 (by decide)).1.trans hv, (h.2 1 (by decide)).2⟩
 | 2, hv => exact ⟨(h.2 2 (by decide)).1.trans hv, (h.2 2 (by decide)).2⟩
 | 3, hv => exact ⟨(h.2 3 (by decide)).1.trans hv, (h.2 3 (by decide)).2⟩⟩
theorem R4.put4 {w : World} {b : Nat} {x : Nat → Nat} (h : R4 w b x) (y : Nat → Nat) : R4 ((((w.setCell ⟨b, 0, none⟩ (.int .u64 (y 0 : Nat))).setCell ⟨b, 1, none⟩ (.int .u64 (y 1 : Nat))).setCell ⟨b, 2, none⟩ (.int .u64 (y 2 : Nat))).setCell ⟨b, 3, none⟩ (.int .u64 (y 3 : Nat))) b y :=
 R4.of_row (h.row.put4 _ _ _ _)
theorem R4.other4 {w : World} {b c : Nat} {x : Nat → Nat} (h : R4 w b x) (hc : c ≠ b) (y0 y1 y2 y3 : Value) : R4 ((((w.setCell ⟨c, 0, none⟩ y0).setCell ⟨c, 1, none⟩ y1).setCell ⟨c, 2, none⟩ y2).setCell ⟨c, 3, none⟩ y3) b x :=
 (((h.other (p := ⟨c, 0, none⟩) hc y0).other (p := ⟨c, 1, none⟩) hc y1).other (p := ⟨c, 2, none⟩) hc y2).other (p := ⟨c, 3, none⟩) hc y3
end Go.Proofs.YtongeeggaigepaaGreatDoor
namespace Go.Proofs.YtongeeggaigepaaGreatDoor
open Go.RowKit
theorem size_top {y : Nat} (h : y < T256) (hy : 0 < y) : ∃ t : Nat, t ≤ 3 ∧ sizeF (W64 y 0 : Nat) (W64 y 1 : Nat) (W64 y 2 : Nat) (W64 y 3 : Nat) = ((t + 1 : Nat) : Int) ∧ 18446744073709551616 ^ t ≤ y ∧ y < 18446744073709551616 ^ (t + 1) := by
 have up : ∀ n, upW y n = 0 → y < 18446744073709551616 ^ n := fun n hn => by
  have hp : 0 < 18446744073709551616 ^ n := Nat.pow_pos (by decide)
  have h1 := Nat.div_add_mod y (18446744073709551616 ^ n)
  have h2 := Nat.mod_lt y hp
  unfold upW at hn
  rw [hn, Nat.mul_zero, Nat.zero_add] at h1
  rw [← h1]
  exact h2
 have low : ∀ t, W64 y t ≠ 0 → 18446744073709551616 ^ t ≤ y := fun t ht => by
  apply Nat.le_of_not_lt
  intro h1
  exact ht (W64_high h1 (Nat.le_refl _))
 have h4 := upW_four h
 unfold sizeF
 by_cases h3 : W64 y 3 = 0
 ·have h3' := upW_less h4 h3
  rw [if_pos (by omega)]
  by_cases h2 : W64 y 2 = 0
  ·have h2' := upW_less h3' h2
   rw [if_pos (by omega)]
   by_cases h1 : W64 y 1 = 0
   ·have h1' := upW_less h2' h1
    rw [if_pos (by omega)]
    by_cases h0 : W64 y 0 = 0
    ·have := up 0 (upW_less h1' h0)
     rw [Nat.pow_zero] at this
     omega
    ·rw [if_neg (by omega)]; exact ⟨0, by omega, rfl, low 0 h0, up 1 h1'⟩
   ·rw [if_neg (by omega)]; exact ⟨1, by omega, rfl, low 1 h1, up 2 h2'⟩
  ·rw [if_neg (by omega)]; exact ⟨2, by omega, rfl, low 2 h2, up 3 h3'⟩
 ·rw [if_neg (by omega)]; exact ⟨3, by omega, rfl, low 3 h3, up 4 h4⟩
theorem ordW_num {m y : Nat} (hm : m < T256) (hy : y < T256) : ordW (W64 m 0 : Nat) (W64 m 1 : Nat) (W64 m 2 : Nat) (W64 m 3 : Nat) (W64 y 0 : Nat) (W64 y 1 : Nat) (W64 y 2 : Nat) (W64 y 3 : Nat) = cmpI (m : Int) (y : Int) := by
 have key : ∀ z : Nat, z < T256 → valI (row4 (W64 z 0 : Nat) (W64 z 1 : Nat) (W64 z 2 : Nat) (W64 z 3 : Nat)) 4 = (z : Int) := fun z hz => by
  have h1 : valI (row4 (W64 z 0 : Nat) (W64 z 1 : Nat) (W64 z 2 : Nat) (W64 z 3 : Nat)) 4 = valI (fun i => ((W64 z i : Nat) : Int)) 4 := rfl
  rw [h1, valI_cast, valW_W64, ← T256_w, Nat.mod_eq_of_lt hz]
 rw [← ordF_row4, ordF_val (row4_W64_bd m) (row4_W64_bd y), key m hm, key y hy]
end Go.Proofs.YtongeeggaigepaaGreatDoor
namespace Go.Proofs.YtongeeggaigepaaGreatDoor
open Go.RowKit
theorem zero_words {q : Nat} (hq : q < T256) : zeroB (W64 q 0 : Nat) (W64 q 1 : Nat) (W64 q 2 : Nat) (W64 q 3 : Nat) = decide (q = 0) := by
 by_cases h : q = 0
 ·subst h
  rw [decide_eq_true rfl]
  simp [W64, zeroB]
 ·rw [decide_eq_false h]
  cases hz : zeroB (W64 q 0 : Nat) (W64 q 1 : Nat) (W64 q 2 : Nat) (W64 q 3 : Nat)
  ·rfl
  ·exfalso
   obtain ⟨h0, h1, h2, h3⟩ := zeroB_iff.1 hz
   have hv := valW_W64 q 4
   rw [← T256_w, Nat.mod_eq_of_lt hq] at hv
   simp only [valW] at hv
   apply h
   rw [← hv, show W64 q 0 = 0 by omega, show W64 q 1 = 0 by omega, show W64 q 2 = 0 by omega, show W64 q 3 = 0 by omega]
end Go.Proofs.YtongeeggaigepaaGreatDoor

namespace Go.Proofs.YtongeeggaigepaaGreatDoor
open Go.RowKit
theorem bitB_word {z j : Nat} (_ : j < 256) : bitB (W64 z) j = z.testBit j := by
 unfold bitB W64
 rw [show (18446744073709551616 : Nat) = 2 ^ 64 from rfl, ← Nat.pow_mul, Nat.testBit_mod_two_pow, Nat.testBit_div_two_pow, decide_eq_true (by omega : j % 64 < 64), Bool.true_and]
 congr 1
 omega
theorem T256_two : T256 = 2 ^ 256 := by decide
theorem ctz_all {x : Nat} (h0 : x ≠ 0) (h : x < T256) : ∃ m, x = 2 ^ Lib.ctz 256 x * (2 * m + 1) ∧ Lib.ctz 256 x < 256 := by
 unfold Lib.ctz
 rw [if_neg h0]
 exact Lib.ctzFrom_spec 256 x (Nat.pos_of_ne_zero h0) (by rw [← T256_two]; exact h)
theorem first_place {z : Nat} (h0 : z ≠ 0) (h : z < T256) : ∃ rest, bitsTo (W64 z) 4 = Lib.ctz 256 z :: rest := by
 obtain ⟨m, e, hk⟩ := ctz_all h0 h
 generalize Lib.ctz 256 z = k at *
 refine ⟨(List.range 256).filter (fun j => bitB (W64 z) j && decide (j ≠ k)), ?_⟩
 rw [bitsTo_list (W64 z) (fun i => W64_lt z i)]
 refine filter_low _ _ k 256 hk ?_ ?_ (fun _ => rfl)
 ·rw [bitB_word hk, e, Nat.testBit_two_pow_mul]; simp
 ·intro j hj
  rw [bitB_word (by omega), e, Nat.testBit_two_pow_mul, decide_eq_false (by omega), Bool.false_and]
theorem no_place : bitsTo (W64 0) 4 = [] := by
 rw [bitsTo_list (W64 0) (fun i => W64_lt 0 i), List.filter_eq_nil_iff]
 intro j hj
 rw [bitB_word (by simpa using hj)]; simp
def bothT (x y : Nat) : Nat := if y = 0 then Lib.ctz 256 x else min (Lib.ctz 256 x) (Lib.ctz 256 y)
theorem both_least {x y : Nat} (hy : y < T256) : least (Lib.ctz 256 x) (bitsTo (W64 y) 4) = bothT x y := by
 unfold bothT
 by_cases h : y = 0
 ·subst h; rw [no_place, if_pos rfl]; rfl
 ·obtain ⟨r, e⟩ := first_place h hy
  rw [e, if_neg h]; rfl
theorem twos_z (z b c : Nat) (w : World) (h0 : z ≠ 0) (h : z < T256) (hr : Row w b [.int .u64 (W64 z 0 : Nat), .int .u64 (W64 z 1 : Nat), .int .u64 (W64 z 2 : Nat), .int .u64 (W64 z 3 : Nat)]) (ht : TabTz w) (hw0 : 3 < w.heap.size) :
 Calls Tryz.prog 182 #[.slice (some ⟨b, 0, none⟩) 1 c] w fun e w' => e = .returned (.int .i64 (Lib.ctz 256 z : Nat)) ∧ Below w.heap.size w w' := by
 obtain ⟨r, e⟩ := first_place h0 h
 obtain ⟨_, _, hk⟩ := ctz_all h0 h
 exact twos_one b c _ r (W64 z) (fun i => W64_lt z i) e hk w hr ht hw0
theorem twos_zz (x y b c : Nat) (w : World) (h0 : x ≠ 0) (h : x < T256) (hy : y < T256) (hr : Row w b [.int .u64 (W64 x 0 : Nat), .int .u64 (W64 x 1 : Nat), .int .u64 (W64 x 2 : Nat), .int .u64 (W64 x 3 : Nat), .int .u64 (W64 y 0 : Nat), .int .u64 (W64 y 1 : Nat), .int .u64 (W64 y 2 : Nat), .int .u64 (W64 y 3 : Nat)]) (ht : TabTz w) (hw0 : 3 < w.heap.size) :
 Calls Tryz.prog 182 #[.slice (some ⟨b, 0, none⟩) 2 c] w fun e w' => e = .returned (.int .i64 (bothT x y : Nat)) ∧ Below w.heap.size w w' := by
 obtain ⟨r, e⟩ := first_place h0 h
 obtain ⟨_, _, hk⟩ := ctz_all h0 h
 rw [← both_least hy]
 exact twos_two_any b c _ r _ (W64 x) (W64 y) (fun i => W64_lt x i) (fun i => W64_lt y i) e rfl hk w hr ht hw0
def oddP (z : Nat) : Nat := z / 2 ^ Lib.ctz 256 z
theorem oddP_spec {z : Nat} (h0 : z ≠ 0) (h : z < T256) : z = 2 ^ Lib.ctz 256 z * oddP z ∧ oddP z % 2 = 1 ∧ oddP z ≤ z ∧ Lib.ctz 256 z < 256 := by
 obtain ⟨m, e, hk⟩ := ctz_all h0 h
 have hp : 0 < 2 ^ Lib.ctz 256 z := Nat.pow_pos (by decide)
 have h1 : oddP z = 2 * m + 1 := by
  unfold oddP
  rw (occs := .pos [1]) [e]
  exact Nat.mul_div_cancel_left _ hp
 exact ⟨by rw [h1]; exact e, by omega, Nat.div_le_self _ _, hk⟩
theorem oddP_gcd {a z : Nat} (ha : a % 2 = 1) (h0 : z ≠ 0) (h : z < T256) : a.gcd (oddP z) = a.gcd z := by
 obtain ⟨e, _⟩ := oddP_spec h0 h
 rw (occs := .pos [2]) [e]
 exact (gcd_twos ha _ _).symm
theorem gcd_both {x y : Nat} (h0 : x ≠ 0) (hx : x < T256) (hy : y < T256) : (oddP x).gcd y * 2 ^ bothT x y = x.gcd y ∧ bothT x y < 256 := by
 obtain ⟨e, ho, _, hk⟩ := oddP_spec h0 hx
 unfold bothT
 by_cases hz : y = 0
 ·subst hz
  rw [if_pos rfl, Nat.gcd_zero_right, Nat.gcd_zero_right, Nat.mul_comm]
  exact ⟨e.symm, hk⟩
 ·obtain ⟨e2, ho2, _, hk2⟩ := oddP_spec hz hy
  rw [if_neg hz]
  refine ⟨?_, by omega⟩
  have hg : (oddP x).gcd y = (oddP x).gcd (oddP y) := (oddP_gcd ho hz hy).symm
  rw [hg]
  generalize oddP x = p at *
  generalize oddP y = q at *
  generalize Lib.ctz 256 x = i at *
  generalize Lib.ctz 256 y = j at *
  subst e
  subst e2
  by_cases hij : i ≤ j
  ·obtain ⟨d, rfl⟩ : ∃ d, j = i + d := ⟨j - i, by omega⟩
   rw [Nat.min_eq_left hij, Nat.pow_add, Nat.mul_assoc, Nat.gcd_mul_left, gcd_twos ho, Nat.mul_comm]
  ·obtain ⟨d, rfl⟩ : ∃ d, i = j + d := ⟨i - j, by omega⟩
   rw [Nat.min_eq_right (by omega), Nat.pow_add, Nat.mul_assoc, Nat.gcd_mul_left, Nat.gcd_comm (2 ^ d * p), gcd_twos ho2, Nat.gcd_comm q, Nat.mul_comm]
end Go.Proofs.YtongeeggaigepaaGreatDoor
namespace Go.Proofs.YtongeeggaigepaaGreatDoor
open Go.RowKit
theorem dif_words {m n : Nat} (hle : m ≤ n) (hn : n < T256) (i : Nat) (hi : i < 4) : difF (fun i => ((W64 n i : Nat) : Int)) (fun i => ((W64 m i : Nat) : Int)) i = ((W64 (n - m) i : Nat) : Int) := by
 have hx := cast_bd (R := W64 n) (fun i => W64_lt n i)
 have hy := cast_bd (R := W64 m) (fun i => W64_lt m i)
 have h1 := valI_diff hx hy 4
 have h2 := valI_bd (difF_bd (fun i => ((W64 n i : Nat) : Int)) (fun i => ((W64 m i : Nat) : Int))) 4
 have h3 := borF_bd (fun i => ((W64 n i : Nat) : Int)) (fun i => ((W64 m i : Nat) : Int)) 4
 have hd : ∀ i, 0 ≤ difF (fun i => ((W64 n i : Nat) : Int)) (fun i => ((W64 m i : Nat) : Int)) i ∧ difF (fun i => ((W64 n i : Nat) : Int)) (fun i => ((W64 m i : Nat) : Int)) i < B64 := difF_bd _ _
 generalize difF (fun i => ((W64 n i : Nat) : Int)) (fun i => ((W64 m i : Nat) : Int)) = d at *
 obtain ⟨e, he⟩ : ∃ e : Nat → Nat, ∀ i, d i = (e i : Int) := ⟨fun i => (d i).toNat, fun i => (Int.toNat_of_nonneg (hd i).1).symm⟩
 have hel : ∀ i, e i < 18446744073709551616 := fun i => by
  have h4 := (hd i).2
  rw [he] at h4
  unfold B64 at h4
  omega
 rw [show d = fun i => (e i : Int) from funext he] at h1 h2 ⊢
 rw [valI_cast, valI_cast, valI_cast, valW_W64, valW_W64, ← T256_w, Nat.mod_eq_of_lt hn, Nat.mod_eq_of_lt (Nat.lt_of_le_of_lt hle hn)] at h1
 rw [valI_cast] at h2
 have h5 : valW e 4 = n - m := by
  rcases (show borF (fun i => ((W64 n i : Nat) : Int)) (fun i => ((W64 m i : Nat) : Int)) 4 = 0 ∨ borF (fun i => ((W64 n i : Nat) : Int)) (fun i => ((W64 m i : Nat) : Int)) 4 = 1 by omega) with h | h
  ·rw [h, Int.zero_mul] at h1
   omega
  ·rw [h, Int.one_mul] at h1
   have h6 := h2.2
   generalize B64 ^ 4 = P at *
   omega
 show ((e i : Nat) : Int) = _
 rw [← h5, W64_val 4 (fun i _ => hel i) i hi]
theorem takeFrom_z (m n bM bN c c' : Nat) (w : World) (hle : m ≤ n) (hn : n < T256) (hne : bM ≠ bN) (hM : R4 w bM (W64 m)) (hN : R4 w bN (W64 n)) :
 Calls Tryz.prog 186 #[.slice (some ⟨bN, 0, none⟩) 4 c, .slice (some ⟨bM, 0, none⟩) 4 c'] w fun e w' => e = .returned (.tuple #[]) ∧ On w w' bN ∧ R4 w' bN (W64 (n - m)) := by
 refine (takeFrom_any (fun i => ((W64 n i : Nat) : Int)) (fun i => ((W64 m i : Nat) : Int)) 4 bN 0 bM 0 c c' w (by decide) hne (fun i hi => by rw [Nat.zero_add]; exact hN.2 i hi) (fun i hi => by rw [Nat.zero_add]; exact (hM.2 i hi).1) (cast_bd (fun i => W64_lt n i)) (cast_bd (fun i => W64_lt m i))).mono ?_
 rintro e w' ⟨rfl, ho, hc, _⟩
 refine ⟨rfl, ho, by rw [ho.size]; exact hN.1, fun i hi => ⟨?_, (ho.frozen _).trans (hN.2 i hi).2⟩⟩
 have h := hc i hi
 rw [Nat.zero_add, dif_words hle hn i hi] at h
 exact h
theorem down_z (z k : Nat) (w : World) (hz : z < T256) (hk : k < 256) :
 Calls Tryz.prog 183 #[wv (W64 z 0 : Nat) (W64 z 1 : Nat) (W64 z 2 : Nat) (W64 z 3 : Nat), .int .i64 (k : Nat)] w fun e w' =>
  e = .returned (wv (W64 (z / 2 ^ k) 0 : Nat) (W64 (z / 2 ^ k) 1 : Nat) (W64 (z / 2 ^ k) 2 : Nat) (W64 (z / 2 ^ k) 3 : Nat)) ∧ Below w.heap.size w w' := by
 have h := down_any z (k / 64) (k % 64) w hz (by omega) (by omega)
 rw [show 64 * (k / 64) + k % 64 = k by omega] at h
 exact h
theorem up_z (z k : Nat) (w : World) (hk : k < 256) :
 Calls Tryz.prog 187 #[wv (W64 z 0 : Nat) (W64 z 1 : Nat) (W64 z 2 : Nat) (W64 z 3 : Nat), .int .i64 (k : Nat)] w fun e w' =>
  e = .returned (wv (W64 (z * 2 ^ k) 0 : Nat) (W64 (z * 2 ^ k) 1 : Nat) (W64 (z * 2 ^ k) 2 : Nat) (W64 (z * 2 ^ k) 3 : Nat)) ∧ Below w.heap.size w w' := by
 have h := up_any z (k / 64) (k % 64) w (by omega) (by omega)
 rw [show 64 * (k / 64) + k % 64 = k by omega] at h
 exact h
theorem size_one (z : Nat) (hz : z < T256) : (sizeF (W64 z 0 : Nat) (W64 z 1 : Nat) (W64 z 2 : Nat) (W64 z 3 : Nat) = 1 → z < 18446744073709551616) := by
 intro h
 rcases Nat.eq_zero_or_pos z with rfl | hp
 ·decide
 ·obtain ⟨t, _, h1, _, h2⟩ := size_top hz hp
  rw [h] at h1
  obtain rfl : t = 0 := by omega
  simpa using h2
end Go.Proofs.YtongeeggaigepaaGreatDoor

namespace Go.Proofs.YtongeeggaigepaaGreatDoor
open Go.RowKit
theorem W64_one (z : Nat) (h : z < 18446744073709551616) : W64 z 0 = z ∧ W64 z 1 = 0 ∧ W64 z 2 = 0 ∧ W64 z 3 = 0 :=
 ⟨by unfold W64; rw [Nat.pow_zero, Nat.div_one, Nat.mod_eq_of_lt h], W64_high (n := 1) (by rw [Nat.pow_one]; exact h) (by decide), W64_high (n := 1) (by rw [Nat.pow_one]; exact h) (by decide), W64_high (n := 1) (by rw [Nat.pow_one]; exact h) (by decide)⟩
def SG (w0 : World) (x y : Nat) (W : World) : Prop := R4 W w0.heap.size (W64 x) ∧ R4 W (w0.heap.size + 1) (W64 y) ∧ R4 W (w0.heap.size + 1 + 1) (fun _ => 0) ∧ Below w0.heap.size w0 W
section
variable {w0 W W1 : World} {x y : Nat}
theorem SG.after (h : SG w0 x y W) (hb : Below W.heap.size W W1) : SG w0 x y W1 := ⟨h.1.below hb, h.2.1.below hb, h.2.2.1.below hb, h.2.2.2.trans (hb.mono h.2.2.2.size)⟩
theorem SG.alloc (h : SG w0 x y W) (o : Obj) : SG w0 x y (W.alloc o) := h.after ((Below.refl _ _).alloc (Nat.le_refl _) _)
theorem SG.drew (h : SG w0 x y W) : SG w0 x y W.drew := h.after (Below.refl _ _).drew
theorem SG.drewN (h : SG w0 x y W) (k : Nat) : SG w0 x y (W.drewN k) := h.after (below_drewN (Below.refl _ _) k)
theorem SG.putM (h : SG w0 x y W) (z : Nat) : SG w0 z y ((((W.setCell ⟨w0.heap.size, 0, none⟩ (.int .u64 (W64 z 0 : Nat))).setCell ⟨w0.heap.size, 1, none⟩ (.int .u64 (W64 z 1 : Nat))).setCell ⟨w0.heap.size, 2, none⟩ (.int .u64 (W64 z 2 : Nat))).setCell ⟨w0.heap.size, 3, none⟩ (.int .u64 (W64 z 3 : Nat))) :=
 ⟨h.1.put4 _, h.2.1.other4 (by omega) _ _ _ _, h.2.2.1.other4 (by omega) _ _ _ _, below_put4 h.2.2.2 (Nat.le_refl _) _ _ _ _⟩
theorem SG.putN (h : SG w0 x y W) (z : Nat) : SG w0 x z ((((W.setCell ⟨w0.heap.size + 1, 0, none⟩ (.int .u64 (W64 z 0 : Nat))).setCell ⟨w0.heap.size + 1, 1, none⟩ (.int .u64 (W64 z 1 : Nat))).setCell ⟨w0.heap.size + 1, 2, none⟩ (.int .u64 (W64 z 2 : Nat))).setCell ⟨w0.heap.size + 1, 3, none⟩ (.int .u64 (W64 z 3 : Nat))) :=
 ⟨h.1.other4 (by omega) _ _ _ _, h.2.1.put4 _, h.2.2.1.other4 (by omega) _ _ _ _, below_put4 h.2.2.2 (by omega) _ _ _ _⟩
theorem SG.on {z : Nat} (h : SG w0 x y W) (ho : On W W1 (w0.heap.size + 1)) (hz : R4 W1 (w0.heap.size + 1) (W64 z)) : SG w0 x z W1 :=
 ⟨h.1.on ho (by omega), hz, h.2.2.1.on ho (by omega), h.2.2.2.trans (ho.below (by omega))⟩
end
theorem SG.first (w : World) (x y : Nat) (t : TypeId) : SG w x y ((((w.alloc (.cells #[.int .u64 (W64 x 0 : Nat), .int .u64 (W64 x 1 : Nat), .int .u64 (W64 x 2 : Nat), .int .u64 (W64 x 3 : Nat)] t)).alloc (.cells #[.int .u64 (W64 y 0 : Nat), .int .u64 (W64 y 1 : Nat), .int .u64 (W64 y 2 : Nat), .int .u64 (W64 y 3 : Nat)] t)).alloc (.cells #[.int .u64 0, .int .u64 0, .int .u64 0, .int .u64 0] t))) :=
 ⟨R4.of_row (((Row.at rfl _ _).alloc _).alloc _), R4.of_row ((Row.at (by simp) _ _).alloc _), R4.of_row (x := fun _ => 0) (Row.at (by simp) _ _),
  (((Below.refl w.heap.size w).alloc (Nat.le_refl _) _).alloc (by simp) _).alloc (by simp; omega) _⟩
set_option maxRecDepth 100000 in
set_option maxHeartbeats 4000000 in
theorem shared_any (m n : Nat) (w : World) (hm : m < T256) (hn : n < T256) (ht : TabTz w) (hw0 : 3 < w.heap.size) :
 Calls Tryz.prog 161 #[wv (W64 m 0 : Nat) (W64 m 1 : Nat) (W64 m 2 : Nat) (W64 m 3 : Nat), wv (W64 n 0 : Nat) (W64 n 1 : Nat) (W64 n 2 : Nat) (W64 n 3 : Nat)] w fun e w' =>
  e = .returned (wv (W64 (m.gcd n) 0 : Nat) (W64 (m.gcd n) 1 : Nat) (W64 (m.gcd n) 2 : Nat) (W64 (m.gcd n) 3 : Nat)) ∧ Below w.heap.size w w' := by
 have q1 := fun W => eqlArr 179 Tryz.underlying179 (W64 m 0 : Nat) (W64 m 1 : Nat) (W64 m 2 : Nat) (W64 m 3 : Nat) 0 0 0 0 W
 rw [words_nought hm] at q1
 have Ht := Lib.hid ht; clear ht
 by_cases h0 : m = 0
 ·rw [decide_eq_true h0] at q1
  have HG : Hid (m.gcd n = n) := Lib.hid (by rw [h0, Nat.gcd_zero_left])
  clear h0 hm hn
  generalize m.gcd n = G at *
  have HS := Lib.hid (SG.first w m n 179)
  go_enter Tryz.func161, Tryz.ntmps161
  go_upto_region 1 with fail
  generalize World.alloc _ _ = W0 at HS ⊢
  have a0 := (HS.out.1.2 0 (by decide)).1
  have a1 := (HS.out.1.2 1 (by decide)).1
  have a2 := (HS.out.1.2 2 (by decide)).1
  have a3 := (HS.out.1.2 3 (by decide)).1
  have b0 := (HS.out.2.1.2 0 (by decide)).1
  have b1 := (HS.out.2.1.2 1 (by decide)).1
  have b2 := (HS.out.2.1.2 2 (by decide)).1
  have b3 := (HS.out.2.1.2 3 (by decide)).1
  have c0 := (HS.out.2.2.1.2 0 (by decide)).1
  have cf0 := (HS.out.2.2.1.2 0 (by decide)).2
  have c1 := (HS.out.2.2.1.2 1 (by decide)).1
  have cf1 := (HS.out.2.2.1.2 1 (by decide)).2
  have c2 := (HS.out.2.2.1.2 2 (by decide)).1
  have cf2 := (HS.out.2.2.1.2 2 (by decide)).2
  have c3 := (HS.out.2.2.1.2 3 (by decide)).1
  have cf3 := (HS.out.2.2.1.2 3 (by decide)).2
  go_wp2_with fail
  have r2 := (HS.out.2.2.1.put4 (W64 n)).row
  have hb := below_put4 HS.out.2.2.2 (c := w.heap.size + 1 + 1) (by omega) (.int .u64 (W64 n 0 : Nat)) (.int .u64 (W64 n 1 : Nat)) (.int .u64 (W64 n 2 : Nat)) (.int .u64 (W64 n 3 : Nat))
  generalize World.setCell _ _ _ = W9 at r2 hb ⊢
  rw [HG.out]
  exact bodyPost_ret (v := wv (W64 n 0 : Nat) (W64 n 1 : Nat) (W64 n 2 : Nat) (W64 n 3 : Nat)) (by simp [results, Tryz.results161, go_sem, r2.c 0 rfl, r2.c 1 rfl, r2.c 2 rfl, r2.c 3 rfl]) rfl ⟨rfl, hb⟩
 ·rw [decide_eq_false h0] at q1
  obtain ⟨HG1, hbt⟩ := gcd_both h0 hm hn
  obtain ⟨-, ho, hle, hk⟩ := oddP_spec h0 hm
  have HTw := Lib.hid (fun b c W r h1 h2 => twos_zz m n b c W h0 hm hn r h1 h2)
  have HT1 := Lib.hid (fun b c W r h1 h2 => twos_z m b c W h0 hm r h1 h2)
  have HD1 := Lib.hid (fun W => down_z m (Lib.ctz 256 m) W hm hk)
  rw [show m / 2 ^ Lib.ctz 256 m = oddP m from rfl] at HD1
  have HN := Lib.hid hn
  have HO := Lib.hid (show oddP m % 2 = 1 ∧ oddP m < T256 from ⟨ho, Nat.lt_of_le_of_lt hle hm⟩)
  have HG := Lib.hid HG1
  clear HG1 hle hk ho hn hm h0
  generalize bothT m n = bt at *
  generalize m.gcd n = G at *
  generalize oddP m = x0 at *
  generalize Lib.ctz 256 m = cz at *
  have HS := Lib.hid (SG.first w m n 179)
  go_enter Tryz.func161, Tryz.ntmps161
  go_upto_region 1 with fail
  generalize World.alloc _ _ = W0 at HS ⊢
  have a0 := (HS.out.1.2 0 (by decide)).1
  have a1 := (HS.out.1.2 1 (by decide)).1
  have a2 := (HS.out.1.2 2 (by decide)).1
  have a3 := (HS.out.1.2 3 (by decide)).1
  have b0 := (HS.out.2.1.2 0 (by decide)).1
  have b1 := (HS.out.2.1.2 1 (by decide)).1
  have b2 := (HS.out.2.1.2 2 (by decide)).1
  have b3 := (HS.out.2.1.2 3 (by decide)).1
  go_wp2_with fail
  have hW0 : 3 < W0.heap.size := Nat.lt_of_lt_of_le hw0 HS.out.2.2.2.size
  refine (HTw.out _ _ (W0.alloc _) (Row.at rfl _ _) (Ht.out.below hw0 (HS.out.alloc _).2.2.2) (by have q := hW0; simp <;> omega)).mono ?_
  rintro e w1 ⟨rfl, hb1⟩
  have HS1 := Lib.hid ((HS.out.alloc _).after hb1)
  clear a0 a1 a2 a3 b0 b1 b2 b3 hb1 HS hW0 HTw q1
  have a0 := (HS1.out.1.2 0 (by decide)).1
  have a1 := (HS1.out.1.2 1 (by decide)).1
  have a2 := (HS1.out.1.2 2 (by decide)).1
  have a3 := (HS1.out.1.2 3 (by decide)).1
  have hlM := HS1.out.1.1
  go_wp2_with fail
  go_cut [] (fun wx => Hid (SG w x0 n wx))
  case first =>
   have hS := HS1.out
   go_region_with ((first
    | (go_at_call 182; refine (HT1.out _ _ _ (Row.at rfl _ _).drew (Ht.out.below hw0 (hS.2.2.2.alloc hS.2.2.2.size _).drew) (by have q := Nat.lt_of_lt_of_le hw0 hS.2.2.2.size; simp <;> omega)).mono ?_; rintro e w2 ⟨rfl, hb2⟩; have r2 := ((hS.alloc _).drew).after hb2; have c0 := (r2.1.2 0 (by decide)).1; have c1 := (r2.1.2 1 (by decide)).1; have c2 := (r2.1.2 2 (by decide)).1; have c3 := (r2.1.2 3 (by decide)).1)
    | (go_at_call 183; refine (HD1.out _).mono ?_; rintro e w3 ⟨rfl, hb3⟩; have r3 := r2.after hb3; have c0 := (r3.1.2 0 (by decide)).1; have c1 := (r3.1.2 1 (by decide)).1; have c2 := (r3.1.2 2 (by decide)).1; have c3 := (r3.1.2 3 (by decide)).1; have f0 := (r3.1.2 0 (by decide)).2; have f1 := (r3.1.2 1 (by decide)).2; have f2 := (r3.1.2 2 (by decide)).2; have f3 := (r3.1.2 3 (by decide)).2)))
   all_goals (go_wp2_with fail; go_meet; exact Lib.hid (r3.putM x0))
  case rest =>
   clear HS1 a0 a1 a2 a3 hlM HD1 HT1
   go_wp2_with fail
   go_loopg [] (x0 + n) (fun g wr => ∃ x y, Hid (g = x + y ∧ x % 2 = 1 ∧ x < T256 ∧ y < T256 ∧ x.gcd y * 2 ^ bt = G) ∧ Hid (SG w x y wr))
   case atStart => exact ⟨x0, n, Lib.hid ⟨rfl, HO.out.1, HO.out.2, HN.out, HG.out⟩, hcut⟩
   case round =>
    obtain ⟨x, y, HR, HK⟩ := hrel
    clear hcut HO HN HG
    have q2 := fun W => neqArr 179 Tryz.underlying179 (W64 y 0 : Nat) (W64 y 1 : Nat) (W64 y 2 : Nat) (W64 y 3 : Nat) 0 0 0 0 W
    rw [words_nought HR.out.2.2.2.1] at q2
    have b0 := (HK.out.2.1.2 0 (by decide)).1
    have b1 := (HK.out.2.1.2 1 (by decide)).1
    have b2 := (HK.out.2.1.2 2 (by decide)).1
    have b3 := (HK.out.2.1.2 3 (by decide)).1
    by_cases hy0 : y = 0
    ·rw [decide_eq_true hy0] at q2
     have HE : Hid (x * 2 ^ bt = G) := Lib.hid (by have h := HR.out.2.2.2.2; rw [hy0, Nat.gcd_zero_right] at h; exact h)
     clear hy0
     have a0 := (HK.out.1.2 0 (by decide)).1
     have a1 := (HK.out.1.2 1 (by decide)).1
     have a2 := (HK.out.1.2 2 (by decide)).1
     have a3 := (HK.out.1.2 3 (by decide)).1
     go_wp2_with fail
     refine (up_z x bt _ hbt).mono ?_
     rintro e w7 ⟨rfl, hb7⟩
     rw [HE.out]
     have HS5 := Lib.hid (HK.out.after hb7)
     clear a0 a1 a2 a3 b0 b1 b2 b3 hb7 HK q2
     have c0 := (HS5.out.2.2.1.2 0 (by decide)).1
     have cf0 := (HS5.out.2.2.1.2 0 (by decide)).2
     have c1 := (HS5.out.2.2.1.2 1 (by decide)).1
     have cf1 := (HS5.out.2.2.1.2 1 (by decide)).2
     have c2 := (HS5.out.2.2.1.2 2 (by decide)).1
     have cf2 := (HS5.out.2.2.1.2 2 (by decide)).2
     have c3 := (HS5.out.2.2.1.2 3 (by decide)).1
     have cf3 := (HS5.out.2.2.1.2 3 (by decide)).2
     go_wp2_with fail
     have r2 := (HS5.out.2.2.1.put4 (W64 G)).row
     have hb := below_put4 HS5.out.2.2.2 (c := w.heap.size + 1 + 1) (by omega) (.int .u64 (W64 G 0 : Nat)) (.int .u64 (W64 G 1 : Nat)) (.int .u64 (W64 G 2 : Nat)) (.int .u64 (W64 G 3 : Nat))
     clear c0 c1 c2 c3 cf0 cf1 cf2 cf3
     generalize World.setCell _ _ _ = W9 at r2 hb ⊢
     exact bodyPost_ret (v := wv (W64 G 0 : Nat) (W64 G 1 : Nat) (W64 G 2 : Nat) (W64 G 3 : Nat)) (by simp [results, Tryz.results161, go_sem, r2.c 0 rfl, r2.c 1 rfl, r2.c 2 rfl, r2.c 3 rfl]) rfl ⟨rfl, hb⟩
    ·rw [decide_eq_false hy0] at q2
     obtain ⟨-, ho, hle, hk⟩ := oddP_spec hy0 HR.out.2.2.2.1
     have HT2 := Lib.hid (fun b c W r h1 h2 => twos_z y b c W hy0 HR.out.2.2.2.1 r h1 h2)
     have HD2 := Lib.hid (fun W => down_z y (Lib.ctz 256 y) W HR.out.2.2.2.1 hk)
     rw [show y / 2 ^ Lib.ctz 256 y = oddP y from rfl] at HD2
     have HQ := Lib.hid (show oddP y % 2 = 1 ∧ oddP y < T256 ∧ oddP y ≤ y ∧ x.gcd (oddP y) * 2 ^ bt = G from ⟨ho, Nat.lt_of_le_of_lt hle HR.out.2.2.2.1, hle, by rw [oddP_gcd HR.out.2.1 hy0 HR.out.2.2.2.1]; exact HR.out.2.2.2.2⟩)
     clear hy0 ho hle hk
     generalize oddP y = q at *
     generalize Lib.ctz 256 y = cy at *
     have hlN := HK.out.2.1.1
     go_wp2_with fail
     go_cut [] from 19 to 49 (fun wx => Hid (SG w x q wx))
     case first =>
      have hS := HK.out
      go_region_with ((first
       | (go_at_call 182; refine (HT2.out _ _ _ (Row.at rfl _ _).drew (Ht.out.below hw0 (hS.2.2.2.alloc hS.2.2.2.size _).drew) (by have q := Nat.lt_of_lt_of_le hw0 hS.2.2.2.size; simp <;> omega)).mono ?_; rintro e w2 ⟨rfl, hb2⟩; have r2 := ((hS.alloc _).drew).after hb2; have c0 := (r2.2.1.2 0 (by decide)).1; have c1 := (r2.2.1.2 1 (by decide)).1; have c2 := (r2.2.1.2 2 (by decide)).1; have c3 := (r2.2.1.2 3 (by decide)).1)
       | (go_at_call 183; refine (HD2.out _).mono ?_; rintro e w3 ⟨rfl, hb3⟩; have r3 := r2.after hb3; have c0 := (r3.2.1.2 0 (by decide)).1; have c1 := (r3.2.1.2 1 (by decide)).1; have c2 := (r3.2.1.2 2 (by decide)).1; have c3 := (r3.2.1.2 3 (by decide)).1; have f0 := (r3.2.1.2 0 (by decide)).2; have f1 := (r3.2.1.2 1 (by decide)).2; have f2 := (r3.2.1.2 2 (by decide)).2; have f3 := (r3.2.1.2 3 (by decide)).2)))
      all_goals (go_wp2_with fail; go_meet; exact Lib.hid (r3.putN q))
     case rest =>
      clear HK HT2 HD2 q2 b0 b1 b2 b3 hlN
      have HOr := Lib.hid (fun c c' W (h : SG w x q W) => by
       have h1 := order_words (W64 x 0 : Nat) (W64 x 1 : Nat) (W64 x 2 : Nat) (W64 x 3 : Nat) (W64 q 0 : Nat) (W64 q 1 : Nat) (W64 q 2 : Nat) (W64 q 3 : Nat) w.heap.size (w.heap.size + 1) c c' W (h.1.2 0 (by decide)).1 (h.1.2 1 (by decide)).1 (h.1.2 2 (by decide)).1 (h.1.2 3 (by decide)).1 (h.2.1.2 0 (by decide)).1 (h.2.1.2 1 (by decide)).1 (h.2.1.2 2 (by decide)).1 (h.2.1.2 3 (by decide)).1
       rw [ordW_num HR.out.2.2.1 HQ.out.2.1] at h1
       exact h1)
      have HZx := Lib.hid (fun W => size_any (W64 x 0 : Nat) (W64 x 1 : Nat) (W64 x 2 : Nat) (W64 x 3 : Nat) W)
      have HZq := Lib.hid (fun W => size_any (W64 q 0 : Nat) (W64 q 1 : Nat) (W64 q 2 : Nat) (W64 q 3 : Nat) W)
      have Hx1 := Lib.hid (size_one x HR.out.2.2.1)
      have Hq1 := Lib.hid (size_one q HQ.out.2.1)
      generalize sizeF (W64 x 0 : Nat) (W64 x 1 : Nat) (W64 x 2 : Nat) (W64 x 3 : Nat) = sx at *
      generalize sizeF (W64 q 0 : Nat) (W64 q 1 : Nat) (W64 q 2 : Nat) (W64 q 3 : Nat) = sq at *
      have a0 := (hcut.out.1.2 0 (by decide)).1
      have a1 := (hcut.out.1.2 1 (by decide)).1
      have a2 := (hcut.out.1.2 2 (by decide)).1
      have a3 := (hcut.out.1.2 3 (by decide)).1
      go_wp2_with fail
      refine (HZx.out _).mono ?_
      rintro e w4 ⟨rfl, hb4⟩
      have HS4 := Lib.hid (hcut.out.after hb4)
      clear hb4 hcut a0 a1 a2 a3 HZx
      by_cases hx1 : sx = 1
      ·subst hx1
       have b0 := (HS4.out.2.1.2 0 (by decide)).1
       have b1 := (HS4.out.2.1.2 1 (by decide)).1
       have b2 := (HS4.out.2.1.2 2 (by decide)).1
       have b3 := (HS4.out.2.1.2 3 (by decide)).1
       go_wp2_with fail
       refine (HZq.out _).mono ?_
       rintro e w5 ⟨rfl, hb5⟩
       have HS5 := Lib.hid (HS4.out.after hb5)
       clear hb5 HS4 b0 b1 b2 b3 HZq
       by_cases hq1 : sq = 1
       ·subst hq1
        have hxl := Hx1.out (by simp)
        have hql := Hq1.out (by simp)
        have hgl : x.gcd q < 18446744073709551616 := Nat.lt_of_le_of_lt (Nat.gcd_le_left _ (by have := HR.out.2.1; omega)) hxl
        obtain ⟨g0, g1, g2, g3⟩ := W64_one (x.gcd q) hgl
        have HOd := Lib.hid (fun W (ht : TabTz W) => by
         have h := odd_any x q HR.out.2.1 HQ.out.1 hxl hql W ht
         rw [show (x : Int) = ((W64 x 0 : Nat) : Int) by rw [(W64_one x hxl).1], show (q : Int) = ((W64 q 0 : Nat) : Int) by rw [(W64_one q hql).1], show ((x.gcd q : Nat) : Int) = ((W64 (x.gcd q) 0 : Nat) : Int) by rw [g0]] at h
         exact h)
        have HUp := Lib.hid (fun W => by
         have h := up_z (x.gcd q) bt W hbt
         rw [HQ.out.2.2.2, g1, g2, g3] at h
         exact h)
        have HPm := Lib.hid (fun W (h : SG w x q W) => by
         have h1 := h.putM (x.gcd q)
         rw [g1, g2, g3] at h1
         exact h1)
        clear hxl hql hgl g0 g1 g2 g3 Hx1 Hq1 HOr
        generalize W64 (x.gcd q) 0 = gw at *
        simp only [Int.natCast_zero] at HUp HPm
        have a0 := (HS5.out.1.2 0 (by decide)).1
        have af0 := (HS5.out.1.2 0 (by decide)).2
        have a1 := (HS5.out.1.2 1 (by decide)).1
        have af1 := (HS5.out.1.2 1 (by decide)).2
        have a2 := (HS5.out.1.2 2 (by decide)).1
        have af2 := (HS5.out.1.2 2 (by decide)).2
        have a3 := (HS5.out.1.2 3 (by decide)).1
        have af3 := (HS5.out.1.2 3 (by decide)).2
        have b0 := (HS5.out.2.1.2 0 (by decide)).1
        have b1 := (HS5.out.2.1.2 1 (by decide)).1
        have b2 := (HS5.out.2.1.2 2 (by decide)).1
        have b3 := (HS5.out.2.1.2 3 (by decide)).1
        go_wp2_with fail
        refine (HOd.out _ (Ht.out.below hw0 HS5.out.2.2.2)).mono ?_
        rintro e w6 ⟨rfl, rfl⟩
        go_wp2_with fail
        refine (HUp.out _).mono ?_
        rintro e w7 ⟨rfl, hb7⟩
        have HS7 := Lib.hid ((HPm.out _ HS5.out).after hb7)
        clear a0 a1 a2 a3 af0 af1 af2 af3 b0 b1 b2 b3 hb7 HS5 HPm HUp HOd
        have c0 := (HS7.out.2.2.1.2 0 (by decide)).1
        have cf0 := (HS7.out.2.2.1.2 0 (by decide)).2
        have c1 := (HS7.out.2.2.1.2 1 (by decide)).1
        have cf1 := (HS7.out.2.2.1.2 1 (by decide)).2
        have c2 := (HS7.out.2.2.1.2 2 (by decide)).1
        have cf2 := (HS7.out.2.2.1.2 2 (by decide)).2
        have c3 := (HS7.out.2.2.1.2 3 (by decide)).1
        have cf3 := (HS7.out.2.2.1.2 3 (by decide)).2
        go_wp2_with fail
        have r2 := (HS7.out.2.2.1.put4 (W64 G)).row
        have hb := below_put4 HS7.out.2.2.2 (c := w.heap.size + 1 + 1) (by omega) (.int .u64 (W64 G 0 : Nat)) (.int .u64 (W64 G 1 : Nat)) (.int .u64 (W64 G 2 : Nat)) (.int .u64 (W64 G 3 : Nat))
        clear c0 c1 c2 c3 cf0 cf1 cf2 cf3
        generalize World.setCell _ _ _ = W9 at r2 hb ⊢
        exact bodyPost_ret (v := wv (W64 G 0 : Nat) (W64 G 1 : Nat) (W64 G 2 : Nat) (W64 G 3 : Nat)) (by simp [results, Tryz.results161, go_sem, r2.c 0 rfl, r2.c 1 rfl, r2.c 2 rfl, r2.c 3 rfl]) rfl ⟨rfl, hb⟩
       ·clear Hx1 Hq1
        have HSd := Lib.hid (fun k => HS5.out.drewN k)
        go_upto_region 9 with fail
        have HOx := Lib.hid (fun k c c' => HOr.out c c' _ (HSd.out k))
        go_quiet ((go_at_call 126; exact Calls.quiet_of (HOx.out _ _ _)))
        have HSq := Lib.hid (HSd.out nq)
        clear HOx HSd HOr HS5
        generalize World.drewN _ _ = W1 at HSq ⊢
        by_cases hlt : q < x
        ·have hc : 0 < cmpI (x : Int) (q : Int) := by
          unfold cmpI
          rw [if_neg (by omega), if_pos (by omega)]
          decide
         have HLe := Lib.hid (show q ≤ x ∧ x < T256 from ⟨Nat.le_of_lt hlt, HR.out.2.2.1⟩)
         have HSm := Lib.hid (show q % 2 = 1 ∧ q < T256 ∧ q.gcd (x - q) * 2 ^ bt = G from ⟨HQ.out.1, HQ.out.2.1, by rw [Nat.gcd_sub_self_right (Nat.le_of_lt hlt), Nat.gcd_comm]; exact HQ.out.2.2.2⟩)
         clear hlt
         generalize cmpI (x : Int) (q : Int) = cm at *
         have a0 := (HSq.out.1.2 0 (by decide)).1
         have af0 := (HSq.out.1.2 0 (by decide)).2
         have a1 := (HSq.out.1.2 1 (by decide)).1
         have af1 := (HSq.out.1.2 1 (by decide)).2
         have a2 := (HSq.out.1.2 2 (by decide)).1
         have af2 := (HSq.out.1.2 2 (by decide)).2
         have a3 := (HSq.out.1.2 3 (by decide)).1
         have af3 := (HSq.out.1.2 3 (by decide)).2
         have b0 := (HSq.out.2.1.2 0 (by decide)).1
         have bf0 := (HSq.out.2.1.2 0 (by decide)).2
         have b1 := (HSq.out.2.1.2 1 (by decide)).1
         have bf1 := (HSq.out.2.1.2 1 (by decide)).2
         have b2 := (HSq.out.2.1.2 2 (by decide)).1
         have bf2 := (HSq.out.2.1.2 2 (by decide)).2
         have b3 := (HSq.out.2.1.2 3 (by decide)).1
         have bf3 := (HSq.out.2.1.2 3 (by decide)).2
         go_upto_region 11 with fail
         have HS2 := Lib.hid ((HSq.out.putM q).putN x)
         clear a0 a1 a2 a3 af0 af1 af2 af3 b0 b1 b2 b3 bf0 bf1 bf2 bf3 HSq
         generalize World.setCell _ _ _ = W2 at HS2 ⊢
         have HTF := Lib.hid (fun c c' W (h : SG w q x W) => takeFrom_z q x w.heap.size (w.heap.size + 1) c c' W (Nat.le_of_lt_succ (Nat.lt_succ_of_le HLe.out.1)) HLe.out.2 (by omega) h.1 h.2.1)
         have hS := HS2.out
         have hlM := hS.1.1
         have hlN := hS.2.1.1
         go_region_with ((go_at_call 186; refine (HTF.out _ _ _ (by first | exact hS.drew | exact hS.drew.drew | exact hS)).mono ?_; rintro e w8 ⟨rfl, ho8, hr8⟩))
         all_goals
          have HS8 := Lib.hid (hS.drew.on ho8 hr8)
          clear hS ho8 hr8 HTF hlM hlN HS2
          go_wp2_with fail
          go_roundg (q + (x - q))
          case measure => have h1 := HR.out.1; have h2 := HR.out.2.1; have h3 := HLe.out.1; have h4 := HQ.out.2.2.1; have h5 := HQ.out.1; omega
          case rel => exact ⟨q, x - q, Lib.hid ⟨rfl, HSm.out.1, HSm.out.2.1, Nat.lt_of_le_of_lt (Nat.sub_le _ _) HLe.out.2, HSm.out.2.2⟩, HS8⟩
        ·have hc : ¬ 0 < cmpI (x : Int) (q : Int) := by
          unfold cmpI
          by_cases h : x < q
          ·rw [if_pos (by omega)]; decide
          ·rw [if_neg (by omega), if_neg (by omega)]; decide
         have HLe := Lib.hid (show x ≤ q ∧ q < T256 from ⟨Nat.le_of_not_lt hlt, HQ.out.2.1⟩)
         have HSm := Lib.hid (show x % 2 = 1 ∧ x < T256 ∧ x.gcd (q - x) * 2 ^ bt = G from ⟨HR.out.2.1, HR.out.2.2.1, by rw [Nat.gcd_sub_self_right (Nat.le_of_not_lt hlt)]; exact HQ.out.2.2.2⟩)
         clear hlt
         generalize cmpI (x : Int) (q : Int) = cm at *
         go_upto_region 11 with fail
         have HTF := Lib.hid (fun c c' W (h : SG w x q W) => takeFrom_z x q w.heap.size (w.heap.size + 1) c c' W (Nat.le_of_lt_succ (Nat.lt_succ_of_le HLe.out.1)) HLe.out.2 (by omega) h.1 h.2.1)
         have hS := HSq.out
         have hlM := hS.1.1
         have hlN := hS.2.1.1
         go_region_with ((go_at_call 186; refine (HTF.out _ _ _ (by first | exact hS.drew | exact hS.drew.drew | exact hS)).mono ?_; rintro e w8 ⟨rfl, ho8, hr8⟩))
         all_goals
          have HS8 := Lib.hid (hS.drew.on ho8 hr8)
          clear hS ho8 hr8 HTF hlM hlN HSq
          go_wp2_with fail
          go_roundg (x + (q - x))
          case measure => have h1 := HR.out.1; have h2 := HR.out.2.1; have h3 := HLe.out.1; have h4 := HQ.out.2.2.1; have h5 := HQ.out.1; omega
          case rel => exact ⟨x, q - x, Lib.hid ⟨rfl, HSm.out.1, HSm.out.2.1, Nat.lt_of_le_of_lt (Nat.sub_le _ _) HLe.out.2, HSm.out.2.2⟩, HS8⟩
      ·clear Hx1 Hq1 HZq
       have HSd := Lib.hid (fun k => HS4.out.drewN k)
       go_upto_region 9 with fail
       have HOx := Lib.hid (fun k c c' => HOr.out c c' _ (HSd.out k))
       go_quiet ((go_at_call 126; exact Calls.quiet_of (HOx.out _ _ _)))
       have HSq := Lib.hid (HSd.out nq)
       clear HOx HSd HOr HS4
       generalize World.drewN _ _ = W1 at HSq ⊢
       by_cases hlt : q < x
       ·have hc : 0 < cmpI (x : Int) (q : Int) := by
         unfold cmpI
         rw [if_neg (by omega), if_pos (by omega)]
         decide
        have HLe := Lib.hid (show q ≤ x ∧ x < T256 from ⟨Nat.le_of_lt hlt, HR.out.2.2.1⟩)
        have HSm := Lib.hid (show q % 2 = 1 ∧ q < T256 ∧ q.gcd (x - q) * 2 ^ bt = G from ⟨HQ.out.1, HQ.out.2.1, by rw [Nat.gcd_sub_self_right (Nat.le_of_lt hlt), Nat.gcd_comm]; exact HQ.out.2.2.2⟩)
        clear hlt
        generalize cmpI (x : Int) (q : Int) = cm at *
        have a0 := (HSq.out.1.2 0 (by decide)).1
        have af0 := (HSq.out.1.2 0 (by decide)).2
        have a1 := (HSq.out.1.2 1 (by decide)).1
        have af1 := (HSq.out.1.2 1 (by decide)).2
        have a2 := (HSq.out.1.2 2 (by decide)).1
        have af2 := (HSq.out.1.2 2 (by decide)).2
        have a3 := (HSq.out.1.2 3 (by decide)).1
        have af3 := (HSq.out.1.2 3 (by decide)).2
        have b0 := (HSq.out.2.1.2 0 (by decide)).1
        have bf0 := (HSq.out.2.1.2 0 (by decide)).2
        have b1 := (HSq.out.2.1.2 1 (by decide)).1
        have bf1 := (HSq.out.2.1.2 1 (by decide)).2
        have b2 := (HSq.out.2.1.2 2 (by decide)).1
        have bf2 := (HSq.out.2.1.2 2 (by decide)).2
        have b3 := (HSq.out.2.1.2 3 (by decide)).1
        have bf3 := (HSq.out.2.1.2 3 (by decide)).2
        go_upto_region 11 with fail
        have HS2 := Lib.hid ((HSq.out.putM q).putN x)
        clear a0 a1 a2 a3 af0 af1 af2 af3 b0 b1 b2 b3 bf0 bf1 bf2 bf3 HSq
        generalize World.setCell _ _ _ = W2 at HS2 ⊢
        have HTF := Lib.hid (fun c c' W (h : SG w q x W) => takeFrom_z q x w.heap.size (w.heap.size + 1) c c' W (Nat.le_of_lt_succ (Nat.lt_succ_of_le HLe.out.1)) HLe.out.2 (by omega) h.1 h.2.1)
        have hS := HS2.out
        have hlM := hS.1.1
        have hlN := hS.2.1.1
        go_region_with ((go_at_call 186; refine (HTF.out _ _ _ (by first | exact hS.drew | exact hS.drew.drew | exact hS)).mono ?_; rintro e w8 ⟨rfl, ho8, hr8⟩))
        all_goals
         have HS8 := Lib.hid (hS.drew.on ho8 hr8)
         clear hS ho8 hr8 HTF hlM hlN HS2
         go_wp2_with fail
         go_roundg (q + (x - q))
         case measure => have h1 := HR.out.1; have h2 := HR.out.2.1; have h3 := HLe.out.1; have h4 := HQ.out.2.2.1; have h5 := HQ.out.1; omega
         case rel => exact ⟨q, x - q, Lib.hid ⟨rfl, HSm.out.1, HSm.out.2.1, Nat.lt_of_le_of_lt (Nat.sub_le _ _) HLe.out.2, HSm.out.2.2⟩, HS8⟩
       ·have hc : ¬ 0 < cmpI (x : Int) (q : Int) := by
         unfold cmpI
         by_cases h : x < q
         ·rw [if_pos (by omega)]; decide
         ·rw [if_neg (by omega), if_neg (by omega)]; decide
        have HLe := Lib.hid (show x ≤ q ∧ q < T256 from ⟨Nat.le_of_not_lt hlt, HQ.out.2.1⟩)
        have HSm := Lib.hid (show x % 2 = 1 ∧ x < T256 ∧ x.gcd (q - x) * 2 ^ bt = G from ⟨HR.out.2.1, HR.out.2.2.1, by rw [Nat.gcd_sub_self_right (Nat.le_of_not_lt hlt)]; exact HQ.out.2.2.2⟩)
        clear hlt
        generalize cmpI (x : Int) (q : Int) = cm at *
        go_upto_region 11 with fail
        have HTF := Lib.hid (fun c c' W (h : SG w x q W) => takeFrom_z x q w.heap.size (w.heap.size + 1) c c' W (Nat.le_of_lt_succ (Nat.lt_succ_of_le HLe.out.1)) HLe.out.2 (by omega) h.1 h.2.1)
        have hS := HSq.out
        have hlM := hS.1.1
        have hlN := hS.2.1.1
        go_region_with ((go_at_call 186; refine (HTF.out _ _ _ (by first | exact hS.drew | exact hS.drew.drew | exact hS)).mono ?_; rintro e w8 ⟨rfl, ho8, hr8⟩))
        all_goals
         have HS8 := Lib.hid (hS.drew.on ho8 hr8)
         clear hS ho8 hr8 HTF hlM hlN HSq
         go_wp2_with fail
         go_roundg (x + (q - x))
         case measure => have h1 := HR.out.1; have h2 := HR.out.2.1; have h3 := HLe.out.1; have h4 := HQ.out.2.2.1; have h5 := HQ.out.1; omega
         case rel => exact ⟨x, q - x, Lib.hid ⟨rfl, HSm.out.1, HSm.out.2.1, Nat.lt_of_le_of_lt (Nat.sub_le _ _) HLe.out.2, HSm.out.2.2⟩, HS8⟩
end Go.Proofs.YtongeeggaigepaaGreatDoor
