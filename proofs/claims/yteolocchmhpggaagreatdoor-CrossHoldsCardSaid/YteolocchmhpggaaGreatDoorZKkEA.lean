import Derived.Test.YteolocchmhpggaaGreatDoorZKkBM
import Derived.Test.YteolocchmhpggaaGreatDoorZKkBX
import Derived.Test.YteolocchmhpggaaGreatDoorZKkDA
import Derived.Deep.QuietTactic
import Derived.BigQuiet
import Derived.Deep.LoopGhost
import Derived.Laws.BitsAllLaws
import Derived.Laws.CopyOwn
import Derived.Deep.RegionLaw
namespace Go.Proofs.YteolocchmhpggaaGreatDoor
open Go.RowKit
def noW : Nat → Nat := fun _ => 0
theorem noW_lt : ∀ i, noW i < 18446744073709551616 := fun _ => by show 0 < _; decide
def timW (Y : Nat → Nat) (v n k : Nat) : Nat := if k < n then atD noW Y v k else atC noW Y v n
def sbB (X P : Nat → Nat) : Nat → Nat
 | 0 => 0
 | k + 1 => if X k < P k + sbB X P k then 1 else 0
def sbD (X P : Nat → Nat) (k : Nat) : Nat := (X k + 18446744073709551616 - P k - sbB X P k) % 18446744073709551616
theorem sbB_le (X P : Nat → Nat) (k : Nat) : sbB X P k ≤ 1 := by
 cases k with
 | zero => rw [sbB]; decide
 | succ k => rw [sbB]; split <;> omega
theorem sbD_lt (X P : Nat → Nat) (k : Nat) : sbD X P k < 18446744073709551616 := Nat.mod_lt _ (by decide)
theorem sb_one (B x p b : Nat) (hx : x < B) (hp : p < B) (hb : b ≤ 1) : (x + B - p - b) % B + p + b = x + (if x < p + b then 1 else 0) * B := by
 by_cases h : x < p + b
 ·rw [if_pos h, Nat.mod_eq_of_lt (by omega)]; omega
 ·rw [if_neg h, show x + B - p - b = (x - p - b) + B by omega, Nat.add_mod_right, Nat.mod_eq_of_lt (by omega)]; omega
theorem sb_val {X P : Nat → Nat} (hX : ∀ i, X i < 18446744073709551616) (hP : ∀ i, P i < 18446744073709551616) : ∀ n, valW (sbD X P) n + valW P n = valW X n + sbB X P n * 18446744073709551616 ^ n
 | 0 => by simp [valW, sbB]
 | n + 1 => by
   have ih := sb_val hX hP n
   have h1 := sb_one 18446744073709551616 (X n) (P n) (sbB X P n) (hX n) (hP n) (sbB_le X P n)
   have h2 : sbD X P n + P n + sbB X P n = X n + sbB X P (n + 1) * 18446744073709551616 := h1
   rw [valW, valW, valW, Nat.pow_succ]
   generalize 18446744073709551616 ^ n = p at *
   generalize sbB X P (n + 1) = c at *
   generalize sbB X P n = b at *
   generalize sbD X P n = d at *
   generalize X n = x at *
   generalize P n = q at *
   have h3 : (d + q + b) * p = (x + c * 18446744073709551616) * p := by rw [h2]
   rw [Nat.add_mul, Nat.add_mul, Nat.add_mul, Nat.mul_assoc] at h3
   rw [Nat.mul_comm p]
   generalize c * (18446744073709551616 * p) = z at *
   generalize d * p = t1 at *
   generalize q * p = t2 at *
   generalize b * p = t3 at *
   generalize x * p = t4 at *
   omega
theorem timW_lt {Y : Nat → Nat} {v : Nat} (hY : ∀ i, Y i < 18446744073709551616) (hv : v < 18446744073709551616) (n k : Nat) : timW Y v n k < 18446744073709551616 := by
 unfold timW
 split
 ·exact Nat.mod_lt _ (by decide)
 ·exact atC_lt noW_lt hY hv n
theorem timW_val (Y : Nat → Nat) (v n : Nat) : valW (timW Y v n) (n + 1) = v * valW Y n := by
 have h := at_val (X := noW) (Y := Y) (v := v) n
 have h0 : valW noW n = 0 := valW_zero n (fun _ _ => rfl)
 rw [valW, valW_congr n (fun i hi => show timW Y v n i = atD noW Y v i by unfold timW; rw [if_pos hi]), show timW Y v n n = atC noW Y v n by unfold timW; rw [if_neg (by omega)]]
 omega
theorem tt_step (a b c : Nat) (ha : a < 18446744073709551616) (hb : b < 18446744073709551616) :
 (a * b % 18446744073709551616 + c) % 18446744073709551616 = (a * b + c) % 18446744073709551616 ∧
 a * b / 18446744073709551616 + (a * b % 18446744073709551616 + c) / 18446744073709551616 = (a * b + c) / 18446744073709551616 := by
 have := mul_word ha hb
 generalize a * b = t at *
 omega
theorem tt_words (X Y : Nat → Nat) (v n j : Nat) (hj : j < n) (hY : ∀ i, Y i < 18446744073709551616) (hv : v < 18446744073709551616) (w : World) :
 ∃ hi lo lo1 c1 m1 d1 : Nat,
  Hid (∀ W, Calls Tryz.prog 158 #[.int .u64 (Y j : Nat), .int .u64 (v : Nat)] W fun e W' => e = .returned (.tuple #[.int .u64 (hi : Nat), .int .u64 (lo : Nat)]) ∧ W = W') ∧
  ((callFunc 159 #[.int .u64 (lo : Nat), .int .u64 (atC noW Y v j : Nat), .int .u64 0]).run Tryz.prog w = .ok (.value (.tuple #[.int .u64 (lo1 : Nat), .int .u64 (c1 : Nat)])) w) ∧
  ((callFunc 163 #[.int .u64 (X j : Nat), .int .u64 (lo1 : Nat), .int .u64 (sbB X (timW Y v n) j : Nat)]).run Tryz.prog w = .ok (.value (.tuple #[.int .u64 (m1 : Nat), .int .u64 (d1 : Nat)])) w) ∧
  Hid (m1 = sbD X (timW Y v n) j) ∧ Hid (d1 = sbB X (timW Y v n) (j + 1)) ∧ Hid (hi + c1 = atC noW Y v (j + 1)) ∧ Hid (IntKind.u64.wrap ((hi : Int) + (c1 : Nat)) = ((hi + c1 : Nat) : Int)) := by
 obtain ⟨e1, e2⟩ := tt_step (Y j) v (atC noW Y v j) (hY j) hv
 have hc := atC_lt noW_lt hY hv (j + 1)
 have hp : timW Y v n j = (Y j * v % 18446744073709551616 + atC noW Y v j) % 18446744073709551616 := by
  unfold timW; rw [if_pos hj, e1]; rfl
 have h1 := fun W => Tryz.bits_Mul64 (Y j) v (hY j) hv W
 have h2 := add64 (Y j * v % 18446744073709551616) (atC noW Y v j) 0 (by omega) w
 have h3 := sub64 (X j) ((Y j * v % 18446744073709551616 + atC noW Y v j) % 18446744073709551616) (sbB X (timW Y v n) j) (sbB_le _ _ _) w
 simp only [Nat.add_zero] at h2
 refine ⟨_, _, _, _, _, _, Lib.hid (fun W => (h1 W).mono fun _ _ ⟨a, b⟩ => ⟨a, b.symm⟩), h2, h3, Lib.hid ?_, Lib.hid ?_, Lib.hid (by rw [atC]; exact e2), Lib.hid ?_⟩
 ·rw [sbD, hp]
 ·rw [sbB, hp]
 ·rw [atC] at hc
  have e3 : noW j = 0 := rfl
  rw [e3, Nat.add_zero, ← e2] at hc
  rw [IntKind.wrap_u64]; omega
set_option maxHeartbeats 1600000 in
theorem takeTimes_any (X Y : Nat → Nat) (v n bm om bn on' cm cn : Nat) (w : World) (hn : n ≤ 1000) (hne : bn ≠ bm)
 (hx : ∀ i, i < n + 1 → w.cell? ⟨bm, om + i, none⟩ = some (.int .u64 (X i : Nat)) ∧ w.frozen? ⟨bm, om + i, none⟩ = false) (hy : ∀ i, i < n → w.cell? ⟨bn, on' + i, none⟩ = some (.int .u64 (Y i : Nat)))
 (hY : ∀ i, Y i < 18446744073709551616) (hv : v < 18446744073709551616) :
 Calls Tryz.prog 176 #[.slice (some ⟨bm, om, none⟩) (n + 1) cm, .slice (some ⟨bn, on', none⟩) n cn, .int .u64 (v : Nat)] w fun e w' =>
  e = .returned (.int .u64 (sbB X (timW Y v n) (n + 1) : Nat)) ∧ On w w' bm ∧ (∀ i, i < n + 1 → w'.cell? ⟨bm, om + i, none⟩ = some (.int .u64 (sbD X (timW Y v n) i : Nat))) ∧ (∀ i, i < om ∨ om + n + 1 ≤ i → w'.cell? ⟨bm, i, none⟩ = w.cell? ⟨bm, i, none⟩) := by
 have Hx := Lib.hid hx; clear hx
 have Hy := Lib.hid hy; clear hy
 have HY := Lib.hid hY; clear hY
 have HV := Lib.hid hv; clear hv
 go_enter Tryz.func176, Tryz.ntmps176
 go_wp2_with fail
 go_loopw [6, 7, 14] (fun b c i wr => ∃ j : Nat, j ≤ n ∧ i = .int .i64 j ∧ c = .int .u64 (atC noW Y v j : Nat) ∧ b = .int .u64 (sbB X (timW Y v n) j : Nat) ∧ On w wr bm ∧ Hid (∀ i, i < j → wr.cell? ⟨bm, om + i, none⟩ = some (.int .u64 (sbD X (timW Y v n) i : Nat))) ∧
  Hid (∀ i, i < om ∨ om + j ≤ i → wr.cell? ⟨bm, i, none⟩ = w.cell? ⟨bm, i, none⟩)) (fun _ _ i _ => n - (intOf i).toNat)
 case atStart => exact ⟨0, Nat.zero_le _, rfl, rfl, rfl, On.refl _ _, Lib.hid (fun i hi => by omega), Lib.hid (fun _ _ => rfl)⟩
 case round =>
  obtain ⟨j, hj, rfl, rfl, rfl, hO, H1, H2⟩ := hrel
  by_cases hjn : j < n
  ·have cx : wr.cell? ⟨bm, om + j, none⟩ = some (.int .u64 (X j : Nat)) := (H2.out _ (by omega)).trans (Hx.out j (by omega)).1
   have fx : wr.frozen? ⟨bm, om + j, none⟩ = false := (hO.frozen _).trans (Hx.out j (by omega)).2
   have cy : wr.cell? ⟨bn, on' + j, none⟩ = some (.int .u64 (Y j : Nat)) := (hO.cell hne).trans (Hy.out j hjn)
   have hk1 : (j : Int) < n := by omega
   have hk2 : (j : Int) < (n : Int) + 1 := by omega
   obtain ⟨hi, lo, lo1, c1, m1, d1, HM, ha1, ha2, HD, HB, HC, HS⟩ := tt_words X Y v n j hjn HY.out HV.out wr
   have HR : Hid (∃ jj : Nat, jj ≤ n ∧ Value.int .i64 ((j : Int) + 1) = .int .i64 jj ∧ Value.int .u64 (IntKind.u64.wrap ((hi : Int) + (c1 : Nat))) = .int .u64 (atC noW Y v jj : Nat) ∧ Value.int .u64 (d1 : Nat) = .int .u64 (sbB X (timW Y v n) jj : Nat) ∧ On w (wr.setCell ⟨bm, om + j, none⟩ (.int .u64 (m1 : Nat))) bm ∧
    Hid (∀ i, i < jj → (wr.setCell ⟨bm, om + j, none⟩ (.int .u64 (m1 : Nat))).cell? ⟨bm, om + i, none⟩ = some (.int .u64 (sbD X (timW Y v n) i : Nat))) ∧
    Hid (∀ i, i < om ∨ om + jj ≤ i → (wr.setCell ⟨bm, om + j, none⟩ (.int .u64 (m1 : Nat))).cell? ⟨bm, i, none⟩ = w.cell? ⟨bm, i, none⟩)) := by
    refine Lib.hid ⟨j + 1, by omega, by go_num, by rw [HS.out, HC.out], by rw [HB.out], hO.put _ _, Lib.hid (fun i hi => ?_), Lib.hid (fun i hi => ?_)⟩
    ·by_cases e : i = j
     ·subst e; rw [World.cell?_setCell_same' _ _ _ (by rw [cx]; rfl), HD.out]
     ·rw [World.cell?_setCell_other _ _ _ _ (fun h => e (by have := congrArg Addr.off h; simp at this; omega))]; exact H1.out i (by omega)
    ·rw [World.cell?_setCell_other _ _ _ _ (fun h => by have := congrArg Addr.off h; simp at this; omega)]; exact H2.out i (by omega)
   generalize atC noW Y v j = cc at ha1 ⊢
   generalize sbB X (timW Y v n) j = bb at ha2 ⊢
   generalize X j = xx at cx ha2
   generalize Y j = yy at cy HM
   clear HD HC H1 H2 HS HB
   go_wp2_with fail
   refine (HM.out _).mono ?_
   rintro e w1 ⟨rfl, rfl⟩
   go_wp2_with fail
   exact ⟨HR.out, by simp [intOf]; omega⟩
  ·obtain rfl : j = n := by omega
   have cx : wr.cell? ⟨bm, om + j, none⟩ = some (.int .u64 (X j : Nat)) := (H2.out _ (by omega)).trans (Hx.out j (by omega)).1
   have fx : wr.frozen? ⟨bm, om + j, none⟩ = false := (hO.frozen _).trans (Hx.out j (by omega)).2
   have hk2 : (j : Int) < (j : Int) + 1 := by omega
   have ha := sub64 (X j) (atC noW Y v j) (sbB X (timW Y v j) j) (sbB_le _ _ _) wr
   have hp : timW Y v j j = atC noW Y v j := by unfold timW; rw [if_neg (by omega)]
   have HB : Hid ((if X j < atC noW Y v j + sbB X (timW Y v j) j then 1 else 0) = sbB X (timW Y v j) (j + 1)) := Lib.hid (by rw [sbB, hp])
   have HD : Hid ((X j + 18446744073709551616 - atC noW Y v j - sbB X (timW Y v j) j) % 18446744073709551616 = sbD X (timW Y v j) j) := Lib.hid (by rw [sbD, hp])
   rw [HB.out, HD.out] at ha
   have HR : Hid (On w (wr.setCell ⟨bm, om + j, none⟩ (.int .u64 (sbD X (timW Y v j) j : Nat))) bm ∧ (∀ i, i < j + 1 → (wr.setCell ⟨bm, om + j, none⟩ (.int .u64 (sbD X (timW Y v j) j : Nat))).cell? ⟨bm, om + i, none⟩ = some (.int .u64 (sbD X (timW Y v j) i : Nat))) ∧
    (∀ i, i < om ∨ om + j + 1 ≤ i → (wr.setCell ⟨bm, om + j, none⟩ (.int .u64 (sbD X (timW Y v j) j : Nat))).cell? ⟨bm, i, none⟩ = w.cell? ⟨bm, i, none⟩)) := Lib.hid ⟨hO.put _ _, fun i hi => by
    by_cases e : i = j
    ·subst e; rw [World.cell?_setCell_same' _ _ _ (by rw [cx]; rfl)]
    ·rw [World.cell?_setCell_other _ _ _ _ (fun h => e (by have := congrArg Addr.off h; simp at this; omega))]; exact H1.out i (by omega), fun i hi => by
    rw [World.cell?_setCell_other _ _ _ _ (fun h => by have := congrArg Addr.off h; simp at this; omega)]; exact H2.out i (by omega)⟩
   clear HB HD H1 H2 hp
   generalize atC noW Y v j = cc at ha ⊢
   generalize hbb : sbB X (timW Y v j) j = bb at ha ⊢
   clear hbb
   generalize X j = xx at cx ha
   generalize hb2 : sbB X (timW Y v j) (j + 1) = b2 at ha ⊢
   have HB2 := Lib.hid hb2
   clear hb2
   generalize hdd : sbD X (timW Y v j) j = dd at ha HR
   have HDD := Lib.hid hdd
   clear hdd
   go_wp2_with fail
   go_ret
   exact ⟨by rw [HB2.out]; rfl, HR.out.1, HR.out.2.1, HR.out.2.2⟩
end Go.Proofs.YteolocchmhpggaaGreatDoor
namespace Go.Proofs.YteolocchmhpggaaGreatDoor
open Go.RowKit
theorem valI_cast (R : Nat → Nat) : ∀ n, valI (fun i => (R i : Int)) n = ((valW R n : Nat) : Int)
 | 0 => rfl
 | n + 1 => by rw [valI, valI_cast R n, valW]; simp [B64]
theorem cast_bd {R : Nat → Nat} (h : ∀ i, R i < 18446744073709551616) : BdF (fun i => (R i : Int)) := fun i => by
 have := h i
 show 0 ≤ ((R i : Nat) : Int) ∧ ((R i : Nat) : Int) < B64
 unfold B64
 omega
theorem add_nat {R Y : Nat → Nat} (hR : ∀ i, R i < 18446744073709551616) (hY : ∀ i, Y i < 18446744073709551616) (n : Nat) :
 ∃ (R' : Nat → Nat) (c : Nat), (∀ i, R' i < 18446744073709551616) ∧ (∀ i, sumF (fun i => (R i : Int)) (fun i => (Y i : Int)) i = (R' i : Nat)) ∧ carF (fun i => (R i : Int)) (fun i => (Y i : Int)) n = (c : Nat) ∧ c ≤ 1 ∧
  valW R' n + c * 18446744073709551616 ^ n = valW R n + valW Y n := by
 have hc := carF_bd (cast_bd hR) (cast_bd hY) n
 have hs : ∀ i, 0 ≤ sumF (fun i => (R i : Int)) (fun i => (Y i : Int)) i ∧ sumF (fun i => (R i : Int)) (fun i => (Y i : Int)) i < 18446744073709551616 := fun i => by
  unfold sumF B64; omega
 refine ⟨fun i => (sumF (fun i => (R i : Int)) (fun i => (Y i : Int)) i).toNat, (carF (fun i => (R i : Int)) (fun i => (Y i : Int)) n).toNat, fun i => ?_, fun i => ?_, by omega, by omega, ?_⟩
 ·have := hs i
  show (sumF (fun i => (R i : Int)) (fun i => (Y i : Int)) i).toNat < _
  omega
 ·have := hs i
  show _ = (((sumF (fun i => (R i : Int)) (fun i => (Y i : Int)) i).toNat : Nat) : Int)
  omega
 ·have h1 := valI_sum (x := fun i => (R i : Int)) (y := fun i => (Y i : Int)) n
  rw [valI_cast, valI_cast] at h1
  have h2 := valI_cast (fun i => (sumF (fun i => (R i : Int)) (fun i => (Y i : Int)) i).toNat) n
  have h3 : (fun i => (((sumF (fun i => (R i : Int)) (fun i => (Y i : Int)) i).toNat : Nat) : Int)) = sumF (fun i => (R i : Int)) (fun i => (Y i : Int)) := by
   funext i
   have := hs i
   omega
  rw [h3] at h2
  rw [h2] at h1
  generalize valW (fun i => (sumF (fun i => (R i : Int)) (fun i => (Y i : Int)) i).toNat) n = a at *
  obtain ⟨c, hcn⟩ := Int.eq_ofNat_of_zero_le hc.1
  rw [hcn] at h1 ⊢
  have e : ((18446744073709551616 ^ n : Nat) : Int) = B64 ^ n := by rw [Int.natCast_pow]; rfl
  have e2 : ((a + c * 18446744073709551616 ^ n : Nat) : Int) = ((valW R n + valW Y n : Nat) : Int) := by
   rw [Int.natCast_add, Int.natCast_mul, e, Int.natCast_add]; exact h1
  have := Int.ofNat.inj e2
  simpa using this
theorem est_gen {B x1 x0 y lo dlo P M D : Nat} (hP : 0 < P) (hy : 0 < y) (hlo : lo < P) (hM : M = (x1 * B + x0) * P + lo) (hD : D = y * P + dlo) : M / D ≤ (x1 * B + x0) / y := by
 have h1 : M / D ≤ M / (y * P) := Nat.div_le_div_left (by omega) (Nat.mul_pos hy hP)
 refine Nat.le_trans h1 ?_
 rw [Nat.mul_comm y, ← Nat.div_div_eq_div_mul, hM, Nat.add_comm, Nat.add_mul_div_right _ _ hP, Nat.div_eq_of_lt hlo, Nat.zero_add]
 exact Nat.le_refl _
theorem back_gen {Q q g D M R R' c o : Nat} (hq : q = M / D) (hD : 0 < D) (h : R + (q + g) * D = M + o * Q) (hR : R < Q) (ho : o ≤ 1) : (o ≠ 0 ↔ g ≠ 0) ∧
 (R' + c * Q = R + D → c ≤ 1 → g ≠ 0 → R' + (q + (g - 1)) * D = M + (o - c) * Q ∧ c ≤ o) := by
 have hqD : q * D ≤ M := by rw [hq]; exact Nat.div_mul_le_self _ _
 have hqD2 : M < q * D + D := by
  have := Nat.lt_div_mul_add (a := M) hD
  rw [hq]; exact this
 have key : o ≠ 0 ↔ g ≠ 0 := by
  constructor
  ·intro h1 h2
   subst h2
   obtain rfl : o = 1 := by omega
   rw [Nat.add_zero] at h
   omega
  ·intro h1 h2
   subst h2
   have h3 : D ≤ g * D := Nat.le_mul_of_pos_left _ (by omega)
   rw [Nat.add_mul] at h
   omega
 refine ⟨key, fun h1 h2 h3 => ?_⟩
 obtain rfl : o = 1 := by have := key.2 h3; omega
 obtain ⟨k, rfl⟩ : ∃ k, g = k + 1 := ⟨g - 1, by omega⟩
 rw [Nat.add_sub_cancel]
 rw [← Nat.add_assoc, Nat.add_mul (q + k), Nat.one_mul] at h
 refine ⟨?_, h2⟩
 rcases (show c = 0 ∨ c = 1 by omega) with rfl | rfl
 ·omega
 ·omega
theorem lz_top (y : Nat) (h1 : 9223372036854775808 ≤ y) (h2 : y < 18446744073709551616) (W : World) :
 Calls Tryz.prog 173 #[.int .u64 (y : Nat)] W fun e w' => e = .returned (.int .i64 ((0 : Nat) : Int)) ∧ ∃ k, w' = W.drewN k := by
 have hb : Lib.bitLen y = 64 := by
  have h := Lib.bitLen_shift 63 y (by simpa using h1) (by simpa using h2)
  rw [h, show y / 2 ^ 63 = 1 by simp; omega]
  rfl
 refine (Tryz.bits_LeadingZeros64 (y : Nat) W (by omega) (by omega)).mono ?_
 rintro e w' ⟨rfl, rfl⟩
 refine ⟨by rw [Int.toNat_natCast, hb]; rfl, 0, rfl⟩
theorem div_top (hi lo y : Nat) (w : World) (h0 : hi < y) (h1 : 9223372036854775808 ≤ y) (h2 : y < 18446744073709551616) (h3 : lo < 18446744073709551616) :
 Calls Tryz.prog 172 #[.int .u64 (hi : Nat), .int .u64 (lo : Nat), .int .u64 (y : Nat)] w fun e w' =>
  e = .returned (.tuple #[.int .u64 ((hi * 18446744073709551616 + lo) / y : Nat), .int .u64 ((hi * 18446744073709551616 + lo) % y : Nat)]) ∧ ∃ k, w' = w.drewN k :=
 div64_full hi lo y 0 w h0 h3 h2 (by decide) (by rw [Nat.pow_zero, Nat.mul_one]; exact h1) (by rw [Nat.pow_zero, Nat.mul_one]; exact h2) (fun W => lz_top y h1 h2 W)
theorem guess (X Y : Nat → Nat) (t : Nat) (hX : ∀ i, X i < 18446744073709551616) (hT : 9223372036854775808 ≤ Y t) (hM : valW X (t + 1 + 1) < valW Y (t + 1) * 18446744073709551616) :
 (X (t + 1) < Y t → valW X (t + 1 + 1) / valW Y (t + 1) ≤ (X (t + 1) * 18446744073709551616 + X t) / Y t ∧ (X (t + 1) * 18446744073709551616 + X t) / Y t < 18446744073709551616) ∧ valW X (t + 1 + 1) / valW Y (t + 1) ≤ 18446744073709551615 ∧ 0 < valW Y (t + 1) := by
 have hP : 0 < 18446744073709551616 ^ t := Nat.pow_pos (by decide)
 have hlo := valW_lt t (fun i _ => hX i)
 have hYp : 0 < valW Y (t + 1) := by
  rw [valW]
  have : 0 < Y t * 18446744073709551616 ^ t := Nat.mul_pos (by omega) hP
  omega
 refine ⟨fun h => ⟨?_, ?_⟩, ?_, hYp⟩
 ·refine est_gen (lo := valW X t) (dlo := valW Y t) hP (by omega) hlo ?_ ?_
  ·rw [valW, valW, Nat.pow_succ]
   generalize 18446744073709551616 ^ t = P at *
   rw [Nat.add_mul, Nat.mul_comm P, ← Nat.mul_assoc]
   omega
  ·rw [valW]; omega
 ·rw [Nat.div_lt_iff_lt_mul (by omega)]
  have h1 : (X (t + 1) + 1) * 18446744073709551616 ≤ Y t * 18446744073709551616 := Nat.mul_le_mul_right _ h
  have := hX t
  rw [Nat.mul_comm 18446744073709551616]
  omega
 ·have h1 : valW X (t + 1 + 1) / valW Y (t + 1) < 18446744073709551616 := by
   rw [Nat.div_lt_iff_lt_mul hYp, Nat.mul_comm]; exact hM
  omega
def OutS (w : World) (bm om n : Nat) (M D g o : Nat) (W : World) : Prop := On w W bm ∧ (∀ i, i < om ∨ om + n + 1 ≤ i → W.cell? ⟨bm, i, none⟩ = w.cell? ⟨bm, i, none⟩) ∧
 ∃ R : Nat → Nat, (∀ i, R i < 18446744073709551616) ∧ (∀ i, i < n + 1 → W.cell? ⟨bm, om + i, none⟩ = some (.int .u64 (R i : Nat))) ∧ valW R (n + 1) + (M / D + g) * D = M + o * 18446744073709551616 ^ (n + 1) ∧ o ≤ 1
theorem On.trans' {a b c : World} {m : Nat} (h : On a b m) (k : On b c m) : On a c m :=
 ⟨k.os.trans h.os, k.tape.trans h.tape, k.output.trans h.output, k.size.trans h.size, fun j hj => (k.block j hj).trans (h.block j hj), fun p => (k.frozen p).trans (h.frozen p)⟩
set_option maxRecDepth 100000 in
set_option maxHeartbeats 2000000 in
theorem takeOut_any (X Y : Nat → Nat) (t bm om bn on' cm cn : Nat) (w : World) (hn : t ≤ 900) (hne : bn ≠ bm)
 (hx : ∀ i, i < t + 1 + 1 → w.cell? ⟨bm, om + i, none⟩ = some (.int .u64 (X i : Nat)) ∧ w.frozen? ⟨bm, om + i, none⟩ = false) (hy : ∀ i, i < t + 1 → w.cell? ⟨bn, on' + i, none⟩ = some (.int .u64 (Y i : Nat)))
 (hX : ∀ i, X i < 18446744073709551616) (hY : ∀ i, Y i < 18446744073709551616) (hT : 9223372036854775808 ≤ Y t) (hM : valW X (t + 1 + 1) < valW Y (t + 1) * 18446744073709551616) :
 Calls Tryz.prog 174 #[.slice (some ⟨bm, om, none⟩) (t + 1 + 1) cm, .slice (some ⟨bn, on', none⟩) (t + 1) cn] w fun e w' =>
  e = .returned (.int .u64 (valW X (t + 1 + 1) / valW Y (t + 1) : Nat)) ∧ OutS w bm om (t + 1) (valW X (t + 1 + 1)) (valW Y (t + 1)) 0 0 w' := by
 have HG := Lib.hid (guess X Y t hX hT hM)
 have cx1 := (hx (t + 1) (by omega)).1
 have cx0 := (hx t (by omega)).1
 have cy0 := hy t (by omega)
 have HD := Lib.hid (fun W (h : X (t + 1) < Y t) => div_top (X (t + 1)) (X t) (Y t) W h hT (hY t) (hX t))
 have HT := Lib.hid (fun v k (hv : v < 18446744073709551616) => takeTimes_any X Y v (t + 1) bm om bn on' cm cn (w.drewN k) (by omega) hne (fun i hi => hx i hi) (fun i hi => hy i hi) hY hv)
 have Hx := Lib.hid hx
 have Hy := Lib.hid hy
 have HX := Lib.hid hX
 have HY := Lib.hid hY
 clear hx hy hX hY hT hM
 have e1 : IntKind.i64.wrap ((t : Int) + 1 - 1) = (t : Int) := by rw [Int.add_sub_cancel]; exact IntWalk.i64_in _ (by omega)
 have e2 : IntKind.i64.wrap ((t : Int) + 1) = (t : Int) + 1 := IntWalk.i64_in _ (by omega)
 have e3 : IntKind.i64.wrap (t : Int) = (t : Int) := IntWalk.i64_in _ (by omega)
 have l1 : (t : Int) < (t : Int) + 1 := by omega
 have l2 : (t : Int) < (t : Int) + 1 + 1 := by omega
 have l3 : (t : Int) + 1 < (t : Int) + 1 + 1 := by omega
 have l4 : (0 : Int) ≤ (t : Int) + 1 := by omega
 have l5 : ((t : Int) + 1).toNat = t + 1 := by omega
 go_enter Tryz.func174, Tryz.ntmps174
 go_upto_region 3 with fail
 go_quiet (fail)
 go_upto_if 20 with fail
 go_cut [6] from 8 (fun v wx => ∃ q g k, v = .int .u64 (q : Nat) ∧ Hid (q = valW X (t + 1 + 1) / valW Y (t + 1) + g ∧ q < 18446744073709551616) ∧ wx = w.drewN k)
 case first =>
  by_cases h : X (t + 1) < Y t
  ·have HD2 := Lib.hid (fun W => HD.out W h)
   have HG2 := Lib.hid (HG.out.1 h)
   generalize (X (t + 1) * 18446744073709551616 + X t) / Y t = q at *
   generalize (X (t + 1) * 18446744073709551616 + X t) % Y t = r at *
   generalize X (t + 1) = x1 at *
   generalize X t = x0 at *
   generalize Y t = y at *
   clear HX HY Hx Hy HT HD HG
   have d1 : (w.drewN nq).cell? ⟨bm, om + (t + 1), none⟩ = some (.int .u64 (x1 : Nat)) := by rw [World.cell?_drewN]; exact cx1
   have d0 : (w.drewN nq).cell? ⟨bm, om + t, none⟩ = some (.int .u64 (x0 : Nat)) := by rw [World.cell?_drewN]; exact cx0
   have dy : (w.drewN nq).cell? ⟨bn, on' + t, none⟩ = some (.int .u64 (y : Nat)) := by rw [World.cell?_drewN]; exact cy0
   clear cx1 cx0 cy0
   generalize hW : w.drewN nq = W1 at d1 d0 dy ⊢
   have HW := Lib.hid hW
   clear hW
   go_wp2_with fail
   go_quiet ((go_at_call 172; exact Calls.quiet_of (HD2.out _)))
   go_wp2_with fail
   go_meet
   refine ⟨q, q - valW X (t + 1 + 1) / valW Y (t + 1), _, rfl, Lib.hid ⟨?_, HG2.out.2⟩, by rw [← HW.out, World.drewN_drewN]⟩
   have := HG2.out.1
   omega
  ·clear HD HX HY Hx Hy HT
   go_wp2_with fail
   go_meet
   refine ⟨18446744073709551615, 18446744073709551615 - valW X (t + 1 + 1) / valW Y (t + 1), _, rfl, Lib.hid ⟨?_, by decide⟩, rfl⟩
   have := HG.out.2.1
   generalize valW X (t + 1 + 1) / valW Y (t + 1) = z at *
   omega
 case rest =>
  obtain ⟨q, g, k, rfl, HQ, rfl⟩ := hcut
  have HT2 := Lib.hid (HT.out q k HQ.out.2)
  clear cx1 cx0 cy0 HD HT
  go_wp2_with fail
  refine HT2.out.mono ?_
  rintro e w1 ⟨rfl, hO, hc, ho⟩
  have hP1 := timW_lt HY.out HQ.out.2 (t + 1)
  have hv := sb_val HX.out hP1 (t + 1 + 1)
  rw [timW_val] at hv
  have hS : OutS w bm om (t + 1) (valW X (t + 1 + 1)) (valW Y (t + 1)) g (sbB X (timW Y q (t + 1)) (t + 1 + 1)) w1 := by
   refine ⟨((On.refl w bm).drewN k).trans' hO, fun i hi => (ho i (by omega)).trans (World.cell?_drewN _ _ _), sbD X (timW Y q (t + 1)), fun i => sbD_lt _ _ i, hc, ?_, sbB_le _ _ _⟩
   rw [← HQ.out.1]
   exact hv
  have HS := Lib.hid hS
  have hb1 := sbB_le X (timW Y q (t + 1)) (t + 1 + 1)
  have Hfz := Lib.hid (fun i hi => (Hx.out i hi).2)
  clear hS hO hc ho hP1 hv HT2 Hx HX
  generalize sbB X (timW Y q (t + 1)) (t + 1 + 1) = o at *
  go_wp2_with fail
  go_loopg [6, 7] g (fun g v o wr => ∃ (q : Nat) (b : Nat), v = .int .u64 (q : Nat) ∧ o = .int .u64 (b : Nat) ∧ Hid (q = valW X (t + 1 + 1) / valW Y (t + 1) + g ∧ q < 18446744073709551616) ∧ Hid (OutS w bm om (t + 1) (valW X (t + 1 + 1)) (valW Y (t + 1)) g b wr))
  case atStart => exact ⟨q, o, rfl, rfl, HQ, HS⟩
  case round =>
   obtain ⟨q', b, rfl, rfl, HQ2, HK⟩ := hrel
   clear HS HQ
   obtain ⟨hO, hOut, R, hRl, hRc, hRv, hb⟩ := HK.out
   have hlt := valW_lt (t + 1 + 1) (fun i _ => hRl i)
   obtain ⟨hkey, hstep⟩ := back_gen (R' := 0) (c := 0) rfl HG.out.2.2 hRv hlt hb
   have HB := Lib.hid (fun R' c => (back_gen (R' := R') (c := c) rfl HG.out.2.2 hRv hlt hb).2)
   clear hstep hlt hRv
   by_cases hb0 : b = 0
   ·obtain rfl : gk = 0 := by
     apply Classical.byContradiction
     intro h
     exact hkey.2 h hb0
    subst hb0
    clear hkey hb hRl hRc hOut hO HB
    have HQ3 : Hid (q' = valW X (t + 1 + 1) / valW Y (t + 1)) := Lib.hid (by have := HQ2.out.1; rw [Nat.add_zero] at this; exact this)
    go_wp2_with fail
    go_ret
    exact ⟨by rw [← HQ3.out]; rfl, HK.out⟩
   ·obtain rfl : b = 1 := by omega
    have hg0 : gk ≠ 0 := hkey.1 hb0
    clear hkey hb hb0
    obtain ⟨R', c, hR'l, hR's, hcar, hc1, hval⟩ := add_nat (Y := fun i => if i < t + 1 then Y i else 0) hRl (fun i => by
     show (if i < t + 1 then Y i else 0) < _
     split
     ·exact HY.out i
     ·decide) (t + 1 + 1)
    have hYv : valW (fun i => if i < t + 1 then Y i else 0) (t + 1 + 1) = valW Y (t + 1) := by
     rw [valW, if_neg (by omega), Nat.zero_mul, Nat.add_zero]
     exact valW_congr _ (fun i hi => if_pos hi)
    rw [hYv] at hval
    have hnew := HB.out (valW R' (t + 1 + 1)) c hval hc1 hg0
    have HA := Lib.hid (addTo_any (fun i => (R i : Int)) (fun i => (((if i < t + 1 then Y i else 0) : Nat) : Int)) (t + 1 + 1) (t + 1) bm om bn on' cm cn wr (by omega) hne
     (fun i hi => ⟨hRc i hi, (hO.frozen _).trans (Hfz.out i hi)⟩) (fun i hi => by rw [if_pos hi]; exact (hO.cell hne).trans (Hy.out i hi)) (fun i h1 h2 => by rw [if_neg (by omega)]; rfl) (cast_bd hRl) (cast_bd (R := fun i => if i < t + 1 then Y i else 0) (fun i => by
       show (if i < t + 1 then Y i else 0) < _
       split
       ·exact HY.out i
       ·decide)))
    rw [hcar] at HA
    have HNew := Lib.hid hnew
    have HR's := Lib.hid hR's
    have HR'l := Lib.hid hR'l
    have HOut := Lib.hid hOut
    have HO := Lib.hid hO
    have hqz : q' - 1 = valW X (t + 1 + 1) / valW Y (t + 1) + (gk - 1) ∧ 1 ≤ q' := by
     have h := HQ2.out.1
     generalize valW X (t + 1 + 1) / valW Y (t + 1) = z at h
     exact ⟨by omega, by omega⟩
    have hq1 : 1 ≤ q' := hqz.2
    have HQ3 : Hid (q' - 1 = valW X (t + 1 + 1) / valW Y (t + 1) + (gk - 1) ∧ q' - 1 < 18446744073709551616) := Lib.hid ⟨hqz.1, by have := HQ2.out.2; omega⟩
    have w1 : IntKind.u64.wrap ((q' : Int) - 1) = ((q' - 1 : Nat) : Int) := by
     have := HQ2.out.2
     rw [IntKind.wrap_u64]; omega
    have w2 : IntKind.u64.wrap (1 - (c : Int)) = ((1 - c : Nat) : Int) := by rw [IntKind.wrap_u64]; omega
    clear hqz hval hYv hcar hR's hR'l hnew hRl hRc hOut hO HB HQ2 HK
    go_wp2_with fail
    refine HA.out.mono ?_
    rintro e w3 ⟨rfl, hO3, hc3, ho3⟩
    have HK3 : Hid (OutS w bm om (t + 1) (valW X (t + 1 + 1)) (valW Y (t + 1)) (gk - 1) (1 - c) w3) := Lib.hid ⟨HO.out.trans' hO3, fun i hi => (ho3 i (by omega)).trans (HOut.out i hi), R', HR'l.out, fun i hi => by rw [hc3 i hi, HR's.out], HNew.out.1, by omega⟩
    clear hO3 hc3 ho3
    go_wp2_with fail
    go_roundg (gk - 1)
    case measure => omega
    case rel => exact ⟨q' - 1, 1 - c, rfl, rfl, HQ3, HK3⟩
end Go.Proofs.YteolocchmhpggaaGreatDoor
namespace Go.Proofs.YteolocchmhpggaaGreatDoor
open Go.RowKit
theorem shl_gen {B P m r A : Nat} (hB : B = P * A) (hP : P = 2 ^ r) (hA : 0 < A) (j : Nat) :
 m * P / B ^ (j + 1) % B = (m / B ^ (j + 1) % B) * P % B + m / B ^ j % B / A := by
 have hPp : 0 < P := by rw [hP]; exact Nat.pow_pos (by decide)
 have hBp : 0 < B := by rw [hB]; exact Nat.mul_pos hPp hA
 have hBj : 0 < B ^ j := Nat.pow_pos hBp
 have e1 : m * P / B ^ j = m / B ^ j * P + m % B ^ j * P / B ^ j := by
  have h := Nat.div_add_mod m (B ^ j)
  have e : m * P = m % B ^ j * P + B ^ j * (m / B ^ j * P) := by
   rw [← Nat.mul_assoc, ← Nat.add_mul, Nat.add_comm, h]
  rw [e, Nat.add_mul_div_left _ _ hBj, Nat.add_comm]
 have e2 : m % B ^ j * P / B ^ j < P := by
  rw [Nat.div_lt_iff_lt_mul hBj, Nat.mul_comm P]
  exact Nat.mul_lt_mul_of_pos_right (Nat.mod_lt _ hBj) hPp
 rw [Nat.pow_succ, ← Nat.div_div_eq_div_mul, ← Nat.div_div_eq_div_mul, e1]
 generalize m % B ^ j * P / B ^ j = e at *
 generalize m / B ^ j = h
 have d := Nat.div_add_mod h B
 have l := Nat.mod_lt h hBp
 generalize h / B = h1 at *
 generalize h % B = h0 at *
 subst d
 have e3 : ((B * h1 + h0) * P + e) / B = h1 * P + h0 / A := by
  have e4 : (h0 * P + e) / B = h0 / A := by
   rw [hB, ← Nat.div_div_eq_div_mul, Nat.add_comm, Nat.add_mul_div_right _ _ hPp, Nat.div_eq_of_lt e2, Nat.zero_add]
  rw [Nat.add_mul, Nat.add_assoc, show B * h1 * P = B * (h1 * P) by rw [Nat.mul_assoc], Nat.add_comm, Nat.add_mul_div_left _ _ hBp, e4, Nat.add_comm]
 rw [e3]
 have h0A : h0 / A < P := by rw [Nat.div_lt_iff_lt_mul hA, ← hB]; exact l
 have e5 : h1 % B * P % B = h1 * P % B := by rw [Nat.mod_mul_mod]
 rw [e5]
 have e6 : h1 * P % B = P * (h1 % A) := by rw [hB, Nat.mul_comm h1, Nat.mul_mod_mul_left]
 have hA2 : h1 % A < A := Nat.mod_lt _ hA
 have e7 : h1 * P % B + h0 / A < B := by
  rw [e6, hB]
  have : P * (h1 % A + 1) ≤ P * A := Nat.mul_le_mul_left _ hA2
  rw [Nat.mul_add, Nat.mul_one] at this
  omega
 rw [Nat.add_mod, Nat.mod_eq_of_lt (Nat.lt_of_le_of_lt (Nat.le_add_left _ _) e7), Nat.mod_eq_of_lt e7]
theorem pow_halves {r : Nat} (h : r ≤ 64) : 18446744073709551616 = 2 ^ r * 2 ^ (64 - r) := by
 rw [← Nat.pow_add, show r + (64 - r) = 64 by omega]
theorem shl_word {r : Nat} (h : r ≤ 64) (m j : Nat) : W64 (m * 2 ^ r) (j + 1) = W64 m (j + 1) * 2 ^ r % 18446744073709551616 + W64 m j / 2 ^ (64 - r) :=
 shl_gen (pow_halves h) rfl (Nat.pow_pos (by decide)) j
theorem shl_low (m r : Nat) : W64 (m * 2 ^ r) 0 = W64 m 0 * 2 ^ r % 18446744073709551616 := by
 unfold W64; rw [Nat.pow_zero, Nat.div_one, Nat.div_one, Nat.mod_mul_mod]
theorem shr_gen {B P m A : Nat} (hB : B = P * A) (hP : 0 < P) (hA : 0 < A) (j : Nat) :
 m / P / B ^ j % B = m / B ^ j % B / P + (m / B ^ (j + 1) % B) * A % B := by
 have hBp : 0 < B := by rw [hB]; exact Nat.mul_pos hP hA
 rw [Nat.pow_succ, ← Nat.div_div_eq_div_mul, Nat.div_div_eq_div_mul m P, Nat.mul_comm P, ← Nat.div_div_eq_div_mul]
 generalize m / B ^ j = h
 have d := Nat.div_add_mod h B
 have l := Nat.mod_lt h hBp
 generalize h / B = h1 at *
 generalize h % B = h0 at *
 subst d
 have e3 : (B * h1 + h0) / P = A * h1 + h0 / P := by
  rw [hB, Nat.mul_assoc, Nat.add_comm, Nat.add_mul_div_left _ _ hP, Nat.add_comm]
 have h0P : h0 / P < A := by rw [Nat.div_lt_iff_lt_mul hP, Nat.mul_comm, ← hB]; exact l
 have e5 : h1 % B * A % B = A * h1 % B := by rw [Nat.mod_mul_mod, Nat.mul_comm]
 have e6 : A * h1 % B = A * (h1 % P) := by rw [hB, Nat.mul_comm P, Nat.mul_mod_mul_left]
 have hP2 : h1 % P < P := Nat.mod_lt _ hP
 have e7 : A * h1 % B + h0 / P < B := by
  rw [e6, hB, Nat.mul_comm P]
  have : A * (h1 % P + 1) ≤ A * P := Nat.mul_le_mul_left _ hP2
  rw [Nat.mul_add, Nat.mul_one] at this
  omega
 rw [e3, e5, Nat.add_mod, Nat.mod_eq_of_lt (Nat.lt_of_le_of_lt (Nat.le_add_left _ _) e7), Nat.mod_eq_of_lt e7, Nat.add_comm]
theorem shr_word {r : Nat} (h : r ≤ 64) (m j : Nat) : W64 (m / 2 ^ r) j = W64 m j / 2 ^ r + W64 m (j + 1) * 2 ^ (64 - r) % 18446744073709551616 :=
 shr_gen (pow_halves h) (Nat.pow_pos (by decide)) (Nat.pow_pos (by decide)) j
theorem or_plus {r x y : Nat} (hy : y < 2 ^ r) : x * 2 ^ r ||| y = x * 2 ^ r + y := by
 rw [← Nat.shiftLeft_eq, Nat.shiftLeft_add_eq_or_of_lt hy]
theorem or_shl {r x y : Nat} (h : r ≤ 64) (hy : y < 18446744073709551616) : x * 2 ^ r % 18446744073709551616 ||| y / 2 ^ (64 - r) = x * 2 ^ r % 18446744073709551616 + y / 2 ^ (64 - r) := by
 have e : x * 2 ^ r % 18446744073709551616 = x % 2 ^ (64 - r) * 2 ^ r := by
  rw [pow_halves h, Nat.mul_comm x, Nat.mul_mod_mul_left, Nat.mul_comm]
 rw [e]
 apply or_plus
 rw [Nat.div_lt_iff_lt_mul (Nat.pow_pos (by decide)), ← pow_halves h]
 exact hy
theorem or_shr {r x y : Nat} (h : r ≤ 64) (hx : x < 18446744073709551616) : x / 2 ^ r ||| y * 2 ^ (64 - r) % 18446744073709551616 = x / 2 ^ r + y * 2 ^ (64 - r) % 18446744073709551616 := by
 have h2 := or_shl (r := 64 - r) (x := y) (y := x) (by omega) hx
 rw [show 64 - (64 - r) = r by omega] at h2
 rw [Nat.or_comm, h2, Nat.add_comm]
def R4 (w : World) (b : Nat) (x : Nat → Nat) : Prop := b < w.heap.size ∧ ∀ i, i < 4 → w.cell? ⟨b, i, none⟩ = some (.int .u64 (x i : Nat)) ∧ w.frozen? ⟨b, i, none⟩ = false
theorem R4.of_row {w : World} {b : Nat} {x : Nat → Nat} (h : Row w b [.int .u64 (x 0 : Nat), .int .u64 (x 1 : Nat), .int .u64 (x 2 : Nat), .int .u64 (x 3 : Nat)]) : R4 w b x := ⟨h.lt, fun i hi => by
 match i, hi with
 | 0, _ => exact ⟨h.c 0 rfl, h.f 0 rfl⟩
 | 1, _ => exact ⟨h.c 1 rfl, h.f 1 rfl⟩
 | 2, _ => exact ⟨h.c 2 rfl, h.f 2 rfl⟩
 | 3, _ => exact ⟨h.c 3 rfl, h.f 3 rfl⟩⟩
theorem R4.put {w : World} {b : Nat} {x : Nat → Nat} (h : R4 w b x) (j v : Nat) (hj : j < 4) : R4 (w.setCell ⟨b, j, none⟩ (.int .u64 (v : Nat))) b (fun i => if i = j then v else x i) := by
 refine ⟨by simpa [World.setCell] using h.1, fun i hi => ⟨?_, by rw [World.frozen?_setCell]; exact (h.2 i hi).2⟩⟩
 by_cases e : i = j
 ·subst e
  rw [World.cell?_setCell_same' _ _ _ (by rw [(h.2 i hi).1]; rfl)]
  simp
 ·rw [World.cell?_setCell_other _ _ _ _ (fun h => e (congrArg Addr.off h).symm), (h.2 i hi).1]
  simp only [if_neg e]
theorem R4.other {w : World} {b : Nat} {x : Nat → Nat} (h : R4 w b x) {p : Addr} (hp : p.block ≠ b) (v : Value) : R4 (w.setCell p v) b x :=
 ⟨by simpa [World.setCell] using h.1, fun i hi => ⟨by rw [World.cell?_setCell_other _ _ _ _ (fun e => hp (by rw [e]))]; exact (h.2 i hi).1, by rw [World.frozen?_setCell]; exact (h.2 i hi).2⟩⟩
theorem R4.drewN {w : World} {b : Nat} {x : Nat → Nat} (h : R4 w b x) (k : Nat) : R4 (w.drewN k) b x := h
theorem R4.congr {w : World} {b : Nat} {x y : Nat → Nat} (h : R4 w b x) (hxy : ∀ i, i < 4 → x i = y i) : R4 w b y := ⟨h.1, fun i hi => by rw [← hxy i hi]; exact h.2 i hi⟩
theorem up_word (q r m d : Nat) : W64 (m * 2 ^ (64 * q + r)) (q + d) = W64 (m * 2 ^ r) d ∧ (d < q → W64 (m * 2 ^ (64 * q + r)) d = 0) := by
 have e : m * 2 ^ (64 * q + r) = m * 2 ^ r * 18446744073709551616 ^ q := by
  rw [Nat.pow_add, Nat.pow_mul, show (2 : Nat) ^ 64 = 18446744073709551616 by decide, Nat.mul_assoc, Nat.mul_comm (2 ^ r)]
 rw [e]
 generalize m * 2 ^ r = x
 have hB : ∀ k, 0 < 18446744073709551616 ^ k := fun k => Nat.pow_pos (by decide)
 unfold W64
 refine ⟨?_, fun h => ?_⟩
 ·rw [Nat.pow_add, ← Nat.div_div_eq_div_mul, Nat.mul_div_cancel _ (hB q)]
 ·obtain ⟨k, rfl⟩ : ∃ k, q = d + (k + 1) := ⟨q - d - 1, by omega⟩
  rw [Nat.pow_add, ← Nat.mul_assoc, Nat.mul_right_comm, Nat.mul_div_cancel _ (hB d), Nat.pow_succ, ← Nat.mul_assoc]
  exact Nat.mul_mod_left _ _
def UpS (w : World) (x y : Nat → Nat) (W : World) : Prop := R4 W w.heap.size x ∧ R4 W (w.heap.size + 1) y ∧ Below w.heap.size w W
theorem UpS.put {w W : World} {x y : Nat → Nat} (h : UpS w x y W) (j v : Nat) (hj : j < 4) : UpS w x (fun i => if i = j then v else y i) (W.setCell ⟨w.heap.size + 1, j, none⟩ (.int .u64 (v : Nat))) :=
 ⟨h.1.other (p := ⟨w.heap.size + 1, j, none⟩) (by show w.heap.size + 1 ≠ w.heap.size; omega) _, h.2.1.put j v hj, below_put1 h.2.2 (by omega) _ _⟩
theorem UpS.drewN {w W : World} {x y : Nat → Nat} (h : UpS w x y W) (k : Nat) : UpS w x y (W.drewN k) := ⟨h.1.drewN k, h.2.1.drewN k, below_drewN h.2.2 k⟩
theorem UpS.congr {w W : World} {x y z : Nat → Nat} (h : UpS w x y W) (hy : ∀ i, i < 4 → y i = z i) : UpS w x z W := ⟨h.1, h.2.1.congr hy, h.2.2⟩
set_option maxRecDepth 100000 in
set_option maxHeartbeats 2000000 in
theorem up_any (m q r : Nat) (w : World) (hq : q < 4) (hr : r < 64) :
 Calls Tryz.prog 157 #[wv (W64 m 0 : Nat) (W64 m 1 : Nat) (W64 m 2 : Nat) (W64 m 3 : Nat), .int .i64 ((64 * q + r : Nat) : Int)] w fun e w' =>
  e = .returned (wv (W64 (m * 2 ^ (64 * q + r)) 0 : Nat) (W64 (m * 2 ^ (64 * q + r)) 1 : Nat) (W64 (m * 2 ^ (64 * q + r)) 2 : Nat) (W64 (m * 2 ^ (64 * q + r)) 3 : Nat)) ∧ Below w.heap.size w w' := by
 have hS : UpS w (W64 m) (fun i => if i < q then W64 (m * 2 ^ (64 * q + r)) i else 0) ((w.alloc (.cells #[.int .u64 (W64 m 0 : Nat), .int .u64 (W64 m 1 : Nat), .int .u64 (W64 m 2 : Nat), .int .u64 (W64 m 3 : Nat)] 163)).alloc (.cells #[.int .u64 0, .int .u64 0, .int .u64 0, .int .u64 0] 163)) := by
  refine ⟨R4.of_row ((Row.at rfl _ _).alloc _), (R4.of_row (x := fun _ => 0) (Row.at (by simp) _ _)).congr (fun i _ => ?_), ((Below.refl w.heap.size w).alloc (Nat.le_refl _) _).alloc (by simp) _⟩
  show 0 = if i < q then W64 (m * 2 ^ (64 * q + r)) i else 0
  split
  ·rw [(up_word q r m i).2 (by assumption)]
  ·rfl
 have HS := Lib.hid hS
 clear hS
 have e1 : ((64 * q + r : Nat) : Int).tdiv 64 = (q : Int) := by rw [Int.tdiv_eq_ediv_of_nonneg (by omega)]; omega
 have e2 : ((64 * q + r : Nat) : Int).tmod 64 = (r : Int) := by rw [Int.tmod_eq_emod_of_nonneg (by omega)]; omega
 have e3 : ((64 * q + r : Nat) : Int) / 64 = (q : Int) := by omega
 have e4 : ((64 * q + r : Nat) : Int) % 64 = (r : Int) := by omega
 have h0 : (0 : Int) ≤ ((64 * q + r : Nat) : Int) := by omega
 have h1 : ((64 * q + r : Nat) : Int) < 256 := by omega
 obtain ⟨K, HK⟩ : ∃ K : Nat, Hid (64 * q + r = K) := ⟨_, Lib.hid rfl⟩
 rw [HK.out] at HS e1 e2 e3 e4 h0 h1 ⊢
 go_enter Tryz.func157, Tryz.ntmps157
 go_wp2_with fail
 generalize World.alloc _ _ = W0 at HS ⊢
 have HU := Lib.hid (fun d => (up_word q r m d).1)
 rw [HK.out] at HU
 clear e1 e2 e3 e4 h0 h1
 go_loopw [7] (fun i wr => ∃ d i' : Nat, Hid (i' = q + d) ∧ i' ≤ 4 ∧ i = .int .i64 (i' : Nat) ∧ Hid (UpS w (W64 m) (fun i => if i < i' then W64 (m * 2 ^ K) i else 0) wr)) (fun i _ => 4 - (intOf i).toNat)
 case atStart => exact ⟨0, q, Lib.hid rfl, by omega, rfl, HS⟩
 case round =>
  obtain ⟨d, i, HI, hi4, rfl, HK2⟩ := hrel
  clear HS
  by_cases hlt : i < 4
  ·have hi1 : (i : Int) < 4 := by omega
   have hi2 : (0 : Int) ≤ (i : Int) := by omega
   have hq4 : (q : Int) < 4 := by omega
   have e5 : (i : Int) - (q : Int) = (d : Int) := by have := HI.out; omega
   have hd4 : (d : Int) < 4 := by have := HI.out; omega
   have cx := (HK2.out.1.2 d (by have := HI.out; omega)).1
   have cn : wr.cell? ⟨w.heap.size + 1, i, none⟩ = some (.int .u64 ((0 : Nat) : Int)) := by
    have h := (HK2.out.2.1.2 i hlt).1
    simpa using h
   have fn := (HK2.out.2.1.2 i hlt).2
   have hr0 : (r : Int) < 64 := by omega
   rcases Nat.eq_zero_or_pos d with rfl | hdp
   ·have hn : ¬ (q : Int) < (i : Int) := by have := HI.out; omega
    have hsh : IntKind.u64.wrap (((W64 m 0 : Nat) : Int) * 2 ^ r) = ((W64 m 0 * 2 ^ r % 18446744073709551616 : Nat) : Int) := by
     rw [IntKind.wrap_u64]
     simp
    obtain ⟨S1, HS1⟩ : ∃ S1, Hid (W64 m 0 * 2 ^ r % 18446744073709551616 = S1) := ⟨_, Lib.hid rfl⟩
    rw [HS1.out] at hsh
    go_wp2_with fail
    refine ⟨⟨1, i + 1, Lib.hid (by have := HI.out; omega), by omega, rfl, Lib.hid ((HK2.out.put i S1 hlt).congr (fun j hj => ?_))⟩, by simp [intOf]; omega⟩
    show (if j = i then S1 else if j < i then W64 (m * 2 ^ K) j else 0) = if j < i + 1 then W64 (m * 2 ^ K) j else 0
    by_cases e : j = i
    ·have h1 := HU.out 0
     rw [← HI.out, shl_low, HS1.out] at h1
     rw [if_pos e, if_pos (by omega), e, h1]
    ·by_cases e2 : j < i
     ·rw [if_neg e, if_pos e2, if_pos (by omega)]
     ·rw [if_neg e, if_neg e2, if_neg (by omega)]
   ·obtain ⟨e, rfl⟩ : ∃ e, d = e + 1 := ⟨d - 1, by omega⟩
    have hn : (q : Int) < (i : Int) := by have := HI.out; omega
    obtain ⟨S1, HS1⟩ : ∃ S1, Hid (W64 m (e + 1) * 2 ^ r % 18446744073709551616 = S1) := ⟨_, Lib.hid rfl⟩
    have hsh : IntKind.u64.wrap (((W64 m (e + 1) : Nat) : Int) * 2 ^ r) = ((S1 : Nat) : Int) := by
     rw [← HS1.out, IntKind.wrap_u64]
     simp
    have HF := Lib.hid hsh
    go_upto_region 7 with fail
    have HK3 := Lib.hid (HK2.out.put i S1 hlt)
    clear cx cn fn hsh HK2
    generalize World.setCell _ _ _ = W1 at HK3 ⊢
    have cn : W1.cell? ⟨w.heap.size + 1, i, none⟩ = some (.int .u64 (S1 : Nat)) := by
     have h := (HK3.out.2.1.2 i hlt).1
     simpa using h
    have fn := (HK3.out.2.1.2 i hlt).2
    have cy := (HK3.out.1.2 e (by have := HI.out; omega)).1
    have w1 : IntKind.i64.wrap ((i : Int) - (q : Int)) = (e : Int) + 1 := by
     have h : (i : Int) - (q : Int) = (e : Int) + 1 := by have := HI.out; omega
     rw [h]; exact IntWalk.i64_in _ (by omega)
    have w2 : IntKind.i64.wrap ((e : Int) + 1 - 1) = (e : Int) := by rw [Int.add_sub_cancel]; exact IntWalk.i64_in _ (by omega)
    have w3 : IntKind.i64.wrap (64 - (r : Int)) = 64 - (r : Int) := IntWalk.i64_in _ (by omega)
    have w4 : (0 : Int) ≤ 64 - (r : Int) := by omega
    have w5 : (64 - (r : Int)).toNat = 64 - r := by omega
    have w6 : IntKind.i64.wrap (e : Int) = (e : Int) := IntWalk.i64_in _ (by omega)
    have w7 : (e : Int) < 4 := by omega
    have hor : bits BinOp.or IntKind.u64 (S1 : Int) (((W64 m e : Nat) : Int) / 2 ^ (64 - r)) = ((W64 (m * 2 ^ K) i : Nat) : Int) := by
     have h1 := HU.out (e + 1)
     rw [← HI.out, shl_word (by omega)] at h1
     have hb : W64 m e / 2 ^ (64 - r) < 18446744073709551616 := Nat.lt_of_le_of_lt (Nat.div_le_self _ _) (W64_lt m e)
     have h2 := u64_or_nat S1 (W64 m e / 2 ^ (64 - r)) (by rw [← HS1.out]; exact Nat.mod_lt _ (by decide)) hb
     rw [h1, ← or_shl (by omega) (W64_lt m e), HS1.out, ← h2]
     simp
    clear e5
    go_region
    all_goals
     go_wp2_with fail
     refine ⟨⟨e + 2, i + 1, Lib.hid (by have := HI.out; omega), by omega, rfl, Lib.hid ((((HK3.out.put i (W64 (m * 2 ^ K) i) hlt).drewN 1)).congr (fun j hj => ?_))⟩, by simp [intOf]; omega⟩
     show (if j = i then W64 (m * 2 ^ K) i else if j = i then S1 else if j < i then W64 (m * 2 ^ K) j else 0) = if j < i + 1 then W64 (m * 2 ^ K) j else 0
     by_cases e3 : j = i
     ·rw [if_pos e3, if_pos (by omega), e3]
     ·by_cases e2 : j < i
      ·rw [if_neg e3, if_neg e3, if_pos e2, if_pos (by omega)]
      ·rw [if_neg e3, if_neg e3, if_neg e2, if_neg (by omega)]
  ·obtain rfl : i = 4 := by omega
   have hR := HK2.out.2.1.congr (y := W64 (m * 2 ^ K)) (fun i hi => if_pos hi)
   have c0 := (hR.2 0 (by decide)).1
   have c1 := (hR.2 1 (by decide)).1
   have c2 := (hR.2 2 (by decide)).1
   have c3 := (hR.2 3 (by decide)).1
   have f0 := (hR.2 0 (by decide)).2
   have f1 := (hR.2 1 (by decide)).2
   have f2 := (hR.2 2 (by decide)).2
   have f3 := (hR.2 3 (by decide)).2
   have HB := Lib.hid HK2.out.2.2
   have hrow : Row wr (w.heap.size + 1) [.int .u64 (W64 (m * 2 ^ K) 0 : Nat), .int .u64 (W64 (m * 2 ^ K) 1 : Nat), .int .u64 (W64 (m * 2 ^ K) 2 : Nat), .int .u64 (W64 (m * 2 ^ K) 3 : Nat)] := ⟨hR.1, fun i v hv => by
    match i, hv with
    | 0, hv => exact ⟨c0.trans hv, f0⟩
    | 1, hv => exact ⟨c1.trans hv, f1⟩
    | 2, hv => exact ⟨c2.trans hv, f2⟩
    | 3, hv => exact ⟨c3.trans hv, f3⟩⟩
   have HRow := Lib.hid hrow
   clear hR hrow HK2
   go_wp2_with fail
   clear c0 c1 c2 c3 f0 f1 f2 f3
   have r9 := HRow.out.put4 (.int .u64 (W64 (m * 2 ^ K) 0 : Nat)) (.int .u64 (W64 (m * 2 ^ K) 1 : Nat)) (.int .u64 (W64 (m * 2 ^ K) 2 : Nat)) (.int .u64 (W64 (m * 2 ^ K) 3 : Nat))
   have hb9 := below_put4 HB.out (c := w.heap.size + 1) (by omega) (.int .u64 (W64 (m * 2 ^ K) 0 : Nat)) (.int .u64 (W64 (m * 2 ^ K) 1 : Nat)) (.int .u64 (W64 (m * 2 ^ K) 2 : Nat)) (.int .u64 (W64 (m * 2 ^ K) 3 : Nat))
   generalize World.setCell _ _ _ = W9 at r9 hb9 ⊢
   exact bodyPost_ret (v := wv (W64 (m * 2 ^ K) 0 : Nat) (W64 (m * 2 ^ K) 1 : Nat) (W64 (m * 2 ^ K) 2 : Nat) (W64 (m * 2 ^ K) 3 : Nat)) (by simp [results, Tryz.results157, go_sem, r9.c 0 rfl, r9.c 1 rfl, r9.c 2 rfl, r9.c 3 rfl]) rfl ⟨rfl, hb9⟩
end Go.Proofs.YteolocchmhpggaaGreatDoor
namespace Go.Proofs.YteolocchmhpggaaGreatDoor
open Go.RowKit
theorem down_word (q r m d : Nat) : W64 (m / 2 ^ (64 * q + r)) d = W64 (m / 2 ^ r) (q + d) := by
 have e : m / 2 ^ (64 * q + r) = m / 2 ^ r / 18446744073709551616 ^ q := by
  rw [Nat.pow_add, Nat.pow_mul, show (2 : Nat) ^ 64 = 18446744073709551616 by decide, Nat.mul_comm, ← Nat.div_div_eq_div_mul]
 rw [e]
 unfold W64
 rw [Nat.div_div_eq_div_mul (m / 2 ^ r), ← Nat.pow_add]
theorem W64_past {m : Nat} (hm : m < T256) (i : Nat) (hi : 4 ≤ i) : W64 m i = 0 := by
 unfold W64
 rw [T256_w] at hm
 rw [Nat.div_eq_of_lt (Nat.lt_of_lt_of_le hm (Nat.pow_le_pow_right (by decide) hi))]
set_option maxRecDepth 100000 in
set_option maxHeartbeats 2000000 in
theorem down_any (m q r : Nat) (w : World) (hm : m < T256) (hq : q < 4) (hr : r < 64) :
 Calls Tryz.prog 154 #[wv (W64 m 0 : Nat) (W64 m 1 : Nat) (W64 m 2 : Nat) (W64 m 3 : Nat), .int .i64 ((64 * q + r : Nat) : Int)] w fun e w' =>
  e = .returned (wv (W64 (m / 2 ^ (64 * q + r)) 0 : Nat) (W64 (m / 2 ^ (64 * q + r)) 1 : Nat) (W64 (m / 2 ^ (64 * q + r)) 2 : Nat) (W64 (m / 2 ^ (64 * q + r)) 3 : Nat)) ∧ Below w.heap.size w w' := by
 have hS : UpS w (W64 m) (fun i => if i < 0 then W64 (m / 2 ^ (64 * q + r)) i else 0) ((w.alloc (.cells #[.int .u64 (W64 m 0 : Nat), .int .u64 (W64 m 1 : Nat), .int .u64 (W64 m 2 : Nat), .int .u64 (W64 m 3 : Nat)] 163)).alloc (.cells #[.int .u64 0, .int .u64 0, .int .u64 0, .int .u64 0] 163)) := by
  refine ⟨R4.of_row ((Row.at rfl _ _).alloc _), (R4.of_row (x := fun _ => 0) (Row.at (by simp) _ _)).congr (fun i _ => ?_), ((Below.refl w.heap.size w).alloc (Nat.le_refl _) _).alloc (by simp) _⟩
  show 0 = if i < 0 then W64 (m / 2 ^ (64 * q + r)) i else 0
  rw [if_neg (by omega)]
 have HS := Lib.hid hS
 clear hS
 have HM := Lib.hid hm
 have HU := Lib.hid (fun d => down_word q r m d)
 have HTail : Hid (∀ j, 4 ≤ q + j → W64 (m / 2 ^ (64 * q + r)) j = 0) := Lib.hid (fun j hj => by
  rw [down_word]
  exact W64_past (Nat.lt_of_le_of_lt (Nat.div_le_self _ _) hm) _ hj)
 have e1 : ((64 * q + r : Nat) : Int).tdiv 64 = (q : Int) := by rw [Int.tdiv_eq_ediv_of_nonneg (by omega)]; omega
 have e2 : ((64 * q + r : Nat) : Int).tmod 64 = (r : Int) := by rw [Int.tmod_eq_emod_of_nonneg (by omega)]; omega
 have e3 : ((64 * q + r : Nat) : Int) / 64 = (q : Int) := by omega
 have e4 : ((64 * q + r : Nat) : Int) % 64 = (r : Int) := by omega
 have h0 : (0 : Int) ≤ ((64 * q + r : Nat) : Int) := by omega
 have h1 : ((64 * q + r : Nat) : Int) < 256 := by omega
 obtain ⟨K, HK⟩ : ∃ K : Nat, Hid (64 * q + r = K) := ⟨_, Lib.hid rfl⟩
 rw [HK.out] at HS HU HTail e1 e2 e3 e4 h0 h1 ⊢
 go_enter Tryz.func154, Tryz.ntmps154
 go_wp2_with fail
 generalize World.alloc _ _ = W0 at HS ⊢
 clear e1 e2 e3 e4 h0 h1 hm
 go_loopw [7] (fun i wr => ∃ d i' : Nat, Hid (i' = q + d) ∧ i' ≤ 4 ∧ i = .int .i64 (i' : Nat) ∧ Hid (UpS w (W64 m) (fun j => if j < d then W64 (m / 2 ^ K) j else 0) wr)) (fun i _ => 4 - (intOf i).toNat)
 case atStart => exact ⟨0, q, Lib.hid rfl, by omega, rfl, HS⟩
 case round =>
  obtain ⟨d, i, HI, hi4, rfl, HK2⟩ := hrel
  clear HS
  by_cases hlt : i < 4
  ·have hi1 : (i : Int) < 4 := by omega
   have hi2 : (0 : Int) ≤ (i : Int) := by omega
   have hq4 : (q : Int) < 4 := by omega
   have e5 : (i : Int) - (q : Int) = (d : Int) := by have := HI.out; omega
   have hd4 : (d : Int) < 4 := by have := HI.out; omega
   have hdl : d < 4 := by have := HI.out; omega
   have cx := (HK2.out.1.2 i hlt).1
   have cn : wr.cell? ⟨w.heap.size + 1, d, none⟩ = some (.int .u64 ((0 : Nat) : Int)) := by
    have h := (HK2.out.2.1.2 d hdl).1
    simpa using h
   have fn := (HK2.out.2.1.2 d hdl).2
   have hr0 : (r : Int) < 64 := by omega
   obtain ⟨S1, HS1⟩ : ∃ S1, Hid (W64 m i / 2 ^ r = S1) := ⟨_, Lib.hid rfl⟩
   have hsh : ((W64 m i : Nat) : Int) / 2 ^ r = ((S1 : Nat) : Int) := by rw [← HS1.out]; simp
   have HF := Lib.hid hsh
   by_cases hi3 : i = 3
   ·have hn : ¬ (i : Int) + 1 < 4 := by omega
    have HI3 := Lib.hid hi3
    clear hi3
    go_wp2_with fail
    refine ⟨⟨d + 1, i + 1, Lib.hid (by have := HI.out; omega), by omega, rfl, Lib.hid ((HK2.out.put d S1 hdl).congr (fun j hj => ?_))⟩, by simp [intOf]; omega⟩
    show (if j = d then S1 else if j < d then W64 (m / 2 ^ K) j else 0) = if j < d + 1 then W64 (m / 2 ^ K) j else 0
    by_cases e : j = d
    ·have h1 := HU.out d
     rw [← HI.out, shr_word (r := r) (by omega) m i, W64_past HM.out (i + 1) (by have := HI3.out; omega), Nat.zero_mul, Nat.zero_mod, Nat.add_zero, HS1.out] at h1
     rw [if_pos e, if_pos (by omega), e, h1]
    ·by_cases e2 : j < d
     ·rw [if_neg e, if_pos e2, if_pos (by omega)]
     ·rw [if_neg e, if_neg e2, if_neg (by omega)]
   ·have hn : (i : Int) + 1 < 4 := by omega
    have hn2 : (0 : Int) ≤ (i : Int) + 1 := by omega
    obtain ⟨S2, HS2⟩ : ∃ S2, Hid (W64 m (i + 1) * 2 ^ (64 - r) % 18446744073709551616 = S2) := ⟨_, Lib.hid rfl⟩
    go_upto_region 7 with fail
    have HK3 := Lib.hid (HK2.out.put d S1 hdl)
    clear cx cn fn hsh HK2
    generalize World.setCell _ _ _ = W1 at HK3 ⊢
    have cn : W1.cell? ⟨w.heap.size + 1, d, none⟩ = some (.int .u64 (S1 : Nat)) := by
     have h := (HK3.out.2.1.2 d hdl).1
     simpa using h
    have fn := (HK3.out.2.1.2 d hdl).2
    have cy := (HK3.out.1.2 (i + 1) (by omega)).1
    have hs2 : IntKind.u64.wrap (((W64 m (i + 1) : Nat) : Int) * 2 ^ (64 - r)) = ((S2 : Nat) : Int) := by
     rw [← HS2.out, IntKind.wrap_u64]
     simp
    have w1 : IntKind.i64.wrap ((i : Int) - (q : Int)) = (d : Int) := by rw [e5]; exact IntWalk.i64_in _ (by omega)
    have w2 : IntKind.i64.wrap ((i : Int) + 1) = (i : Int) + 1 := IntWalk.i64_in _ (by omega)
    have w3 : IntKind.i64.wrap (64 - (r : Int)) = 64 - (r : Int) := IntWalk.i64_in _ (by omega)
    have w4 : (0 : Int) ≤ 64 - (r : Int) := by omega
    have w5 : (64 - (r : Int)).toNat = 64 - r := by omega
    have w6 : IntKind.i64.wrap (d : Int) = (d : Int) := IntWalk.i64_in _ (by omega)
    have w7 : ((i : Int) + 1).toNat = i + 1 := by omega
    have hor : bits BinOp.or IntKind.u64 (S1 : Int) (S2 : Int) = ((W64 (m / 2 ^ K) d : Nat) : Int) := by
     have h1 := HU.out d
     rw [← HI.out, shr_word (r := r) (by omega) m i] at h1
     have hb : W64 m i / 2 ^ r < 18446744073709551616 := Nat.lt_of_le_of_lt (Nat.div_le_self _ _) (W64_lt m i)
     have h2 := u64_or_nat S1 S2 (by rw [← HS1.out]; exact hb) (by rw [← HS2.out]; exact Nat.mod_lt _ (by decide))
     rw [h1, ← or_shr (by omega) (W64_lt m i), HS1.out, HS2.out, ← h2]
    clear e5
    go_region
    all_goals
     go_wp2_with fail
     refine ⟨⟨d + 1, i + 1, Lib.hid (by have := HI.out; omega), by omega, rfl, Lib.hid ((((HK3.out.put d (W64 (m / 2 ^ K) d) hdl).drewN 1)).congr (fun j hj => ?_))⟩, by simp [intOf]; omega⟩
     show (if j = d then W64 (m / 2 ^ K) d else if j = d then S1 else if j < d then W64 (m / 2 ^ K) j else 0) = if j < d + 1 then W64 (m / 2 ^ K) j else 0
     by_cases e3 : j = d
     ·rw [if_pos e3, if_pos (by omega), e3]
     ·by_cases e2 : j < d
      ·rw [if_neg e3, if_neg e3, if_pos e2, if_pos (by omega)]
      ·rw [if_neg e3, if_neg e3, if_neg e2, if_neg (by omega)]
  ·obtain rfl : i = 4 := by omega
   have hR := HK2.out.2.1.congr (y := W64 (m / 2 ^ K)) (fun j hj => by
    show (if j < d then W64 (m / 2 ^ K) j else 0) = W64 (m / 2 ^ K) j
    by_cases e : j < d
    ·rw [if_pos e]
    ·rw [if_neg e, HTail.out j (by have := HI.out; omega)])
   have c0 := (hR.2 0 (by decide)).1
   have c1 := (hR.2 1 (by decide)).1
   have c2 := (hR.2 2 (by decide)).1
   have c3 := (hR.2 3 (by decide)).1
   have f0 := (hR.2 0 (by decide)).2
   have f1 := (hR.2 1 (by decide)).2
   have f2 := (hR.2 2 (by decide)).2
   have f3 := (hR.2 3 (by decide)).2
   have HB := Lib.hid HK2.out.2.2
   have hrow : Row wr (w.heap.size + 1) [.int .u64 (W64 (m / 2 ^ K) 0 : Nat), .int .u64 (W64 (m / 2 ^ K) 1 : Nat), .int .u64 (W64 (m / 2 ^ K) 2 : Nat), .int .u64 (W64 (m / 2 ^ K) 3 : Nat)] := ⟨hR.1, fun i v hv => by
    match i, hv with
    | 0, hv => exact ⟨c0.trans hv, f0⟩
    | 1, hv => exact ⟨c1.trans hv, f1⟩
    | 2, hv => exact ⟨c2.trans hv, f2⟩
    | 3, hv => exact ⟨c3.trans hv, f3⟩⟩
   have HRow := Lib.hid hrow
   clear hR hrow HK2
   go_wp2_with fail
   clear c0 c1 c2 c3 f0 f1 f2 f3
   have r9 := HRow.out.put4 (.int .u64 (W64 (m / 2 ^ K) 0 : Nat)) (.int .u64 (W64 (m / 2 ^ K) 1 : Nat)) (.int .u64 (W64 (m / 2 ^ K) 2 : Nat)) (.int .u64 (W64 (m / 2 ^ K) 3 : Nat))
   have hb9 := below_put4 HB.out (c := w.heap.size + 1) (by omega) (.int .u64 (W64 (m / 2 ^ K) 0 : Nat)) (.int .u64 (W64 (m / 2 ^ K) 1 : Nat)) (.int .u64 (W64 (m / 2 ^ K) 2 : Nat)) (.int .u64 (W64 (m / 2 ^ K) 3 : Nat))
   generalize World.setCell _ _ _ = W9 at r9 hb9 ⊢
   exact bodyPost_ret (v := wv (W64 (m / 2 ^ K) 0 : Nat) (W64 (m / 2 ^ K) 1 : Nat) (W64 (m / 2 ^ K) 2 : Nat) (W64 (m / 2 ^ K) 3 : Nat)) (by simp [results, Tryz.results154, go_sem, r9.c 0 rfl, r9.c 1 rfl, r9.c 2 rfl, r9.c 3 rfl]) rfl ⟨rfl, hb9⟩
end Go.Proofs.YteolocchmhpggaaGreatDoor
namespace Go.Proofs.YteolocchmhpggaaGreatDoor
open Go.RowKit
theorem lz_any (x : Nat) (h0 : 0 < x) (h1 : x < 18446744073709551616) : ∃ s, s < 64 ∧ 9223372036854775808 ≤ x * 2 ^ s ∧ x * 2 ^ s < 18446744073709551616 ∧
 ∀ W, Calls Tryz.prog 173 #[.int .u64 (x : Nat)] W fun e w' => e = .returned (.int .i64 (s : Nat)) ∧ W = w' := by
 have a1 := Nat.log2_self_le (n := x) (by omega)
 have a2 := Nat.lt_log2_self (n := x)
 generalize x.log2 = k at *
 have hk : k < 64 := by
  apply Nat.lt_of_not_le
  intro h
  have : (2 : Nat) ^ 64 ≤ 2 ^ k := Nat.pow_le_pow_right (by decide) h
  have e : (2 : Nat) ^ 64 = 18446744073709551616 := by decide
  omega
 have hb : Lib.bitLen x = k + 1 := by
  rw [Lib.bitLen_shift k x a1 (by simpa using h1)]
  have : x / 2 ^ k = 1 := by
   have hp : 0 < 2 ^ k := Nat.pow_pos (by decide)
   apply Nat.le_antisymm
   ·apply Nat.le_of_lt_succ
    rw [Nat.div_lt_iff_lt_mul hp, Nat.mul_comm]
    rw [Nat.pow_succ] at a2
    exact a2
   ·exact (Nat.le_div_iff_mul_le hp).2 (by omega)
  rw [this]
  rfl
 refine ⟨63 - k, by omega, ?_, ?_, fun W => ?_⟩
 ·have e : 2 ^ k * 2 ^ (63 - k) = 9223372036854775808 := by rw [← Nat.pow_add, show k + (63 - k) = 63 by omega]
  rw [← e]
  exact Nat.mul_le_mul_right _ a1
 ·have e : 2 ^ (k + 1) * 2 ^ (63 - k) = 18446744073709551616 := by rw [← Nat.pow_add, show k + 1 + (63 - k) = 64 by omega]
  rw [← e]
  exact Nat.mul_lt_mul_of_pos_right a2 (Nat.pow_pos (by decide))
 ·refine (Tryz.bits_LeadingZeros64 (x : Nat) W (by omega) (by omega)).mono ?_
  rintro e w' ⟨rfl, rfl⟩
  refine ⟨?_, rfl⟩
  rw [Int.toNat_natCast, hb]
  congr 2
  omega
def rfK (A D k i : Nat) : Nat := if i < k then W64 A i else W64 (upW A k % D) (i - k)
theorem rfK_lt (A D k i : Nat) : rfK A D k i < 18446744073709551616 := by unfold rfK; split <;> exact W64_lt _ _
theorem W64_high {m n i : Nat} (h : m < 18446744073709551616 ^ n) (hi : n ≤ i) : W64 m i = 0 := by
 unfold W64
 rw [Nat.div_eq_of_lt (Nat.lt_of_lt_of_le h (Nat.pow_le_pow_right (by decide) hi))]
theorem rfK_val {A D t i : Nat} (hD : 0 < D) (hDt : D < 18446744073709551616 ^ (t + 1)) :
 valW (fun j => rfK A D (i + 1) (i + j)) (t + 1 + 1) = upW A (i + 1) % D * 18446744073709551616 + W64 A i := by
 have hs := valW_split (fun j => rfK A D (i + 1) (i + j)) 1 (t + 1)
 rw [Nat.add_comm 1] at hs
 rw [hs, valW, valW, Nat.pow_zero, Nat.pow_one]
 have e1 : rfK A D (i + 1) (i + 0) = W64 A i := by unfold rfK; rw [if_pos (by omega)]; rfl
 have e2 : valW (fun j => (fun j => rfK A D (i + 1) (i + j)) (1 + j)) (t + 1) = upW A (i + 1) % D := by
  rw [valW_congr (t + 1) (fun j _ => show rfK A D (i + 1) (i + (1 + j)) = W64 (upW A (i + 1) % D) j by unfold rfK; rw [if_neg (by omega)]; congr 1; omega), valW_W64]
  exact Nat.mod_eq_of_lt (Nat.lt_trans (Nat.mod_lt _ hD) hDt)
 rw [e2]
 show 0 + rfK A D (i + 1) (i + 0) * 1 + _ = _
 rw [e1]
 omega
theorem rest_gen {M D V Q : Nat} (hv : V + (M / D + 0) * D = M + 0 * Q) : V = M % D := by
 have := Nat.div_add_mod M D
 rw [Nat.mul_comm] at this
 rw [Nat.add_zero, Nat.zero_mul, Nat.add_zero] at hv
 generalize M / D * D = z at *
 omega
theorem part_less {H x D B : Nat} (hx : x < B) (h : H < D) : H * B + x < D * B := by
 have := Nat.mul_le_mul_right B (show H + 1 ≤ D from h)
 rw [Nat.add_mul, Nat.one_mul] at this
 omega
theorem rfK_step {A D t i : Nat} {R : Nat → Nat} (hD : 0 < D) (hDt : D < 18446744073709551616 ^ (t + 1)) (hR : ∀ j, R j < 18446744073709551616)
 (hv : valW R (t + 1 + 1) + ((upW A (i + 1) % D * 18446744073709551616 + W64 A i) / D + 0) * D = upW A (i + 1) % D * 18446744073709551616 + W64 A i + 0 * 18446744073709551616 ^ (t + 1 + 1)) (j : Nat) :
 (j < t + 1 + 1 → R j = rfK A D i (i + j)) ∧ (t + 1 + 1 ≤ j → rfK A D (i + 1) (i + j) = rfK A D i (i + j)) := by
 have h1 := (part_step A D i hD).2
 have hlt : upW A i % D < 18446744073709551616 ^ (t + 1) := Nat.lt_trans (Nat.mod_lt _ hD) hDt
 have hlt1 : upW A (i + 1) % D < 18446744073709551616 ^ (t + 1) := Nat.lt_trans (Nat.mod_lt _ hD) hDt
 have e : rfK A D i (i + j) = W64 (upW A i % D) j := by unfold rfK; rw [if_neg (by omega)]; congr 1; omega
 rw [e]
 constructor
 ·intro hj
  have h2 := rest_gen hv
  rw [h1] at h2
  rw [← h2, W64_val (t + 1 + 1) (fun k _ => hR k) j hj]
 ·intro hj
  unfold rfK
  rw [if_neg (by omega), W64_high hlt1 (by omega), W64_high hlt (by omega)]
theorem rfK_below {A D i j : Nat} (h : j < i) : rfK A D (i + 1) j = rfK A D i j := by unfold rfK; rw [if_pos (by omega), if_pos h]
def R5 (w : World) (b : Nat) (x : Nat → Nat) : Prop := b < w.heap.size ∧ ∀ i, i < 5 → w.cell? ⟨b, i, none⟩ = some (.int .u64 (x i : Nat)) ∧ w.frozen? ⟨b, i, none⟩ = false
def PWS (w : World) (X m D : Nat) (qf rf : Nat → Nat) (W : World) : Prop := R4 W w.heap.size (W64 m) ∧ R4 W (w.heap.size + 1) (W64 D) ∧ R4 W (w.heap.size + 1 + 1) qf ∧ R4 W (w.heap.size + 1 + 1 + 1) (fun _ => 0) ∧ R5 W X rf ∧ Below w.heap.size w W ∧ w.heap.size + 1 + 1 + 1 < X
section
variable {w W W1 : World} {X m D : Nat} {qf rf qg rg : Nat → Nat}
theorem R4.below {w w1 : World} {b : Nat} {x : Nat → Nat} (h : R4 w b x) (hb : Below w.heap.size w w1) : R4 w1 b x :=
 ⟨Nat.lt_of_lt_of_le h.1 hb.size, fun i hi => ⟨(hb.cell (p := ⟨b, i, none⟩) h.1).trans (h.2 i hi).1, (hb.frozen (p := ⟨b, i, none⟩) h.1).trans (h.2 i hi).2⟩⟩
theorem R5.below {w w1 : World} {b : Nat} {x : Nat → Nat} (h : R5 w b x) (hb : Below w.heap.size w w1) : R5 w1 b x :=
 ⟨Nat.lt_of_lt_of_le h.1 hb.size, fun i hi => ⟨(hb.cell (p := ⟨b, i, none⟩) h.1).trans (h.2 i hi).1, (hb.frozen (p := ⟨b, i, none⟩) h.1).trans (h.2 i hi).2⟩⟩
theorem R4.on {w w1 : World} {b c : Nat} {x : Nat → Nat} (h : R4 w b x) (ho : On w w1 c) (hc : b ≠ c) : R4 w1 b x :=
 ⟨by rw [ho.size]; exact h.1, fun i hi => ⟨(ho.cell hc).trans (h.2 i hi).1, (ho.frozen _).trans (h.2 i hi).2⟩⟩
theorem R5.other {w : World} {b : Nat} {x : Nat → Nat} (h : R5 w b x) {p : Addr} (hp : p.block ≠ b) (v : Value) : R5 (w.setCell p v) b x :=
 ⟨by simpa [World.setCell] using h.1, fun i hi => ⟨by rw [World.cell?_setCell_other _ _ _ _ (fun e => hp (by rw [e]))]; exact (h.2 i hi).1, by rw [World.frozen?_setCell]; exact (h.2 i hi).2⟩⟩
theorem PWS.after (h : PWS w X m D qf rf W) (hb : Below W.heap.size W W1) : PWS w X m D qf rf W1 :=
 ⟨h.1.below hb, h.2.1.below hb, h.2.2.1.below hb, h.2.2.2.1.below hb, h.2.2.2.2.1.below hb, h.2.2.2.2.2.1.trans (hb.mono h.2.2.2.2.2.1.size), h.2.2.2.2.2.2⟩
theorem PWS.drew (h : PWS w X m D qf rf W) : PWS w X m D qf rf W.drew := h.after (Below.refl _ _).drew
theorem PWS.congr (h : PWS w X m D qf rf W) (hq : ∀ i, i < 4 → qf i = qg i) (hr : ∀ i, i < 5 → rf i = rg i) : PWS w X m D qg rg W :=
 ⟨h.1, h.2.1, h.2.2.1.congr hq, h.2.2.2.1, ⟨h.2.2.2.2.1.1, fun i hi => by rw [← hr i hi]; exact h.2.2.2.2.1.2 i hi⟩, h.2.2.2.2.2⟩
theorem PWS.put (h : PWS w X m D qf rf W) (j v : Nat) (hj : j < 4) : PWS w X m D (fun i => if i = j then v else qf i) rf (W.setCell ⟨w.heap.size + 1 + 1, j, none⟩ (.int .u64 (v : Nat))) :=
 ⟨h.1.other (p := ⟨w.heap.size + 1 + 1, j, none⟩) (by show w.heap.size + 1 + 1 ≠ w.heap.size; omega) _, h.2.1.other (p := ⟨w.heap.size + 1 + 1, j, none⟩) (by show w.heap.size + 1 + 1 ≠ w.heap.size + 1; omega) _, h.2.2.1.put j v hj,
  h.2.2.2.1.other (p := ⟨w.heap.size + 1 + 1, j, none⟩) (by show w.heap.size + 1 + 1 ≠ w.heap.size + 1 + 1 + 1; omega) _, h.2.2.2.2.1.other (p := ⟨w.heap.size + 1 + 1, j, none⟩) (by have := h.2.2.2.2.2.2; show w.heap.size + 1 + 1 ≠ X; omega) _, below_put1 h.2.2.2.2.2.1 (by omega) _ _, h.2.2.2.2.2.2⟩
end
theorem PWS.call {w W : World} {X m A D t i : Nat} {qf : Nat → Nat} (h : PWS w X m D qf (rfK A D (i + 1)) W) (ht : t ≤ 3) (hi : i + t + 1 ≤ 4) (hD : 0 < D) (hDt : D < 18446744073709551616 ^ (t + 1)) (hT : 9223372036854775808 ≤ W64 D t) (cm cn : Nat) :
 Calls Tryz.prog 174 #[.slice (some ⟨X, i, none⟩) (t + 1 + 1) cm, .slice (some ⟨w.heap.size + 1, 0, none⟩) (t + 1) cn] W fun e w' =>
  e = .returned (.int .u64 (W64 (A / D) i : Nat)) ∧ w'.cell? ⟨w.heap.size + 1 + 1, i, none⟩ = some (.int .u64 (qf i : Nat)) ∧ w'.frozen? ⟨w.heap.size + 1 + 1, i, none⟩ = false ∧ PWS w X m D qf (rfK A D i) w' := by
 obtain ⟨h1, h2, h3, h4, h5, h6, hX⟩ := h
 have hval := rfK_val (A := A) (i := i) hD hDt
 have hDv : valW (W64 D) (t + 1) = D := by rw [valW_W64]; exact Nat.mod_eq_of_lt hDt
 have hps := part_step A D i hD
 have hc := takeOut_any (fun j => rfK A D (i + 1) (i + j)) (W64 D) t X i (w.heap.size + 1) 0 cm cn W (by omega) (by omega) (fun j hj => h5.2 (i + j) (by omega)) (fun j hj => by rw [Nat.zero_add]; exact (h2.2 j (by omega)).1) (fun j => rfK_lt _ _ _ _) (fun j => W64_lt _ _) hT (by
  rw [hval, hDv]
  exact part_less (W64_lt A i) (Nat.mod_lt _ hD))
 rw [hval, hDv] at hc
 refine hc.mono ?_
 rintro e w' ⟨rfl, hO, hout, R, hRl, hRc, hRv, _⟩
 have hq := h3.on hO (by omega)
 refine ⟨by rw [hps.1], (hq.2 i (by omega)).1, (hq.2 i (by omega)).2, h1.on hO (by omega), h2.on hO (by omega), hq, h4.on hO (by omega), ⟨by rw [hO.size]; exact h5.1, fun j hj => ⟨?_, (hO.frozen _).trans (h5.2 j hj).2⟩⟩, h6.trans (hO.below (by omega)), hX⟩
 by_cases hj1 : j < i
 ·rw [hout j (.inl hj1), (h5.2 j hj).1, rfK_below hj1]
 ·obtain ⟨k, rfl⟩ : ∃ k, j = i + k := ⟨j - i, by omega⟩
  obtain ⟨s1, s2⟩ := rfK_step (A := A) (i := i) hD hDt hRl hRv k
  by_cases hk : k < t + 1 + 1
  ·rw [hRc k hk, s1 hk]
  ·rw [hout (i + k) (.inr (by omega)), (h5.2 (i + k) hj).1, s2 (by omega)]
end Go.Proofs.YteolocchmhpggaaGreatDoor

namespace Go.Proofs.YteolocchmhpggaaGreatDoor
open Go.RowKit
theorem ctz_split {x : Nat} (h0 : x ≠ 0) (h : x < 18446744073709551616) : ∃ m, x = 2 ^ Lib.ctz 64 x * (2 * m + 1) ∧ Lib.ctz 64 x < 64 := by
 have h1 := Lib.ctzFrom_spec 64 x (Nat.pos_of_ne_zero h0) h
 unfold Lib.ctz
 rw [if_neg h0]
 exact h1
theorem gcd_twos {a : Nat} (ha : a % 2 = 1) (k n : Nat) : a.gcd (2 ^ k * n) = a.gcd n := by
 apply Nat.Coprime.gcd_mul_left_cancel_right
 apply Nat.Coprime.pow_left
 rw [Nat.Coprime, Nat.gcd_rec, ha]
 rfl
theorem odd_step {a b : Nat} (ha : a % 2 = 1) (hb : b % 2 = 1) (hab : a < b) (hbl : b < 18446744073709551616) :
 ∃ k c, Lib.ctz 64 (b - a) = k ∧ k < 64 ∧ (b - a) / 2 ^ k = c ∧ c % 2 = 1 ∧ c < b ∧ a.gcd c = a.gcd b := by
 obtain ⟨m, e, hk⟩ := ctz_split (x := b - a) (by omega) (by omega)
 generalize Lib.ctz 64 (b - a) = k at *
 have hp : 0 < 2 ^ k := Nat.pow_pos (by decide)
 have hd : (b - a) / 2 ^ k = 2 * m + 1 := by rw [e, Nat.mul_div_cancel_left _ hp]
 refine ⟨k, 2 * m + 1, rfl, hk, hd, by omega, ?_, ?_⟩
 ·have h1 : (b - a) / 2 ^ k ≤ b - a := Nat.div_le_self _ _
  omega
 ·rw [← Nat.gcd_sub_self_right (Nat.le_of_lt hab), e, gcd_twos ha]
set_option maxRecDepth 100000 in
set_option maxHeartbeats 1600000 in
theorem odd_any (m n : Nat) (hm : m % 2 = 1) (hn : n % 2 = 1) (lm : m < 18446744073709551616) (ln : n < 18446744073709551616) (w : World) (ht : TabTz w) :
 Calls Tryz.prog 156 #[.int .u64 (m : Nat), .int .u64 (n : Nat)] w fun e w' => e = .returned (.int .u64 (Nat.gcd m n : Nat)) ∧ w = w' := by
 have Htz := Lib.hid (fun (x : Nat) (hx : x < 18446744073709551616) => (Tryz.bits_TrailingZeros64 x hx w (fun _ => ht)).mono fun _ _ (h : _ ∧ _) => (⟨h.1, h.2.symm⟩ : _ ∧ w = _))
 have HM := Lib.hid (show m % 2 = 1 ∧ m < 18446744073709551616 from ⟨hm, lm⟩)
 have HN := Lib.hid (show n % 2 = 1 ∧ n < 18446744073709551616 from ⟨hn, ln⟩)
 clear hm hn lm ln ht
 go_enter Tryz.func156, Tryz.ntmps156
 go_wp2_with fail
 go_loopw [0, 1] (fun v u wr => ∃ a b : Nat, v = .int .u64 (a : Nat) ∧ u = .int .u64 (b : Nat) ∧ Hid (a % 2 = 1 ∧ a < 18446744073709551616) ∧ Hid (b % 2 = 1 ∧ b < 18446744073709551616) ∧ Hid (a.gcd b = m.gcd n) ∧ wr = w) (fun v u _ => (intOf v + intOf u).toNat)
 case atStart => exact ⟨m, n, rfl, rfl, HM, HN, Lib.hid rfl, rfl⟩
 case round =>
  obtain ⟨a, b, rfl, rfl, HA, HB, HG, rfl⟩ := hrel
  clear HM HN
  rcases Nat.lt_trichotomy a b with h | h | h
  ·obtain ⟨k, c, e1, hk, e2, hc, hcb, hg⟩ := odd_step HA.out.1 HB.out.1 h HB.out.2
   have hbl := HB.out.2
   have HC := Lib.hid (show c % 2 = 1 ∧ c < 18446744073709551616 from ⟨hc, by omega⟩)
   have HG2 : Hid (a.gcd c = m.gcd n) := Lib.hid (hg.trans (HG.out))
   have hT := Htz.out (b - a) (by omega)
   rw [e1] at hT
   have HT := Lib.hid hT
   have hne : ¬ (a : Int) = b := by omega
   have hmin : min (a : Int) b = a := by omega
   have hmax : max (a : Int) b = b := by omega
   have hle : (a : Int) ≤ b := by omega
   have hsub : IntKind.u64.wrap ((b : Int) - a) = ((b - a : Nat) : Int) := by
    rw [show (b : Int) - a = ((b - a : Nat) : Int) by omega]
    simp [IntKind.wrap, IntKind.bits, IntKind.signed]; omega
   have hshr : ((b - a : Nat) : Int) / 2 ^ k = (c : Int) := by
    rw [← e2]; simp
   have hk0 : ¬ (k : Int) < 0 := by omega
   have hk1 : (k : Int) < 64 := by omega
   clear hT hc hg e1 HG e2
   go_wp2_with fail
   refine HT.out.mono ?_
   rintro e w2 ⟨rfl, rfl⟩
   go_wp2_with fail
   refine ⟨⟨a, c, rfl, rfl, HA, HC, HG2, trivial⟩, ?_⟩
   ·simp [intOf]; omega
  ·subst h
   rw [Nat.gcd_self] at HG
   have HR := HG
   clear HG HA HB
   go_wp2_with fail
   go_ret
   exact ⟨by show Ending.returned (.int .u64 (a : Nat)) = _; rw [HR.out], rfl⟩
  ·obtain ⟨k, c, e1, hk, e2, hc, hcb, hg⟩ := odd_step HB.out.1 HA.out.1 h HA.out.2
   have hbl := HA.out.2
   have HC := Lib.hid (show c % 2 = 1 ∧ c < 18446744073709551616 from ⟨hc, by omega⟩)
   have HG2 : Hid (b.gcd c = m.gcd n) := Lib.hid (hg.trans ((Nat.gcd_comm b a).trans HG.out))
   have hT := Htz.out (a - b) (by omega)
   rw [e1] at hT
   have HT := Lib.hid hT
   have hne : ¬ (a : Int) = b := by omega
   have hmin : min (a : Int) b = b := by omega
   have hmax : max (a : Int) b = a := by omega
   have hle : (b : Int) ≤ a := by omega
   have hsub : IntKind.u64.wrap ((a : Int) - b) = ((a - b : Nat) : Int) := by
    rw [show (a : Int) - b = ((a - b : Nat) : Int) by omega]
    simp [IntKind.wrap, IntKind.bits, IntKind.signed]; omega
   have hshr : ((a - b : Nat) : Int) / 2 ^ k = (c : Int) := by
    rw [← e2]; simp
   have hk0 : ¬ (k : Int) < 0 := by omega
   have hk1 : (k : Int) < 64 := by omega
   clear hT hc hg e1 HG e2
   go_wp2_with fail
   refine HT.out.mono ?_
   rintro e w2 ⟨rfl, rfl⟩
   go_wp2_with fail
   refine ⟨⟨b, c, rfl, rfl, HB, HC, HG2, trivial⟩, ?_⟩
   ·simp [intOf]; omega
end Go.Proofs.YteolocchmhpggaaGreatDoor
