/- Contract of the document's To by the number's value. -/
import Derived.Test.YthmobcpdbgmbeaaGreatDoorBA
import Derived.BigRegion
import Derived.Laws.Bits64b
namespace Go.Proofs.YthmobcpdbgmbeaaGreatDoor
open Go.RowKit
/-- What To answers. -/
def toV (z : Int) : Value := if z.natAbs < T256 then .tuple #[ivz z, .bool true] else .tuple #[iv false 0 0 0 0, .bool false]
theorem word_low (m j r : Nat) (_hr : r < 4) : W64 (m % 65536 ^ (4 * j + r)) j < 65536 ^ r := by
  unfold W64
  refine Nat.lt_of_le_of_lt (Nat.mod_le _ _) ?_
  rw [Nat.div_lt_iff_lt_mul (Nat.pow_pos (by decide))]
  have := Nat.mod_lt m (Nat.pow_pos (n := 4 * j + r) (show 0 < 65536 by decide))
  rw [show (18446744073709551616 : Nat) = 65536 ^ 4 from rfl, ← Nat.pow_mul, ← Nat.pow_add, Nat.add_comm r]
  exact this
theorem word_new (m j r : Nat) (hr : r < 4) : W64 (m % 65536 ^ (4 * j + r + 1)) j = W64 (m % 65536 ^ (4 * j + r)) j + D16 m (4 * j + r) * 65536 ^ r := by
  have hl := word_low m j r hr
  have hd := D16_lt m (4 * j + r)
  have hu := Nat.mod_lt m (Nat.pow_pos (n := 4 * j + r) (show 0 < 65536 by decide))
  have e : (65536 : Nat) ^ (4 * j + r) = 65536 ^ r * 18446744073709551616 ^ j := by
    rw [show (18446744073709551616 : Nat) = 65536 ^ 4 from rfl, ← Nat.pow_mul, ← Nat.pow_add, Nat.add_comm]
  rw [div_add_mod_pow]
  unfold W64 at hl ⊢
  generalize m % 65536 ^ (4 * j + r) = u at *
  generalize D16 m (4 * j + r) = d at *
  rw [e] at hu ⊢
  have hp : 0 < 18446744073709551616 ^ j := Nat.pow_pos (by decide)
  rw [← Nat.mul_assoc, Nat.add_mul_div_right _ _ hp]
  have h1 : u / 18446744073709551616 ^ j < 65536 ^ r := by rw [Nat.div_lt_iff_lt_mul hp]; exact hu
  have h2 : 65536 ^ (r + 1) ≤ 18446744073709551616 := by rw [show (18446744073709551616 : Nat) = 65536 ^ 4 from rfl]; exact Nat.pow_le_pow_right (by decide) (by omega)
  rw [Nat.pow_succ] at h2
  generalize u / 18446744073709551616 ^ j = v at *
  generalize 65536 ^ r = p at *
  have h3 : d * p ≤ 65535 * p := Nat.mul_le_mul_right _ (by omega)
  rw [Nat.mod_eq_of_lt (by omega), Nat.mod_eq_of_lt (by omega)]
theorem word_same (m j r k : Nat) (hr : r < 4) (hk : k ≠ j) : W64 (m % 65536 ^ (4 * j + r + 1)) k = W64 (m % 65536 ^ (4 * j + r)) k := by
  have E : ∀ n i, i < 4 → D16 (W64 (m % 65536 ^ n) k) i = if 4 * k + i < n then D16 m (4 * k + i) else 0 := fun n i hi => by
    rw [W64_D16 _ _ _ hi]
    by_cases h : 4 * k + i < n
    · rw [if_pos h, ← valD_D16]
      exact D16_val n (fun i _ => D16_lt m i) _ h
    · rw [if_neg h]
      exact D16_over (L16_le (Nat.lt_of_lt_of_le (Nat.mod_lt m (Nat.pow_pos (by decide))) (Nat.pow_le_pow_right (by decide) (by omega))))
  have hb : ∀ n i, 4 ≤ i → D16 (W64 (m % 65536 ^ n) k) i = 0 := fun n i hi =>
    D16_over (L16_le (Nat.lt_of_lt_of_le (W64_lt _ _) (Nat.le_trans (by decide) (Nat.pow_le_pow_right (n := 65536) (by decide) hi))))
  apply D16_ext
  intro i
  by_cases hi : i < 4
  · rw [E _ _ hi, E _ _ hi]
    by_cases h1 : 4 * k + i < 4 * j + r
    · rw [if_pos (by omega), if_pos h1]
    · rw [if_neg (by omega), if_neg h1]
  · rw [hb _ _ (by omega), hb _ _ (by omega)]
theorem or_add (x d r : Nat) (hx : x < 65536 ^ r) : x ||| d * 65536 ^ r = x + d * 65536 ^ r := by
  have e : (65536 : Nat) ^ r = 2 ^ (16 * r) := by rw [show (65536 : Nat) = 2 ^ 16 from rfl, ← Nat.pow_mul]
  rw [e] at hx ⊢
  rw [Nat.or_comm, ← Nat.shiftLeft_eq, ← Nat.shiftLeft_add_eq_or_of_lt hx, Nat.add_comm]
/-- What stands while To sets word by word. -/
def ToS (w : World) (s : Bool) (A : Option Addr) (n c m k : Nat) (wr : World) : Prop :=
  Row wr w.heap.size [.bool s, .slice A n c] ∧ Row wr (w.heap.size + 1) [.bool false, .int .u64 0, .int .u64 0, .int .u64 0, .int .u64 0] ∧
    Row wr (w.heap.size + 2) [.bool s, .int .u64 (W64 (m % 65536 ^ k) 0 : Nat), .int .u64 (W64 (m % 65536 ^ k) 1 : Nat), .int .u64 (W64 (m % 65536 ^ k) 2 : Nat), .int .u64 (W64 (m % 65536 ^ k) 3 : Nat)] ∧ Below w.heap.size w wr
theorem ToS.word {w wr : World} {s : Bool} {A : Option Addr} {n c m k : Nat} (h : ToS w s A n c m k wr) (j : Nat) (hj : j < 4) :
    wr.cell? ⟨w.heap.size + 2, 1 + j, none⟩ = some (.int .u64 (W64 (m % 65536 ^ k) j : Nat)) ∧ wr.frozen? ⟨w.heap.size + 2, 1 + j, none⟩ = false := by
  have r := h.2.2.1
  match j, hj with
  | 0, _ => exact ⟨r.c 1 rfl, r.f 1 rfl⟩
  | 1, _ => exact ⟨r.c 2 rfl, r.f 2 rfl⟩
  | 2, _ => exact ⟨r.c 3 rfl, r.f 3 rfl⟩
  | 3, _ => exact ⟨r.c 4 rfl, r.f 4 rfl⟩
theorem word_or (m j r : Nat) (hr : r < 4) :
    bits BinOp.or IntKind.u64 (W64 (m % 65536 ^ (4 * j + r)) j : Nat) (IntKind.u64.wrap (digR m (4 * j + r) * 2 ^ (16 * r))) = (W64 (m % 65536 ^ (4 * j + r + 1)) j : Nat) := by
  have e : (digR m (4 * j + r) * 2 ^ (16 * r) : Int) = ((D16 m (4 * j + r) * 65536 ^ r : Nat) : Int) := by
    unfold digR
    rw [Int.natCast_mul, show (65536 : Nat) ^ r = 2 ^ (16 * r) by rw [show (65536 : Nat) = 2 ^ 16 from rfl, ← Nat.pow_mul], Int.natCast_pow]
    rfl
  have hl := word_low m j r hr
  have hn := word_new m j r hr
  have hb := W64_lt (m % 65536 ^ (4 * j + r + 1)) j
  rw [e, IntKind.wrap_u64]
  rw [show (((D16 m (4 * j + r) * 65536 ^ r : Nat) : Int) % 18446744073709551616) = ((D16 m (4 * j + r) * 65536 ^ r : Nat) : Int) by omega]
  rw [bits_or_u64_nat _ _ (W64_lt _ _) (by omega), or_add _ _ _ hl, hn]
/-- A word set. -/
theorem ToS.step {w wr : World} {s : Bool} {A : Option Addr} {n c m j r : Nat} (h : ToS w s A n c m (4 * j + r) wr) (hj : j < 4) (hr : r < 4) {y : Int} (hy : y = (W64 (m % 65536 ^ (4 * j + r + 1)) j : Nat)) :
    ToS w s A n c m (4 * j + r + 1) (wr.setCell ⟨w.heap.size + 1 + 1, 1 + j, none⟩ (.int .u64 y)).drew := by
  subst hy
  obtain ⟨h1, h2, h3, h4⟩ := h
  refine ⟨(h1.other (p := ⟨w.heap.size + 1 + 1, 1 + j, none⟩) (by simp; omega) _).drew, (h2.other (p := ⟨w.heap.size + 1 + 1, 1 + j, none⟩) (by simp) _).drew, ?_, (below_put1 h4 (by omega) _ _).drew⟩
  have hs := (h3.set (1 + j) (by simp; omega) (.int .u64 (W64 (m % 65536 ^ (4 * j + r + 1)) j : Nat))).drew
  have e : ∀ k, k ≠ j → W64 (m % 65536 ^ (4 * j + r + 1)) k = W64 (m % 65536 ^ (4 * j + r)) k := fun k hk => word_same m j r k hr hk
  match j, hj with
  | 0, _ => rw [e 1 (by omega), e 2 (by omega), e 3 (by omega)]; exact hs
  | 1, _ => rw [e 0 (by omega), e 2 (by omega), e 3 (by omega)]; exact hs
  | 2, _ => rw [e 0 (by omega), e 1 (by omega), e 3 (by omega)]; exact hs
  | 3, _ => rw [e 0 (by omega), e 1 (by omega), e 2 (by omega)]; exact hs
set_option maxRecDepth 100000 in
set_option maxHeartbeats 800000 in
theorem to_z (z : Int) (A : Option Addr) (c : Nat) (w : World) (hd : DS w z.natAbs A) :
    Calls Tryz.prog 125 #[bigv z A c] w fun e w' => e = .returned (toV z) ∧ Below w.heap.size w w' := by
  by_cases hz : L16 z.natAbs ≤ 16
  · have HT := Lib.hid (show toV z = .tuple #[ivz z, .bool true] by rw [toV, if_pos (L16_int.2 hz)])
    rw [HT.out, bigv, ivz]
    have HD := Lib.hid hd; clear hd
    generalize decide (z < 0) = s at *
    generalize z.natAbs = m at *
    clear HT
    generalize hn : L16 m = n at hz ⊢
    have Hn := Lib.hid hn
    clear hn
    have hz1 : (n : Int) ≤ 16 := by omega
    have hz2 : decide ((16 : Int) < n) = false := by rw [decide_eq_false_iff_not]; omega
    go_enter Tryz.func125, Tryz.ntmps125
    go_wp2_with fail
    clear hz2
    generalize hW : World.alloc _ _ = W0
    have hS : ToS w s A n c m 0 W0 := by
      rw [← hW]
      have z : ∀ i, W64 (m % 65536 ^ 0) i = 0 := fun i => by rw [Nat.pow_zero, Nat.mod_one]; simp [W64]
      exact ⟨((Row.at rfl _ _).alloc _).alloc _, (Row.at (by simp) _ _).alloc _, by rw [z, z, z, z]; exact Row.at (by simp) _ _, (((Below.refl w.heap.size w).alloc (Nat.le_refl _) _).alloc (by simp) _).alloc (by simp; omega) _⟩
    clear hW
    have HS := Lib.hid hS
    clear hS
    go_loopw [5] (fun i wr => ∃ k : Nat, k ≤ n ∧ i = .int .i64 k ∧ Hid (ToS w s A n c m k wr)) (fun i _ => n - (intOf i).toNat)
    case atStart => exact ⟨0, by omega, rfl, HS⟩
    case round =>
      obtain ⟨k, hk, rfl, HK⟩ := hrel
      have g1 := HK.out.1.c 1 rfl
      by_cases hkn : k < n
      · obtain ⟨b, rfl, hl, hx⟩ := HD.out (by rw [Hn.out]; omega)
        have hcd := ((HK.out.2.2.2).cell (p := ⟨b, k, none⟩) hl).trans (hx k (by rw [Hn.out]; exact hkn))
        obtain ⟨j, r, hr, hkjr⟩ : ∃ j r, r < 4 ∧ k = 4 * j + r := ⟨k / 4, k % 4, by omega, by omega⟩
        have hj : j < 4 := by omega
        obtain ⟨hcw, hcf⟩ := HK.out.word j hj
        have q1 : (k : Int) / 4 = (j : Nat) := by omega
        have q2 : (k : Int).tdiv 4 = (j : Nat) := by rw [Int.tdiv_eq_ediv_of_nonneg (by omega)]; omega
        have q3 : (k : Int) % 4 = (r : Nat) := by omega
        have q4 : (k : Int).tmod 4 = (r : Nat) := by rw [Int.tmod_eq_emod_of_nonneg (by omega)]; omega
        have hk1 : (k : Int) < n := by omega
        have hj0 : (0 : Int) ≤ j := by omega
        have hj1 : (j : Int) < 4 := by omega
        have hr0 : (0 : Int) ≤ r := by omega
        have hr1 : (r : Int) < 4 := by omega
        have hd0 : 0 ≤ digR m k := (digR_bd m k).1
        have hd1 : digR m k < 65536 := (digR_bd m k).2
        have HV : Hid (bits BinOp.or IntKind.u64 (W64 (m % 65536 ^ k) j : Nat) (IntKind.u64.wrap (digR m k * 2 ^ (16 * r))) = (W64 (m % 65536 ^ (k + 1)) j : Nat)) := Lib.hid (by subst hkjr; exact word_or m j r hr)
        have HJ := Lib.hid hkjr
        clear hkjr hx
        generalize digR m k = d at *
        generalize hx : W64 (m % 65536 ^ k) j = x at *
        clear hx
        go_wp2_with fail
        go_region
        clear q1 q2 q3 q4
        have HK2 : Hid (ToS w s (some ⟨b, 0, none⟩) n c m (k + 1) (wr.setCell ⟨w.heap.size + 1 + 1, 1 + j, none⟩ (.int .u64 (bits BinOp.or IntKind.u64 (x : Nat) (IntKind.u64.wrap (d * 2 ^ (16 * r)))))).drew) := by
          refine Lib.hid ?_
          have h1 := HK.out
          have h2 := HV.out
          rw [HJ.out] at h1 h2 ⊢
          exact h1.step hj hr h2
        clear HK HV hcw hcf g1 hcd
        generalize World.drew _ = W5 at HK2 ⊢
        go_wp2_with fail
        go_roundw
        case rel => exact ⟨k + 1, by omega, by go_num, HK2⟩
        case measure => simp [intOf]; omega
      · obtain rfl : k = n := by omega
        obtain ⟨h1, h2, h3, h4⟩ := HK.out
        have e : m % 65536 ^ k = m := mod_pow_all (by rw [Hn.out]; exact Nat.le_refl _)
        rw [e] at h3
        clear HK HS e HD
        have a0 := h2.c 0 rfl
        have a1 := h2.c 1 rfl
        have a2 := h2.c 2 rfl
        have a3 := h2.c 3 rfl
        have a4 := h2.c 4 rfl
        have b0 := h2.f 0 rfl
        have b1 := h2.f 1 rfl
        have b2 := h2.f 2 rfl
        have b3 := h2.f 3 rfl
        have b4 := h2.f 4 rfl
        have c0 := h3.c 0 rfl
        have c1 := h3.c 1 rfl
        have c2 := h3.c 2 rfl
        have c3 := h3.c 3 rfl
        have c4 := h3.c 4 rfl
        go_wp2_with fail
        clear a0 a1 a2 a3 a4 b0 b1 b2 b3 b4 c0 c1 c2 c3 c4
        generalize hW2 : World.setCell _ _ _ = W2
        have rR : Row W2 (w.heap.size + 1) [.bool s, .int .u64 (W64 m 0 : Nat), .int .u64 (W64 m 1 : Nat), .int .u64 (W64 m 2 : Nat), .int .u64 (W64 m 3 : Nat)] := by rw [← hW2]; exact h2.put5 _ _ _ _ _
        have hB2 : Below w.heap.size w W2 := by rw [← hW2]; exact below_put5 h4 (by omega) _ _ _ _ _
        exact bodyPost_ret (v := .tuple #[iv s (W64 m 0 : Nat) (W64 m 1 : Nat) (W64 m 2 : Nat) (W64 m 3 : Nat), .bool true]) (by simp [results, Tryz.results125, go_sem, rR.c 0 rfl, rR.c 1 rfl, rR.c 2 rfl, rR.c 3 rfl, rR.c 4 rfl]) rfl ⟨rfl, hB2⟩
  · have HT := Lib.hid (show toV z = .tuple #[iv false 0 0 0 0, .bool false] by rw [toV, if_neg (fun h => hz (L16_int.1 h))])
    rw [HT.out, bigv]
    clear HT hd
    generalize decide (z < 0) = s at *
    generalize L16 z.natAbs = n at hz ⊢
    have hz1 : (16 : Int) < n := by omega
    have hz2 : decide ((16 : Int) < n) = true := by rw [decide_eq_true_iff]; omega
    go_enter Tryz.func125, Tryz.ntmps125
    go_wp2_with fail
    generalize hW2 : World.alloc _ _ = W2
    have rR : Row W2 (w.heap.size + 1) [.bool false, .int .u64 0, .int .u64 0, .int .u64 0, .int .u64 0] := by rw [← hW2]; exact Row.at (by simp) _ _
    have hB2 : Below w.heap.size w W2 := by rw [← hW2]; exact ((Below.refl w.heap.size w).alloc (Nat.le_refl _) _).alloc (by simp) _
    exact bodyPost_ret (v := .tuple #[iv false 0 0 0 0, .bool false]) (by simp [results, Tryz.results125, go_sem, rR.c 0 rfl, rR.c 1 rfl, rR.c 2 rfl, rR.c 3 rfl, rR.c 4 rfl]) rfl ⟨rfl, hB2⟩
end Go.Proofs.YthmobcpdbgmbeaaGreatDoor
