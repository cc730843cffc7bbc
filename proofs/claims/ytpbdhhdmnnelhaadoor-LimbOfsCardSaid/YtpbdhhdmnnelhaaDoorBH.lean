/- law01.LimbOfs walked. -/
import Derived.Test.YtpbdhhdmnnelhaaDoorBC
import Derived.Test.YtpbdhhdmnnelhaaDoorBF
import Derived.Test.YtpbdhhdmnnelhaaDoorBG
import Derived.Test.YtpbdhhdmnnelhaaDoorV
import Derived.Deep.RegionHeld3
import Derived.Lib.QuietBelow
namespace Go.Proofs.YtpbdhhdmnnelhaaDoor
open Go.RowKit Go.Sort

theorem to_num (n : Int) (h1 : -9223372036854775808 ≤ n) (h2 : n ≤ 9223372036854775807) : toV n = .tuple #[iv (decide (n < 0)) (ofW n) 0 0 0, .bool true] := by
  rw [toV, if_pos (by unfold T256; omega), ivz_small n h1 h2]
theorem small_of (n : Int) (h1 : -9223372036854775808 ≤ n) (h2 : n ≤ 9223372036854775807) : smallN (decide (n < 0)) (ofW n) = n ∧ smallB (decide (n < 0)) (ofW n) 0 0 0 = true := by
  have e : smallN (decide (n < 0)) (ofW n) = n := by
    rw [ofW_abs n h1 h2]
    unfold smallN
    simp only [IntKind.wrap_i64]
    by_cases h : n < 0
    · simp only [h, decide_true, if_true]; omega
    · simp only [h, decide_false, Bool.false_eq_true, if_false]; omega
  refine ⟨e, ?_⟩
  unfold smallB
  rw [e]
  simp
theorem small_back (s : Bool) (a b c d : Int) (h : smallB s a b c d = true) : iv (decide (smallN s a < 0)) (ofW (smallN s a)) 0 0 0 = iv s a b c d := by
  unfold smallB at h
  simp only [Bool.and_eq_true, beq_iff_eq] at h
  obtain ⟨h0, h1, h2, h3, h4⟩ := h
  rw [h0, h1, ← h2, ← h3, ← h4]

theorem or3_zero (a b c : Int) (ha : 0 ≤ a ∧ a < 18446744073709551616) (hb : 0 ≤ b ∧ b < 18446744073709551616) (hc : 0 ≤ c ∧ c < 18446744073709551616) :
    (bits BinOp.or IntKind.u64 (bits BinOp.or IntKind.u64 a b) c == 0) = decide (a = 0 ∧ b = 0 ∧ c = 0) := by
  obtain ⟨a, rfl⟩ := Int.eq_ofNat_of_zero_le ha.1
  obtain ⟨b, rfl⟩ := Int.eq_ofNat_of_zero_le hb.1
  obtain ⟨c, rfl⟩ := Int.eq_ofNat_of_zero_le hc.1
  have hab : a ||| b < 2 ^ 64 := Nat.or_lt_two_pow (by omega) (by omega)
  rw [bits_or_u64_nat _ _ (by omega) (by omega), bits_or_u64_nat _ _ (by omega) (by omega), Bool.eq_iff_iff]
  simp only [beq_iff_eq, decide_eq_true_iff, Int.natCast_eq_zero, Nat.or_eq_zero_iff, and_assoc]
theorem of_ways (s : Bool) (a b c d : Int) (ha : 0 ≤ a ∧ a < 18446744073709551616) (hb : 0 ≤ b ∧ b < 18446744073709551616) (hc : 0 ≤ c ∧ c < 18446744073709551616) (hd : 0 ≤ d ∧ d < 18446744073709551616) :
    (rightB s a b c d = false ∧ smallB s a b c d = false) ∨
    (rightB s a b c d = true ∧ (bits BinOp.or IntKind.u64 (bits BinOp.or IntKind.u64 b c) d == 0) = false ∧ smallB s a b c d = false) ∨
    (rightB s a b c d = true ∧ (bits BinOp.or IntKind.u64 (bits BinOp.or IntKind.u64 b c) d == 0) = true ∧ decide (a < 9223372036854775808) = true ∧ smallB s a b c d = true) ∨
    (rightB s a b c d = true ∧ (bits BinOp.or IntKind.u64 (bits BinOp.or IntKind.u64 b c) d == 0) = true ∧ decide (a < 9223372036854775808) = false ∧ s = false ∧ smallB s a b c d = false) ∨
    (rightB s a b c d = true ∧ (bits BinOp.or IntKind.u64 (bits BinOp.or IntKind.u64 b c) d == 0) = true ∧ decide (a < 9223372036854775808) = false ∧ s = true ∧ (a == 9223372036854775808) = false ∧ smallB s a b c d = false) ∨
    (rightB s a b c d = true ∧ (bits BinOp.or IntKind.u64 (bits BinOp.or IntKind.u64 b c) d == 0) = true ∧ decide (a < 9223372036854775808) = false ∧ s = true ∧ (a == 9223372036854775808) = true ∧ smallB s a b c d = true) := by
  rw [smallB_says s a b c d ha, or3_zero b c d hb hc hd]
  generalize rightB s a b c d = R
  generalize decide (b = 0 ∧ c = 0 ∧ d = 0) = Z
  rw [show (a == 9223372036854775808) = decide (a = 9223372036854775808) from rfl]
  generalize decide (a < 9223372036854775808) = L
  generalize decide (a = 9223372036854775808) = E
  cases R <;> cases Z <;> cases L <;> cases s <;> cases E <;> simp

theorem neq_same {s t : Bool} {a b c e a' b' c' e' : Int} (h : iv s a b c e = iv t a' b' c' e') : ∀ W : World, (binOp .neq 25 (iv s a b c e) (iv t a' b' c' e')).run Tryd.prog W = .ok (.bool false) W := fun W => by
  rw [h, neqInt]; simp
theorem not_right {s : Bool} {a b c d : Int} (h : rightB s a b c d = false) : sgnB s a b c d = 0 ∧ errArg s a b c d = 2 := by
  unfold rightB at h
  have h1 : (s && zeroB a b c d) = true := by cases hh : (s && zeroB a b c d); (rw [hh] at h; cases h); rfl
  have h2 : zeroB a b c d = true := (Bool.and_eq_true_iff.1 h1).2
  exact ⟨by simp [sgnB, h2], by unfold errArg; rw [if_pos h1]⟩
theorem sgn_num (z : Int) (hz : z.natAbs < T256) : sgnB (decide (z < 0)) (W64 z.natAbs 0 : Nat) (W64 z.natAbs 1 : Nat) (W64 z.natAbs 2 : Nat) (W64 z.natAbs 3 : Nat) = cmpI z 0 := by
  unfold sgnB cmpI
  have e : valW (nat4 (W64 z.natAbs 0) (W64 z.natAbs 1) (W64 z.natAbs 2) (W64 z.natAbs 3)) 4 = z.natAbs := by
    have e : valW (nat4 (W64 z.natAbs 0) (W64 z.natAbs 1) (W64 z.natAbs 2) (W64 z.natAbs 3)) 4 = valW (W64 z.natAbs) 4 := rfl
    rw [e, valW_W64, ← T256_w, Nat.mod_eq_of_lt hz]
  by_cases h : zeroB (W64 z.natAbs 0 : Nat) (W64 z.natAbs 1 : Nat) (W64 z.natAbs 2 : Nat) (W64 z.natAbs 3 : Nat) = true
  · rw [if_pos h]
    rw [zeroB_val, e] at h
    rw [if_neg (by omega), if_neg (by omega)]
  · rw [if_neg h]
    rw [zeroB_val, e] at h
    by_cases h2 : z < 0
    · simp [h2]
    · rw [if_neg (by simpa using h2), if_neg h2, if_pos (by omega)]
theorem is_right {s : Bool} {a b c d : Int} (h : rightB s a b c d = true) (ha : 0 ≤ a ∧ a < 18446744073709551616) (hb : 0 ≤ b ∧ b < 18446744073709551616) (hc : 0 ≤ c ∧ c < 18446744073709551616) (hd : 0 ≤ d ∧ d < 18446744073709551616) :
    ∃ z : Int, L16 z.natAbs ≤ 1000000 ∧ (∀ W, Calls Tryd.prog 17 #[iv s a b c d] W (BigPost W z)) ∧ sgnB s a b c d = cmpI z 0 ∧ errArg s a b c d = 0 := by
  have h1 : (s && zeroB a b c d) = false := by unfold rightB at h; cases hh : (s && zeroB a b c d); rfl; (rw [hh] at h; cases h)
  obtain ⟨z, hz, he, rfl, rfl, rfl, rfl, rfl⟩ := iv_num s a b c d ha hb hc hd h1
  exact ⟨z, by have := L16_int.1 hz; omega, fun W => by rw [he]; exact from_z z W hz, sgn_num z hz, by unfold errArg; rw [if_neg (by simp [h1])]⟩

/-- What stands in LimbOfs: the Int that is asked, the document's Int, the program's. -/
def OfS (w : World) (B1 B2 : Nat) (s : Bool) (a0 a1 a2 a3 : Int) (sg : Bool) (x : Int) (W : World) : Prop :=
  Row W w.heap.size [.bool s, .int .u64 a0, .int .u64 a1, .int .u64 a2, .int .u64 a3] ∧ Row W B1 [.bool sg, .int .u64 x, .int .u64 0, .int .u64 0, .int .u64 0] ∧ Row W B2 [.bool sg, .int .u64 x, .int .u64 0, .int .u64 0, .int .u64 0] ∧ Below w.heap.size w W
section
variable {w W W1 : World} {B1 B2 : Nat} {s sg : Bool} {a0 a1 a2 a3 x : Int}
theorem OfS.after (h : OfS w B1 B2 s a0 a1 a2 a3 sg x W) (hb : Below W.heap.size W W1) : OfS w B1 B2 s a0 a1 a2 a3 sg x W1 := ⟨h.1.after hb, h.2.1.after hb, h.2.2.1.after hb, h.2.2.2.trans (hb.mono h.2.2.2.size)⟩
theorem OfS.drew (h : OfS w B1 B2 s a0 a1 a2 a3 sg x W) : OfS w B1 B2 s a0 a1 a2 a3 sg x W.drew := ⟨h.1.drew, h.2.1.drew, h.2.2.1.drew, h.2.2.2.drew⟩
end

set_option maxRecDepth 100000 in
set_option maxHeartbeats 4000000 in
theorem ofs_true (n : Int) (s : Bool) (a0 a1 a2 a3 : Int) (w : World) (h1 : -9223372036854775808 ≤ n) (h2 : n ≤ 9223372036854775807) (ht : Tab10 w) (hz : TabTz w) (hw0 : 0 < w.heap.size)
    (ha0 : 0 ≤ a0 ∧ a0 < 18446744073709551616) (ha1 : 0 ≤ a1 ∧ a1 < 18446744073709551616) (ha2 : 0 ≤ a2 ∧ a2 < 18446744073709551616) (ha3 : 0 ≤ a3 ∧ a3 < 18446744073709551616) :
    Calls Tryd.prog 3 #[.int .i64 n, iv s a0 a1 a2 a3] w fun e w' => e = .returned (.bool true) ∧ Below w.heap.size w w' := by
  have HN := Lib.hid (to_num n h1 h2)
  obtain ⟨hs1, hs2⟩ := small_of n h1 h2
  have HS1 := Lib.hid hs1
  have HS2 := Lib.hid hs2
  clear hs1 hs2
  have HNu := Lib.hid (fun W => num_z n W h1 h2)
  have HO := Lib.hid (fun W => of_any n W)
  generalize hx : ofW n = x at HN HS1 HS2 HO
  generalize hsg : decide (n < 0) = sg at HN HS1 HS2 HO
  clear h1 h2 hx hsg
  have HSB := Lib.hid (small_back s a0 a1 a2 a3)
  have Ht := Lib.hid ht
  have Hz := Lib.hid hz
  have hg : 0 < w.heap.size := block_lt_of_cell (Hz.out 0 (by decide))
  clear ht hz
  have HZ := Lib.hid (fun h : rightB s a0 a1 a2 a3 = true => is_right h ha0 ha1 ha2 ha3)
  rcases of_ways s a0 a1 a2 a3 ha0 ha1 ha2 ha3 with ⟨hR, hit⟩ | ⟨hR, hZ, hit⟩ | ⟨hR, hZ, hL, hit⟩ | ⟨hR, hZ, hL, hs, hit⟩ | ⟨hR, hZ, hL, hs, hE, hit⟩ | ⟨hR, hZ, hL, hs, hE, hit⟩
  all_goals
    have HR := Lib.hid hR
    have HI := Lib.hid hit
    clear hR hit ha0 ha1 ha2 ha3
    try (have Hs := Lib.hid hs; clear hs)
    go_enter Tryd.func3, Tryd.ntmps3
    go_wp2_with fail
    generalize hW : World.alloc _ _ = W0
    have hB0 : Below w.heap.size w W0 := by rw [← hW]; exact (Below.refl w.heap.size w).alloc (Nat.le_refl _) _
    have rA : Row W0 w.heap.size [.bool s, .int .u64 a0, .int .u64 a1, .int .u64 a2, .int .u64 a3] := by rw [← hW]; exact Row.at rfl _ _
    clear hW
    refine (HNu.out _).mono ?_
    rintro e w1 ⟨A, c, rfl, hc, hd, hb1⟩
    replace hB0 := hB0.trans (hb1.mono hB0.size)
    replace rA := rA.after hb1
    clear hb1
    go_wp2_with fail
    refine (to_z n A c _ hd).mono ?_
    rintro e w2 ⟨rfl, hb1⟩
    replace hB0 := hB0.trans (hb1.mono hB0.size)
    replace rA := rA.after hb1
    clear hb1 hd hc
    rw [HN.out]
    go_wp2_with fail
    generalize hW : World.alloc _ _ = W3
    have rW : Row W3 w2.heap.size [.bool sg, .int .u64 x, .int .u64 0, .int .u64 0, .int .u64 0] := by rw [← hW]; exact Row.at rfl _ _
    replace rA : Row W3 w.heap.size [.bool s, .int .u64 a0, .int .u64 a1, .int .u64 a2, .int .u64 a3] := by rw [← hW]; exact rA.alloc _
    replace hB0 : Below w.heap.size w W3 := by rw [← hW]; exact hB0.alloc hB0.size _
    clear hW
    refine (HO.out _).mono ?_
    rintro e w4 ⟨rfl, hb1⟩
    replace hB0 := hB0.trans (hb1.mono hB0.size)
    replace rA := rA.after hb1
    replace rW := rW.after hb1
    clear hb1
    go_wp2_with fail
    generalize hW : World.alloc _ _ = W5
    have hS : OfS w w2.heap.size w4.heap.size s a0 a1 a2 a3 sg x W5 := by rw [← hW]; exact ⟨rA.alloc _, rW.alloc _, Row.at rfl _ _, hB0.alloc hB0.size _⟩
    clear hW rA rW hB0
    generalize w2.heap.size = B1 at *
    generalize w4.heap.size = B2 at *
    refine (small_any _ _ _ _ _ _).mono ?_
    rintro e w6 ⟨rfl, hb1⟩
    replace hS := hS.after hb1
    clear hb1
    rw [HS2.out, HS1.out]
    have i0 := hS.1.c 0 rfl
    have i1 := hS.1.c 1 rfl
    have i2 := hS.1.c 2 rfl
    have i3 := hS.1.c 3 rfl
    have i4 := hS.1.c 4 rfl
    go_wp2_with fail
    clear i0 i1 i2 i3 i4
    refine (small_any _ _ _ _ _ _).mono ?_
    rintro e w7 ⟨rfl, hb1⟩
    replace hS := hS.after hb1
    clear hb1
    rw [HI.out]
    generalize smallN s a0 = k at HSB ⊢
    have i0 := hS.1.c 0 rfl
    have i1 := hS.1.c 1 rfl
    have i2 := hS.1.c 2 rfl
    have i3 := hS.1.c 3 rfl
    have i4 := hS.1.c 4 rfl
    go_wp2_with fail
    clear i0 i1 i2 i3 i4
    refine (right_any _ _ _ _ _ _).mono ?_
    rintro e w8 ⟨rfl, hb1⟩
    replace hS := hS.after hb1
    clear hb1
    rw [HR.out]
    have i0 := hS.1.c 0 rfl
    have i1 := hS.1.c 1 rfl
    have i2 := hS.1.c 2 rfl
    have i3 := hS.1.c 3 rfl
    have i4 := hS.1.c 4 rfl
    try have hs := Hs.out
    go_wp2_with fail
    try clear hs
    try clear hZ
    try clear hL
    try clear hE
    clear i0 i1 i2 i3 i4
    try (have hq := neq_same (HSB.out HI.out))
    have hT := Lib.hid (show ∀ W : World, (binOp .eql 25 (iv sg x 0 0 0) (iv sg x 0 0 0)).run Tryd.prog W = .ok (.bool true) W from fun W => by rw [eqlInt]; simp)
    have i0 := cell_regrown (hS.1.c 0 rfl)
    have i1 := cell_regrown (hS.1.c 1 rfl)
    have i2 := cell_regrown (hS.1.c 2 rfl)
    have i3 := cell_regrown (hS.1.c 3 rfl)
    have i4 := cell_regrown (hS.1.c 4 rfl)
    have C1 := Lib.hid (fun k d os => Calls.regrown_of (of_any k (grow (redrawn w8 d) os)))
    refine wp_region_quiet_below (by kernel_rfl) (by kernel_rfl) ?_
    repeat (first | go_big_quiet_step ((with_reducible exact C1.out _ _ _)) | quiet_step ((with_reducible exact C1.out _ _ _)))
    refine wpQuiet_nil ?_
    intro _ hw'
    obtain ⟨⟨dq, osq⟩, hw''⟩ := hw'
    subst hw''
    replace hS := hS.after (below_regrown w8 dq osq)
    generalize grow _ _ = w9 at hS ⊢
    try clear hq
    clear i0 i1 i2 i3 i4 C1
    have i0 := hS.1.c 0 rfl
    have i1 := hS.1.c 1 rfl
    have i2 := hS.1.c 2 rfl
    have i3 := hS.1.c 3 rfl
    have i4 := hS.1.c 4 rfl
    go_wp2_with fail
    clear i0 i1 i2 i3 i4
    refine (right_any _ _ _ _ _ _).mono ?_
    rintro e w10 ⟨rfl, hb1⟩
    replace hS := hS.after hb1
    clear hb1
    rw [HR.out]
    first
      | (have hf := not_right HR.out
         have HG := Lib.hid hf.1
         have HE := Lib.hid hf.2
         clear hf
         have i0 := hS.1.c 0 rfl
         have i1 := hS.1.c 1 rfl
         have i2 := hS.1.c 2 rfl
         have i3 := hS.1.c 3 rfl
         have i4 := hS.1.c 4 rfl
         go_wp2_with fail
         clear i0 i1 i2 i3 i4
         refine (right_any _ _ _ _ _ _).mono ?_
         rintro e w11 ⟨rfl, hb1⟩
         replace hS := hS.after hb1
         clear hb1
         rw [HR.out]
         have i0 := hS.1.c 0 rfl
         have i1 := hS.1.c 1 rfl
         have i2 := hS.1.c 2 rfl
         have i3 := hS.1.c 3 rfl
         have i4 := hS.1.c 4 rfl
         have j0 := hS.2.1.c 0 rfl
         have j1 := hS.2.1.c 1 rfl
         have j2 := hS.2.1.c 2 rfl
         have j3 := hS.2.1.c 3 rfl
         have j4 := hS.2.1.c 4 rfl
         have l0 := hS.2.2.1.c 0 rfl
         have l1 := hS.2.2.1.c 1 rfl
         have l2 := hS.2.2.1.c 2 rfl
         have l3 := hS.2.2.1.c 3 rfl
         have l4 := hS.2.2.1.c 4 rfl
         have hq := hT.out
         go_wp2_with fail
         clear hq
         clear i0 i1 i2 i3 i4 j0 j1 j2 j3 j4 l0 l1 l2 l3 l4
         refine (sign_any _ _ _ _ _ _).mono ?_
         rintro e w12 ⟨rfl, hb1⟩
         replace hS := hS.after hb1
         clear hb1
         rw [HG.out]
         have i0 := hS.1.c 0 rfl
         have i1 := hS.1.c 1 rfl
         have i2 := hS.1.c 2 rfl
         have i3 := hS.1.c 3 rfl
         have i4 := hS.1.c 4 rfl
         go_wp2_with fail
         clear i0 i1 i2 i3 i4
         refine (check_any _ _ _ _ _ _).mono ?_
         rintro e w13 ⟨rfl, hb1⟩
         replace hS := hS.after hb1
         clear hb1
         rw [HE.out]
         go_wp2_with fail
         refine (num_any _ _).mono ?_
         rintro e w14 ⟨rfl, hb1⟩
         replace hS := hS.after hb1
         clear hb1
         go_wp2_with fail
         refine (works_true _ (Ht.out.below hS.2.2.2) (Hz.out.below hg hS.2.2.2) (Nat.lt_of_lt_of_le hw0 hS.2.2.2.size)).mono ?_
         rintro e w15 ⟨rfl, hb1⟩
         replace hS := hS.after hb1
         clear hb1
         go_wp2
         go_ret
         exact ⟨rfl, hS.2.2.2⟩)
      | (obtain ⟨z, hzl, hzf, hzs, hze⟩ := HZ.out HR.out
         have HF := Lib.hid hzf
         have HG := Lib.hid hzs
         have HE := Lib.hid hze
         clear hzf hzs hze
         have i0 := hS.1.c 0 rfl
         have i1 := hS.1.c 1 rfl
         have i2 := hS.1.c 2 rfl
         have i3 := hS.1.c 3 rfl
         have i4 := hS.1.c 4 rfl
         go_wp2_with fail
         clear i0 i1 i2 i3 i4
         refine (HF.out _).mono ?_
         rintro e v1 ⟨A', c', rfl, hc', hd', hb1⟩
         replace hS := hS.after hb1
         clear hb1 hc'
         go_wp2_with fail
         refine (refsign_z z A' c' _ hd' hzl).mono ?_
         rintro e v2 ⟨rfl, hb1⟩
         replace hS := hS.after hb1
         clear hb1 hd'
         generalize cmpI z 0 = sz at HG ⊢
         have i0 := hS.1.c 0 rfl
         have i1 := hS.1.c 1 rfl
         have i2 := hS.1.c 2 rfl
         have i3 := hS.1.c 3 rfl
         have i4 := hS.1.c 4 rfl
         go_wp2_with fail
         clear i0 i1 i2 i3 i4
         refine (right_any _ _ _ _ _ _).mono ?_
         rintro e w11 ⟨rfl, hb1⟩
         replace hS := hS.after hb1
         clear hb1
         rw [HR.out]
         have i0 := hS.1.c 0 rfl
         have i1 := hS.1.c 1 rfl
         have i2 := hS.1.c 2 rfl
         have i3 := hS.1.c 3 rfl
         have i4 := hS.1.c 4 rfl
         have j0 := hS.2.1.c 0 rfl
         have j1 := hS.2.1.c 1 rfl
         have j2 := hS.2.1.c 2 rfl
         have j3 := hS.2.1.c 3 rfl
         have j4 := hS.2.1.c 4 rfl
         have l0 := hS.2.2.1.c 0 rfl
         have l1 := hS.2.2.1.c 1 rfl
         have l2 := hS.2.2.1.c 2 rfl
         have l3 := hS.2.2.1.c 3 rfl
         have l4 := hS.2.2.1.c 4 rfl
         have hq := hT.out
         go_wp2_with fail
         clear hq
         clear i0 i1 i2 i3 i4 j0 j1 j2 j3 j4 l0 l1 l2 l3 l4
         refine (sign_any _ _ _ _ _ _).mono ?_
         rintro e w12 ⟨rfl, hb1⟩
         replace hS := hS.after hb1
         clear hb1
         rw [HG.out]
         have i0 := hS.1.c 0 rfl
         have i1 := hS.1.c 1 rfl
         have i2 := hS.1.c 2 rfl
         have i3 := hS.1.c 3 rfl
         have i4 := hS.1.c 4 rfl
         go_wp2_with fail
         clear i0 i1 i2 i3 i4
         refine (check_any _ _ _ _ _ _).mono ?_
         rintro e w13 ⟨rfl, hb1⟩
         replace hS := hS.after hb1
         clear hb1
         rw [HE.out]
         go_wp2_with fail
         refine (num_any _ _).mono ?_
         rintro e w14 ⟨rfl, hb1⟩
         replace hS := hS.after hb1
         clear hb1
         go_wp2_with fail
         refine (works_true _ (Ht.out.below hS.2.2.2) (Hz.out.below hg hS.2.2.2) (Nat.lt_of_lt_of_le hw0 hS.2.2.2.size)).mono ?_
         rintro e w15 ⟨rfl, hb1⟩
         replace hS := hS.after hb1
         clear hb1
         go_wp2
         go_ret
         exact ⟨rfl, hS.2.2.2⟩)
end Go.Proofs.YtpbdhhdmnnelhaaDoor
