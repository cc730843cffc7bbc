/- law01.LimbOrders walked. -/
import Derived.Test.YtpbdhhdmnnelhaaDoorY
import Derived.Test.YtpbdhhdmnnelhaaDoorX
import Derived.Test.YtpbdhhdmnnelhaaDoorV
import Derived.Deep.RegionHeld3
namespace Go.Proofs.YtpbdhhdmnnelhaaDoor
open Go.RowKit Go.Sort

/-- What stands while the last region runs. -/
def OS (w : World) (s t : Bool) (a0 a1 a2 a3 b0 b1 b2 b3 : Int) (W : World) : Prop :=
  Row W w.heap.size [.bool s, .int .u64 a0, .int .u64 a1, .int .u64 a2, .int .u64 a3] ∧ Row W (w.heap.size + 1) [.bool t, .int .u64 b0, .int .u64 b1, .int .u64 b2, .int .u64 b3] ∧ RowKit.Below w.heap.size w W
theorem OS.after {w W W1 : World} {s t : Bool} {a0 a1 a2 a3 b0 b1 b2 b3 : Int} (h : OS w s t a0 a1 a2 a3 b0 b1 b2 b3 W) (hb : RowKit.Below W.heap.size W W1) : OS w s t a0 a1 a2 a3 b0 b1 b2 b3 W1 :=
  ⟨h.1.after hb, h.2.1.after hb, h.2.2.trans (hb.mono h.2.2.size)⟩
theorem OS.drew {w W : World} {s t : Bool} {a0 a1 a2 a3 b0 b1 b2 b3 : Int} (h : OS w s t a0 a1 a2 a3 b0 b1 b2 b3 W) : OS w s t a0 a1 a2 a3 b0 b1 b2 b3 W.drew := ⟨h.1.drew, h.2.1.drew, h.2.2.drew⟩

theorem cmp_same (s t : Bool) (a0 a1 a2 a3 b0 b1 b2 b3 : Int)
    (ha : ∀ k, 0 ≤ row4 a0 a1 a2 a3 k ∧ row4 a0 a1 a2 a3 k < 18446744073709551616) (hb : ∀ k, 0 ≤ row4 b0 b1 b2 b3 k ∧ row4 b0 b1 b2 b3 k < 18446744073709551616)
    (hs : (s && decide (0 < cutN (digF (row4 a0 a1 a2 a3)) 16)) = s) (ht : (t && decide (0 < cutN (digF (row4 b0 b1 b2 b3)) 16)) = t) :
    bigC (s && decide (0 < cutN (digF (row4 a0 a1 a2 a3)) 16)) (t && decide (0 < cutN (digF (row4 b0 b1 b2 b3)) 16)) (digF (row4 a0 a1 a2 a3)) (digF (row4 b0 b1 b2 b3)) (cutN (digF (row4 a0 a1 a2 a3)) 16) (cutN (digF (row4 b0 b1 b2 b3)) 16) =
      cmpS s t a0 a1 a2 a3 b0 b1 b2 b3 := by
  rw [hs, ht]
  have e1 : magsF (digF (row4 a0 a1 a2 a3)) (digF (row4 b0 b1 b2 b3)) (cutN (digF (row4 a0 a1 a2 a3)) 16) (cutN (digF (row4 b0 b1 b2 b3)) 16) = ordW a0 a1 a2 a3 b0 b1 b2 b3 := by
    rw [mags_cut (digF _) (digF _) (fun _ => dig_nn _ _) (fun _ => dig_nn _ _), ord_digits _ _ ha hb, ordF_row4]
  have e2 : magsF (digF (row4 b0 b1 b2 b3)) (digF (row4 a0 a1 a2 a3)) (cutN (digF (row4 b0 b1 b2 b3)) 16) (cutN (digF (row4 a0 a1 a2 a3)) 16) = ordW b0 b1 b2 b3 a0 a1 a2 a3 := by
    rw [mags_cut (digF _) (digF _) (fun _ => dig_nn _ _) (fun _ => dig_nn _ _), ord_digits _ _ hb ha, ordF_row4]
  cases s <;> cases t <;> simp only [bigC, cmpS, e1, e2]

theorem from_flat (s sg : Bool) (a0 a1 a2 a3 : Int) (k : Nat) (w : World) (hb4 : ∀ k, 0 ≤ row4 a0 a1 a2 a3 k ∧ row4 a0 a1 a2 a3 k < 18446744073709551616)
    (hk : cutN (digF (row4 a0 a1 a2 a3)) 16 = k) (hs : (s && decide (0 < k)) = sg) :
    Calls Tryd.prog 17 #[iv s a0 a1 a2 a3] w fun e w' => ∃ b c, e = .returned (.agg #[.bool sg, .slice (some ⟨b, 0, none⟩) k c]) ∧ b < w'.heap.size ∧ Hid (∀ i, i < k → w'.cell? ⟨b, i, none⟩ = some (.int .i64 (digF (row4 a0 a1 a2 a3) i))) ∧ RowKit.Below w.heap.size w w' := by
  refine (from_any s a0 a1 a2 a3 w hb4).mono ?_
  rintro e w' ⟨⟨v, rfl, b, c, rfl, hl, hx, _⟩, hb⟩
  subst hk
  rw [hs]
  exact ⟨b, c, rfl, hl, Lib.hid (fun i hi => hx i (Nat.lt_of_lt_of_le hi (cutN_le _ _))), hb⟩
theorem cutN_zero (x : Nat → Int) (n : Nat) (h : cutN x n = 0) : ∀ i, i < n → x i = 0 := by
  induction n with
  | zero => intro i hi; omega
  | succ n ih =>
    rw [cutN] at h
    split at h
    · intro i hi
      rcases Nat.lt_succ_iff_lt_or_eq.mp hi with h1 | rfl
      · exact ih h i h1
      · assumption
    · omega
theorem word_zero (x : Int) (h0 : 0 ≤ x) (h1 : x < 18446744073709551616) (d0 : dig x 0 = 0) (d1 : dig x 1 = 0) (d2 : dig x 2 = 0) (d3 : dig x 3 = 0) : x = 0 := by
  have E0 : dig x 0 = x % 65536 := by rw [dig, show (65536 : Int) ^ 0 = 1 from rfl, Int.ediv_one]
  have E1 : dig x 1 = x / 65536 % 65536 := rfl
  have E2 : dig x 2 = x / 4294967296 % 65536 := by rw [dig, show (65536 : Int) ^ 2 = 4294967296 from rfl]
  have E3 : dig x 3 = x / 281474976710656 % 65536 := by rw [dig, show (65536 : Int) ^ 3 = 281474976710656 from rfl]
  omega
theorem sign_kept (s : Bool) (a0 a1 a2 a3 : Int) (ha : ∀ k, 0 ≤ row4 a0 a1 a2 a3 k ∧ row4 a0 a1 a2 a3 k < 18446744073709551616) (hs : (s && zeroB a0 a1 a2 a3) = false) :
    (s && decide (0 < cutN (digF (row4 a0 a1 a2 a3)) 16)) = s := by
  cases s with
  | false => rfl
  | true =>
    rw [Bool.true_and] at hs ⊢
    rw [decide_eq_true_iff]
    apply Nat.pos_of_ne_zero
    intro h
    have D := cutN_zero _ _ h
    have Z : ∀ k, k < 4 → row4 a0 a1 a2 a3 k = 0 := fun k hk => by
      have S : ∀ i, i < 4 → dig (row4 a0 a1 a2 a3 k) i = 0 := fun i hi => by
        have := D (4 * k + i) (by omega)
        unfold digF at this
        rwa [show (4 * k + i) / 4 = k by omega, show (4 * k + i) % 4 = i by omega] at this
      exact word_zero _ (ha k).1 (ha k).2 (S 0 (by omega)) (S 1 (by omega)) (S 2 (by omega)) (S 3 (by omega))
    have z0 : a0 = 0 := Z 0 (by omega)
    have z1 : a1 = 0 := Z 1 (by omega)
    have z2 : a2 = 0 := Z 2 (by omega)
    have z3 : a3 = 0 := Z 3 (by omega)
    rw [zeroB_iff.mpr ⟨z0, z1, z2, z3⟩] at hs
    cases hs

set_option maxHeartbeats 1000000 in
theorem orders_true (s t : Bool) (a0 a1 a2 a3 b0 b1 b2 b3 : Int) (w : World) (ht : Tab10 w) (hz : TabTz w) (hw0 : 0 < w.heap.size)
    (ha : ∀ k, 0 ≤ row4 a0 a1 a2 a3 k ∧ row4 a0 a1 a2 a3 k < 18446744073709551616) (hb : ∀ k, 0 ≤ row4 b0 b1 b2 b3 k ∧ row4 b0 b1 b2 b3 k < 18446744073709551616) :
    Calls Tryd.prog 6 #[iv s a0 a1 a2 a3, iv t b0 b1 b2 b3] w fun e w' => e = .returned (.bool true) ∧ Below w.heap.size w w' := by
  by_cases hs : (s && zeroB a0 a1 a2 a3) = false
  · by_cases h2 : (t && zeroB b0 b1 b2 b3) = false
    · have HC := Lib.hid (show cmpE s t a0 a1 a2 a3 b0 b1 b2 b3 = .tuple #[.int .i64 (cmpS s t a0 a1 a2 a3 b0 b1 b2 b3), .int .i64 0] by simp only [cmpE, hs, h2]; rfl)
      have HR1 := Lib.hid (show rightB s a0 a1 a2 a3 = true by rw [rightB, hs]; rfl)
      have HR2 := Lib.hid (show rightB t b0 b1 b2 b3 = true by rw [rightB, h2]; rfl)
      go_enter Tryd.func6, Tryd.ntmps6
      go_wp2_with fail
      generalize hW : World.alloc _ _ = W0
      have hB : RowKit.Below w.heap.size w W0 := by
        rw [← hW]; exact ((RowKit.Below.refl w.heap.size w).alloc (Nat.le_refl _) _).alloc (by simp) _
      have rA : Row W0 w.heap.size [.bool s, .int .u64 a0, .int .u64 a1, .int .u64 a2, .int .u64 a3] := by
        rw [← hW]; exact (Row.at rfl _ _).alloc _
      have rB : Row W0 (w.heap.size + 1) [.bool t, .int .u64 b0, .int .u64 b1, .int .u64 b2, .int .u64 b3] := by
        rw [← hW]; exact Row.at (by simp) _ _
      clear hW
      refine (cmp_any _ _ _ _ _ _ _ _ _ _ _).mono ?_
      rintro e w1 ⟨rfl, hb1⟩
      rw [HC.out]
      replace hB := hB.trans (hb1.mono hB.size)
      replace rA := rA.after hb1
      replace rB := rB.after hb1
      clear hb1
      have i0 := rA.c 0 rfl
      have i1 := rA.c 1 rfl
      have i2 := rA.c 2 rfl
      have i3 := rA.c 3 rfl
      have i4 := rA.c 4 rfl
      have j0 := rB.c 0 rfl
      have j1 := rB.c 1 rfl
      have j2 := rB.c 2 rfl
      have j3 := rB.c 3 rfl
      have j4 := rB.c 4 rfl
      go_wp2_with fail
      refine (right_any _ _ _ _ _ _).mono ?_
      rintro e w2 ⟨rfl, hb1⟩
      rw [HR1.out]
      replace hB := hB.trans (hb1.mono hB.size)
      replace rA := rA.after hb1
      replace rB := rB.after hb1
      clear hb1
      clear i0 i1 i2 i3 i4 j0 j1 j2 j3 j4
      have i0 := rA.c 0 rfl
      have i1 := rA.c 1 rfl
      have i2 := rA.c 2 rfl
      have i3 := rA.c 3 rfl
      have i4 := rA.c 4 rfl
      have j0 := rB.c 0 rfl
      have j1 := rB.c 1 rfl
      have j2 := rB.c 2 rfl
      have j3 := rB.c 3 rfl
      have j4 := rB.c 4 rfl
      go_wp2_with fail
      refine (right_any _ _ _ _ _ _).mono ?_
      rintro e w3 ⟨rfl, hb1⟩
      rw [HR2.out]
      replace hB := hB.trans (hb1.mono hB.size)
      replace rA := rA.after hb1
      replace rB := rB.after hb1
      clear hb1
      clear i0 i1 i2 i3 i4 j0 j1 j2 j3 j4
      have i0 := rA.c 0 rfl
      have i1 := rA.c 1 rfl
      have i2 := rA.c 2 rfl
      have i3 := rA.c 3 rfl
      have i4 := rA.c 4 rfl
      have j0 := rB.c 0 rfl
      have j1 := rB.c 1 rfl
      have j2 := rB.c 2 rfl
      have j3 := rB.c 3 rfl
      have j4 := rB.c 4 rfl
      have hP : OS w s t a0 a1 a2 a3 b0 b1 b2 b3 w3 := ⟨rA, rB, hB⟩
      clear i0 i1 i2 i3 i4 j0 j1 j2 j3 j4 rA rB
      have HE := Lib.hid (cmp_same s t a0 a1 a2 a3 b0 b1 b2 b3 ha hb (sign_kept s a0 a1 a2 a3 ha hs) (sign_kept t b0 b1 b2 b3 hb h2))
      have Ha := Lib.hid ha
      have Hb := Lib.hid hb
      have Ht := Lib.hid ht
      have Hz := Lib.hid hz
      clear ha hb hs h2 HR1 HR2 HC ht hz
      have hg : 0 < w.heap.size := block_lt_of_cell (Hz.out 0 (by decide))
      go_wp2_with fail
      generalize hx : cmpS s t a0 a1 a2 a3 b0 b1 b2 b3 = X at HE ⊢
      clear hx
      obtain ⟨ka, hka⟩ : ∃ k, cutN (digF (row4 a0 a1 a2 a3)) 16 = k := ⟨_, rfl⟩
      obtain ⟨kb, hkb⟩ : ∃ k, cutN (digF (row4 b0 b1 b2 b3)) 16 = k := ⟨_, rfl⟩
      obtain ⟨sa, hsa⟩ : ∃ g, (s && decide (0 < ka)) = g := ⟨_, rfl⟩
      obtain ⟨sb, hsb⟩ : ∃ g, (t && decide (0 < kb)) = g := ⟨_, rfl⟩
      rw [hka, hkb, hsa, hsb] at HE
      have CA := Lib.hid (fun W => from_flat s sa a0 a1 a2 a3 ka W Ha.out hka hsa)
      have CB := Lib.hid (fun W => from_flat t sb b0 b1 b2 b3 kb W Hb.out hkb hsb)
      have la : ka ≤ 1000000 := by have := cutN_le (digF (row4 a0 a1 a2 a3)) 16; omega
      have lb : kb ≤ 1000000 := by have := cutN_le (digF (row4 b0 b1 b2 b3)) 16; omega
      clear hka hkb hsa hsb Ha Hb
      have i0 : ∀ W, OS w s t a0 a1 a2 a3 b0 b1 b2 b3 W → W.cell? ⟨w.heap.size, 0, none⟩ = some (.bool s) := fun W h => h.1.c 0 rfl
      have i1 : ∀ W, OS w s t a0 a1 a2 a3 b0 b1 b2 b3 W → W.cell? ⟨w.heap.size, 1, none⟩ = some (.int .u64 a0) := fun W h => h.1.c 1 rfl
      have i2 : ∀ W, OS w s t a0 a1 a2 a3 b0 b1 b2 b3 W → W.cell? ⟨w.heap.size, 2, none⟩ = some (.int .u64 a1) := fun W h => h.1.c 2 rfl
      have i3 : ∀ W, OS w s t a0 a1 a2 a3 b0 b1 b2 b3 W → W.cell? ⟨w.heap.size, 3, none⟩ = some (.int .u64 a2) := fun W h => h.1.c 3 rfl
      have i4 : ∀ W, OS w s t a0 a1 a2 a3 b0 b1 b2 b3 W → W.cell? ⟨w.heap.size, 4, none⟩ = some (.int .u64 a3) := fun W h => h.1.c 4 rfl
      have j0 : ∀ W, OS w s t a0 a1 a2 a3 b0 b1 b2 b3 W → W.cell? ⟨w.heap.size + 1, 0, none⟩ = some (.bool t) := fun W h => h.2.1.c 0 rfl
      have j1 : ∀ W, OS w s t a0 a1 a2 a3 b0 b1 b2 b3 W → W.cell? ⟨w.heap.size + 1, 1, none⟩ = some (.int .u64 b0) := fun W h => h.2.1.c 1 rfl
      have j2 : ∀ W, OS w s t a0 a1 a2 a3 b0 b1 b2 b3 W → W.cell? ⟨w.heap.size + 1, 2, none⟩ = some (.int .u64 b1) := fun W h => h.2.1.c 2 rfl
      have j3 : ∀ W, OS w s t a0 a1 a2 a3 b0 b1 b2 b3 W → W.cell? ⟨w.heap.size + 1, 3, none⟩ = some (.int .u64 b2) := fun W h => h.2.1.c 3 rfl
      have j4 : ∀ W, OS w s t a0 a1 a2 a3 b0 b1 b2 b3 W → W.cell? ⟨w.heap.size + 1, 4, none⟩ = some (.int .u64 b3) := fun W h => h.2.1.c 4 rfl
      go_region_held3 (fun w' : World => OS w s t a0 a1 a2 a3 b0 b1 b2 b3 w')
        (first
          | (with_reducible refine OS.drew ?_; with_reducible assumption)
          | (with_reducible refine OS.after ?_ hb; with_reducible assumption))
        (first
          | (go_at_call 17; refine Calls.mono (by with_reducible exact CA.out _) ?_; rintro e w' ⟨bA, cA, rfl, lA, xA, hb⟩)
          | (go_at_call 17; refine Calls.mono (by with_reducible exact CB.out _) ?_; rintro e w' ⟨bB, cB, rfl, lB, xB, hb⟩; replace xA := Lib.hid (fun i hi => (hb.cell (p := ⟨bA, i, none⟩) lA).trans (xA.out i hi)); replace lA := Nat.lt_of_lt_of_le lA hb.size)
          | (go_at_call 35; refine (refcmp_any _ _ _ _ _ _ bA cA bB cB _ la lb lA lB xA.out xB.out).mono ?_; rintro e w' ⟨rfl, hb⟩; rw [HE.out])
          | (go_at_call 19; refine (num_any _ _).mono ?_; rintro e w' ⟨rfl, hb⟩)
          | (go_at_call 21; have hO := ‹OS w s t a0 a1 a2 a3 b0 b1 b2 b3 _›; refine (works_true _ (Ht.out.below hO.2.2) (Hz.out.below hg hO.2.2) (Nat.lt_of_lt_of_le hw0 hO.2.2.size)).mono ?_; clear hO; rintro e w' ⟨rfl, hb⟩))
      have hO := ‹OS w s t a0 a1 a2 a3 b0 b1 b2 b3 _›
      go_wp2
      go_ret
      exact ⟨rfl, hO.2.2⟩
    · have h2' : (t && zeroB b0 b1 b2 b3) = true := by simpa using h2
      have HC := Lib.hid (show cmpE s t a0 a1 a2 a3 b0 b1 b2 b3 = .tuple #[.int .i64 0, .int .i64 2] by simp only [cmpE, h2', Bool.or_true, if_true])
      have HR1 := Lib.hid (show rightB s a0 a1 a2 a3 = true by rw [rightB, hs]; rfl)
      have HR2 := Lib.hid (show rightB t b0 b1 b2 b3 = false by rw [rightB, h2']; rfl)
      go_enter Tryd.func6, Tryd.ntmps6
      go_wp2_with fail
      generalize hW : World.alloc _ _ = W0
      have hB : RowKit.Below w.heap.size w W0 := by
        rw [← hW]; exact ((RowKit.Below.refl w.heap.size w).alloc (Nat.le_refl _) _).alloc (by simp) _
      have rA : Row W0 w.heap.size [.bool s, .int .u64 a0, .int .u64 a1, .int .u64 a2, .int .u64 a3] := by
        rw [← hW]; exact (Row.at rfl _ _).alloc _
      have rB : Row W0 (w.heap.size + 1) [.bool t, .int .u64 b0, .int .u64 b1, .int .u64 b2, .int .u64 b3] := by
        rw [← hW]; exact Row.at (by simp) _ _
      clear hW
      refine (cmp_any _ _ _ _ _ _ _ _ _ _ _).mono ?_
      rintro e w1 ⟨rfl, hb1⟩
      rw [HC.out]
      replace hB := hB.trans (hb1.mono hB.size)
      replace rA := rA.after hb1
      replace rB := rB.after hb1
      clear hb1
      have i0 := rA.c 0 rfl
      have i1 := rA.c 1 rfl
      have i2 := rA.c 2 rfl
      have i3 := rA.c 3 rfl
      have i4 := rA.c 4 rfl
      have j0 := rB.c 0 rfl
      have j1 := rB.c 1 rfl
      have j2 := rB.c 2 rfl
      have j3 := rB.c 3 rfl
      have j4 := rB.c 4 rfl
      go_wp2_with fail
      refine (right_any _ _ _ _ _ _).mono ?_
      rintro e w2 ⟨rfl, hb1⟩
      rw [HR1.out]
      replace hB := hB.trans (hb1.mono hB.size)
      replace rA := rA.after hb1
      replace rB := rB.after hb1
      clear hb1
      clear i0 i1 i2 i3 i4 j0 j1 j2 j3 j4
      have i0 := rA.c 0 rfl
      have i1 := rA.c 1 rfl
      have i2 := rA.c 2 rfl
      have i3 := rA.c 3 rfl
      have i4 := rA.c 4 rfl
      have j0 := rB.c 0 rfl
      have j1 := rB.c 1 rfl
      have j2 := rB.c 2 rfl
      have j3 := rB.c 3 rfl
      have j4 := rB.c 4 rfl
      go_wp2_with fail
      refine (right_any _ _ _ _ _ _).mono ?_
      rintro e w3 ⟨rfl, hb1⟩
      rw [HR2.out]
      replace hB := hB.trans (hb1.mono hB.size)
      replace rA := rA.after hb1
      replace rB := rB.after hb1
      clear hb1
      clear i0 i1 i2 i3 i4 j0 j1 j2 j3 j4
      have i0 := rA.c 0 rfl
      have i1 := rA.c 1 rfl
      have i2 := rA.c 2 rfl
      have i3 := rA.c 3 rfl
      have i4 := rA.c 4 rfl
      have j0 := rB.c 0 rfl
      have j1 := rB.c 1 rfl
      have j2 := rB.c 2 rfl
      have j3 := rB.c 3 rfl
      have j4 := rB.c 4 rfl
      have hP : OS w s t a0 a1 a2 a3 b0 b1 b2 b3 w3 := ⟨rA, rB, hB⟩
      clear i0 i1 i2 i3 i4 j0 j1 j2 j3 j4 rA rB
      have Ht := Lib.hid ht
      have Hz := Lib.hid hz
      clear ha hb hs h2 h2' HR1 HR2 HC ht hz
      have hg : 0 < w.heap.size := block_lt_of_cell (Hz.out 0 (by decide))
      go_wp2_with fail
      refine (num_any _ _).mono ?_
      rintro e w4 ⟨rfl, hb⟩
      replace hP := hP.after hb
      clear hb
      go_wp2_with fail
      refine (works_true _ (Ht.out.below hP.2.2) (Hz.out.below hg hP.2.2) (Nat.lt_of_lt_of_le hw0 hP.2.2.size)).mono ?_
      rintro e w5 ⟨rfl, hb⟩
      replace hP := hP.after hb
      go_wp2_with fail
      go_ret
      exact ⟨rfl, hP.2.2⟩
  · have hs' : (s && zeroB a0 a1 a2 a3) = true := by simpa using hs
    have HC := Lib.hid (show cmpE s t a0 a1 a2 a3 b0 b1 b2 b3 = .tuple #[.int .i64 0, .int .i64 2] by simp only [cmpE, hs', Bool.true_or, if_true])
    have HR1 := Lib.hid (show rightB s a0 a1 a2 a3 = false by rw [rightB, hs']; rfl)
    go_enter Tryd.func6, Tryd.ntmps6
    go_wp2_with fail
    generalize hW : World.alloc _ _ = W0
    have hB : RowKit.Below w.heap.size w W0 := by
      rw [← hW]; exact ((RowKit.Below.refl w.heap.size w).alloc (Nat.le_refl _) _).alloc (by simp) _
    have rA : Row W0 w.heap.size [.bool s, .int .u64 a0, .int .u64 a1, .int .u64 a2, .int .u64 a3] := by
      rw [← hW]; exact (Row.at rfl _ _).alloc _
    have rB : Row W0 (w.heap.size + 1) [.bool t, .int .u64 b0, .int .u64 b1, .int .u64 b2, .int .u64 b3] := by
      rw [← hW]; exact Row.at (by simp) _ _
    clear hW
    refine (cmp_any _ _ _ _ _ _ _ _ _ _ _).mono ?_
    rintro e w1 ⟨rfl, hb1⟩
    rw [HC.out]
    replace hB := hB.trans (hb1.mono hB.size)
    replace rA := rA.after hb1
    replace rB := rB.after hb1
    clear hb1
    have i0 := rA.c 0 rfl
    have i1 := rA.c 1 rfl
    have i2 := rA.c 2 rfl
    have i3 := rA.c 3 rfl
    have i4 := rA.c 4 rfl
    have j0 := rB.c 0 rfl
    have j1 := rB.c 1 rfl
    have j2 := rB.c 2 rfl
    have j3 := rB.c 3 rfl
    have j4 := rB.c 4 rfl
    go_wp2_with fail
    refine (right_any _ _ _ _ _ _).mono ?_
    rintro e w2 ⟨rfl, hb1⟩
    rw [HR1.out]
    replace hB := hB.trans (hb1.mono hB.size)
    replace rA := rA.after hb1
    replace rB := rB.after hb1
    clear hb1
    clear i0 i1 i2 i3 i4 j0 j1 j2 j3 j4
    have i0 := rA.c 0 rfl
    have i1 := rA.c 1 rfl
    have i2 := rA.c 2 rfl
    have i3 := rA.c 3 rfl
    have i4 := rA.c 4 rfl
    have j0 := rB.c 0 rfl
    have j1 := rB.c 1 rfl
    have j2 := rB.c 2 rfl
    have j3 := rB.c 3 rfl
    have j4 := rB.c 4 rfl
    have hP : OS w s t a0 a1 a2 a3 b0 b1 b2 b3 w2 := ⟨rA, rB, hB⟩
    clear i0 i1 i2 i3 i4 j0 j1 j2 j3 j4 rA rB
    have Ht := Lib.hid ht
    have Hz := Lib.hid hz
    clear ha hb hs hs' HR1 HC ht hz
    have hg : 0 < w.heap.size := block_lt_of_cell (Hz.out 0 (by decide))
    go_wp2_with fail
    refine (num_any _ _).mono ?_
    rintro e w4 ⟨rfl, hb⟩
    replace hP := hP.after hb
    clear hb
    go_wp2_with fail
    refine (works_true _ (Ht.out.below hP.2.2) (Hz.out.below hg hP.2.2) (Nat.lt_of_lt_of_le hw0 hP.2.2.size)).mono ?_
    rintro e w5 ⟨rfl, hb⟩
    replace hP := hP.after hb
    go_wp2_with fail
    go_ret
    exact ⟨rfl, hP.2.2⟩
end Go.Proofs.YtpbdhhdmnnelhaaDoor
