import Derived.Test.YteolocchmhpggaaGreatDoorZKkEA
import Derived.Test.YteolocchmhpggaaGreatDoorZKkDL
import Derived.Test.YteolocchmhpggaaGreatDoorZKkDD
namespace Go.Proofs.YteolocchmhpggaaGreatDoor
open Go.RowKit
theorem norm_gen {B P S A2 y top lo : Nat} (hB : B = S * A2) (hS : 0 < S) (hlo : lo < P) (hy : y = top * P + lo) (ht : top * S < B) : y * S < B * P := by
 have h1 : top < A2 := by
  apply Nat.lt_of_mul_lt_mul_left (a := S)
  rw [← hB, Nat.mul_comm]; exact ht
 have h2 : (top + 1) * S ≤ B := by rw [hB, Nat.mul_comm S]; exact Nat.mul_le_mul_right _ h1
 have h3 : y < (top + 1) * P := by rw [hy, Nat.add_mul, Nat.one_mul]; omega
 refine Nat.lt_of_lt_of_le (Nat.mul_lt_mul_of_pos_right h3 hS) ?_
 rw [Nat.mul_right_comm]
 exact Nat.mul_le_mul_right _ h2
theorem first_gen {m y S Bt Bk : Nat} (hm : m < Bt * Bk) (hy : Bt ≤ y) (hS : 0 < S) (hk : 0 < Bk) : m * S / Bk < y * S := by
 rw [Nat.div_lt_iff_lt_mul hk]
 refine Nat.lt_of_lt_of_le (Nat.mul_lt_mul_of_pos_right hm hS) ?_
 rw [Nat.mul_right_comm]
 exact Nat.mul_le_mul_right _ (Nat.mul_le_mul_right _ hy)
theorem norm_y {y t s : Nat} (hs : s < 64) (ht0 : 0 < t) (hy : y < 18446744073709551616 ^ (t + 1)) (h1 : 9223372036854775808 ≤ W64 y t * 2 ^ s) (h2 : W64 y t * 2 ^ s < 18446744073709551616) :
 y * 2 ^ s < 18446744073709551616 ^ (t + 1) ∧ 9223372036854775808 ≤ W64 (y * 2 ^ s) t ∧ 0 < y * 2 ^ s := by
 have hP : 0 < 18446744073709551616 ^ t := Nat.pow_pos (by decide)
 have hS : 0 < 2 ^ s := Nat.pow_pos (by decide)
 have htop : y / 18446744073709551616 ^ t = W64 y t := by
  unfold W64
  rw [Nat.mod_eq_of_lt]
  rw [Nat.div_lt_iff_lt_mul hP, ← Nat.pow_succ']
  exact hy
 have hd := Nat.div_add_mod y (18446744073709551616 ^ t)
 rw [htop, Nat.mul_comm] at hd
 refine ⟨?_, ?_, ?_⟩
 ·rw [Nat.pow_succ']
  exact norm_gen (pow_halves (r := s) (by omega)) hS (Nat.mod_lt y hP) hd.symm h2
 ·obtain ⟨j, rfl⟩ : ∃ j, t = j + 1 := ⟨t - 1, by omega⟩
  rw [shl_word (by omega), Nat.mod_eq_of_lt h2]
  exact Nat.le_trans h1 (Nat.le_add_right _ _)
 ·apply Nat.mul_pos _ hS
  apply Nat.pos_of_ne_zero
  intro h
  rw [h] at h1
  have : W64 0 t = 0 := by simp [W64]
  rw [this, Nat.zero_mul] at h1
  omega
theorem T256_split {t : Nat} (ht : t ≤ 4) : T256 = 18446744073709551616 ^ t * 18446744073709551616 ^ (4 - t) := by
 rw [T256_w, ← Nat.pow_add, show t + (4 - t) = 4 by omega]
theorem rfK_first {m y t s : Nat} (hm : m < T256) (ht : t ≤ 3) (hy : 18446744073709551616 ^ t ≤ y) (i : Nat) : rfK (m * 2 ^ s) (y * 2 ^ s) (4 - t) i = W64 (m * 2 ^ s) i := by
 unfold rfK
 by_cases h : i < 4 - t
 ·rw [if_pos h]
 ·rw [if_neg h]
  have h1 : upW (m * 2 ^ s) (4 - t) < y * 2 ^ s := first_gen (by rw [← T256_split (by omega)]; exact hm) hy (Nat.pow_pos (by decide)) (Nat.pow_pos (by decide))
  rw [Nat.mod_eq_of_lt h1]
  unfold upW W64
  rw [Nat.div_div_eq_div_mul, ← Nat.pow_add, show 4 - t + (i - (4 - t)) = i by omega]
theorem R4.row {w : World} {b : Nat} {x : Nat → Nat} (h : R4 w b x) : Row w b [.int .u64 (x 0 : Nat), .int .u64 (x 1 : Nat), .int .u64 (x 2 : Nat), .int .u64 (x 3 : Nat)] := ⟨h.1, fun i v hv => by
 match i, hv with
 | 0, hv => exact ⟨(h.2 0 (by decide)).1.trans hv, (h.2 0 (by decide)).2⟩
 | 1, hv => exact ⟨(h.2 1 (by decide)).1.trans hv, (h.2 1 (by decide)).2⟩
 | 2, hv => exact ⟨(h.2 2 (by decide)).1.trans hv, (h.2 2 (by decide)).2⟩
 | 3, hv => exact ⟨(h.2 3 (by decide)).1.trans hv, (h.2 3 (by decide)).2⟩⟩
theorem R4.put4 {w : World} {b : Nat} {x : Nat → Nat} (h : R4 w b x) (y : Nat → Nat) : R4 ((((w.setCell ⟨b, 0, none⟩ (.int .u64 (y 0 : Nat))).setCell ⟨b, 1, none⟩ (.int .u64 (y 1 : Nat))).setCell ⟨b, 2, none⟩ (.int .u64 (y 2 : Nat))).setCell ⟨b, 3, none⟩ (.int .u64 (y 3 : Nat))) b y :=
 R4.of_row (h.row.put4 _ _ _ _)
theorem R4.other4 {w : World} {b c : Nat} {x : Nat → Nat} (h : R4 w b x) (hc : c ≠ b) (y0 y1 y2 y3 : Value) : R4 ((((w.setCell ⟨c, 0, none⟩ y0).setCell ⟨c, 1, none⟩ y1).setCell ⟨c, 2, none⟩ y2).setCell ⟨c, 3, none⟩ y3) b x :=
 (((h.other (p := ⟨c, 0, none⟩) hc y0).other (p := ⟨c, 1, none⟩) hc y1).other (p := ⟨c, 2, none⟩) hc y2).other (p := ⟨c, 3, none⟩) hc y3
def PW0 (w : World) (m : Nat) (y : Nat) (W : World) : Prop := R4 W w.heap.size (W64 m) ∧ R4 W (w.heap.size + 1) (W64 y) ∧ R4 W (w.heap.size + 1 + 1) (fun _ => 0) ∧ R4 W (w.heap.size + 1 + 1 + 1) (fun _ => 0) ∧ Below w.heap.size w W
theorem PW0.after {w W W1 : World} {m y : Nat} (h : PW0 w m y W) (hb : Below W.heap.size W W1) : PW0 w m y W1 :=
 ⟨h.1.below hb, h.2.1.below hb, h.2.2.1.below hb, h.2.2.2.1.below hb, h.2.2.2.2.trans (hb.mono h.2.2.2.2.size)⟩
theorem PW0.first (w : World) (m y : Nat) (t : TypeId) : PW0 w m y ((((w.alloc (.cells #[.int .u64 (W64 m 0 : Nat), .int .u64 (W64 m 1 : Nat), .int .u64 (W64 m 2 : Nat), .int .u64 (W64 m 3 : Nat)] t)).alloc (.cells #[.int .u64 (W64 y 0 : Nat), .int .u64 (W64 y 1 : Nat), .int .u64 (W64 y 2 : Nat), .int .u64 (W64 y 3 : Nat)] t)).alloc (.cells #[.int .u64 0, .int .u64 0, .int .u64 0, .int .u64 0] t)).alloc (.cells #[.int .u64 0, .int .u64 0, .int .u64 0, .int .u64 0] t)) :=
 ⟨R4.of_row ((((Row.at rfl _ _).alloc _).alloc _).alloc _), R4.of_row (((Row.at (by simp) _ _).alloc _).alloc _), R4.of_row (x := fun _ => 0) ((Row.at (by simp) _ _).alloc _), R4.of_row (x := fun _ => 0) (Row.at (by simp) _ _),
  ((((Below.refl w.heap.size w).alloc (Nat.le_refl _) _).alloc (by simp) _).alloc (by simp; omega) _).alloc (by simp; omega) _⟩
theorem PW0.put {w W : World} {m y : Nat} (h : PW0 w m y W) (z : Nat) : PW0 w m z ((((W.setCell ⟨w.heap.size + 1, 0, none⟩ (.int .u64 (W64 z 0 : Nat))).setCell ⟨w.heap.size + 1, 1, none⟩ (.int .u64 (W64 z 1 : Nat))).setCell ⟨w.heap.size + 1, 2, none⟩ (.int .u64 (W64 z 2 : Nat))).setCell ⟨w.heap.size + 1, 3, none⟩ (.int .u64 (W64 z 3 : Nat))) :=
 ⟨h.1.other4 (by omega) _ _ _ _, h.2.1.put4 _, h.2.2.1.other4 (by omega) _ _ _ _, h.2.2.2.1.other4 (by omega) _ _ _ _, below_put4 h.2.2.2.2 (by omega) _ _ _ _⟩
theorem arr_at5 (b : Nat) (W : World) : (Instr.arrayAt 163 (.slice (some ⟨b, 0, none⟩) 4 5)).run Tryz.prog W = .ok (.pointer (some ⟨b, 0, none⟩)) W := by kernel_rfl
theorem R4.under {w w1 : World} {b B : Nat} {x : Nat → Nat} (h : R4 w b x) (hb : Below B w w1) (hB : b < B) : R4 w1 b x :=
 ⟨Nat.lt_of_lt_of_le h.1 hb.size, fun i hi => ⟨(hb.cell (p := ⟨b, i, none⟩) hB).trans (h.2 i hi).1, (hb.frozen (p := ⟨b, i, none⟩) hB).trans (h.2 i hi).2⟩⟩
theorem PW0.under {w W W1 : World} {m y X : Nat} (h : PW0 w m y W) (hb : Below X W W1) (hX : w.heap.size + 1 + 1 + 1 < X) : PW0 w m y W1 :=
 ⟨h.1.under hb (by omega), h.2.1.under hb (by omega), h.2.2.1.under hb (by omega), h.2.2.2.1.under hb (by omega), h.2.2.2.2.trans (hb.mono (by omega))⟩
theorem PW0.other {w W : World} {m y : Nat} (h : PW0 w m y W) (X : Nat) (hX : w.heap.size + 1 + 1 + 1 < X) (j : Nat) (v : Value) : PW0 w m y (W.setCell ⟨X, j, none⟩ v) :=
 ⟨h.1.other (p := ⟨X, j, none⟩) (by show X ≠ w.heap.size; omega) _, h.2.1.other (p := ⟨X, j, none⟩) (by show X ≠ w.heap.size + 1; omega) _, h.2.2.1.other (p := ⟨X, j, none⟩) (by show X ≠ w.heap.size + 1 + 1; omega) _, h.2.2.2.1.other (p := ⟨X, j, none⟩) (by show X ≠ w.heap.size + 1 + 1 + 1; omega) _, below_put1 h.2.2.2.2 (by omega) _ _⟩
theorem Row.of_block {w : World} {b : Nat} {vs : List Value} {t : TypeId} (h : w.heap[b]? = some (.cells vs.toArray t (0, 0))) : Row w b vs :=
 ⟨(Array.getElem?_eq_some_iff.mp h).1, fun i v hv => ⟨by simp [World.cell?, h]; simpa using hv, by simp [World.frozen?, h]⟩⟩
set_option maxRecDepth 100000 in
set_option maxHeartbeats 4000000 in
theorem partedByWords_any (m y t : Nat) (w : World) (hm : m < T256) (ht0 : 0 < t) (ht : t ≤ 3) (hy0 : 18446744073709551616 ^ t ≤ y) (hy : y < 18446744073709551616 ^ (t + 1))
 (hsz : sizeF (W64 y 0 : Nat) (W64 y 1 : Nat) (W64 y 2 : Nat) (W64 y 3 : Nat) = ((t + 1 : Nat) : Int)) :
 Calls Tryz.prog 171 #[wv (W64 m 0 : Nat) (W64 m 1 : Nat) (W64 m 2 : Nat) (W64 m 3 : Nat), wv (W64 y 0 : Nat) (W64 y 1 : Nat) (W64 y 2 : Nat) (W64 y 3 : Nat)] w fun e w' =>
  e = .returned (.tuple #[wv (W64 (m / y) 0 : Nat) (W64 (m / y) 1 : Nat) (W64 (m / y) 2 : Nat) (W64 (m / y) 3 : Nat), wv (W64 (m % y) 0 : Nat) (W64 (m % y) 1 : Nat) (W64 (m % y) 2 : Nat) (W64 (m % y) 3 : Nat)]) ∧ Below w.heap.size w w' := by
 have htop : 0 < W64 y t := by
  have hP : 0 < 18446744073709551616 ^ t := Nat.pow_pos (by decide)
  have h1 : y / 18446744073709551616 ^ t = W64 y t := by
   unfold W64
   rw [Nat.mod_eq_of_lt]
   rw [Nat.div_lt_iff_lt_mul hP, ← Nat.pow_succ']
   exact hy
  rw [← h1]
  exact Nat.div_pos hy0 hP
 obtain ⟨s, hs, hs1, hs2, hlz⟩ := lz_any (W64 y t) htop (W64_lt y t)
 obtain ⟨n1, n2, n3⟩ := norm_y hs ht0 hy hs1 hs2
 have HSz := Lib.hid (fun W => by
  have h := size_any (W64 y 0 : Nat) (W64 y 1 : Nat) (W64 y 2 : Nat) (W64 y 3 : Nat) W
  rw [hsz] at h
  exact h)
 have HLz := Lib.hid hlz
 have HUy := Lib.hid (fun W => by
  have h := up_any y 0 s W (by decide) hs
  rw [show 64 * 0 + s = s by omega] at h
  exact h)
 have HUm := Lib.hid (fun W => by
  have h := up_any m 0 s W (by decide) hs
  rw [show 64 * 0 + s = s by omega] at h
  exact h)
 have HN := Lib.hid (And.intro n1 (And.intro n2 n3))
 have HFst := Lib.hid (fun i => rfK_first (s := s) hm ht hy0 i)
 have HM := Lib.hid hm
 have HQl : Hid (m / y < 18446744073709551616 ^ (4 - t)) := Lib.hid (by
  rw [Nat.div_lt_iff_lt_mul (Nat.lt_of_lt_of_le (Nat.pow_pos (by decide)) hy0)]
  refine Nat.lt_of_lt_of_le hm ?_
  rw [T256_split (t := t) (by omega), Nat.mul_comm]
  exact Nat.mul_le_mul_left _ hy0)
 clear hlz hs1 hs2 n1 n2 n3 htop hsz hy0 hy hm
 have hS := PW0.first w m y 163
 have HS := Lib.hid hS
 clear hS
 have ht4 : (t : Int) < 4 := by omega
 go_enter Tryz.func171, Tryz.ntmps171
 go_wp2_with fail
 generalize World.alloc _ _ = W0 at HS ⊢
 refine (HSz.out _).mono ?_
 rintro e w1 ⟨rfl, hb1⟩
 have HS1 := Lib.hid (HS.out.after hb1)
 clear hb1 HS
 have cy := (HS1.out.2.1.2 t (by omega)).1
 go_wp2_with fail
 refine (HLz.out _).mono ?_
 rintro e w2 ⟨rfl, rfl⟩
 have y0 := (HS1.out.2.1.2 0 (by decide)).1
 have y1 := (HS1.out.2.1.2 1 (by decide)).1
 have y2 := (HS1.out.2.1.2 2 (by decide)).1
 have y3 := (HS1.out.2.1.2 3 (by decide)).1
 clear cy
 go_wp2_with fail
 refine (HUy.out _).mono ?_
 rintro e w3 ⟨rfl, hb1⟩
 have HS3 := Lib.hid (HS1.out.after hb1)
 clear hb1 HS1 y0 y1 y2 y3
 have y0 := (HS3.out.2.1.2 0 (by decide)).1
 have y1 := (HS3.out.2.1.2 1 (by decide)).1
 have y2 := (HS3.out.2.1.2 2 (by decide)).1
 have y3 := (HS3.out.2.1.2 3 (by decide)).1
 have f0 := (HS3.out.2.1.2 0 (by decide)).2
 have f1 := (HS3.out.2.1.2 1 (by decide)).2
 have f2 := (HS3.out.2.1.2 2 (by decide)).2
 have f3 := (HS3.out.2.1.2 3 (by decide)).2
 go_upto_region 4 with fail
 have HS4 := Lib.hid (HS3.out.put (y * 2 ^ s))
 clear HS3 y0 y1 y2 y3 f0 f1 f2 f3
 generalize World.setCell _ _ _ = W4 at HS4 ⊢
 have hz : Row (W4.alloc (.cells #[.int .u64 0, .int .u64 0, .int .u64 0, .int .u64 0, .int .u64 0] 237)) W4.heap.size [.int .u64 0, .int .u64 0, .int .u64 0, .int .u64 0, .int .u64 0] := Row.at rfl _ _
 have HZ := Lib.hid hz
 have HO5 : Hid ((W4.alloc (.cells #[.int .u64 0, .int .u64 0, .int .u64 0, .int .u64 0, .int .u64 0] 237)).heap[W4.heap.size]? = some (.cells #[.int .u64 0, .int .u64 0, .int .u64 0, .int .u64 0, .int .u64 0] 237 (0, 0))) := Lib.hid (heap_alloc_new W4 _)
 have HS5 := Lib.hid (HS4.out.after ((Below.refl W4.heap.size W4).alloc (Nat.le_refl _) (.cells #[.int .u64 0, .int .u64 0, .int .u64 0, .int .u64 0, .int .u64 0] 237)))
 have HX : Hid (w.heap.size + 1 + 1 + 1 < W4.heap.size) := Lib.hid HS4.out.2.2.2.1.1
 have x0 := (HS5.out.1.2 0 (by decide)).1
 have x1 := (HS5.out.1.2 1 (by decide)).1
 have x2 := (HS5.out.1.2 2 (by decide)).1
 have x3 := (HS5.out.1.2 3 (by decide)).1
 clear hz HS4
 go_upto_region 5 with fail
 generalize World.alloc _ _ = W5 at HZ HO5 HS5 x0 x1 x2 x3 ⊢
 generalize W4.heap.size = X at HZ HO5 HX ⊢
 go_wp2_with fail
 refine (HUm.out _).mono ?_
 rintro e w6 ⟨rfl, hb1⟩
 have HS6 := Lib.hid (HS5.out.after hb1)
 have HZ6 := Lib.hid (HZ.out.after hb1)
 have HO6 := Lib.hid ((hb1.block X HZ.out.lt).trans HO5.out)
 clear hb1 HS5 HZ x0 x1 x2 x3
 go_upto_region 6 with fail
 have hz : Row (w6.alloc (.cells #[.int .u64 (W64 (m * 2 ^ s) 0 : Nat), .int .u64 (W64 (m * 2 ^ s) 1 : Nat), .int .u64 (W64 (m * 2 ^ s) 2 : Nat), .int .u64 (W64 (m * 2 ^ s) 3 : Nat)] 163)) w6.heap.size [.int .u64 (W64 (m * 2 ^ s) 0 : Nat), .int .u64 (W64 (m * 2 ^ s) 1 : Nat), .int .u64 (W64 (m * 2 ^ s) 2 : Nat), .int .u64 (W64 (m * 2 ^ s) 3 : Nat)] := Row.at rfl _ _
 have HL7 := Lib.hid hz
 have HS7 := Lib.hid (HS6.out.after ((Below.refl w6.heap.size w6).alloc (Nat.le_refl _) (.cells #[.int .u64 (W64 (m * 2 ^ s) 0 : Nat), .int .u64 (W64 (m * 2 ^ s) 1 : Nat), .int .u64 (W64 (m * 2 ^ s) 2 : Nat), .int .u64 (W64 (m * 2 ^ s) 3 : Nat)] 163)))
 have HZ7 := Lib.hid (HZ6.out.after ((Below.refl w6.heap.size w6).alloc (Nat.le_refl _) (.cells #[.int .u64 (W64 (m * 2 ^ s) 0 : Nat), .int .u64 (W64 (m * 2 ^ s) 1 : Nat), .int .u64 (W64 (m * 2 ^ s) 2 : Nat), .int .u64 (W64 (m * 2 ^ s) 3 : Nat)] 163)))
 have HXL : Hid (X < w6.heap.size) := Lib.hid HZ6.out.lt
 have HO7 : Hid ((w6.alloc (.cells #[.int .u64 (W64 (m * 2 ^ s) 0 : Nat), .int .u64 (W64 (m * 2 ^ s) 1 : Nat), .int .u64 (W64 (m * 2 ^ s) 2 : Nat), .int .u64 (W64 (m * 2 ^ s) 3 : Nat)] 163)).heap[X]? = some (.cells #[.int .u64 0, .int .u64 0, .int .u64 0, .int .u64 0, .int .u64 0] 237 (0, 0))) := Lib.hid ((Below.heap_alloc _ _ _ HZ6.out.lt).trans HO6.out)
 clear hz HS6 HZ6
 generalize World.alloc _ _ = W7 at HL7 HS7 HZ7 HO7 ⊢
 generalize w6.heap.size = L at HL7 HXL ⊢
 have HCs : Hid (∀ j v, [Value.int .u64 (W64 (m * 2 ^ s) 0 : Nat), .int .u64 (W64 (m * 2 ^ s) 1 : Nat), .int .u64 (W64 (m * 2 ^ s) 2 : Nat), .int .u64 (W64 (m * 2 ^ s) 3 : Nat)][j]? = some v → W7.cell? ((⟨L, 0, none⟩ : Addr).add j) = some v) := Lib.hid (fun j v hv => by
  rw [show (⟨L, 0, none⟩ : Addr).add j = ⟨L, j, none⟩ by unfold Addr.add; split <;> simp_all]
  exact HL7.out.c j hv)
 have hsz64 : (Tryz.prog.info? 26).map (·.size) = some 1 := by kernel_rfl
 have HSz64 := Lib.hid hsz64
 clear hsz64
 go_region_law ((refine step_copy_splice rfl (.tmp 24) (.tmp 25) 166 166 rfl 26 Tryz.underlying166 HSz64.out (some ⟨X, 0, none⟩) (some ⟨L, 0, none⟩) 5 5 4 4 rfl rfl X 0 [.int .u64 0, .int .u64 0, .int .u64 0, .int .u64 0, .int .u64 0] 237 HO7.out [.int .u64 (W64 (m * 2 ^ s) 0 : Nat), .int .u64 (W64 (m * 2 ^ s) 1 : Nat), .int .u64 (W64 (m * 2 ^ s) 2 : Nat), .int .u64 (W64 (m * 2 ^ s) 3 : Nat)] rfl (fun _ => ⟨rfl, ⟨L, 0, none⟩, rfl, HCs.out⟩) (by simp) (by simp [Value.oneCell']) X W7 (Below.refl _ _).drew (Nat.le_refl _) ?_; intro w8 ho8 hb8))
 all_goals
  have HS8 := Lib.hid (HS7.out.under hb8 HX.out)
  have hr8 : Row w8 X [.int .u64 (W64 (m * 2 ^ s) 0 : Nat), .int .u64 (W64 (m * 2 ^ s) 1 : Nat), .int .u64 (W64 (m * 2 ^ s) 2 : Nat), .int .u64 (W64 (m * 2 ^ s) 3 : Nat), .int .u64 0] := Row.of_block ho8.out
  have HR8 := Lib.hid hr8
  clear hb8 ho8 hr8 HL7 HS7 HZ7 HO7 HXL HCs HSz64
  have x3 := (HS8.out.1.2 3 (by decide)).1
  have r4 := HR8.out.c 4 rfl
  have q4 := HR8.out.f 4 rfl
  have hs0 : (s : Int) < 64 := by omega
  have hs1 : (0 : Int) ≤ 64 - (s : Int) := by omega
  have hs2 : (64 - (s : Int)).toNat = 64 - s := by omega
  have h4 : W64 (m * 2 ^ s) 4 = W64 m 3 / 2 ^ (64 - s) := by
   rw [shl_word (r := s) (by omega) m 3, W64_past HM.out 4 (by decide), Nat.zero_mul, Nat.zero_mod, Nat.zero_add]
  have hsr : ((W64 m 3 : Nat) : Int) / 2 ^ (64 - s) = ((W64 (m * 2 ^ s) 4 : Nat) : Int) := by rw [h4]; simp
  clear h4
  go_upto_region 8 with fail
  have HR9 := Lib.hid (HR8.out.set 4 (by simp) (.int .u64 (W64 (m * 2 ^ s) 4 : Nat)))
  have HS9 : Hid (PW0 w m (y * 2 ^ s) _) := Lib.hid (HS8.out.other X HX.out 4 (.int .u64 (W64 (m * 2 ^ s) 4 : Nat)))
  clear x3 r4 q4 hsr HR8 HS8
  generalize World.setCell _ _ _ = W9 at HR9 HS9 ⊢
  have hP : PWS w X m (y * 2 ^ s) (fun j => if 4 - t ≤ j then W64 (m / y) j else 0) (rfK (m * 2 ^ s) (y * 2 ^ s) (4 - t)) W9 := by
   refine ⟨HS9.out.1, HS9.out.2.1, HS9.out.2.2.1.congr (fun j hj => ?_), HS9.out.2.2.2.1, ⟨HR9.out.1, fun j hj => ?_⟩, HS9.out.2.2.2.2, HX.out⟩
   ·show 0 = if 4 - t ≤ j then W64 (m / y) j else 0
    by_cases e : 4 - t ≤ j
    ·rw [if_pos e, W64_high HQl.out e]
    ·rw [if_neg e]
   ·rw [HFst.out]
    match j, hj with
    | 0, _ => exact ⟨HR9.out.c 0 rfl, HR9.out.f 0 rfl⟩
    | 1, _ => exact ⟨HR9.out.c 1 rfl, HR9.out.f 1 rfl⟩
    | 2, _ => exact ⟨HR9.out.c 2 rfl, HR9.out.f 2 rfl⟩
    | 3, _ => exact ⟨HR9.out.c 3 rfl, HR9.out.f 3 rfl⟩
    | 4, _ => exact ⟨HR9.out.c 4 rfl, HR9.out.f 4 rfl⟩
  have HP := Lib.hid hP
  clear hP HR9 HS9 HFst HQl
  have HDv : Hid (m * 2 ^ s / (y * 2 ^ s) = m / y) := Lib.hid (Nat.mul_div_mul_right _ _ (Nat.pow_pos (by decide)))
  have HMd : Hid (m * 2 ^ s % (y * 2 ^ s) / 2 ^ s = m % y) := Lib.hid (by rw [Nat.mul_mod_mul_right, Nat.mul_div_cancel _ (Nat.pow_pos (by decide))])
  generalize m * 2 ^ s = A at *
  generalize y * 2 ^ s = D at *
  go_wp2_with fail
  go_loopw [10] (fun i wr => ∃ k : Nat, k ≤ 4 - t ∧ i = .int .i64 ((k : Int) - 1) ∧ Hid (PWS w X m D (fun j => if k ≤ j then W64 (m / y) j else 0) (rfK A D k) wr)) (fun i _ => (intOf i + 1).toNat)
  case atStart => exact ⟨4 - t, Nat.le_refl _, congrArg (Value.int .i64) (by omega), HP⟩
  case round =>
   obtain ⟨k, hk, rfl, HK⟩ := hrel
   clear HP
   rcases Nat.eq_zero_or_pos k with rfl | hkp
   ·rw [show (((0 : Nat) : Int) - 1) = -1 from rfl]
    have HK2 : Hid (PWS w X m D (W64 (m / y)) (W64 (A % D)) wr) := Lib.hid (HK.out.congr (fun j _ => if_pos (Nat.zero_le _)) (fun j _ => by
     unfold rfK
     rw [if_neg (by omega), upW_zero]; rfl))
    have hAD : A % D < T256 := by
     refine Nat.lt_of_lt_of_le (Nat.mod_lt _ HN.out.2.2) (Nat.le_of_lt (Nat.lt_of_lt_of_le HN.out.1 ?_))
     rw [T256_w]
     exact Nat.pow_le_pow_right (by decide) (by omega)
    have HDn := Lib.hid (fun W => by
     have h := down_any (A % D) 0 s W hAD (by decide) hs
     rw [show 64 * 0 + s = s by omega, HMd.out] at h
     exact h)
    have hat : ∀ W : World, (Instr.arrayAt 163 (.slice (some ⟨X, 0, none⟩) 4 5)).run Tryz.prog W = .ok (.pointer (some ⟨X, 0, none⟩)) W := fun W => arr_at5 _ W
    clear HK hAD
    have a0 := (HK2.out.2.2.2.2.1.2 0 (by decide)).1
    have a1 := (HK2.out.2.2.2.2.1.2 1 (by decide)).1
    have a2 := (HK2.out.2.2.2.2.1.2 2 (by decide)).1
    have a3 := (HK2.out.2.2.2.2.1.2 3 (by decide)).1
    have b0 := (HK2.out.2.2.1.2 0 (by decide)).1
    have b1 := (HK2.out.2.2.1.2 1 (by decide)).1
    have b2 := (HK2.out.2.2.1.2 2 (by decide)).1
    have b3 := (HK2.out.2.2.1.2 3 (by decide)).1
    go_wp2_with fail
    go_region_with ((go_at_call 154; (with_reducible refine (HDn.out _).mono ?_); rintro e w1 ⟨rfl, hb1⟩; have HK9 := Lib.hid (HK2.out.drew.after hb1); clear hb1; have c0 := (HK9.out.2.2.1.2 0 (by decide)).1; have c1 := (HK9.out.2.2.1.2 1 (by decide)).1; have c2 := (HK9.out.2.2.1.2 2 (by decide)).1; have c3 := (HK9.out.2.2.1.2 3 (by decide)).1; have f0 := (HK9.out.2.2.1.2 0 (by decide)).2; have f1 := (HK9.out.2.2.1.2 1 (by decide)).2; have f2 := (HK9.out.2.2.1.2 2 (by decide)).2; have f3 := (HK9.out.2.2.1.2 3 (by decide)).2; have d0 := (HK9.out.2.2.2.1.2 0 (by decide)).1; have d1 := (HK9.out.2.2.2.1.2 1 (by decide)).1; have d2 := (HK9.out.2.2.2.1.2 2 (by decide)).1; have d3 := (HK9.out.2.2.2.1.2 3 (by decide)).1; have g0 := (HK9.out.2.2.2.1.2 0 (by decide)).2; have g1 := (HK9.out.2.2.2.1.2 1 (by decide)).2; have g2 := (HK9.out.2.2.2.1.2 2 (by decide)).2; have g3 := (HK9.out.2.2.2.1.2 3 (by decide)).2))
    all_goals
     clear a0 a1 a2 a3 b0 b1 b2 b3 c0 c1 c2 c3 f0 f1 f2 f3 d0 d1 d2 d3 g0 g1 g2 g3 hat
     have r2 := (HK9.out.2.2.1.put4 (W64 (m / y))).other4 (c := w.heap.size + 1 + 1 + 1) (by omega) (.int .u64 (W64 (m % y) 0 : Nat)) (.int .u64 (W64 (m % y) 1 : Nat)) (.int .u64 (W64 (m % y) 2 : Nat)) (.int .u64 (W64 (m % y) 3 : Nat))
     have r3 := (HK9.out.2.2.2.1.other4 (c := w.heap.size + 1 + 1) (by omega) (.int .u64 (W64 (m / y) 0 : Nat)) (.int .u64 (W64 (m / y) 1 : Nat)) (.int .u64 (W64 (m / y) 2 : Nat)) (.int .u64 (W64 (m / y) 3 : Nat))).put4 (W64 (m % y))
     have hb := below_put4 (below_put4 HK9.out.2.2.2.2.2.1 (c := w.heap.size + 1 + 1) (by omega) (.int .u64 (W64 (m / y) 0 : Nat)) (.int .u64 (W64 (m / y) 1 : Nat)) (.int .u64 (W64 (m / y) 2 : Nat)) (.int .u64 (W64 (m / y) 3 : Nat))) (c := w.heap.size + 1 + 1 + 1) (by omega) (.int .u64 (W64 (m % y) 0 : Nat)) (.int .u64 (W64 (m % y) 1 : Nat)) (.int .u64 (W64 (m % y) 2 : Nat)) (.int .u64 (W64 (m % y) 3 : Nat))
     generalize World.setCell _ _ _ = W9 at r2 r3 hb ⊢
     have p2 := r2.row
     have p3 := r3.row
     go_wp2_with fail
     exact bodyPost_ret (v := .tuple #[wv (W64 (m / y) 0 : Nat) (W64 (m / y) 1 : Nat) (W64 (m / y) 2 : Nat) (W64 (m / y) 3 : Nat), wv (W64 (m % y) 0 : Nat) (W64 (m % y) 1 : Nat) (W64 (m % y) 2 : Nat) (W64 (m % y) 3 : Nat)]) (by simp [results, Tryz.results171, go_sem, p2.c 0 rfl, p2.c 1 rfl, p2.c 2 rfl, p2.c 3 rfl, p3.c 0 rfl, p3.c 1 rfl, p3.c 2 rfl, p3.c 3 rfl]) rfl ⟨rfl, hb⟩
   ·obtain ⟨i, rfl⟩ : ∃ i, k = i + 1 := ⟨k - 1, by omega⟩
    rw [show (((i + 1 : Nat) : Int) - 1) = (i : Int) by omega]
    have CT := Lib.hid (fun cm cn => HK.out.call (t := t) ht (by omega) HN.out.2.2 HN.out.1 HN.out.2.1 cm cn)
    have CTd := Lib.hid (fun cm cn => HK.out.drew.call (t := t) ht (by omega) HN.out.2.2 HN.out.1 HN.out.2.1 cm cn)
    rw [HDv.out] at CT CTd
    have hi4 : (i : Int) < 4 := by omega
    have s0 : IntKind.i64.wrap ((i : Int) + ((t : Int) + 1)) = (i : Int) + ((t : Int) + 1) := IntWalk.i64_in _ (by omega)
    have s1 : IntKind.i64.wrap ((i : Int) + ((t : Int) + 1) + 1) = (i : Int) + ((t : Int) + 1) + 1 := IntWalk.i64_in _ (by omega)
    have s2 : (0 : Int) ≤ (i : Int) + ((t : Int) + 1) + 1 := by omega
    have s3 : ((i : Int) + ((t : Int) + 1) + 1).toNat = i + (t + 1 + 1) := by omega
    have s4 : (i : Int) + ((t : Int) + 1) + 1 ≤ 5 := by omega
    have s5 : (i : Int) ≤ (i : Int) + ((t : Int) + 1) + 1 := by omega
    have s6 : (0 : Int) ≤ (t : Int) + 1 := by omega
    have s7 : ((t : Int) + 1).toNat = t + 1 := by omega
    have s8 : (t : Int) + 1 ≤ 4 := by omega
    have s9 : i + (t + 1 + 1) - i = t + 1 + 1 := by omega
    go_wp2_with fail
    go_region_with ((go_at_call 174; with_reducible refine (CTd.out _ _).mono ?_; rintro e w1 ⟨rfl, c5, f5, hM⟩; have HM1 := Lib.hid hM; clear hM))
    all_goals
     clear c5 f5 s0 s1 s2 s3 s4 s5 s6 s7 s8 s9
     have HK2 : Hid (PWS w X m D (fun j => if i ≤ j then W64 (m / y) j else 0) (rfK A D i) (w1.setCell ⟨w.heap.size + 1 + 1, i, none⟩ (.int .u64 (W64 (m / y) i : Nat)))) := Lib.hid ((HM1.out.put i (W64 (m / y) i) (by omega)).congr (fun j hj => by
      show (if j = i then W64 (m / y) i else if i + 1 ≤ j then W64 (m / y) j else 0) = if i ≤ j then W64 (m / y) j else 0
      by_cases e : j = i
      ·rw [if_pos e, if_pos (by omega), e]
      ·by_cases e2 : i + 1 ≤ j
       ·rw [if_neg e, if_pos e2, if_pos (by omega)]
       ·rw [if_neg e, if_neg e2, if_neg (by omega)]) (fun _ _ => rfl))
     generalize World.setCell _ _ _ = W9 at HK2 ⊢
     go_wp2_with fail
     exact ⟨⟨i, by omega, rfl, HK2⟩, by simp [intOf]⟩
end Go.Proofs.YteolocchmhpggaaGreatDoor
namespace Go.Proofs.YteolocchmhpggaaGreatDoor
open Go.RowKit
theorem size_top {y : Nat} (h : y < T256) (hy : 0 < y) : ∃ t : Nat, t ≤ 3 ∧ sizeF (W64 y 0 : Nat) (W64 y 1 : Nat) (W64 y 2 : Nat) (W64 y 3 : Nat) = ((t + 1 : Nat) : Int) ∧ 18446744073709551616 ^ t ≤ y ∧ y < 18446744073709551616 ^ (t + 1) := by
 have up : ∀ n, upW y n = 0 → y < 18446744073709551616 ^ n := fun n hn => by
  have hp : 0 < 18446744073709551616 ^ n := Nat.pow_pos (by decide)
  have h1 := Nat.div_add_mod y (18446744073709551616 ^ n)
  have h2 := Nat.mod_lt y hp
  unfold upW at hn
  rw [hn, Nat.mul_zero, Nat.zero_add] at h1
  rw [← h1]
  exact h2
 have low : ∀ t, W64 y t ≠ 0 → 18446744073709551616 ^ t ≤ y := fun t ht => by
  apply Nat.le_of_not_lt
  intro h1
  exact ht (W64_high h1 (Nat.le_refl _))
 have h4 := upW_four h
 unfold sizeF
 by_cases h3 : W64 y 3 = 0
 ·have h3' := upW_less h4 h3
  rw [if_pos (by omega)]
  by_cases h2 : W64 y 2 = 0
  ·have h2' := upW_less h3' h2
   rw [if_pos (by omega)]
   by_cases h1 : W64 y 1 = 0
   ·have h1' := upW_less h2' h1
    rw [if_pos (by omega)]
    by_cases h0 : W64 y 0 = 0
    ·have := up 0 (upW_less h1' h0)
     rw [Nat.pow_zero] at this
     omega
    ·rw [if_neg (by omega)]; exact ⟨0, by omega, rfl, low 0 h0, up 1 h1'⟩
   ·rw [if_neg (by omega)]; exact ⟨1, by omega, rfl, low 1 h1, up 2 h2'⟩
  ·rw [if_neg (by omega)]; exact ⟨2, by omega, rfl, low 2 h2, up 3 h3'⟩
 ·rw [if_neg (by omega)]; exact ⟨3, by omega, rfl, low 3 h3, up 4 h4⟩
theorem ordW_num {m y : Nat} (hm : m < T256) (hy : y < T256) : ordW (W64 m 0 : Nat) (W64 m 1 : Nat) (W64 m 2 : Nat) (W64 m 3 : Nat) (W64 y 0 : Nat) (W64 y 1 : Nat) (W64 y 2 : Nat) (W64 y 3 : Nat) = cmpI (m : Int) (y : Int) := by
 have key : ∀ z : Nat, z < T256 → valI (row4 (W64 z 0 : Nat) (W64 z 1 : Nat) (W64 z 2 : Nat) (W64 z 3 : Nat)) 4 = (z : Int) := fun z hz => by
  have h1 : valI (row4 (W64 z 0 : Nat) (W64 z 1 : Nat) (W64 z 2 : Nat) (W64 z 3 : Nat)) 4 = valI (fun i => ((W64 z i : Nat) : Int)) 4 := rfl
  rw [h1, valI_cast, valW_W64, ← T256_w, Nat.mod_eq_of_lt hz]
 rw [← ordF_row4, ordF_val (row4_W64_bd m) (row4_W64_bd y), key m hm, key y hy]
set_option maxRecDepth 100000 in
set_option maxHeartbeats 2000000 in
theorem parted_any (m y : Nat) (w : World) (hm : m < T256) (hy : y < T256) (hy0 : 0 < y) :
 Calls Tryz.prog 169 #[wv (W64 m 0 : Nat) (W64 m 1 : Nat) (W64 m 2 : Nat) (W64 m 3 : Nat), wv (W64 y 0 : Nat) (W64 y 1 : Nat) (W64 y 2 : Nat) (W64 y 3 : Nat)] w fun e w' =>
  e = .returned (.tuple #[wv (W64 (m / y) 0 : Nat) (W64 (m / y) 1 : Nat) (W64 (m / y) 2 : Nat) (W64 (m / y) 3 : Nat), wv (W64 (m % y) 0 : Nat) (W64 (m % y) 1 : Nat) (W64 (m % y) 2 : Nat) (W64 (m % y) 3 : Nat)]) ∧ Below w.heap.size w w' := by
 obtain ⟨t, ht, hsz, ht1, ht2⟩ := size_top hy hy0
 have HO := Lib.hid (fun p q k k' W (h : R4 W p (W64 m)) (g : R4 W q (W64 y)) => by
  have h1 := order_words (W64 m 0 : Nat) (W64 m 1 : Nat) (W64 m 2 : Nat) (W64 m 3 : Nat) (W64 y 0 : Nat) (W64 y 1 : Nat) (W64 y 2 : Nat) (W64 y 3 : Nat) p q k k' W (h.2 0 (by decide)).1 (h.2 1 (by decide)).1 (h.2 2 (by decide)).1 (h.2 3 (by decide)).1 (g.2 0 (by decide)).1 (g.2 1 (by decide)).1 (g.2 2 (by decide)).1 (g.2 3 (by decide)).1
  rw [ordW_num hm hy] at h1
  exact h1)
 have HSz := Lib.hid (fun W => by
  have h := size_any (W64 y 0 : Nat) (W64 y 1 : Nat) (W64 y 2 : Nat) (W64 y 3 : Nat) W
  rw [hsz] at h
  exact h)
 have hS := PW0.first w m y 163
 have HS := Lib.hid hS
 clear hS
 have HAll := Lib.hid (And.intro hm (And.intro hy (And.intro hy0 (And.intro ht1 (And.intro ht2 hsz)))))
 clear hsz ht1 ht2 hm hy hy0
 go_enter Tryz.func169, Tryz.ntmps169
 go_upto_region 1 with fail
 generalize World.alloc _ _ = W0 at HS ⊢
 have hSd := fun k => (HS.out.after (below_drewN (Below.refl W0.heap.size W0) k))
 have HSd := Lib.hid hSd
 clear hSd
 have HOx := Lib.hid (fun k c c' => HO.out w.heap.size (w.heap.size + 1) c c' (W0.drewN k) (HSd.out k).1 (HSd.out k).2.1)
 go_quiet ((go_at_call 107; exact Calls.quiet_of (HOx.out _ _ _)))
 have HS1 := Lib.hid (HSd.out nq)
 clear HOx HSd HO HS
 generalize World.drewN _ _ = W1 at HS1 ⊢
 by_cases hlt : m < y
 ·have hc : cmpI (m : Int) (y : Int) < 0 := by
   unfold cmpI
   rw [if_pos (by omega)]
   decide
  have HQ : Hid (m / y = 0 ∧ m % y = m) := Lib.hid ⟨Nat.div_eq_of_lt hlt, Nat.mod_eq_of_lt hlt⟩
  clear hlt
  have a0 := (HS1.out.1.2 0 (by decide)).1
  have a1 := (HS1.out.1.2 1 (by decide)).1
  have a2 := (HS1.out.1.2 2 (by decide)).1
  have a3 := (HS1.out.1.2 3 (by decide)).1
  have c0 := (HS1.out.2.2.1.2 0 (by decide)).1
  have c1 := (HS1.out.2.2.1.2 1 (by decide)).1
  have c2 := (HS1.out.2.2.1.2 2 (by decide)).1
  have c3 := (HS1.out.2.2.1.2 3 (by decide)).1
  have f0 := (HS1.out.2.2.1.2 0 (by decide)).2
  have f1 := (HS1.out.2.2.1.2 1 (by decide)).2
  have f2 := (HS1.out.2.2.1.2 2 (by decide)).2
  have f3 := (HS1.out.2.2.1.2 3 (by decide)).2
  have d0 := (HS1.out.2.2.2.1.2 0 (by decide)).1
  have d1 := (HS1.out.2.2.2.1.2 1 (by decide)).1
  have d2 := (HS1.out.2.2.2.1.2 2 (by decide)).1
  have d3 := (HS1.out.2.2.2.1.2 3 (by decide)).1
  have g0 := (HS1.out.2.2.2.1.2 0 (by decide)).2
  have g1 := (HS1.out.2.2.2.1.2 1 (by decide)).2
  have g2 := (HS1.out.2.2.2.1.2 2 (by decide)).2
  have g3 := (HS1.out.2.2.2.1.2 3 (by decide)).2
  go_wp2_with fail
  go_region
  all_goals
   clear a0 a1 a2 a3 c0 c1 c2 c3 f0 f1 f2 f3 d0 d1 d2 d3 g0 g1 g2 g3 hc
   have r2 : R4 ((((W1.setCell ⟨w.heap.size + 1 + 1, 0, none⟩ (.int .u64 0)).setCell ⟨w.heap.size + 1 + 1, 1, none⟩ (.int .u64 0)).setCell ⟨w.heap.size + 1 + 1, 2, none⟩ (.int .u64 0)).setCell ⟨w.heap.size + 1 + 1, 3, none⟩ (.int .u64 0)) (w.heap.size + 1 + 1) (fun _ => 0) := HS1.out.2.2.1.put4 (fun _ => 0)
   have r3 := (HS1.out.2.2.2.1.other4 (c := w.heap.size + 1 + 1) (by omega) (.int .u64 0) (.int .u64 0) (.int .u64 0) (.int .u64 0)).put4 (W64 m)
   replace r2 := r2.other4 (c := w.heap.size + 1 + 1 + 1) (by omega) (.int .u64 (W64 (m) 0 : Nat)) (.int .u64 (W64 (m) 1 : Nat)) (.int .u64 (W64 (m) 2 : Nat)) (.int .u64 (W64 (m) 3 : Nat))
   have hb := below_put4 (below_put4 HS1.out.2.2.2.2 (c := w.heap.size + 1 + 1) (by omega) (.int .u64 0) (.int .u64 0) (.int .u64 0) (.int .u64 0)) (c := w.heap.size + 1 + 1 + 1) (by omega) (.int .u64 (W64 (m) 0 : Nat)) (.int .u64 (W64 (m) 1 : Nat)) (.int .u64 (W64 (m) 2 : Nat)) (.int .u64 (W64 (m) 3 : Nat))
   generalize World.setCell _ _ _ = W9 at r2 r3 hb ⊢
   have p2 := (show R4 W9 (w.heap.size + 1 + 1) (W64 (m / y)) from r2.congr (fun i _ => by rw [HQ.out.1]; simp [W64])).row
   have p3 := (show R4 W9 (w.heap.size + 1 + 1 + 1) (W64 (m % y)) from by rw [HQ.out.2]; exact r3).row
   go_wp2_with fail
   exact bodyPost_ret (v := .tuple #[wv (W64 (m / y) 0 : Nat) (W64 (m / y) 1 : Nat) (W64 (m / y) 2 : Nat) (W64 (m / y) 3 : Nat), wv (W64 (m % y) 0 : Nat) (W64 (m % y) 1 : Nat) (W64 (m % y) 2 : Nat) (W64 (m % y) 3 : Nat)]) (by simp [results, Tryz.results169, go_sem, p2.c 0 rfl, p2.c 1 rfl, p2.c 2 rfl, p2.c 3 rfl, p3.c 0 rfl, p3.c 1 rfl, p3.c 2 rfl, p3.c 3 rfl]) rfl ⟨rfl, hb.drew⟩
 ·have hc : ¬ cmpI (m : Int) (y : Int) < 0 := by
   unfold cmpI
   rw [if_neg (by omega)]
   split <;> decide
  clear hlt
  have y0 := (HS1.out.2.1.2 0 (by decide)).1
  have y1 := (HS1.out.2.1.2 1 (by decide)).1
  have y2 := (HS1.out.2.1.2 2 (by decide)).1
  have y3 := (HS1.out.2.1.2 3 (by decide)).1
  go_wp2_with fail
  refine (HSz.out _).mono ?_
  rintro e w2 ⟨rfl, hb1⟩
  have HS2 := Lib.hid (HS1.out.after hb1)
  clear hb1 HS1 y0 y1 y2 y3 hc
  have y0 := (HS2.out.2.1.2 0 (by decide)).1
  have y1 := (HS2.out.2.1.2 1 (by decide)).1
  have y2 := (HS2.out.2.1.2 2 (by decide)).1
  have y3 := (HS2.out.2.1.2 3 (by decide)).1
  have a0 := (HS2.out.1.2 0 (by decide)).1
  have a1 := (HS2.out.1.2 1 (by decide)).1
  have a2 := (HS2.out.1.2 2 (by decide)).1
  have a3 := (HS2.out.1.2 3 (by decide)).1
  obtain ⟨hm, hy, hy0, ht1, ht2, hsz⟩ := HAll.out
  rcases Nat.eq_zero_or_pos t with rfl | ht0
  ·rw [Nat.pow_one] at ht2
   obtain ⟨s, hs, hs1, hs2, hlz⟩ := lz_any y hy0 ht2
   have hy00 : W64 y 0 = y := by unfold W64; rw [Nat.pow_zero, Nat.div_one, Nat.mod_eq_of_lt ht2]
   rw [hy00] at y0
   have HP := Lib.hid (fun W => partedByWord_any m y s W hm ht2 hs hs1 hs2 (fun W => (hlz W).mono fun _ _ ⟨h1, h2⟩ => ⟨h1, 0, h2.symm⟩))
   have hml : m % y < 18446744073709551616 := Nat.lt_trans (Nat.mod_lt _ hy0) ht2
   obtain ⟨rr, HRR⟩ : ∃ rr : Nat, Hid (m % y = rr) := ⟨_, Lib.hid rfl⟩
   have HR3 : Hid (∀ i, i < 4 → (if i = 0 then rr else 0) = W64 (m % y) i) := Lib.hid (fun i hi => by
    rw [← HRR.out]
    match i, hi with
    | 0, _ => rw [if_pos rfl]; unfold W64; rw [Nat.pow_zero, Nat.div_one, Nat.mod_eq_of_lt hml]
    | i + 1, _ => rw [if_neg (by omega), W64_high (n := 1) (by rw [Nat.pow_one]; exact hml) (by omega)])
   rw [HRR.out] at HP
   clear hlz hs1 hs2 ht2 hy00 ht1 hsz hm hy hy0 hml
   go_wp2_with fail
   refine (HP.out _).mono ?_
   rintro e w3 ⟨rfl, hb1⟩
   have HS3 := Lib.hid (HS2.out.after hb1)
   clear hb1 HS2 y0 y1 y2 y3 a0 a1 a2 a3
   have c0 := (HS3.out.2.2.1.2 0 (by decide)).1
   have c1 := (HS3.out.2.2.1.2 1 (by decide)).1
   have c2 := (HS3.out.2.2.1.2 2 (by decide)).1
   have c3 := (HS3.out.2.2.1.2 3 (by decide)).1
   have f0 := (HS3.out.2.2.1.2 0 (by decide)).2
   have f1 := (HS3.out.2.2.1.2 1 (by decide)).2
   have f2 := (HS3.out.2.2.1.2 2 (by decide)).2
   have f3 := (HS3.out.2.2.1.2 3 (by decide)).2
   have d0 := (HS3.out.2.2.2.1.2 0 (by decide)).1
   have g0 := (HS3.out.2.2.2.1.2 0 (by decide)).2
   go_upto_region 5 with fail
   have r2 := (HS3.out.2.2.1.put4 (W64 (m / y))).other (p := ⟨w.heap.size + 1 + 1 + 1, 0, none⟩) (by show w.heap.size + 1 + 1 + 1 ≠ w.heap.size + 1 + 1; omega) (.int .u64 (rr : Nat))
   have r3 := (((HS3.out.2.2.2.1.other4 (c := w.heap.size + 1 + 1) (by omega) (.int .u64 (W64 (m / y) 0 : Nat)) (.int .u64 (W64 (m / y) 1 : Nat)) (.int .u64 (W64 (m / y) 2 : Nat)) (.int .u64 (W64 (m / y) 3 : Nat))).put 0 rr (by decide)).congr HR3.out)
   have hb := below_put1 (below_put4 HS3.out.2.2.2.2 (c := w.heap.size + 1 + 1) (by omega) (.int .u64 (W64 (m / y) 0 : Nat)) (.int .u64 (W64 (m / y) 1 : Nat)) (.int .u64 (W64 (m / y) 2 : Nat)) (.int .u64 (W64 (m / y) 3 : Nat))) (c := w.heap.size + 1 + 1 + 1) (by omega) 0 (.int .u64 (rr : Nat))
   clear c0 c1 c2 c3 f0 f1 f2 f3 d0 g0
   generalize World.setCell _ _ _ = W8 at r2 r3 hb ⊢
   have c0 := (r2.2 0 (by decide)).1
   have c1 := (r2.2 1 (by decide)).1
   have c2 := (r2.2 2 (by decide)).1
   have c3 := (r2.2 3 (by decide)).1
   have f0 := (r2.2 0 (by decide)).2
   have f1 := (r2.2 1 (by decide)).2
   have f2 := (r2.2 2 (by decide)).2
   have f3 := (r2.2 3 (by decide)).2
   have d0 := (r3.2 0 (by decide)).1
   have d1 := (r3.2 1 (by decide)).1
   have d2 := (r3.2 2 (by decide)).1
   have d3 := (r3.2 3 (by decide)).1
   have g0 := (r3.2 0 (by decide)).2
   have g1 := (r3.2 1 (by decide)).2
   have g2 := (r3.2 2 (by decide)).2
   have g3 := (r3.2 3 (by decide)).2
   go_region
   all_goals
    clear c0 c1 c2 c3 f0 f1 f2 f3 d0 d1 d2 d3 g0 g1 g2 g3
    have r5 := (r2.put4 (W64 (m / y))).other4 (c := w.heap.size + 1 + 1 + 1) (by omega) (.int .u64 (W64 (m % y) 0 : Nat)) (.int .u64 (W64 (m % y) 1 : Nat)) (.int .u64 (W64 (m % y) 2 : Nat)) (.int .u64 (W64 (m % y) 3 : Nat))
    have r6 := (r3.other4 (c := w.heap.size + 1 + 1) (by omega) (.int .u64 (W64 (m / y) 0 : Nat)) (.int .u64 (W64 (m / y) 1 : Nat)) (.int .u64 (W64 (m / y) 2 : Nat)) (.int .u64 (W64 (m / y) 3 : Nat))).put4 (W64 (m % y))
    replace hb := below_put4 (below_put4 hb (c := w.heap.size + 1 + 1) (by omega) (.int .u64 (W64 (m / y) 0 : Nat)) (.int .u64 (W64 (m / y) 1 : Nat)) (.int .u64 (W64 (m / y) 2 : Nat)) (.int .u64 (W64 (m / y) 3 : Nat))) (c := w.heap.size + 1 + 1 + 1) (by omega) (.int .u64 (W64 (m % y) 0 : Nat)) (.int .u64 (W64 (m % y) 1 : Nat)) (.int .u64 (W64 (m % y) 2 : Nat)) (.int .u64 (W64 (m % y) 3 : Nat))
    clear r2 r3
    generalize World.setCell _ _ _ = W9 at r5 r6 hb ⊢
    have p2 := r5.row
    have p3 := r6.row
    go_wp2_with fail
    exact bodyPost_ret (v := .tuple #[wv (W64 (m / y) 0 : Nat) (W64 (m / y) 1 : Nat) (W64 (m / y) 2 : Nat) (W64 (m / y) 3 : Nat), wv (W64 (m % y) 0 : Nat) (W64 (m % y) 1 : Nat) (W64 (m % y) 2 : Nat) (W64 (m % y) 3 : Nat)]) (by simp [results, Tryz.results169, go_sem, p2.c 0 rfl, p2.c 1 rfl, p2.c 2 rfl, p2.c 3 rfl, p3.c 0 rfl, p3.c 1 rfl, p3.c 2 rfl, p3.c 3 rfl]) rfl ⟨rfl, hb.drew⟩
  ·have HP := Lib.hid (fun W => partedByWords_any m y t W hm ht0 ht ht1 ht2 hsz)
   have ht0' : ¬ (t : Int) + 1 = 1 := by omega
   have ht0'' : ¬ t = 0 := by omega
   clear hm hy hy0 ht1 ht2 hsz
   go_wp2_with fail
   refine (HP.out _).mono ?_
   rintro e w3 ⟨rfl, hb1⟩
   have HS3 := Lib.hid (HS2.out.after hb1)
   clear hb1 HS2 y0 y1 y2 y3 a0 a1 a2 a3
   have c0 := (HS3.out.2.2.1.2 0 (by decide)).1
   have c1 := (HS3.out.2.2.1.2 1 (by decide)).1
   have c2 := (HS3.out.2.2.1.2 2 (by decide)).1
   have c3 := (HS3.out.2.2.1.2 3 (by decide)).1
   have f0 := (HS3.out.2.2.1.2 0 (by decide)).2
   have f1 := (HS3.out.2.2.1.2 1 (by decide)).2
   have f2 := (HS3.out.2.2.1.2 2 (by decide)).2
   have f3 := (HS3.out.2.2.1.2 3 (by decide)).2
   have d0 := (HS3.out.2.2.2.1.2 0 (by decide)).1
   have d1 := (HS3.out.2.2.2.1.2 1 (by decide)).1
   have d2 := (HS3.out.2.2.2.1.2 2 (by decide)).1
   have d3 := (HS3.out.2.2.2.1.2 3 (by decide)).1
   have g0 := (HS3.out.2.2.2.1.2 0 (by decide)).2
   have g1 := (HS3.out.2.2.2.1.2 1 (by decide)).2
   have g2 := (HS3.out.2.2.2.1.2 2 (by decide)).2
   have g3 := (HS3.out.2.2.2.1.2 3 (by decide)).2
   go_wp2_with fail
   clear c0 c1 c2 c3 f0 f1 f2 f3 d0 d1 d2 d3 g0 g1 g2 g3
   have r5 := (HS3.out.2.2.1.put4 (W64 (m / y))).other4 (c := w.heap.size + 1 + 1 + 1) (by omega) (.int .u64 (W64 (m % y) 0 : Nat)) (.int .u64 (W64 (m % y) 1 : Nat)) (.int .u64 (W64 (m % y) 2 : Nat)) (.int .u64 (W64 (m % y) 3 : Nat))
   have r6 := (HS3.out.2.2.2.1.other4 (c := w.heap.size + 1 + 1) (by omega) (.int .u64 (W64 (m / y) 0 : Nat)) (.int .u64 (W64 (m / y) 1 : Nat)) (.int .u64 (W64 (m / y) 2 : Nat)) (.int .u64 (W64 (m / y) 3 : Nat))).put4 (W64 (m % y))
   have hb := below_put4 (below_put4 HS3.out.2.2.2.2 (c := w.heap.size + 1 + 1) (by omega) (.int .u64 (W64 (m / y) 0 : Nat)) (.int .u64 (W64 (m / y) 1 : Nat)) (.int .u64 (W64 (m / y) 2 : Nat)) (.int .u64 (W64 (m / y) 3 : Nat))) (c := w.heap.size + 1 + 1 + 1) (by omega) (.int .u64 (W64 (m % y) 0 : Nat)) (.int .u64 (W64 (m % y) 1 : Nat)) (.int .u64 (W64 (m % y) 2 : Nat)) (.int .u64 (W64 (m % y) 3 : Nat))
   generalize World.setCell _ _ _ = W9 at r5 r6 hb ⊢
   have p2 := r5.row
   have p3 := r6.row
   exact bodyPost_ret (v := .tuple #[wv (W64 (m / y) 0 : Nat) (W64 (m / y) 1 : Nat) (W64 (m / y) 2 : Nat) (W64 (m / y) 3 : Nat), wv (W64 (m % y) 0 : Nat) (W64 (m % y) 1 : Nat) (W64 (m % y) 2 : Nat) (W64 (m % y) 3 : Nat)]) (by simp [results, Tryz.results169, go_sem, p2.c 0 rfl, p2.c 1 rfl, p2.c 2 rfl, p2.c 3 rfl, p3.c 0 rfl, p3.c 1 rfl, p3.c 2 rfl, p3.c 3 rfl]) rfl ⟨rfl, hb⟩
end Go.Proofs.YteolocchmhpggaaGreatDoor
namespace Go.Proofs.YteolocchmhpggaaGreatDoor
open Go.RowKit
theorem zero_words {q : Nat} (hq : q < T256) : zeroB (W64 q 0 : Nat) (W64 q 1 : Nat) (W64 q 2 : Nat) (W64 q 3 : Nat) = decide (q = 0) := by
 by_cases h : q = 0
 ·subst h
  rw [decide_eq_true rfl]
  simp [W64, zeroB]
 ·rw [decide_eq_false h]
  cases hz : zeroB (W64 q 0 : Nat) (W64 q 1 : Nat) (W64 q 2 : Nat) (W64 q 3 : Nat)
  ·rfl
  ·exfalso
   obtain ⟨h0, h1, h2, h3⟩ := zeroB_iff.1 hz
   have hv := valW_W64 q 4
   rw [← T256_w, Nat.mod_eq_of_lt hq] at hv
   simp only [valW] at hv
   apply h
   rw [← hv, show W64 q 0 = 0 by omega, show W64 q 1 = 0 by omega, show W64 q 2 = 0 by omega, show W64 q 3 = 0 by omega]
theorem sign_put (b : Bool) (q : Nat) : decide ((if b = true then -(q : Int) else q) < 0) = (b && !decide (q = 0)) := by
 cases b
 ·rw [if_neg (by decide), Bool.false_and]
  exact decide_eq_false (by omega)
 ·rw [if_pos rfl, Bool.true_and]
  by_cases h : q = 0
  ·subst h; rfl
  ·rw [decide_eq_false h, decide_eq_true (by omega)]; rfl
theorem quo_z (x y : Int) (w : World) (hx : x.natAbs < T256) (hy : y.natAbs < T256) (hy0 : y ≠ 0) :
 Calls Tryz.prog 167 #[ivz x, ivz y] w fun e w' => e = .returned (.tuple #[ivz (x.tdiv y), ivz (x.tmod y), .int .i64 0]) ∧ Below w.heap.size w w' := by
 have hyp : 0 < y.natAbs := by omega
 have hq : x.natAbs / y.natAbs < T256 := Nat.lt_of_le_of_lt (Nat.div_le_self _ _) hx
 have hr : x.natAbs % y.natAbs < T256 := Nat.lt_of_le_of_lt (Nat.mod_le _ _) hx
 have h := quo_of (decide (x < 0)) (decide (y < 0)) (W64 x.natAbs 0 : Nat) (W64 x.natAbs 1 : Nat) (W64 x.natAbs 2 : Nat) (W64 x.natAbs 3 : Nat) (W64 y.natAbs 0 : Nat) (W64 y.natAbs 1 : Nat) (W64 y.natAbs 2 : Nat) (W64 y.natAbs 3 : Nat) _ _ _ _ _ _ _ _ w (ivz_right x hx) (ivz_right y hy) (by rw [zero_words hy]; exact decide_eq_false (by omega)) (fun W => parted_any x.natAbs y.natAbs W hx hy hyp)
 have e1 : ivz (x.tdiv y) = iv (!(decide (x < 0) == decide (y < 0)) && !zeroB (W64 (x.natAbs / y.natAbs) 0 : Nat) (W64 (x.natAbs / y.natAbs) 1 : Nat) (W64 (x.natAbs / y.natAbs) 2 : Nat) (W64 (x.natAbs / y.natAbs) 3 : Nat)) (W64 (x.natAbs / y.natAbs) 0 : Nat) (W64 (x.natAbs / y.natAbs) 1 : Nat) (W64 (x.natAbs / y.natAbs) 2 : Nat) (W64 (x.natAbs / y.natAbs) 3 : Nat) := by
  have hs : decide (x.tdiv y < 0) = (!(decide (x < 0) == decide (y < 0)) && !decide (x.natAbs / y.natAbs = 0)) := by
   rw [tdiv_sign, sign_put]
  rw [ivz, tdiv_abs, hs, zero_words hq]
 have e2 : ivz (x.tmod y) = iv (decide (x < 0) && !zeroB (W64 (x.natAbs % y.natAbs) 0 : Nat) (W64 (x.natAbs % y.natAbs) 1 : Nat) (W64 (x.natAbs % y.natAbs) 2 : Nat) (W64 (x.natAbs % y.natAbs) 3 : Nat)) (W64 (x.natAbs % y.natAbs) 0 : Nat) (W64 (x.natAbs % y.natAbs) 1 : Nat) (W64 (x.natAbs % y.natAbs) 2 : Nat) (W64 (x.natAbs % y.natAbs) 3 : Nat) := by
  have hs : decide (x.tmod y < 0) = (decide (x < 0) && !decide (x.natAbs % y.natAbs = 0)) := by
   rw [tmod_sign, sign_put]
  rw [ivz, tmod_abs, hs, zero_words hr]
 rw [e1, e2]
 exact h
end Go.Proofs.YteolocchmhpggaaGreatDoor

namespace Go.Proofs.YteolocchmhpggaaGreatDoor
open Go.RowKit
theorem bitB_word {z j : Nat} (_ : j < 256) : bitB (W64 z) j = z.testBit j := by
 unfold bitB W64
 rw [show (18446744073709551616 : Nat) = 2 ^ 64 from rfl, ← Nat.pow_mul, Nat.testBit_mod_two_pow, Nat.testBit_div_two_pow, decide_eq_true (by omega : j % 64 < 64), Bool.true_and]
 congr 1
 omega
theorem T256_two : T256 = 2 ^ 256 := by decide
theorem ctz_all {x : Nat} (h0 : x ≠ 0) (h : x < T256) : ∃ m, x = 2 ^ Lib.ctz 256 x * (2 * m + 1) ∧ Lib.ctz 256 x < 256 := by
 unfold Lib.ctz
 rw [if_neg h0]
 exact Lib.ctzFrom_spec 256 x (Nat.pos_of_ne_zero h0) (by rw [← T256_two]; exact h)
theorem first_place {z : Nat} (h0 : z ≠ 0) (h : z < T256) : ∃ rest, bitsTo (W64 z) 4 = Lib.ctz 256 z :: rest := by
 obtain ⟨m, e, hk⟩ := ctz_all h0 h
 generalize Lib.ctz 256 z = k at *
 refine ⟨(List.range 256).filter (fun j => bitB (W64 z) j && decide (j ≠ k)), ?_⟩
 rw [bitsTo_list (W64 z) (fun i => W64_lt z i)]
 refine filter_low _ _ k 256 hk ?_ ?_ (fun _ => rfl)
 ·rw [bitB_word hk, e, Nat.testBit_two_pow_mul]; simp
 ·intro j hj
  rw [bitB_word (by omega), e, Nat.testBit_two_pow_mul, decide_eq_false (by omega), Bool.false_and]
theorem no_place : bitsTo (W64 0) 4 = [] := by
 rw [bitsTo_list (W64 0) (fun i => W64_lt 0 i), List.filter_eq_nil_iff]
 intro j hj
 rw [bitB_word (by simpa using hj)]; simp
def bothT (x y : Nat) : Nat := if y = 0 then Lib.ctz 256 x else min (Lib.ctz 256 x) (Lib.ctz 256 y)
theorem both_least {x y : Nat} (hy : y < T256) : least (Lib.ctz 256 x) (bitsTo (W64 y) 4) = bothT x y := by
 unfold bothT
 by_cases h : y = 0
 ·subst h; rw [no_place, if_pos rfl]; rfl
 ·obtain ⟨r, e⟩ := first_place h hy
  rw [e, if_neg h]; rfl
theorem twos_z (z b c : Nat) (w : World) (h0 : z ≠ 0) (h : z < T256) (hr : Row w b [.int .u64 (W64 z 0 : Nat), .int .u64 (W64 z 1 : Nat), .int .u64 (W64 z 2 : Nat), .int .u64 (W64 z 3 : Nat)]) (ht : TabTz w) (hw0 : 0 < w.heap.size) :
 Calls Tryz.prog 153 #[.slice (some ⟨b, 0, none⟩) 1 c] w fun e w' => e = .returned (.int .i64 (Lib.ctz 256 z : Nat)) ∧ Below w.heap.size w w' := by
 obtain ⟨r, e⟩ := first_place h0 h
 obtain ⟨_, _, hk⟩ := ctz_all h0 h
 exact twos_one b c _ r (W64 z) (fun i => W64_lt z i) e hk w hr ht hw0
theorem twos_zz (x y b c : Nat) (w : World) (h0 : x ≠ 0) (h : x < T256) (hy : y < T256) (hr : Row w b [.int .u64 (W64 x 0 : Nat), .int .u64 (W64 x 1 : Nat), .int .u64 (W64 x 2 : Nat), .int .u64 (W64 x 3 : Nat), .int .u64 (W64 y 0 : Nat), .int .u64 (W64 y 1 : Nat), .int .u64 (W64 y 2 : Nat), .int .u64 (W64 y 3 : Nat)]) (ht : TabTz w) (hw0 : 0 < w.heap.size) :
 Calls Tryz.prog 153 #[.slice (some ⟨b, 0, none⟩) 2 c] w fun e w' => e = .returned (.int .i64 (bothT x y : Nat)) ∧ Below w.heap.size w w' := by
 obtain ⟨r, e⟩ := first_place h0 h
 obtain ⟨_, _, hk⟩ := ctz_all h0 h
 rw [← both_least hy]
 exact twos_two_any b c _ r _ (W64 x) (W64 y) (fun i => W64_lt x i) (fun i => W64_lt y i) e rfl hk w hr ht hw0
def oddP (z : Nat) : Nat := z / 2 ^ Lib.ctz 256 z
theorem oddP_spec {z : Nat} (h0 : z ≠ 0) (h : z < T256) : z = 2 ^ Lib.ctz 256 z * oddP z ∧ oddP z % 2 = 1 ∧ oddP z ≤ z ∧ Lib.ctz 256 z < 256 := by
 obtain ⟨m, e, hk⟩ := ctz_all h0 h
 have hp : 0 < 2 ^ Lib.ctz 256 z := Nat.pow_pos (by decide)
 have h1 : oddP z = 2 * m + 1 := by
  unfold oddP
  rw (occs := .pos [1]) [e]
  exact Nat.mul_div_cancel_left _ hp
 exact ⟨by rw [h1]; exact e, by omega, Nat.div_le_self _ _, hk⟩
theorem oddP_gcd {a z : Nat} (ha : a % 2 = 1) (h0 : z ≠ 0) (h : z < T256) : a.gcd (oddP z) = a.gcd z := by
 obtain ⟨e, _⟩ := oddP_spec h0 h
 rw (occs := .pos [2]) [e]
 exact (gcd_twos ha _ _).symm
theorem gcd_both {x y : Nat} (h0 : x ≠ 0) (hx : x < T256) (hy : y < T256) : (oddP x).gcd y * 2 ^ bothT x y = x.gcd y ∧ bothT x y < 256 := by
 obtain ⟨e, ho, _, hk⟩ := oddP_spec h0 hx
 unfold bothT
 by_cases hz : y = 0
 ·subst hz
  rw [if_pos rfl, Nat.gcd_zero_right, Nat.gcd_zero_right, Nat.mul_comm]
  exact ⟨e.symm, hk⟩
 ·obtain ⟨e2, ho2, _, hk2⟩ := oddP_spec hz hy
  rw [if_neg hz]
  refine ⟨?_, by omega⟩
  have hg : (oddP x).gcd y = (oddP x).gcd (oddP y) := (oddP_gcd ho hz hy).symm
  rw [hg]
  generalize oddP x = p at *
  generalize oddP y = q at *
  generalize Lib.ctz 256 x = i at *
  generalize Lib.ctz 256 y = j at *
  subst e
  subst e2
  by_cases hij : i ≤ j
  ·obtain ⟨d, rfl⟩ : ∃ d, j = i + d := ⟨j - i, by omega⟩
   rw [Nat.min_eq_left hij, Nat.pow_add, Nat.mul_assoc, Nat.gcd_mul_left, gcd_twos ho, Nat.mul_comm]
  ·obtain ⟨d, rfl⟩ : ∃ d, i = j + d := ⟨i - j, by omega⟩
   rw [Nat.min_eq_right (by omega), Nat.pow_add, Nat.mul_assoc, Nat.gcd_mul_left, Nat.gcd_comm (2 ^ d * p), gcd_twos ho2, Nat.gcd_comm q, Nat.mul_comm]
end Go.Proofs.YteolocchmhpggaaGreatDoor
namespace Go.Proofs.YteolocchmhpggaaGreatDoor
open Go.RowKit
theorem dif_words {m n : Nat} (hle : m ≤ n) (hn : n < T256) (i : Nat) (hi : i < 4) : difF (fun i => ((W64 n i : Nat) : Int)) (fun i => ((W64 m i : Nat) : Int)) i = ((W64 (n - m) i : Nat) : Int) := by
 have hx := cast_bd (R := W64 n) (fun i => W64_lt n i)
 have hy := cast_bd (R := W64 m) (fun i => W64_lt m i)
 have h1 := valI_diff hx hy 4
 have h2 := valI_bd (difF_bd (fun i => ((W64 n i : Nat) : Int)) (fun i => ((W64 m i : Nat) : Int))) 4
 have h3 := borF_bd (fun i => ((W64 n i : Nat) : Int)) (fun i => ((W64 m i : Nat) : Int)) 4
 have hd : ∀ i, 0 ≤ difF (fun i => ((W64 n i : Nat) : Int)) (fun i => ((W64 m i : Nat) : Int)) i ∧ difF (fun i => ((W64 n i : Nat) : Int)) (fun i => ((W64 m i : Nat) : Int)) i < B64 := difF_bd _ _
 generalize difF (fun i => ((W64 n i : Nat) : Int)) (fun i => ((W64 m i : Nat) : Int)) = d at *
 obtain ⟨e, he⟩ : ∃ e : Nat → Nat, ∀ i, d i = (e i : Int) := ⟨fun i => (d i).toNat, fun i => (Int.toNat_of_nonneg (hd i).1).symm⟩
 have hel : ∀ i, e i < 18446744073709551616 := fun i => by
  have h4 := (hd i).2
  rw [he] at h4
  unfold B64 at h4
  omega
 rw [show d = fun i => (e i : Int) from funext he] at h1 h2 ⊢
 rw [valI_cast, valI_cast, valI_cast, valW_W64, valW_W64, ← T256_w, Nat.mod_eq_of_lt hn, Nat.mod_eq_of_lt (Nat.lt_of_le_of_lt hle hn)] at h1
 rw [valI_cast] at h2
 have h5 : valW e 4 = n - m := by
  rcases (show borF (fun i => ((W64 n i : Nat) : Int)) (fun i => ((W64 m i : Nat) : Int)) 4 = 0 ∨ borF (fun i => ((W64 n i : Nat) : Int)) (fun i => ((W64 m i : Nat) : Int)) 4 = 1 by omega) with h | h
  ·rw [h, Int.zero_mul] at h1
   omega
  ·rw [h, Int.one_mul] at h1
   have h6 := h2.2
   generalize B64 ^ 4 = P at *
   omega
 show ((e i : Nat) : Int) = _
 rw [← h5, W64_val 4 (fun i _ => hel i) i hi]
theorem takeFrom_z (m n bM bN c c' : Nat) (w : World) (hle : m ≤ n) (hn : n < T256) (hne : bM ≠ bN) (hM : R4 w bM (W64 m)) (hN : R4 w bN (W64 n)) :
 Calls Tryz.prog 152 #[.slice (some ⟨bN, 0, none⟩) 4 c, .slice (some ⟨bM, 0, none⟩) 4 c'] w fun e w' => e = .returned (.tuple #[]) ∧ On w w' bN ∧ R4 w' bN (W64 (n - m)) := by
 refine (takeFrom_any (fun i => ((W64 n i : Nat) : Int)) (fun i => ((W64 m i : Nat) : Int)) 4 bN 0 bM 0 c c' w (by decide) hne (fun i hi => by rw [Nat.zero_add]; exact hN.2 i hi) (fun i hi => by rw [Nat.zero_add]; exact (hM.2 i hi).1) (cast_bd (fun i => W64_lt n i)) (cast_bd (fun i => W64_lt m i))).mono ?_
 rintro e w' ⟨rfl, ho, hc, _⟩
 refine ⟨rfl, ho, by rw [ho.size]; exact hN.1, fun i hi => ⟨?_, (ho.frozen _).trans (hN.2 i hi).2⟩⟩
 have h := hc i hi
 rw [Nat.zero_add, dif_words hle hn i hi] at h
 exact h
theorem down_z (z k : Nat) (w : World) (hz : z < T256) (hk : k < 256) :
 Calls Tryz.prog 154 #[wv (W64 z 0 : Nat) (W64 z 1 : Nat) (W64 z 2 : Nat) (W64 z 3 : Nat), .int .i64 (k : Nat)] w fun e w' =>
  e = .returned (wv (W64 (z / 2 ^ k) 0 : Nat) (W64 (z / 2 ^ k) 1 : Nat) (W64 (z / 2 ^ k) 2 : Nat) (W64 (z / 2 ^ k) 3 : Nat)) ∧ Below w.heap.size w w' := by
 have h := down_any z (k / 64) (k % 64) w hz (by omega) (by omega)
 rw [show 64 * (k / 64) + k % 64 = k by omega] at h
 exact h
theorem up_z (z k : Nat) (w : World) (hk : k < 256) :
 Calls Tryz.prog 157 #[wv (W64 z 0 : Nat) (W64 z 1 : Nat) (W64 z 2 : Nat) (W64 z 3 : Nat), .int .i64 (k : Nat)] w fun e w' =>
  e = .returned (wv (W64 (z * 2 ^ k) 0 : Nat) (W64 (z * 2 ^ k) 1 : Nat) (W64 (z * 2 ^ k) 2 : Nat) (W64 (z * 2 ^ k) 3 : Nat)) ∧ Below w.heap.size w w' := by
 have h := up_any z (k / 64) (k % 64) w (by omega) (by omega)
 rw [show 64 * (k / 64) + k % 64 = k by omega] at h
 exact h
theorem size_one (z : Nat) (hz : z < T256) : (sizeF (W64 z 0 : Nat) (W64 z 1 : Nat) (W64 z 2 : Nat) (W64 z 3 : Nat) = 1 → z < 18446744073709551616) := by
 intro h
 rcases Nat.eq_zero_or_pos z with rfl | hp
 ·decide
 ·obtain ⟨t, _, h1, _, h2⟩ := size_top hz hp
  rw [h] at h1
  obtain rfl : t = 0 := by omega
  simpa using h2
end Go.Proofs.YteolocchmhpggaaGreatDoor

namespace Go.Proofs.YteolocchmhpggaaGreatDoor
open Go.RowKit
theorem W64_one (z : Nat) (h : z < 18446744073709551616) : W64 z 0 = z ∧ W64 z 1 = 0 ∧ W64 z 2 = 0 ∧ W64 z 3 = 0 :=
 ⟨by unfold W64; rw [Nat.pow_zero, Nat.div_one, Nat.mod_eq_of_lt h], W64_high (n := 1) (by rw [Nat.pow_one]; exact h) (by decide), W64_high (n := 1) (by rw [Nat.pow_one]; exact h) (by decide), W64_high (n := 1) (by rw [Nat.pow_one]; exact h) (by decide)⟩
def SG (w0 : World) (x y : Nat) (W : World) : Prop := R4 W w0.heap.size (W64 x) ∧ R4 W (w0.heap.size + 1) (W64 y) ∧ R4 W (w0.heap.size + 1 + 1) (fun _ => 0) ∧ Below w0.heap.size w0 W
section
variable {w0 W W1 : World} {x y : Nat}
theorem SG.after (h : SG w0 x y W) (hb : Below W.heap.size W W1) : SG w0 x y W1 := ⟨h.1.below hb, h.2.1.below hb, h.2.2.1.below hb, h.2.2.2.trans (hb.mono h.2.2.2.size)⟩
theorem SG.alloc (h : SG w0 x y W) (o : Obj) : SG w0 x y (W.alloc o) := h.after ((Below.refl _ _).alloc (Nat.le_refl _) _)
theorem SG.drew (h : SG w0 x y W) : SG w0 x y W.drew := h.after (Below.refl _ _).drew
theorem SG.drewN (h : SG w0 x y W) (k : Nat) : SG w0 x y (W.drewN k) := h.after (below_drewN (Below.refl _ _) k)
theorem SG.putM (h : SG w0 x y W) (z : Nat) : SG w0 z y ((((W.setCell ⟨w0.heap.size, 0, none⟩ (.int .u64 (W64 z 0 : Nat))).setCell ⟨w0.heap.size, 1, none⟩ (.int .u64 (W64 z 1 : Nat))).setCell ⟨w0.heap.size, 2, none⟩ (.int .u64 (W64 z 2 : Nat))).setCell ⟨w0.heap.size, 3, none⟩ (.int .u64 (W64 z 3 : Nat))) :=
 ⟨h.1.put4 _, h.2.1.other4 (by omega) _ _ _ _, h.2.2.1.other4 (by omega) _ _ _ _, below_put4 h.2.2.2 (Nat.le_refl _) _ _ _ _⟩
theorem SG.putN (h : SG w0 x y W) (z : Nat) : SG w0 x z ((((W.setCell ⟨w0.heap.size + 1, 0, none⟩ (.int .u64 (W64 z 0 : Nat))).setCell ⟨w0.heap.size + 1, 1, none⟩ (.int .u64 (W64 z 1 : Nat))).setCell ⟨w0.heap.size + 1, 2, none⟩ (.int .u64 (W64 z 2 : Nat))).setCell ⟨w0.heap.size + 1, 3, none⟩ (.int .u64 (W64 z 3 : Nat))) :=
 ⟨h.1.other4 (by omega) _ _ _ _, h.2.1.put4 _, h.2.2.1.other4 (by omega) _ _ _ _, below_put4 h.2.2.2 (by omega) _ _ _ _⟩
theorem SG.on {z : Nat} (h : SG w0 x y W) (ho : On W W1 (w0.heap.size + 1)) (hz : R4 W1 (w0.heap.size + 1) (W64 z)) : SG w0 x z W1 :=
 ⟨h.1.on ho (by omega), hz, h.2.2.1.on ho (by omega), h.2.2.2.trans (ho.below (by omega))⟩
end
theorem SG.first (w : World) (x y : Nat) (t : TypeId) : SG w x y ((((w.alloc (.cells #[.int .u64 (W64 x 0 : Nat), .int .u64 (W64 x 1 : Nat), .int .u64 (W64 x 2 : Nat), .int .u64 (W64 x 3 : Nat)] t)).alloc (.cells #[.int .u64 (W64 y 0 : Nat), .int .u64 (W64 y 1 : Nat), .int .u64 (W64 y 2 : Nat), .int .u64 (W64 y 3 : Nat)] t)).alloc (.cells #[.int .u64 0, .int .u64 0, .int .u64 0, .int .u64 0] t))) :=
 ⟨R4.of_row (((Row.at rfl _ _).alloc _).alloc _), R4.of_row ((Row.at (by simp) _ _).alloc _), R4.of_row (x := fun _ => 0) (Row.at (by simp) _ _),
  (((Below.refl w.heap.size w).alloc (Nat.le_refl _) _).alloc (by simp) _).alloc (by simp; omega) _⟩
set_option maxRecDepth 100000 in
set_option maxHeartbeats 4000000 in
theorem shared_any (m n : Nat) (w : World) (hm : m < T256) (hn : n < T256) (ht : TabTz w) (hw0 : 0 < w.heap.size) :
 Calls Tryz.prog 142 #[wv (W64 m 0 : Nat) (W64 m 1 : Nat) (W64 m 2 : Nat) (W64 m 3 : Nat), wv (W64 n 0 : Nat) (W64 n 1 : Nat) (W64 n 2 : Nat) (W64 n 3 : Nat)] w fun e w' =>
  e = .returned (wv (W64 (m.gcd n) 0 : Nat) (W64 (m.gcd n) 1 : Nat) (W64 (m.gcd n) 2 : Nat) (W64 (m.gcd n) 3 : Nat)) ∧ Below w.heap.size w w' := by
 have q1 := fun W => eqlArr 163 Tryz.underlying163 (W64 m 0 : Nat) (W64 m 1 : Nat) (W64 m 2 : Nat) (W64 m 3 : Nat) 0 0 0 0 W
 rw [words_nought hm] at q1
 have Ht := Lib.hid ht; clear ht
 by_cases h0 : m = 0
 ·rw [decide_eq_true h0] at q1
  have HG : Hid (m.gcd n = n) := Lib.hid (by rw [h0, Nat.gcd_zero_left])
  clear h0 hm hn
  generalize m.gcd n = G at *
  have HS := Lib.hid (SG.first w m n 163)
  go_enter Tryz.func142, Tryz.ntmps142
  go_upto_region 1 with fail
  generalize World.alloc _ _ = W0 at HS ⊢
  have a0 := (HS.out.1.2 0 (by decide)).1
  have a1 := (HS.out.1.2 1 (by decide)).1
  have a2 := (HS.out.1.2 2 (by decide)).1
  have a3 := (HS.out.1.2 3 (by decide)).1
  have b0 := (HS.out.2.1.2 0 (by decide)).1
  have b1 := (HS.out.2.1.2 1 (by decide)).1
  have b2 := (HS.out.2.1.2 2 (by decide)).1
  have b3 := (HS.out.2.1.2 3 (by decide)).1
  have c0 := (HS.out.2.2.1.2 0 (by decide)).1
  have cf0 := (HS.out.2.2.1.2 0 (by decide)).2
  have c1 := (HS.out.2.2.1.2 1 (by decide)).1
  have cf1 := (HS.out.2.2.1.2 1 (by decide)).2
  have c2 := (HS.out.2.2.1.2 2 (by decide)).1
  have cf2 := (HS.out.2.2.1.2 2 (by decide)).2
  have c3 := (HS.out.2.2.1.2 3 (by decide)).1
  have cf3 := (HS.out.2.2.1.2 3 (by decide)).2
  go_wp2_with fail
  have r2 := (HS.out.2.2.1.put4 (W64 n)).row
  have hb := below_put4 HS.out.2.2.2 (c := w.heap.size + 1 + 1) (by omega) (.int .u64 (W64 n 0 : Nat)) (.int .u64 (W64 n 1 : Nat)) (.int .u64 (W64 n 2 : Nat)) (.int .u64 (W64 n 3 : Nat))
  generalize World.setCell _ _ _ = W9 at r2 hb ⊢
  rw [HG.out]
  exact bodyPost_ret (v := wv (W64 n 0 : Nat) (W64 n 1 : Nat) (W64 n 2 : Nat) (W64 n 3 : Nat)) (by simp [results, Tryz.results142, go_sem, r2.c 0 rfl, r2.c 1 rfl, r2.c 2 rfl, r2.c 3 rfl]) rfl ⟨rfl, hb⟩
 ·rw [decide_eq_false h0] at q1
  obtain ⟨HG1, hbt⟩ := gcd_both h0 hm hn
  obtain ⟨-, ho, hle, hk⟩ := oddP_spec h0 hm
  have HTw := Lib.hid (fun b c W r h1 h2 => twos_zz m n b c W h0 hm hn r h1 h2)
  have HT1 := Lib.hid (fun b c W r h1 h2 => twos_z m b c W h0 hm r h1 h2)
  have HD1 := Lib.hid (fun W => down_z m (Lib.ctz 256 m) W hm hk)
  rw [show m / 2 ^ Lib.ctz 256 m = oddP m from rfl] at HD1
  have HN := Lib.hid hn
  have HO := Lib.hid (show oddP m % 2 = 1 ∧ oddP m < T256 from ⟨ho, Nat.lt_of_le_of_lt hle hm⟩)
  have HG := Lib.hid HG1
  clear HG1 hle hk ho hn hm h0
  generalize bothT m n = bt at *
  generalize m.gcd n = G at *
  generalize oddP m = x0 at *
  generalize Lib.ctz 256 m = cz at *
  have HS := Lib.hid (SG.first w m n 163)
  go_enter Tryz.func142, Tryz.ntmps142
  go_upto_region 1 with fail
  generalize World.alloc _ _ = W0 at HS ⊢
  have a0 := (HS.out.1.2 0 (by decide)).1
  have a1 := (HS.out.1.2 1 (by decide)).1
  have a2 := (HS.out.1.2 2 (by decide)).1
  have a3 := (HS.out.1.2 3 (by decide)).1
  have b0 := (HS.out.2.1.2 0 (by decide)).1
  have b1 := (HS.out.2.1.2 1 (by decide)).1
  have b2 := (HS.out.2.1.2 2 (by decide)).1
  have b3 := (HS.out.2.1.2 3 (by decide)).1
  go_wp2_with fail
  have hW0 : 0 < W0.heap.size := Nat.lt_of_lt_of_le hw0 HS.out.2.2.2.size
  refine (HTw.out _ _ (W0.alloc _) (Row.at rfl _ _) (Ht.out.below hw0 (HS.out.alloc _).2.2.2) (by simp)).mono ?_
  rintro e w1 ⟨rfl, hb1⟩
  have HS1 := Lib.hid ((HS.out.alloc _).after hb1)
  clear a0 a1 a2 a3 b0 b1 b2 b3 hb1 HS hW0 HTw q1
  have a0 := (HS1.out.1.2 0 (by decide)).1
  have a1 := (HS1.out.1.2 1 (by decide)).1
  have a2 := (HS1.out.1.2 2 (by decide)).1
  have a3 := (HS1.out.1.2 3 (by decide)).1
  have hlM := HS1.out.1.1
  go_wp2_with fail
  go_cut [] (fun wx => Hid (SG w x0 n wx))
  case first =>
   have hS := HS1.out
   go_region_with ((first
    | (go_at_call 153; refine (HT1.out _ _ _ (Row.at rfl _ _).drew (Ht.out.below hw0 (hS.2.2.2.alloc hS.2.2.2.size _).drew) (by simp)).mono ?_; rintro e w2 ⟨rfl, hb2⟩; have r2 := ((hS.alloc _).drew).after hb2; have c0 := (r2.1.2 0 (by decide)).1; have c1 := (r2.1.2 1 (by decide)).1; have c2 := (r2.1.2 2 (by decide)).1; have c3 := (r2.1.2 3 (by decide)).1)
    | (go_at_call 154; refine (HD1.out _).mono ?_; rintro e w3 ⟨rfl, hb3⟩; have r3 := r2.after hb3; have c0 := (r3.1.2 0 (by decide)).1; have c1 := (r3.1.2 1 (by decide)).1; have c2 := (r3.1.2 2 (by decide)).1; have c3 := (r3.1.2 3 (by decide)).1; have f0 := (r3.1.2 0 (by decide)).2; have f1 := (r3.1.2 1 (by decide)).2; have f2 := (r3.1.2 2 (by decide)).2; have f3 := (r3.1.2 3 (by decide)).2)))
   all_goals (go_wp2_with fail; go_meet; exact Lib.hid (r3.putM x0))
  case rest =>
   clear HS1 a0 a1 a2 a3 hlM HD1 HT1
   go_wp2_with fail
   go_loopg [] (x0 + n) (fun g wr => ∃ x y, Hid (g = x + y ∧ x % 2 = 1 ∧ x < T256 ∧ y < T256 ∧ x.gcd y * 2 ^ bt = G) ∧ Hid (SG w x y wr))
   case atStart => exact ⟨x0, n, Lib.hid ⟨rfl, HO.out.1, HO.out.2, HN.out, HG.out⟩, hcut⟩
   case round =>
    obtain ⟨x, y, HR, HK⟩ := hrel
    clear hcut HO HN HG
    have q2 := fun W => neqArr 163 Tryz.underlying163 (W64 y 0 : Nat) (W64 y 1 : Nat) (W64 y 2 : Nat) (W64 y 3 : Nat) 0 0 0 0 W
    rw [words_nought HR.out.2.2.2.1] at q2
    have b0 := (HK.out.2.1.2 0 (by decide)).1
    have b1 := (HK.out.2.1.2 1 (by decide)).1
    have b2 := (HK.out.2.1.2 2 (by decide)).1
    have b3 := (HK.out.2.1.2 3 (by decide)).1
    by_cases hy0 : y = 0
    ·rw [decide_eq_true hy0] at q2
     have HE : Hid (x * 2 ^ bt = G) := Lib.hid (by have h := HR.out.2.2.2.2; rw [hy0, Nat.gcd_zero_right] at h; exact h)
     clear hy0
     have a0 := (HK.out.1.2 0 (by decide)).1
     have a1 := (HK.out.1.2 1 (by decide)).1
     have a2 := (HK.out.1.2 2 (by decide)).1
     have a3 := (HK.out.1.2 3 (by decide)).1
     go_wp2_with fail
     refine (up_z x bt _ hbt).mono ?_
     rintro e w7 ⟨rfl, hb7⟩
     rw [HE.out]
     have HS5 := Lib.hid (HK.out.after hb7)
     clear a0 a1 a2 a3 b0 b1 b2 b3 hb7 HK q2
     have c0 := (HS5.out.2.2.1.2 0 (by decide)).1
     have cf0 := (HS5.out.2.2.1.2 0 (by decide)).2
     have c1 := (HS5.out.2.2.1.2 1 (by decide)).1
     have cf1 := (HS5.out.2.2.1.2 1 (by decide)).2
     have c2 := (HS5.out.2.2.1.2 2 (by decide)).1
     have cf2 := (HS5.out.2.2.1.2 2 (by decide)).2
     have c3 := (HS5.out.2.2.1.2 3 (by decide)).1
     have cf3 := (HS5.out.2.2.1.2 3 (by decide)).2
     go_wp2_with fail
     have r2 := (HS5.out.2.2.1.put4 (W64 G)).row
     have hb := below_put4 HS5.out.2.2.2 (c := w.heap.size + 1 + 1) (by omega) (.int .u64 (W64 G 0 : Nat)) (.int .u64 (W64 G 1 : Nat)) (.int .u64 (W64 G 2 : Nat)) (.int .u64 (W64 G 3 : Nat))
     clear c0 c1 c2 c3 cf0 cf1 cf2 cf3
     generalize World.setCell _ _ _ = W9 at r2 hb ⊢
     exact bodyPost_ret (v := wv (W64 G 0 : Nat) (W64 G 1 : Nat) (W64 G 2 : Nat) (W64 G 3 : Nat)) (by simp [results, Tryz.results142, go_sem, r2.c 0 rfl, r2.c 1 rfl, r2.c 2 rfl, r2.c 3 rfl]) rfl ⟨rfl, hb⟩
    ·rw [decide_eq_false hy0] at q2
     obtain ⟨-, ho, hle, hk⟩ := oddP_spec hy0 HR.out.2.2.2.1
     have HT2 := Lib.hid (fun b c W r h1 h2 => twos_z y b c W hy0 HR.out.2.2.2.1 r h1 h2)
     have HD2 := Lib.hid (fun W => down_z y (Lib.ctz 256 y) W HR.out.2.2.2.1 hk)
     rw [show y / 2 ^ Lib.ctz 256 y = oddP y from rfl] at HD2
     have HQ := Lib.hid (show oddP y % 2 = 1 ∧ oddP y < T256 ∧ oddP y ≤ y ∧ x.gcd (oddP y) * 2 ^ bt = G from ⟨ho, Nat.lt_of_le_of_lt hle HR.out.2.2.2.1, hle, by rw [oddP_gcd HR.out.2.1 hy0 HR.out.2.2.2.1]; exact HR.out.2.2.2.2⟩)
     clear hy0 ho hle hk
     generalize oddP y = q at *
     generalize Lib.ctz 256 y = cy at *
     have hlN := HK.out.2.1.1
     go_wp2_with fail
     go_cut [] from 19 to 49 (fun wx => Hid (SG w x q wx))
     case first =>
      have hS := HK.out
      go_region_with ((first
       | (go_at_call 153; refine (HT2.out _ _ _ (Row.at rfl _ _).drew (Ht.out.below hw0 (hS.2.2.2.alloc hS.2.2.2.size _).drew) (by simp)).mono ?_; rintro e w2 ⟨rfl, hb2⟩; have r2 := ((hS.alloc _).drew).after hb2; have c0 := (r2.2.1.2 0 (by decide)).1; have c1 := (r2.2.1.2 1 (by decide)).1; have c2 := (r2.2.1.2 2 (by decide)).1; have c3 := (r2.2.1.2 3 (by decide)).1)
       | (go_at_call 154; refine (HD2.out _).mono ?_; rintro e w3 ⟨rfl, hb3⟩; have r3 := r2.after hb3; have c0 := (r3.2.1.2 0 (by decide)).1; have c1 := (r3.2.1.2 1 (by decide)).1; have c2 := (r3.2.1.2 2 (by decide)).1; have c3 := (r3.2.1.2 3 (by decide)).1; have f0 := (r3.2.1.2 0 (by decide)).2; have f1 := (r3.2.1.2 1 (by decide)).2; have f2 := (r3.2.1.2 2 (by decide)).2; have f3 := (r3.2.1.2 3 (by decide)).2)))
      all_goals (go_wp2_with fail; go_meet; exact Lib.hid (r3.putN q))
     case rest =>
      clear HK HT2 HD2 q2 b0 b1 b2 b3 hlN
      have HOr := Lib.hid (fun c c' W (h : SG w x q W) => by
       have h1 := order_words (W64 x 0 : Nat) (W64 x 1 : Nat) (W64 x 2 : Nat) (W64 x 3 : Nat) (W64 q 0 : Nat) (W64 q 1 : Nat) (W64 q 2 : Nat) (W64 q 3 : Nat) w.heap.size (w.heap.size + 1) c c' W (h.1.2 0 (by decide)).1 (h.1.2 1 (by decide)).1 (h.1.2 2 (by decide)).1 (h.1.2 3 (by decide)).1 (h.2.1.2 0 (by decide)).1 (h.2.1.2 1 (by decide)).1 (h.2.1.2 2 (by decide)).1 (h.2.1.2 3 (by decide)).1
       rw [ordW_num HR.out.2.2.1 HQ.out.2.1] at h1
       exact h1)
      have HZx := Lib.hid (fun W => size_any (W64 x 0 : Nat) (W64 x 1 : Nat) (W64 x 2 : Nat) (W64 x 3 : Nat) W)
      have HZq := Lib.hid (fun W => size_any (W64 q 0 : Nat) (W64 q 1 : Nat) (W64 q 2 : Nat) (W64 q 3 : Nat) W)
      have Hx1 := Lib.hid (size_one x HR.out.2.2.1)
      have Hq1 := Lib.hid (size_one q HQ.out.2.1)
      generalize sizeF (W64 x 0 : Nat) (W64 x 1 : Nat) (W64 x 2 : Nat) (W64 x 3 : Nat) = sx at *
      generalize sizeF (W64 q 0 : Nat) (W64 q 1 : Nat) (W64 q 2 : Nat) (W64 q 3 : Nat) = sq at *
      have a0 := (hcut.out.1.2 0 (by decide)).1
      have a1 := (hcut.out.1.2 1 (by decide)).1
      have a2 := (hcut.out.1.2 2 (by decide)).1
      have a3 := (hcut.out.1.2 3 (by decide)).1
      go_wp2_with fail
      refine (HZx.out _).mono ?_
      rintro e w4 ⟨rfl, hb4⟩
      have HS4 := Lib.hid (hcut.out.after hb4)
      clear hb4 hcut a0 a1 a2 a3 HZx
      by_cases hx1 : sx = 1
      ·subst hx1
       have b0 := (HS4.out.2.1.2 0 (by decide)).1
       have b1 := (HS4.out.2.1.2 1 (by decide)).1
       have b2 := (HS4.out.2.1.2 2 (by decide)).1
       have b3 := (HS4.out.2.1.2 3 (by decide)).1
       go_wp2_with fail
       refine (HZq.out _).mono ?_
       rintro e w5 ⟨rfl, hb5⟩
       have HS5 := Lib.hid (HS4.out.after hb5)
       clear hb5 HS4 b0 b1 b2 b3 HZq
       by_cases hq1 : sq = 1
       ·subst hq1
        have hxl := Hx1.out (by simp)
        have hql := Hq1.out (by simp)
        have hgl : x.gcd q < 18446744073709551616 := Nat.lt_of_le_of_lt (Nat.gcd_le_left _ (by have := HR.out.2.1; omega)) hxl
        obtain ⟨g0, g1, g2, g3⟩ := W64_one (x.gcd q) hgl
        have HOd := Lib.hid (fun W (ht : TabTz W) => by
         have h := odd_any x q HR.out.2.1 HQ.out.1 hxl hql W ht
         rw [show (x : Int) = ((W64 x 0 : Nat) : Int) by rw [(W64_one x hxl).1], show (q : Int) = ((W64 q 0 : Nat) : Int) by rw [(W64_one q hql).1], show ((x.gcd q : Nat) : Int) = ((W64 (x.gcd q) 0 : Nat) : Int) by rw [g0]] at h
         exact h)
        have HUp := Lib.hid (fun W => by
         have h := up_z (x.gcd q) bt W hbt
         rw [HQ.out.2.2.2, g1, g2, g3] at h
         exact h)
        have HPm := Lib.hid (fun W (h : SG w x q W) => by
         have h1 := h.putM (x.gcd q)
         rw [g1, g2, g3] at h1
         exact h1)
        clear hxl hql hgl g0 g1 g2 g3 Hx1 Hq1 HOr
        generalize W64 (x.gcd q) 0 = gw at *
        simp only [Int.natCast_zero] at HUp HPm
        have a0 := (HS5.out.1.2 0 (by decide)).1
        have af0 := (HS5.out.1.2 0 (by decide)).2
        have a1 := (HS5.out.1.2 1 (by decide)).1
        have af1 := (HS5.out.1.2 1 (by decide)).2
        have a2 := (HS5.out.1.2 2 (by decide)).1
        have af2 := (HS5.out.1.2 2 (by decide)).2
        have a3 := (HS5.out.1.2 3 (by decide)).1
        have af3 := (HS5.out.1.2 3 (by decide)).2
        have b0 := (HS5.out.2.1.2 0 (by decide)).1
        have b1 := (HS5.out.2.1.2 1 (by decide)).1
        have b2 := (HS5.out.2.1.2 2 (by decide)).1
        have b3 := (HS5.out.2.1.2 3 (by decide)).1
        go_wp2_with fail
        refine (HOd.out _ (Ht.out.below hw0 HS5.out.2.2.2)).mono ?_
        rintro e w6 ⟨rfl, rfl⟩
        go_wp2_with fail
        refine (HUp.out _).mono ?_
        rintro e w7 ⟨rfl, hb7⟩
        have HS7 := Lib.hid ((HPm.out _ HS5.out).after hb7)
        clear a0 a1 a2 a3 af0 af1 af2 af3 b0 b1 b2 b3 hb7 HS5 HPm HUp HOd
        have c0 := (HS7.out.2.2.1.2 0 (by decide)).1
        have cf0 := (HS7.out.2.2.1.2 0 (by decide)).2
        have c1 := (HS7.out.2.2.1.2 1 (by decide)).1
        have cf1 := (HS7.out.2.2.1.2 1 (by decide)).2
        have c2 := (HS7.out.2.2.1.2 2 (by decide)).1
        have cf2 := (HS7.out.2.2.1.2 2 (by decide)).2
        have c3 := (HS7.out.2.2.1.2 3 (by decide)).1
        have cf3 := (HS7.out.2.2.1.2 3 (by decide)).2
        go_wp2_with fail
        have r2 := (HS7.out.2.2.1.put4 (W64 G)).row
        have hb := below_put4 HS7.out.2.2.2 (c := w.heap.size + 1 + 1) (by omega) (.int .u64 (W64 G 0 : Nat)) (.int .u64 (W64 G 1 : Nat)) (.int .u64 (W64 G 2 : Nat)) (.int .u64 (W64 G 3 : Nat))
        clear c0 c1 c2 c3 cf0 cf1 cf2 cf3
        generalize World.setCell _ _ _ = W9 at r2 hb ⊢
        exact bodyPost_ret (v := wv (W64 G 0 : Nat) (W64 G 1 : Nat) (W64 G 2 : Nat) (W64 G 3 : Nat)) (by simp [results, Tryz.results142, go_sem, r2.c 0 rfl, r2.c 1 rfl, r2.c 2 rfl, r2.c 3 rfl]) rfl ⟨rfl, hb⟩
       ·clear Hx1 Hq1
        have HSd := Lib.hid (fun k => HS5.out.drewN k)
        go_upto_region 9 with fail
        have HOx := Lib.hid (fun k c c' => HOr.out c c' _ (HSd.out k))
        go_quiet ((go_at_call 107; exact Calls.quiet_of (HOx.out _ _ _)))
        have HSq := Lib.hid (HSd.out nq)
        clear HOx HSd HOr HS5
        generalize World.drewN _ _ = W1 at HSq ⊢
        by_cases hlt : q < x
        ·have hc : 0 < cmpI (x : Int) (q : Int) := by
          unfold cmpI
          rw [if_neg (by omega), if_pos (by omega)]
          decide
         have HLe := Lib.hid (show q ≤ x ∧ x < T256 from ⟨Nat.le_of_lt hlt, HR.out.2.2.1⟩)
         have HSm := Lib.hid (show q % 2 = 1 ∧ q < T256 ∧ q.gcd (x - q) * 2 ^ bt = G from ⟨HQ.out.1, HQ.out.2.1, by rw [Nat.gcd_sub_self_right (Nat.le_of_lt hlt), Nat.gcd_comm]; exact HQ.out.2.2.2⟩)
         clear hlt
         generalize cmpI (x : Int) (q : Int) = cm at *
         have a0 := (HSq.out.1.2 0 (by decide)).1
         have af0 := (HSq.out.1.2 0 (by decide)).2
         have a1 := (HSq.out.1.2 1 (by decide)).1
         have af1 := (HSq.out.1.2 1 (by decide)).2
         have a2 := (HSq.out.1.2 2 (by decide)).1
         have af2 := (HSq.out.1.2 2 (by decide)).2
         have a3 := (HSq.out.1.2 3 (by decide)).1
         have af3 := (HSq.out.1.2 3 (by decide)).2
         have b0 := (HSq.out.2.1.2 0 (by decide)).1
         have bf0 := (HSq.out.2.1.2 0 (by decide)).2
         have b1 := (HSq.out.2.1.2 1 (by decide)).1
         have bf1 := (HSq.out.2.1.2 1 (by decide)).2
         have b2 := (HSq.out.2.1.2 2 (by decide)).1
         have bf2 := (HSq.out.2.1.2 2 (by decide)).2
         have b3 := (HSq.out.2.1.2 3 (by decide)).1
         have bf3 := (HSq.out.2.1.2 3 (by decide)).2
         go_upto_region 11 with fail
         have HS2 := Lib.hid ((HSq.out.putM q).putN x)
         clear a0 a1 a2 a3 af0 af1 af2 af3 b0 b1 b2 b3 bf0 bf1 bf2 bf3 HSq
         generalize World.setCell _ _ _ = W2 at HS2 ⊢
         have HTF := Lib.hid (fun c c' W (h : SG w q x W) => takeFrom_z q x w.heap.size (w.heap.size + 1) c c' W (Nat.le_of_lt_succ (Nat.lt_succ_of_le HLe.out.1)) HLe.out.2 (by omega) h.1 h.2.1)
         have hS := HS2.out
         have hlM := hS.1.1
         have hlN := hS.2.1.1
         go_region_with ((go_at_call 152; refine (HTF.out _ _ _ (by first | exact hS.drew | exact hS.drew.drew | exact hS)).mono ?_; rintro e w8 ⟨rfl, ho8, hr8⟩))
         all_goals
          have HS8 := Lib.hid (hS.drew.on ho8 hr8)
          clear hS ho8 hr8 HTF hlM hlN HS2
          go_wp2_with fail
          go_roundg (q + (x - q))
          case measure => have h1 := HR.out.1; have h2 := HR.out.2.1; have h3 := HLe.out.1; have h4 := HQ.out.2.2.1; have h5 := HQ.out.1; omega
          case rel => exact ⟨q, x - q, Lib.hid ⟨rfl, HSm.out.1, HSm.out.2.1, Nat.lt_of_le_of_lt (Nat.sub_le _ _) HLe.out.2, HSm.out.2.2⟩, HS8⟩
        ·have hc : ¬ 0 < cmpI (x : Int) (q : Int) := by
          unfold cmpI
          by_cases h : x < q
          ·rw [if_pos (by omega)]; decide
          ·rw [if_neg (by omega), if_neg (by omega)]; decide
         have HLe := Lib.hid (show x ≤ q ∧ q < T256 from ⟨Nat.le_of_not_lt hlt, HQ.out.2.1⟩)
         have HSm := Lib.hid (show x % 2 = 1 ∧ x < T256 ∧ x.gcd (q - x) * 2 ^ bt = G from ⟨HR.out.2.1, HR.out.2.2.1, by rw [Nat.gcd_sub_self_right (Nat.le_of_not_lt hlt)]; exact HQ.out.2.2.2⟩)
         clear hlt
         generalize cmpI (x : Int) (q : Int) = cm at *
         go_upto_region 11 with fail
         have HTF := Lib.hid (fun c c' W (h : SG w x q W) => takeFrom_z x q w.heap.size (w.heap.size + 1) c c' W (Nat.le_of_lt_succ (Nat.lt_succ_of_le HLe.out.1)) HLe.out.2 (by omega) h.1 h.2.1)
         have hS := HSq.out
         have hlM := hS.1.1
         have hlN := hS.2.1.1
         go_region_with ((go_at_call 152; refine (HTF.out _ _ _ (by first | exact hS.drew | exact hS.drew.drew | exact hS)).mono ?_; rintro e w8 ⟨rfl, ho8, hr8⟩))
         all_goals
          have HS8 := Lib.hid (hS.drew.on ho8 hr8)
          clear hS ho8 hr8 HTF hlM hlN HSq
          go_wp2_with fail
          go_roundg (x + (q - x))
          case measure => have h1 := HR.out.1; have h2 := HR.out.2.1; have h3 := HLe.out.1; have h4 := HQ.out.2.2.1; have h5 := HQ.out.1; omega
          case rel => exact ⟨x, q - x, Lib.hid ⟨rfl, HSm.out.1, HSm.out.2.1, Nat.lt_of_le_of_lt (Nat.sub_le _ _) HLe.out.2, HSm.out.2.2⟩, HS8⟩
      ·clear Hx1 Hq1 HZq
       have HSd := Lib.hid (fun k => HS4.out.drewN k)
       go_upto_region 9 with fail
       have HOx := Lib.hid (fun k c c' => HOr.out c c' _ (HSd.out k))
       go_quiet ((go_at_call 107; exact Calls.quiet_of (HOx.out _ _ _)))
       have HSq := Lib.hid (HSd.out nq)
       clear HOx HSd HOr HS4
       generalize World.drewN _ _ = W1 at HSq ⊢
       by_cases hlt : q < x
       ·have hc : 0 < cmpI (x : Int) (q : Int) := by
         unfold cmpI
         rw [if_neg (by omega), if_pos (by omega)]
         decide
        have HLe := Lib.hid (show q ≤ x ∧ x < T256 from ⟨Nat.le_of_lt hlt, HR.out.2.2.1⟩)
        have HSm := Lib.hid (show q % 2 = 1 ∧ q < T256 ∧ q.gcd (x - q) * 2 ^ bt = G from ⟨HQ.out.1, HQ.out.2.1, by rw [Nat.gcd_sub_self_right (Nat.le_of_lt hlt), Nat.gcd_comm]; exact HQ.out.2.2.2⟩)
        clear hlt
        generalize cmpI (x : Int) (q : Int) = cm at *
        have a0 := (HSq.out.1.2 0 (by decide)).1
        have af0 := (HSq.out.1.2 0 (by decide)).2
        have a1 := (HSq.out.1.2 1 (by decide)).1
        have af1 := (HSq.out.1.2 1 (by decide)).2
        have a2 := (HSq.out.1.2 2 (by decide)).1
        have af2 := (HSq.out.1.2 2 (by decide)).2
        have a3 := (HSq.out.1.2 3 (by decide)).1
        have af3 := (HSq.out.1.2 3 (by decide)).2
        have b0 := (HSq.out.2.1.2 0 (by decide)).1
        have bf0 := (HSq.out.2.1.2 0 (by decide)).2
        have b1 := (HSq.out.2.1.2 1 (by decide)).1
        have bf1 := (HSq.out.2.1.2 1 (by decide)).2
        have b2 := (HSq.out.2.1.2 2 (by decide)).1
        have bf2 := (HSq.out.2.1.2 2 (by decide)).2
        have b3 := (HSq.out.2.1.2 3 (by decide)).1
        have bf3 := (HSq.out.2.1.2 3 (by decide)).2
        go_upto_region 11 with fail
        have HS2 := Lib.hid ((HSq.out.putM q).putN x)
        clear a0 a1 a2 a3 af0 af1 af2 af3 b0 b1 b2 b3 bf0 bf1 bf2 bf3 HSq
        generalize World.setCell _ _ _ = W2 at HS2 ⊢
        have HTF := Lib.hid (fun c c' W (h : SG w q x W) => takeFrom_z q x w.heap.size (w.heap.size + 1) c c' W (Nat.le_of_lt_succ (Nat.lt_succ_of_le HLe.out.1)) HLe.out.2 (by omega) h.1 h.2.1)
        have hS := HS2.out
        have hlM := hS.1.1
        have hlN := hS.2.1.1
        go_region_with ((go_at_call 152; refine (HTF.out _ _ _ (by first | exact hS.drew | exact hS.drew.drew | exact hS)).mono ?_; rintro e w8 ⟨rfl, ho8, hr8⟩))
        all_goals
         have HS8 := Lib.hid (hS.drew.on ho8 hr8)
         clear hS ho8 hr8 HTF hlM hlN HS2
         go_wp2_with fail
         go_roundg (q + (x - q))
         case measure => have h1 := HR.out.1; have h2 := HR.out.2.1; have h3 := HLe.out.1; have h4 := HQ.out.2.2.1; have h5 := HQ.out.1; omega
         case rel => exact ⟨q, x - q, Lib.hid ⟨rfl, HSm.out.1, HSm.out.2.1, Nat.lt_of_le_of_lt (Nat.sub_le _ _) HLe.out.2, HSm.out.2.2⟩, HS8⟩
       ·have hc : ¬ 0 < cmpI (x : Int) (q : Int) := by
         unfold cmpI
         by_cases h : x < q
         ·rw [if_pos (by omega)]; decide
         ·rw [if_neg (by omega), if_neg (by omega)]; decide
        have HLe := Lib.hid (show x ≤ q ∧ q < T256 from ⟨Nat.le_of_not_lt hlt, HQ.out.2.1⟩)
        have HSm := Lib.hid (show x % 2 = 1 ∧ x < T256 ∧ x.gcd (q - x) * 2 ^ bt = G from ⟨HR.out.2.1, HR.out.2.2.1, by rw [Nat.gcd_sub_self_right (Nat.le_of_not_lt hlt)]; exact HQ.out.2.2.2⟩)
        clear hlt
        generalize cmpI (x : Int) (q : Int) = cm at *
        go_upto_region 11 with fail
        have HTF := Lib.hid (fun c c' W (h : SG w x q W) => takeFrom_z x q w.heap.size (w.heap.size + 1) c c' W (Nat.le_of_lt_succ (Nat.lt_succ_of_le HLe.out.1)) HLe.out.2 (by omega) h.1 h.2.1)
        have hS := HSq.out
        have hlM := hS.1.1
        have hlN := hS.2.1.1
        go_region_with ((go_at_call 152; refine (HTF.out _ _ _ (by first | exact hS.drew | exact hS.drew.drew | exact hS)).mono ?_; rintro e w8 ⟨rfl, ho8, hr8⟩))
        all_goals
         have HS8 := Lib.hid (hS.drew.on ho8 hr8)
         clear hS ho8 hr8 HTF hlM hlN HSq
         go_wp2_with fail
         go_roundg (x + (q - x))
         case measure => have h1 := HR.out.1; have h2 := HR.out.2.1; have h3 := HLe.out.1; have h4 := HQ.out.2.2.1; have h5 := HQ.out.1; omega
         case rel => exact ⟨x, q - x, Lib.hid ⟨rfl, HSm.out.1, HSm.out.2.1, Nat.lt_of_le_of_lt (Nat.sub_le _ _) HLe.out.2, HSm.out.2.2⟩, HS8⟩
end Go.Proofs.YteolocchmhpggaaGreatDoor
