/- LimbSums walked: all are right. -/
import Derived.Test.YtpbdhhdmnnelhaaDoorCI
namespace Go.Proofs.YtpbdhhdmnnelhaaDoor
open Go.RowKit

set_option maxRecDepth 100000 in
set_option maxHeartbeats 4000000 in
theorem sums_r (A : Option Addr) (b o n c : Nat) (zs : Nat → Int) (x y : Int) (w : World) (ht : Tab10 w) (hz : TabTz w) (hw0 : 0 < w.heap.size) (hn : n ≤ 6) (hx : x.natAbs < T256) (hy : y.natAbs < T256) 
    (lb : b < w.heap.size) (hi : IntsAt w b o n (fun i => decide (zs i < 0)) (fun i k => (W64 (zs i).natAbs k : Nat))) (hzs : ∀ i, i < n → (zs i).natAbs < T256) (hA : 0 < n → A = some ⟨b, o, none⟩) :
    Calls Tryd.prog 4 #[.slice A n c, ivz x, ivz y] w fun e w' => e = .returned (.bool true) ∧ Below w.heap.size w w' := by
  have Ht := Lib.hid ht
  have Hz := Lib.hid hz
  have hg : 0 < w.heap.size := block_lt_of_cell (Hz.out 0 (by decide))
  have HAdd := Lib.hid (fun W (hb : Below w.heap.size w W) => add_nums A b o n c zs W (by omega) (Nat.lt_of_lt_of_le lb hb.size) (hi.below hb lb) hzs hA)
  have HMul := Lib.hid (fun W (hb : Below w.heap.size w W) => mul_nums A b o n c zs W (by omega) (Nat.lt_of_lt_of_le lb hb.size) (hi.below hb lb) hzs hA)
  have HSt1 := Lib.hid (fun W (hb : Below w.heap.size w W) => steps_sum b o n c zs W (by omega) (Nat.lt_of_lt_of_le lb hb.size) (hi.below hb lb) hzs A hA)
  have HSt2 := Lib.hid (fun W (hb : Below w.heap.size w W) => steps_prod b o n c zs W (by omega) (Nat.lt_of_lt_of_le lb hb.size) (hi.below hb lb) hzs A hA)
  obtain ⟨u, v0, v1, v2, v3, ku, hR1⟩ := ansz_form (zfold (fun a b => a + b) zs 0 n)
  obtain ⟨p, q0, q1, q2, q3, kp, hR2⟩ := ansz_form (zfold (fun a b => a * b) zs 1 n)
  rw [hR1] at HAdd HSt1
  rw [hR2] at HMul HSt2
  clear hR1 hR2
  have HAd := Lib.hid hA
  have Hi := Lib.hid hi
  have HRt := Lib.hid (fun k (hk : k < n) W => by have h := right_any (decide (zs k < 0)) (W64 (zs k).natAbs 0 : Nat) (W64 (zs k).natAbs 1 : Nat) (W64 (zs k).natAbs 2 : Nat) (W64 (zs k).natAbs 3 : Nat) W; rw [right_num _ (hzs k hk)] at h; exact h)
  clear ht hz hA hi hzs
  have hn1 : (n : Int) ≤ 6 := by omega
  have HNeg := Lib.hid (fun W => neg_z x W hx)
  have HRa := Lib.hid (fun W => right_any (decide (x < 0)) (W64 x.natAbs 0 : Nat) (W64 x.natAbs 1 : Nat) (W64 x.natAbs 2 : Nat) (W64 x.natAbs 3 : Nat) W)
  rw [right_num x hx] at HRa
  have HFr := Lib.hid (fun W => from_z x W hx)
  have HNg := Lib.hid (fun A1 c1 W (h1 : DS W x.natAbs A1) (h2 : L16 x.natAbs ≤ c1) => refneg_z x A1 c1 W h1 h2 (by have := L16_int.1 hx; omega))
  have HOu := Lib.hid (fun A1 c1 W (h1 : DS W x.natAbs A1) => out_z (-x) A1 c1 W (by rw [Int.natAbs_neg]; exact h1))
  rw [neg_outs x hx] at HOu
  unfold BigPost at HFr
  have HSub := Lib.hid (fun W => sub_outs x y W hx hy)
  have HRb := Lib.hid (fun W => right_any (decide (y < 0)) (W64 y.natAbs 0 : Nat) (W64 y.natAbs 1 : Nat) (W64 y.natAbs 2 : Nat) (W64 y.natAbs 3 : Nat) W)
  rw [right_num y hy] at HRb
  have HFb := Lib.hid (fun W => from_z y W hy)
  have HSb := Lib.hid (fun A1 A2 c1 c2 W (h1 : DS W x.natAbs A1) (h2 : DS W y.natAbs A2) (h3 : L16 y.natAbs ≤ c2) => refsub_z x y A1 A2 c1 c2 W h1 h2 (by have := L16_int.1 hx; omega) (by have := L16_int.1 hy; omega) h3)
  have HOs := Lib.hid (fun A1 c1 W (h1 : DS W (x - y).natAbs A1) => out_z (x - y) A1 c1 W h1)
  obtain ⟨du, d0, d1, d2, d3, kd, hR3⟩ := outV_form (x - y)
  rw [hR3] at HSub HOs
  clear hR3 hx hy
  unfold BigPost at HFb
  unfold BigNew at HSb
  simp only [ivz, bigv] at HNeg HNg HFr HOu HSub HFb HSb HOs ⊢
  generalize hyn : (x - y).natAbs = zn at *
  generalize decide (x - y < 0) = zg at *
  generalize L16 zn = zl at *
  generalize decide (y < 0) = t at *
  generalize L16 y.natAbs = yl at *
  generalize y.natAbs = yn at *
  generalize ((W64 yn 0 : Nat) : Int) = b0 at *
  generalize ((W64 yn 1 : Nat) : Int) = b1 at *
  generalize ((W64 yn 2 : Nat) : Int) = b2 at *
  generalize ((W64 yn 3 : Nat) : Int) = b3 at *
  clear hyn
  simp only [Int.natAbs_neg] at HNeg HNg HOu
  generalize decide (-x < 0) = ng at *
  generalize decide (x < 0) = s at *
  generalize L16 x.natAbs = xl at *
  generalize x.natAbs = xn at *
  generalize ((W64 xn 0 : Nat) : Int) = a0 at *
  generalize ((W64 xn 1 : Nat) : Int) = a1 at *
  generalize ((W64 xn 2 : Nat) : Int) = a2 at *
  generalize ((W64 xn 3 : Nat) : Int) = a3 at *
  go_enter Tryd.func4, Tryd.ntmps4
  go_wp2_with fail
  have hS0 : RS w [(w.heap.size, [.bool s, .int .u64 a0, .int .u64 a1, .int .u64 a2, .int .u64 a3]), (w.heap.size + 1, [.bool t, .int .u64 b0, .int .u64 b1, .int .u64 b2, .int .u64 b3])] _ := ((RS.nil w).new (B := w.heap.size) rfl [.bool s, .int .u64 a0, .int .u64 a1, .int .u64 a2, .int .u64 a3] 25).new (B := w.heap.size + 1) (by simp) [.bool t, .int .u64 b0, .int .u64 b1, .int .u64 b2, .int .u64 b3] 25
  generalize World.alloc _ _ = W0 at hS0 ⊢
  go_loopw [7, 8] (fun r v wr => ∃ k : Nat, k ≤ n ∧ v = .int .i64 k ∧ r = .bool true ∧ Hid (RS w [(w.heap.size, [.bool s, .int .u64 a0, .int .u64 a1, .int .u64 a2, .int .u64 a3]), (w.heap.size + 1, [.bool t, .int .u64 b0, .int .u64 b1, .int .u64 b2, .int .u64 b3])] wr)) (fun _ v _ => n - (intOf v).toNat)
  case atStart => exact ⟨0, by omega, rfl, rfl, Lib.hid hS0⟩
  case round =>
    obtain ⟨k, hk, rfl, rfl, HK⟩ := hrel
    clear hS0
    by_cases hkn : k < n
    · obtain rfl := HAd.out (by omega)
      obtain ⟨d0, d1, d2, d3, d4⟩ := IntsAt.num (Hi.out.below HK.out.2 lb) k hkn
      have hk1 : (k : Int) < n := by omega
      go_wp2_with fail
      refine (HRt.out k hkn _).mono ?_
      rintro e w1 ⟨rfl, hb1⟩
      have HK1 := Lib.hid (HK.out.after hb1)
      clear hb1 HK
      go_wp2_with fail
      exact ⟨⟨k + 1, by omega, rfl, rfl, HK1⟩, by simp [intOf]; omega⟩
    · obtain rfl : k = n := by omega
      have hS := HK.out
      clear HK
      have hT1 := (show ∀ W : World, (binOp .neq 25 (iv u v0 v1 v2 v3) (iv u v0 v1 v2 v3)).run Tryd.prog W = .ok (.bool false) W from fun W => by rw [neqInt]; simp)
      have hT2 := (show ∀ W : World, (binOp .neq 25 (iv p q0 q1 q2 q3) (iv p q0 q1 q2 q3)).run Tryd.prog W = .ok (.bool false) W from fun W => by rw [neqInt]; simp)
      go_wp2_with fail
      refine (HAdd.out _ hS.2).mono ?_
      rintro e w1 ⟨rfl, hb1⟩
      replace hS := hS.after hb1
      clear hb1
      replace hS := hS.new rfl [.bool u, .int .u64 v0, .int .u64 v1, .int .u64 v2, .int .u64 v3] 25
      go_wp2_with fail
      generalize World.alloc _ _ = W1 at hS ⊢
      generalize w1.heap.size = B2 at hS ⊢
      refine (HMul.out _ hS.2).mono ?_
      rintro e w2 ⟨rfl, hb1⟩
      replace hS := hS.after hb1
      clear hb1
      replace hS := hS.new rfl [.bool p, .int .u64 q0, .int .u64 q1, .int .u64 q2, .int .u64 q3] 25
      go_wp2_with fail
      generalize World.alloc _ _ = W2 at hS ⊢
      generalize w2.heap.size = B3 at hS ⊢
      refine (HSt1.out _ hS.2).mono ?_
      rintro e w3 ⟨rfl, hb1⟩
      replace hS := hS.after hb1
      clear hb1
      replace hS := hS.new rfl [.bool u, .int .u64 v0, .int .u64 v1, .int .u64 v2, .int .u64 v3] 25
      go_wp2_with fail
      generalize World.alloc _ _ = W3 at hS ⊢
      generalize w3.heap.size = B4 at hS ⊢
      refine (HSt2.out _ hS.2).mono ?_
      rintro e w4 ⟨rfl, hb1⟩
      replace hS := hS.after hb1
      clear hb1
      replace hS := hS.new rfl [.bool p, .int .u64 q0, .int .u64 q1, .int .u64 q2, .int .u64 q3] 25
      have i0 := hS.c 2 rfl 0 rfl
      have i1 := hS.c 2 rfl 1 rfl
      have i2 := hS.c 2 rfl 2 rfl
      have i3 := hS.c 2 rfl 3 rfl
      have i4 := hS.c 2 rfl 4 rfl
      have j0 := hS.c 3 rfl 0 rfl
      have j1 := hS.c 3 rfl 1 rfl
      have j2 := hS.c 3 rfl 2 rfl
      have j3 := hS.c 3 rfl 3 rfl
      have j4 := hS.c 3 rfl 4 rfl
      have l0 := hS.c 4 rfl 0 rfl
      have l1 := hS.c 4 rfl 1 rfl
      have l2 := hS.c 4 rfl 2 rfl
      have l3 := hS.c 4 rfl 3 rfl
      have l4 := hS.c 4 rfl 4 rfl
      go_wp2_with fail
      clear i0 i1 i2 i3 i4 j0 j1 j2 j3 j4 l0 l1 l2 l3 l4
      clear hT1 hT2
      generalize World.alloc _ _ = W4 at hS ⊢
      generalize w4.heap.size = B5 at hS ⊢
      refine (num_any _ _).mono ?_
      rintro e w5 ⟨rfl, hb1⟩
      replace hS := hS.after hb1
      clear hb1
      go_wp2_with fail
      refine (num_any _ _).mono ?_
      rintro e w6 ⟨rfl, hb1⟩
      replace hS := hS.after hb1
      clear hb1
      have i0 := hS.c 0 rfl 0 rfl
      have i1 := hS.c 0 rfl 1 rfl
      have i2 := hS.c 0 rfl 2 rfl
      have i3 := hS.c 0 rfl 3 rfl
      have i4 := hS.c 0 rfl 4 rfl
      have j0 := hS.c 1 rfl 0 rfl
      have j1 := hS.c 1 rfl 1 rfl
      have j2 := hS.c 1 rfl 2 rfl
      have j3 := hS.c 1 rfl 3 rfl
      have j4 := hS.c 1 rfl 4 rfl
      go_wp2_with fail
      clear i0 i1 i2 i3 i4 j0 j1 j2 j3 j4
      refine (HSub.out _).mono ?_
      rintro e w7 ⟨rfl, hb1⟩
      replace hS := hS.after hb1
      clear hb1
      replace hS := hS.new rfl [.bool du, .int .u64 d0, .int .u64 d1, .int .u64 d2, .int .u64 d3] 25
      have i0 := hS.c 0 rfl 0 rfl
      have i1 := hS.c 0 rfl 1 rfl
      have i2 := hS.c 0 rfl 2 rfl
      have i3 := hS.c 0 rfl 3 rfl
      have i4 := hS.c 0 rfl 4 rfl
      go_wp2_with fail
      clear i0 i1 i2 i3 i4
      generalize World.alloc _ _ = W7 at hS ⊢
      generalize w7.heap.size = B6 at hS ⊢
      refine (HNeg.out _).mono ?_
      rintro e w8 ⟨rfl, hb1⟩
      replace hS := hS.after hb1
      clear hb1
      replace hS := hS.new rfl [.bool ng, .int .u64 a0, .int .u64 a1, .int .u64 a2, .int .u64 a3] 25
      have i0 := hS.c 0 rfl 0 rfl
      have i1 := hS.c 0 rfl 1 rfl
      have i2 := hS.c 0 rfl 2 rfl
      have i3 := hS.c 0 rfl 3 rfl
      have i4 := hS.c 0 rfl 4 rfl
      go_wp2_with fail
      clear i0 i1 i2 i3 i4
      generalize World.alloc _ _ = W8 at hS ⊢
      generalize w8.heap.size = B7 at hS ⊢
      refine (HRa.out _).mono ?_
      rintro e w9 ⟨rfl, hb1⟩
      replace hS := hS.after hb1
      clear hb1
      have i0 := hS.c 0 rfl 0 rfl
      have i1 := hS.c 0 rfl 1 rfl
      have i2 := hS.c 0 rfl 2 rfl
      have i3 := hS.c 0 rfl 3 rfl
      have i4 := hS.c 0 rfl 4 rfl
      go_wp2_with fail
      clear i0 i1 i2 i3 i4
      refine (HFr.out _).mono ?_
      rintro e w10 ⟨A1, c1, rfl, hc1, hd1, hb1⟩
      replace hS := hS.after hb1
      clear hb1
      go_wp2_with fail
      refine (HNg.out A1 c1 _ hd1 hc1).mono ?_
      rintro e w11 ⟨rfl, hd2, hb1⟩
      replace hS := hS.after hb1
      clear hb1 hd1
      go_wp2_with fail
      refine (HOu.out A1 c1 _ hd2).mono ?_
      rintro e w12 ⟨rfl, hb1⟩
      replace hS := hS.after hb1
      clear hb1
      clear hd2 hc1
      have hT := (show ∀ W : World, (binOp .neq 25 (iv ng a0 a1 a2 a3) (iv ng a0 a1 a2 a3)).run Tryd.prog W = .ok (.bool false) W from fun W => by rw [neqInt]; simp)
      replace hS := hS.new rfl [.bool ng, .int .u64 a0, .int .u64 a1, .int .u64 a2, .int .u64 a3] 25
      have i0 := hS.c 7 rfl 0 rfl
      have i1 := hS.c 7 rfl 1 rfl
      have i2 := hS.c 7 rfl 2 rfl
      have i3 := hS.c 7 rfl 3 rfl
      have i4 := hS.c 7 rfl 4 rfl
      go_wp2_with fail
      clear i0 i1 i2 i3 i4
      clear hT
      generalize World.alloc _ _ = W12 at hS ⊢
      generalize w12.heap.size = B8 at hS ⊢
      refine (num_any _ _).mono ?_
      rintro e w13 ⟨rfl, hb1⟩
      replace hS := hS.after hb1
      clear hb1
      have i0 := hS.c 1 rfl 0 rfl
      have i1 := hS.c 1 rfl 1 rfl
      have i2 := hS.c 1 rfl 2 rfl
      have i3 := hS.c 1 rfl 3 rfl
      have i4 := hS.c 1 rfl 4 rfl
      go_wp2_with fail
      clear i0 i1 i2 i3 i4
      refine (HRb.out _).mono ?_
      rintro e w14 ⟨rfl, hb1⟩
      replace hS := hS.after hb1
      clear hb1
      go_wp2_with fail
      clear HAdd HMul HSt1 HSt2 HAd Hi HRt HRa HRb HSub HNeg HNg HOu hn1 hkn lb
      have hP : S3 w [.bool s, .int .u64 a0, .int .u64 a1, .int .u64 a2, .int .u64 a3] [.bool t, .int .u64 b0, .int .u64 b1, .int .u64 b2, .int .u64 b3] [.bool du, .int .u64 d0, .int .u64 d1, .int .u64 d2, .int .u64 d3] B6 w14 := hS.three 0 rfl 1 rfl 6 rfl
      clear hS
      have i0 : ∀ W, S3 w [.bool s, .int .u64 a0, .int .u64 a1, .int .u64 a2, .int .u64 a3] [.bool t, .int .u64 b0, .int .u64 b1, .int .u64 b2, .int .u64 b3] [.bool du, .int .u64 d0, .int .u64 d1, .int .u64 d2, .int .u64 d3] B6 W → W.cell? ⟨w.heap.size, 0, none⟩ = some (.bool s) := fun W h => h.c 0 rfl 0 rfl
      have j0 : ∀ W, S3 w [.bool s, .int .u64 a0, .int .u64 a1, .int .u64 a2, .int .u64 a3] [.bool t, .int .u64 b0, .int .u64 b1, .int .u64 b2, .int .u64 b3] [.bool du, .int .u64 d0, .int .u64 d1, .int .u64 d2, .int .u64 d3] B6 W → W.cell? ⟨w.heap.size + 1, 0, none⟩ = some (.bool t) := fun W h => h.c 1 rfl 0 rfl
      have i1 : ∀ W, S3 w [.bool s, .int .u64 a0, .int .u64 a1, .int .u64 a2, .int .u64 a3] [.bool t, .int .u64 b0, .int .u64 b1, .int .u64 b2, .int .u64 b3] [.bool du, .int .u64 d0, .int .u64 d1, .int .u64 d2, .int .u64 d3] B6 W → W.cell? ⟨w.heap.size, 1, none⟩ = some (.int .u64 a0) := fun W h => h.c 0 rfl 1 rfl
      have j1 : ∀ W, S3 w [.bool s, .int .u64 a0, .int .u64 a1, .int .u64 a2, .int .u64 a3] [.bool t, .int .u64 b0, .int .u64 b1, .int .u64 b2, .int .u64 b3] [.bool du, .int .u64 d0, .int .u64 d1, .int .u64 d2, .int .u64 d3] B6 W → W.cell? ⟨w.heap.size + 1, 1, none⟩ = some (.int .u64 b0) := fun W h => h.c 1 rfl 1 rfl
      have i2 : ∀ W, S3 w [.bool s, .int .u64 a0, .int .u64 a1, .int .u64 a2, .int .u64 a3] [.bool t, .int .u64 b0, .int .u64 b1, .int .u64 b2, .int .u64 b3] [.bool du, .int .u64 d0, .int .u64 d1, .int .u64 d2, .int .u64 d3] B6 W → W.cell? ⟨w.heap.size, 2, none⟩ = some (.int .u64 a1) := fun W h => h.c 0 rfl 2 rfl
      have j2 : ∀ W, S3 w [.bool s, .int .u64 a0, .int .u64 a1, .int .u64 a2, .int .u64 a3] [.bool t, .int .u64 b0, .int .u64 b1, .int .u64 b2, .int .u64 b3] [.bool du, .int .u64 d0, .int .u64 d1, .int .u64 d2, .int .u64 d3] B6 W → W.cell? ⟨w.heap.size + 1, 2, none⟩ = some (.int .u64 b1) := fun W h => h.c 1 rfl 2 rfl
      have i3 : ∀ W, S3 w [.bool s, .int .u64 a0, .int .u64 a1, .int .u64 a2, .int .u64 a3] [.bool t, .int .u64 b0, .int .u64 b1, .int .u64 b2, .int .u64 b3] [.bool du, .int .u64 d0, .int .u64 d1, .int .u64 d2, .int .u64 d3] B6 W → W.cell? ⟨w.heap.size, 3, none⟩ = some (.int .u64 a2) := fun W h => h.c 0 rfl 3 rfl
      have j3 : ∀ W, S3 w [.bool s, .int .u64 a0, .int .u64 a1, .int .u64 a2, .int .u64 a3] [.bool t, .int .u64 b0, .int .u64 b1, .int .u64 b2, .int .u64 b3] [.bool du, .int .u64 d0, .int .u64 d1, .int .u64 d2, .int .u64 d3] B6 W → W.cell? ⟨w.heap.size + 1, 3, none⟩ = some (.int .u64 b2) := fun W h => h.c 1 rfl 3 rfl
      have i4 : ∀ W, S3 w [.bool s, .int .u64 a0, .int .u64 a1, .int .u64 a2, .int .u64 a3] [.bool t, .int .u64 b0, .int .u64 b1, .int .u64 b2, .int .u64 b3] [.bool du, .int .u64 d0, .int .u64 d1, .int .u64 d2, .int .u64 d3] B6 W → W.cell? ⟨w.heap.size, 4, none⟩ = some (.int .u64 a3) := fun W h => h.c 0 rfl 4 rfl
      have j4 : ∀ W, S3 w [.bool s, .int .u64 a0, .int .u64 a1, .int .u64 a2, .int .u64 a3] [.bool t, .int .u64 b0, .int .u64 b1, .int .u64 b2, .int .u64 b3] [.bool du, .int .u64 d0, .int .u64 d1, .int .u64 d2, .int .u64 d3] B6 W → W.cell? ⟨w.heap.size + 1, 4, none⟩ = some (.int .u64 b3) := fun W h => h.c 1 rfl 4 rfl
      go_cut [23, 24] (fun c g wx => ∃ B, c = .pointer (some ⟨B, 0, none⟩) ∧ g = .int .i64 kd ∧ Hid (RS w [(B6, [.bool du, .int .u64 d0, .int .u64 d1, .int .u64 d2, .int .u64 d3]), (B, [.bool du, .int .u64 d0, .int .u64 d1, .int .u64 d2, .int .u64 d3])] wx))
      case first =>
        have hp0 := hP.drew
        go_region_held3 (fun w' : World => S3 w [.bool s, .int .u64 a0, .int .u64 a1, .int .u64 a2, .int .u64 a3] [.bool t, .int .u64 b0, .int .u64 b1, .int .u64 b2, .int .u64 b3] [.bool du, .int .u64 d0, .int .u64 d1, .int .u64 d2, .int .u64 d3] B6 w')
          (first
            | (with_reducible refine S3.drew ?_; with_reducible assumption)
            | (with_reducible refine S3.after ?_ hb; with_reducible assumption)
            | (with_reducible refine S3.alloc ?_ _; with_reducible assumption)
            | (with_reducible exact S3.alloc hp4 _)
            | (with_reducible exact S3.drew (S3.alloc hP _))
            | (with_reducible refine S3.put5 ?_ zl zs _ _ _ _ _; with_reducible assumption))
          (first
            | (go_at_call 17; refine Calls.mono (by with_reducible exact HFr.out _) ?_; rintro e v1 ⟨A2, c2, rfl, hc2, hd2, hb⟩; have HD2 := Lib.hid hd2; clear hd2 hc2; have hp1 := S3.after (ra := [.bool s, .int .u64 a0, .int .u64 a1, .int .u64 a2, .int .u64 a3]) (rb := [.bool t, .int .u64 b0, .int .u64 b1, .int .u64 b2, .int .u64 b3]) (dv := [.bool du, .int .u64 d0, .int .u64 d1, .int .u64 d2, .int .u64 d3]) (B := B6) (w := w) (by assumption) hb; (first | (replace rz := rz.after hb) | (have rz := (Row.at (w := w14) (n := w14.heap.size) rfl [.bool false, .int .u64 0, .int .u64 0, .int .u64 0, .int .u64 0] 25).drew.after hb; have zl := S3.lt6 hP; have zs := S3.lt1 hP) | skip))
            | (go_at_call 17; refine Calls.mono (by with_reducible exact HFb.out _) ?_; have hbo := hb; clear hb; rintro e v2 ⟨A3, c3, rfl, hc3, hd3, hb⟩; have HD2b := Lib.hid ((HD2.out.below (by first | exact Below.refl _ _ | exact (Below.refl _ _).alloc (Nat.le_refl _) _)).below hb); have HD3 := Lib.hid hd3; have HC3 := Lib.hid hc3; clear hd3 hc3; have hp2 := S3.after (ra := [.bool s, .int .u64 a0, .int .u64 a1, .int .u64 a2, .int .u64 a3]) (rb := [.bool t, .int .u64 b0, .int .u64 b1, .int .u64 b2, .int .u64 b3]) (dv := [.bool du, .int .u64 d0, .int .u64 d1, .int .u64 d2, .int .u64 d3]) (B := B6) (w := w) (by assumption) hb; (first | (replace rz := rz.after hb) | (have rz := (Row.at (w := v1) rfl [.bool false, .int .u64 0, .int .u64 0, .int .u64 0, .int .u64 0] 25).after hb; have zl := S3.lt6 hp1; have zs := S3.lt1 hp1) | skip))
            | (go_at_call 29; refine Calls.mono (by with_reducible exact (HSb.out _ _ _ _ _ (HD2b.out.below (by first | exact Below.refl _ _ | exact (Below.refl _ _).alloc (Nat.le_refl _) _)) (HD3.out.below (by first | exact Below.refl _ _ | exact (Below.refl _ _).alloc (Nat.le_refl _) _)) HC3.out)) ?_; clear hb; rintro e v3 ⟨A4, c4, rfl, hc4, hd4, hb, hp4⟩; have HD4 := Lib.hid hd4; clear hd4 hc4 hp4; have hp3 := S3.after (ra := [.bool s, .int .u64 a0, .int .u64 a1, .int .u64 a2, .int .u64 a3]) (rb := [.bool t, .int .u64 b0, .int .u64 b1, .int .u64 b2, .int .u64 b3]) (dv := [.bool du, .int .u64 d0, .int .u64 d1, .int .u64 d2, .int .u64 d3]) (B := B6) (w := w) (by assumption) hb; (first | (replace rz := rz.after hb) | (have rz := (Row.at (w := v2) rfl [.bool false, .int .u64 0, .int .u64 0, .int .u64 0, .int .u64 0] 25).after hb; have zl := S3.lt6 hp2; have zs := S3.lt1 hp2) | skip))
            | (go_at_call 27; refine Calls.mono (by with_reducible exact (HOs.out _ _ _ (HD4.out.below (by first | exact Below.refl _ _ | exact (Below.refl _ _).alloc (Nat.le_refl _) _)))) ?_; clear hb; rintro e v4 ⟨rfl, hb⟩; have hp4 := S3.after (ra := [.bool s, .int .u64 a0, .int .u64 a1, .int .u64 a2, .int .u64 a3]) (rb := [.bool t, .int .u64 b0, .int .u64 b1, .int .u64 b2, .int .u64 b3]) (dv := [.bool du, .int .u64 d0, .int .u64 d1, .int .u64 d2, .int .u64 d3]) (B := B6) (w := w) (by assumption) hb; (first | (replace rz := rz.after hb) | (have rz := (Row.at (w := v3) rfl [.bool false, .int .u64 0, .int .u64 0, .int .u64 0, .int .u64 0] 25).after hb; have zl := S3.lt6 hp3; have zs := S3.lt1 hp3) | skip); try (have z0 := rz.c 0 rfl; have y0 := rz.f 0 rfl; have z1 := rz.c 1 rfl; have y1 := rz.f 1 rfl; have z2 := rz.c 2 rfl; have y2 := rz.f 2 rfl; have z3 := rz.c 3 rfl; have y3 := rz.f 3 rfl; have z4 := rz.c 4 rfl; have y4 := rz.f 4 rfl)))
        all_goals
          go_wp2_with fail
          go_meet
          first
            | (with_reducible exact ⟨_, rfl, rfl, S3.made hp4 _ _⟩)
            | (with_reducible exact ⟨_, rfl, rfl, S3.laid hp4 rz zl zs _ _ _ _ _⟩)
      case rest =>
        obtain ⟨B9, rfl, rfl, HK9⟩ := hcut
        have hS := HK9.out
        clear HK9 hP i0 i1 i2 i3 i4 j0 j1 j2 j3 j4
        have hT := (show ∀ W : World, (binOp .eql 25 (iv du d0 d1 d2 d3) (iv du d0 d1 d2 d3)).run Tryd.prog W = .ok (.bool true) W from fun W => by rw [eqlInt]; simp)
        have i0 := hS.c 0 rfl 0 rfl
        have i1 := hS.c 0 rfl 1 rfl
        have i2 := hS.c 0 rfl 2 rfl
        have i3 := hS.c 0 rfl 3 rfl
        have i4 := hS.c 0 rfl 4 rfl
        have j0 := hS.c 1 rfl 0 rfl
        have j1 := hS.c 1 rfl 1 rfl
        have j2 := hS.c 1 rfl 2 rfl
        have j3 := hS.c 1 rfl 3 rfl
        have j4 := hS.c 1 rfl 4 rfl
        go_wp2_with fail
        clear i0 i1 i2 i3 i4 j0 j1 j2 j3 j4
        refine (num_any _ _).mono ?_
        rintro e w15 ⟨rfl, hb1⟩
        replace hS := hS.after hb1
        clear hb1
        go_wp2_with fail
        refine (works_true _ (Ht.out.below hS.2) (Hz.out.below hg hS.2) (Nat.lt_of_lt_of_le hw0 hS.2.size)).mono ?_
        rintro e wz ⟨rfl, hb1⟩
        replace hS := hS.after hb1
        go_wp2_with fail
        go_ret
        exact ⟨rfl, hS.2⟩
end Go.Proofs.YtpbdhhdmnnelhaaDoor
