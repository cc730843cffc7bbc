/- LimbTexts walked. -/
import Derived.Test.YtpbdhhdmnnelhaaDoorDP
import Derived.Test.YtpbdhhdmnnelhaaDoorDQ
import Derived.Test.YtpbdhhdmnnelhaaDoorCI
import Derived.Test.YtpbdhhdmnnelhaaDoorCO
namespace Go.Proofs.YtpbdhhdmnnelhaaDoor
open Go.RowKit

set_option maxRecDepth 100000 in
set_option maxHeartbeats 1000000 in
theorem texts_many (s : Bool) (a0 a1 a2 a3 : Int) (t : ByteArray) (w : World) (ht : Tab10 w) (hz : TabTz w) (hw0 : 0 < w.heap.size) (hn : 200 < t.size) :
    Calls Tryd.prog 7 #[iv s a0 a1 a2 a3, .string t] w fun e w' => e = .returned (.bool true) ∧ Below w.heap.size w w' := by
  have Ht := Lib.hid ht
  have Hz := Lib.hid hz
  have hg : 0 < w.heap.size := block_lt_of_cell (Hz.out 0 (by decide))
  clear ht hz
  have hn1 : (200 : Int) < t.size := by omega
  go_enter Tryd.func7, Tryd.ntmps7
  go_wp2_with fail
  have hb : Below w.heap.size w (w.alloc (.cells #[.bool s, .int .u64 a0, .int .u64 a1, .int .u64 a2, .int .u64 a3] 25)) := (Below.refl _ _).alloc (Nat.le_refl _) _
  refine (works_true _ (Ht.out.below hb) (Hz.out.below hg hb) (Nat.lt_of_lt_of_le hw0 hb.size)).mono ?_
  rintro e w1 ⟨rfl, hb1⟩
  have HB := Lib.hid (hb.trans (hb1.mono hb.size))
  clear hb hb1
  go_wp2_with fail
  go_ret
  exact ⟨rfl, HB.out⟩
set_option maxRecDepth 100000 in
set_option maxHeartbeats 4000000 in
theorem texts_r (x : Int) (t : ByteArray) (w : World) (ht : Tab10 w) (hz : TabTz w) (hw0 : 0 < w.heap.size) (hn : t.size ≤ 200) (hx : x.natAbs < T256) :
    Calls Tryd.prog 7 #[ivz x, .string t] w fun e w' => e = .returned (.bool true) ∧ Below w.heap.size w w' := by
  have Ht := Lib.hid ht
  have Hz := Lib.hid hz
  have hg : 0 < w.heap.size := block_lt_of_cell (Hz.out 0 (by decide))
  clear ht hz
  have hn1 : ¬ (200 : Int) < t.size := by omega
  obtain ⟨Z, K, hZ, h1, h2⟩ := parse_both t (by omega)
  have HP1 := Lib.hid h1
  have HP2 := Lib.hid h2
  clear h1 h2
  have HTx := Lib.hid (fun W (h : Below w.heap.size w W) => text_z x W hx (Ht.out.below h))
  have HRa := Lib.hid (fun W => right_any (decide (x < 0)) (W64 x.natAbs 0 : Nat) (W64 x.natAbs 1 : Nat) (W64 x.natAbs 2 : Nat) (W64 x.natAbs 3 : Nat) W)
  rw [right_num x hx] at HRa
  have HFr := Lib.hid (fun W => from_z x W hx)
  have HRT := Lib.hid (fun A c W (h1 : DS W x.natAbs A) (h2 : L16 x.natAbs ≤ c) => reftext_z x A c W h1 h2 hx)
  have HOu := Lib.hid (fun A c W (h1 : DS W Z.natAbs A) => by
    have h := out_z Z A c W h1
    rw [outV, if_pos hZ] at h
    exact h)
  clear hx hZ hn
  unfold PPost at HP2
  unfold BigPost at HFr
  simp only [ivz, bigv] at HP1 HP2 HTx HFr HRT HOu ⊢
  generalize (⟨(textL x).toArray⟩ : ByteArray) = T at *
  generalize decide (x < 0) = s at *
  generalize L16 x.natAbs = lx at *
  generalize x.natAbs = xn at *
  generalize ((W64 xn 0 : Nat) : Int) = a0 at *
  generalize ((W64 xn 1 : Nat) : Int) = a1 at *
  generalize ((W64 xn 2 : Nat) : Int) = a2 at *
  generalize ((W64 xn 3 : Nat) : Int) = a3 at *
  generalize decide (Z < 0) = g at *
  generalize L16 Z.natAbs = lz at *
  generalize Z.natAbs = zn at *
  generalize ((W64 zn 0 : Nat) : Int) = b0 at *
  generalize ((W64 zn 1 : Nat) : Int) = b1 at *
  generalize ((W64 zn 2 : Nat) : Int) = b2 at *
  generalize ((W64 zn 3 : Nat) : Int) = b3 at *
  go_enter Tryd.func7, Tryd.ntmps7
  go_wp2_with fail
  have hS : RS w [(w.heap.size, [.bool s, .int .u64 a0, .int .u64 a1, .int .u64 a2, .int .u64 a3])] _ := (RS.nil w).new (B := w.heap.size) rfl [.bool s, .int .u64 a0, .int .u64 a1, .int .u64 a2, .int .u64 a3] 25
  generalize World.alloc _ _ = W0 at hS ⊢
  refine (HTx.out _ hS.2).mono ?_
  rintro e w1 ⟨rfl, hb1⟩
  replace hS := hS.after hb1
  clear hb1
  go_wp2_with fail
  refine (HP1.out _).mono ?_
  rintro e w2 ⟨rfl, hb1⟩
  replace hS := hS.after hb1
  clear hb1
  replace hS := hS.new rfl [.bool g, .int .u64 b0, .int .u64 b1, .int .u64 b2, .int .u64 b3] 25
  go_wp2_with fail
  generalize World.alloc _ _ = W2 at hS ⊢
  generalize w2.heap.size = B2 at hS ⊢
  refine (HP2.out _).mono ?_
  rintro e w3 ⟨A1, c1, rfl, hd1, hb1⟩
  replace hS := hS.after hb1
  have HD1 := Lib.hid (hd1.below ((Below.refl w3.heap.size w3).alloc (Nat.le_refl _) (.cells #[.bool g, .slice A1 lz c1] 30)))
  clear hb1 hd1
  replace hS := hS.new rfl [.bool g, .slice A1 lz c1] 30
  go_wp2_with fail
  generalize World.alloc _ _ = W3 at hS HD1 ⊢
  generalize w3.heap.size = B3 at hS ⊢
  refine (HOu.out _ _ _ HD1.out).mono ?_
  rintro e w4 ⟨rfl, hb1⟩
  replace hS := hS.after hb1
  clear hb1 HD1
  replace hS := hS.new rfl [.bool g, .int .u64 b0, .int .u64 b1, .int .u64 b2, .int .u64 b3] 25
  have hT := (show ∀ W : World, (binOp .neq 25 (iv g b0 b1 b2 b3) (iv g b0 b1 b2 b3)).run Tryd.prog W = .ok (.bool false) W from fun W => by rw [neqInt]; simp)
  have i0 := hS.c 1 rfl 0 rfl
  have i1 := hS.c 1 rfl 1 rfl
  have i2 := hS.c 1 rfl 2 rfl
  have i3 := hS.c 1 rfl 3 rfl
  have i4 := hS.c 1 rfl 4 rfl
  have j0 := hS.c 3 rfl 0 rfl
  have j1 := hS.c 3 rfl 1 rfl
  have j2 := hS.c 3 rfl 2 rfl
  have j3 := hS.c 3 rfl 3 rfl
  have j4 := hS.c 3 rfl 4 rfl
  go_wp2_with fail
  clear i0 i1 i2 i3 i4 j0 j1 j2 j3 j4 hT
  generalize World.alloc _ _ = W4 at hS ⊢
  refine (num_any _ _).mono ?_
  rintro e w5 ⟨rfl, hb1⟩
  replace hS := hS.after hb1
  clear hb1
  have i0 := hS.c 0 rfl 0 rfl
  have i1 := hS.c 0 rfl 1 rfl
  have i2 := hS.c 0 rfl 2 rfl
  have i3 := hS.c 0 rfl 3 rfl
  have i4 := hS.c 0 rfl 4 rfl
  go_wp2_with fail
  clear i0 i1 i2 i3 i4
  refine (HRa.out _).mono ?_
  rintro e w6 ⟨rfl, hb1⟩
  replace hS := hS.after hb1
  clear hb1
  have i0 := hS.c 0 rfl 0 rfl
  have i1 := hS.c 0 rfl 1 rfl
  have i2 := hS.c 0 rfl 2 rfl
  have i3 := hS.c 0 rfl 3 rfl
  have i4 := hS.c 0 rfl 4 rfl
  go_wp2_with fail
  clear i0 i1 i2 i3 i4
  refine (HFr.out _).mono ?_
  rintro e w7 ⟨A2, c2, rfl, hc2, hd2, hb1⟩
  replace hS := hS.after hb1
  clear hb1
  go_wp2_with fail
  refine (HRT.out _ _ _ hd2 hc2).mono ?_
  rintro e w8 ⟨rfl, hb1⟩
  replace hS := hS.after hb1
  clear hb1 hd2 hc2
  go_wp2_with fail
  refine (num_any _ _).mono ?_
  rintro e w9 ⟨rfl, hb1⟩
  replace hS := hS.after hb1
  clear hb1
  go_wp2_with fail
  have hb := hS.2
  refine (works_true _ (Ht.out.below hb) (Hz.out.below hg hb) (Nat.lt_of_lt_of_le hw0 hb.size)).mono ?_
  rintro e w10 ⟨rfl, hb1⟩
  have HB := Lib.hid (hb.trans (hb1.mono hb.size))
  clear hb hb1 hS
  go_wp2_with fail
  go_ret
  exact ⟨rfl, HB.out⟩
set_option maxRecDepth 100000 in
set_option maxHeartbeats 4000000 in
theorem texts_a (t : ByteArray) (w : World) (ht : Tab10 w) (hz : TabTz w) (hw0 : 0 < w.heap.size) (hn : t.size ≤ 200) :
    Calls Tryd.prog 7 #[iv true 0 0 0 0, .string t] w fun e w' => e = .returned (.bool true) ∧ Below w.heap.size w w' := by
  have Ht := Lib.hid ht
  have Hz := Lib.hid hz
  have hg : 0 < w.heap.size := block_lt_of_cell (Hz.out 0 (by decide))
  clear ht hz
  have hn1 : ¬ (200 : Int) < t.size := by omega
  obtain ⟨Z, K, hZ, h1, h2⟩ := parse_both t (by omega)
  have HP1 := Lib.hid h1
  have HP2 := Lib.hid h2
  clear h1 h2
  have HRa := Lib.hid (fun W => right_any true 0 0 0 0 W)
  rw [show rightB true 0 0 0 0 = false from rfl] at HRa
  have HOu := Lib.hid (fun A c W (h1 : DS W Z.natAbs A) => by
    have h := out_z Z A c W h1
    rw [outV, if_pos hZ] at h
    exact h)
  clear hZ hn
  unfold PPost at HP2
  simp only [ivz, bigv] at HP1 HP2 HOu ⊢
  generalize decide (Z < 0) = g at *
  generalize L16 Z.natAbs = lz at *
  generalize Z.natAbs = zn at *
  generalize ((W64 zn 0 : Nat) : Int) = b0 at *
  generalize ((W64 zn 1 : Nat) : Int) = b1 at *
  generalize ((W64 zn 2 : Nat) : Int) = b2 at *
  generalize ((W64 zn 3 : Nat) : Int) = b3 at *
  go_enter Tryd.func7, Tryd.ntmps7
  go_wp2_with fail
  have hS : RS w [(w.heap.size, [.bool true, .int .u64 0, .int .u64 0, .int .u64 0, .int .u64 0])] _ := (RS.nil w).new (B := w.heap.size) rfl [.bool true, .int .u64 0, .int .u64 0, .int .u64 0, .int .u64 0] 25
  generalize World.alloc _ _ = W0 at hS ⊢
  refine (text_bad _).mono ?_
  rintro e w1 ⟨rfl, hb1⟩
  replace hS := hS.after hb1
  clear hb1
  go_wp2_with fail
  refine (HP1.out _).mono ?_
  rintro e w2 ⟨rfl, hb1⟩
  replace hS := hS.after hb1
  clear hb1
  replace hS := hS.new rfl [.bool g, .int .u64 b0, .int .u64 b1, .int .u64 b2, .int .u64 b3] 25
  go_wp2_with fail
  generalize World.alloc _ _ = W2 at hS ⊢
  generalize w2.heap.size = B2 at hS ⊢
  refine (HP2.out _).mono ?_
  rintro e w3 ⟨A1, c1, rfl, hd1, hb1⟩
  replace hS := hS.after hb1
  have HD1 := Lib.hid (hd1.below ((Below.refl w3.heap.size w3).alloc (Nat.le_refl _) (.cells #[.bool g, .slice A1 lz c1] 30)))
  clear hb1 hd1
  replace hS := hS.new rfl [.bool g, .slice A1 lz c1] 30
  go_wp2_with fail
  generalize World.alloc _ _ = W3 at hS HD1 ⊢
  generalize w3.heap.size = B3 at hS ⊢
  refine (HOu.out _ _ _ HD1.out).mono ?_
  rintro e w4 ⟨rfl, hb1⟩
  replace hS := hS.after hb1
  clear hb1 HD1
  replace hS := hS.new rfl [.bool g, .int .u64 b0, .int .u64 b1, .int .u64 b2, .int .u64 b3] 25
  have hT := (show ∀ W : World, (binOp .neq 25 (iv g b0 b1 b2 b3) (iv g b0 b1 b2 b3)).run Tryd.prog W = .ok (.bool false) W from fun W => by rw [neqInt]; simp)
  have i0 := hS.c 1 rfl 0 rfl
  have i1 := hS.c 1 rfl 1 rfl
  have i2 := hS.c 1 rfl 2 rfl
  have i3 := hS.c 1 rfl 3 rfl
  have i4 := hS.c 1 rfl 4 rfl
  have j0 := hS.c 3 rfl 0 rfl
  have j1 := hS.c 3 rfl 1 rfl
  have j2 := hS.c 3 rfl 2 rfl
  have j3 := hS.c 3 rfl 3 rfl
  have j4 := hS.c 3 rfl 4 rfl
  go_wp2_with fail
  clear i0 i1 i2 i3 i4 j0 j1 j2 j3 j4 hT
  generalize World.alloc _ _ = W4 at hS ⊢
  refine (num_any _ _).mono ?_
  rintro e w5 ⟨rfl, hb1⟩
  replace hS := hS.after hb1
  clear hb1
  have i0 := hS.c 0 rfl 0 rfl
  have i1 := hS.c 0 rfl 1 rfl
  have i2 := hS.c 0 rfl 2 rfl
  have i3 := hS.c 0 rfl 3 rfl
  have i4 := hS.c 0 rfl 4 rfl
  go_wp2_with fail
  clear i0 i1 i2 i3 i4
  refine (HRa.out _).mono ?_
  rintro e w6 ⟨rfl, hb1⟩
  replace hS := hS.after hb1
  clear hb1
  go_wp2_with fail
  refine (num_any _ _).mono ?_
  rintro e w9 ⟨rfl, hb1⟩
  replace hS := hS.after hb1
  clear hb1
  go_wp2_with fail
  have hb := hS.2
  refine (works_true _ (Ht.out.below hb) (Hz.out.below hg hb) (Nat.lt_of_lt_of_le hw0 hb.size)).mono ?_
  rintro e w10 ⟨rfl, hb1⟩
  have HB := Lib.hid (hb.trans (hb1.mono hb.size))
  clear hb hb1 hS
  go_wp2_with fail
  go_ret
  exact ⟨rfl, HB.out⟩
end Go.Proofs.YtpbdhhdmnnelhaaDoor
