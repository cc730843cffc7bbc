/- LimbMirrors walked at right Ints: the walk alone, over what its calls answer. -/
import Derived.Test.YtpbdhhdmnnelhaaDoorFB
import Derived.Deep.RegionHeld3
import Derived.Deep.CutBlock
namespace Go.Proofs.YtpbdhhdmnnelhaaDoor
open Go.RowKit

/-- What LimbMirrors' calls answer. -/
def MHead (w : World) (s t u v sc sd sf sg si sj sl sm sn : Bool) (a0 a1 a2 a3 b0 b1 b2 b3 x0 x1 x2 x3 y0 y1 y2 y3 c0 c1 c2 c3 d0 d1 d2 d3 f0 f1 f2 f3 g0 g1 g2 g3 i0 i1 i2 i3 j0 j1 j2 j3 l0 l1 l2 l3 m0 m1 m2 m3 n0 n1 n2 n3 k1 k3 kq : Int) : Prop :=
  (∀ W, Calls Tryd.prog 26 #[iv s a0 a1 a2 a3] W fun e w' => e = .returned (.tuple #[iv u x0 x1 x2 x3, .int .i64 0]) ∧ Below W.heap.size W w') ∧
  (∀ W, Calls Tryd.prog 26 #[iv t b0 b1 b2 b3] W fun e w' => e = .returned (.tuple #[iv v y0 y1 y2 y3, .int .i64 0]) ∧ Below W.heap.size W w') ∧
  (∀ b c W, Row W b [.bool s, .int .u64 a0, .int .u64 a1, .int .u64 a2, .int .u64 a3, .bool t, .int .u64 b0, .int .u64 b1, .int .u64 b2, .int .u64 b3] → Calls Tryd.prog 22 #[.slice (some ⟨b, 0, none⟩) 2 c] W fun e w' => e = .returned (.tuple #[iv sc c0 c1 c2 c3, .int .i64 k1]) ∧ Below W.heap.size W w') ∧
  (∀ b c W, Row W b [.bool u, .int .u64 x0, .int .u64 x1, .int .u64 x2, .int .u64 x3, .bool v, .int .u64 y0, .int .u64 y1, .int .u64 y2, .int .u64 y3] → Calls Tryd.prog 22 #[.slice (some ⟨b, 0, none⟩) 2 c] W fun e w' => e = .returned (.tuple #[iv sd d0 d1 d2 d3, .int .i64 k1]) ∧ Below W.heap.size W w') ∧
  (k1 = 0 → (∀ W, Calls Tryd.prog 26 #[iv sd d0 d1 d2 d3] W fun e w' => e = .returned (.tuple #[iv sc c0 c1 c2 c3, .int .i64 0]) ∧ Below W.heap.size W w')) ∧
  (∀ b c W, Row W b [.bool s, .int .u64 a0, .int .u64 a1, .int .u64 a2, .int .u64 a3, .bool t, .int .u64 b0, .int .u64 b1, .int .u64 b2, .int .u64 b3] → Calls Tryd.prog 23 #[.slice (some ⟨b, 0, none⟩) 2 c] W fun e w' => e = .returned (.tuple #[iv sf f0 f1 f2 f3, .int .i64 k3]) ∧ Below W.heap.size W w') ∧
  (∀ b c W, Row W b [.bool u, .int .u64 x0, .int .u64 x1, .int .u64 x2, .int .u64 x3, .bool t, .int .u64 b0, .int .u64 b1, .int .u64 b2, .int .u64 b3] → Calls Tryd.prog 23 #[.slice (some ⟨b, 0, none⟩) 2 c] W fun e w' => e = .returned (.tuple #[iv sg g0 g1 g2 g3, .int .i64 k3]) ∧ Below W.heap.size W w') ∧
  (k3 = 0 → (∀ W, Calls Tryd.prog 26 #[iv sg g0 g1 g2 g3] W fun e w' => e = .returned (.tuple #[iv sf f0 f1 f2 f3, .int .i64 0]) ∧ Below W.heap.size W w')) ∧
  (∀ W, Below w.heap.size w W → Calls Tryd.prog 31 #[iv s a0 a1 a2 a3, iv t b0 b1 b2 b3] W fun e w' => e = .returned (.tuple #[iv si i0 i1 i2 i3, .int .i64 0]) ∧ Below W.heap.size W w') ∧
  (∀ W, Below w.heap.size w W → Calls Tryd.prog 31 #[iv u x0 x1 x2 x3, iv t b0 b1 b2 b3] W fun e w' => e = .returned (.tuple #[iv si i0 i1 i2 i3, .int .i64 0]) ∧ Below W.heap.size W w') ∧
  (∀ W, Calls Tryd.prog 30 #[iv s a0 a1 a2 a3, iv t b0 b1 b2 b3] W fun e w' => e = .returned (.tuple #[iv sj j0 j1 j2 j3, iv sl l0 l1 l2 l3, .int .i64 kq]) ∧ Below W.heap.size W w') ∧
  (∀ W, Calls Tryd.prog 30 #[iv u x0 x1 x2 x3, iv t b0 b1 b2 b3] W fun e w' => e = .returned (.tuple #[iv sm m0 m1 m2 m3, iv sn n0 n1 n2 n3, .int .i64 kq]) ∧ Below W.heap.size W w') ∧
  (kq = 0 → (∀ W, Calls Tryd.prog 26 #[iv sm m0 m1 m2 m3] W fun e w' => e = .returned (.tuple #[iv sj j0 j1 j2 j3, .int .i64 0]) ∧ Below W.heap.size W w') ∧ (∀ W, Calls Tryd.prog 26 #[iv sn n0 n1 n2 n3] W fun e w' => e = .returned (.tuple #[iv sl l0 l1 l2 l3, .int .i64 0]) ∧ Below W.heap.size W w'))
set_option maxRecDepth 100000 in
set_option maxHeartbeats 8000000 in
theorem mirrors_core (s t u v sc sd sf sg si sj sl sm sn : Bool) (a0 a1 a2 a3 b0 b1 b2 b3 x0 x1 x2 x3 y0 y1 y2 y3 c0 c1 c2 c3 d0 d1 d2 d3 f0 f1 f2 f3 g0 g1 g2 g3 i0 i1 i2 i3 j0 j1 j2 j3 l0 l1 l2 l3 m0 m1 m2 m3 n0 n1 n2 n3 k1 k3 kq : Int) (w : World) (ht : Tab10 w) (hz : TabTz w) (hw0 : 0 < w.heap.size)
    (hh : MHead w s t u v sc sd sf sg si sj sl sm sn a0 a1 a2 a3 b0 b1 b2 b3 x0 x1 x2 x3 y0 y1 y2 y3 c0 c1 c2 c3 d0 d1 d2 d3 f0 f1 f2 f3 g0 g1 g2 g3 i0 i1 i2 i3 j0 j1 j2 j3 l0 l1 l2 l3 m0 m1 m2 m3 n0 n1 n2 n3 k1 k3 kq) :
    Calls Tryd.prog 10 #[iv s a0 a1 a2 a3, iv t b0 b1 b2 b3] w fun e w' => e = .returned (.bool true) ∧ Below w.heap.size w w' := by
  have Ht := Lib.hid ht
  have Hz := Lib.hid hz
  have hg : 0 < w.heap.size := block_lt_of_cell (Hz.out 0 (by decide))
  obtain ⟨hNa, hNb, hA1, hA2, hNd, hM1, hM2, hNg, hG1, hG2, hQ1, hQ2, hNq⟩ := hh
  have HNa := Lib.hid hNa
  have HNb := Lib.hid hNb
  have HA1 := Lib.hid hA1
  have HA2 := Lib.hid hA2
  have HNd := Lib.hid hNd
  have HM1 := Lib.hid hM1
  have HM2 := Lib.hid hM2
  have HNg := Lib.hid hNg
  have HG1 := Lib.hid hG1
  have HG2 := Lib.hid hG2
  have HQ1 := Lib.hid hQ1
  have HQ2 := Lib.hid hQ2
  have HNq := Lib.hid hNq
  clear ht hz hNa hNb hA1 hA2 hNd hM1 hM2 hNg hG1 hG2 hQ1 hQ2 hNq
  go_enter Tryd.func10, Tryd.ntmps10
  go_wp2_with fail
  have hS : RS w [(w.heap.size, [.bool s, .int .u64 a0, .int .u64 a1, .int .u64 a2, .int .u64 a3]), (w.heap.size + 1, [.bool t, .int .u64 b0, .int .u64 b1, .int .u64 b2, .int .u64 b3])] _ :=
    ((RS.nil w).new (B := w.heap.size) rfl [.bool s, .int .u64 a0, .int .u64 a1, .int .u64 a2, .int .u64 a3] 25).new (B := w.heap.size + 1) (by simp) [.bool t, .int .u64 b0, .int .u64 b1, .int .u64 b2, .int .u64 b3] 25
  generalize World.alloc _ _ = W0 at hS ⊢
  refine (HNa.out _).mono ?_
  rintro e w1 ⟨rfl, hb1⟩
  replace hS := hS.after hb1
  clear hb1
  replace hS := hS.new (B := w1.heap.size) rfl [.bool u, .int .u64 x0, .int .u64 x1, .int .u64 x2, .int .u64 x3] 25
  have ea0 := hS.c 1 rfl 0 rfl
  have ea1 := hS.c 1 rfl 1 rfl
  have ea2 := hS.c 1 rfl 2 rfl
  have ea3 := hS.c 1 rfl 3 rfl
  have ea4 := hS.c 1 rfl 4 rfl
  go_wp2_with fail
  clear ea0 ea1 ea2 ea3 ea4
  generalize World.alloc _ _ = W1 at hS ⊢
  generalize w1.heap.size = B1 at hS ⊢
  refine (HNb.out _).mono ?_
  rintro e w2 ⟨rfl, hb1⟩
  replace hS := hS.after hb1
  clear hb1
  replace hS := hS.new (B := w2.heap.size) rfl [.bool v, .int .u64 y0, .int .u64 y1, .int .u64 y2, .int .u64 y3] 25
  go_wp2_with fail
  generalize World.alloc _ _ = W2 at hS ⊢
  generalize w2.heap.size = B2 at hS ⊢
  refine (num_any _ _).mono ?_
  rintro e w3 ⟨rfl, hb1⟩
  replace hS := hS.after hb1
  clear hb1
  go_wp2_with fail
  refine (num_any _ _).mono ?_
  rintro e w4 ⟨rfl, hb1⟩
  replace hS := hS.after hb1
  clear hb1
  have ea0 := hS.c 0 rfl 0 rfl
  have ea1 := hS.c 0 rfl 1 rfl
  have ea2 := hS.c 0 rfl 2 rfl
  have ea3 := hS.c 0 rfl 3 rfl
  have ea4 := hS.c 0 rfl 4 rfl
  have eb0 := hS.c 1 rfl 0 rfl
  have eb1 := hS.c 1 rfl 1 rfl
  have eb2 := hS.c 1 rfl 2 rfl
  have eb3 := hS.c 1 rfl 3 rfl
  have eb4 := hS.c 1 rfl 4 rfl
  replace hS := hS.new (B := w4.heap.size) rfl [.bool s, .int .u64 a0, .int .u64 a1, .int .u64 a2, .int .u64 a3, .bool t, .int .u64 b0, .int .u64 b1, .int .u64 b2, .int .u64 b3] 25
  go_wp2_with fail
  clear ea0 ea1 ea2 ea3 ea4 eb0 eb1 eb2 eb3 eb4
  generalize World.alloc _ _ = W4 at hS ⊢
  generalize w4.heap.size = B4 at hS ⊢
  refine (HA1.out _ _ _ (hS.row 4 rfl)).mono ?_
  rintro e w5 ⟨rfl, hb1⟩
  replace hS := hS.after hb1
  clear hb1
  go_wp2_with fail
  refine (sure_any _ _ _ _ _ _ _).mono ?_
  rintro e w6 ⟨rfl, hb1⟩
  replace hS := hS.after hb1
  clear hb1
  replace hS := hS.new (B := w6.heap.size) rfl [.bool sc, .int .u64 c0, .int .u64 c1, .int .u64 c2, .int .u64 c3] 25
  go_upto_if 62 with fail
  generalize World.alloc _ _ = W6 at hS ⊢
  generalize w6.heap.size = B6 at hS ⊢
  obtain ⟨L, HP, HL⟩ := SL.shuts hS
  clear hS
  go_cut [10] (fun _v wx => Hid (SL w L wx))
  case first =>
    cases hk : (k1 == 0)
    · go_wp2_with fail
      go_meet
      exact HP
    · have hk1 : k1 = 0 := by simpa using hk
      clear hk
      subst hk1
      have hS := SL.opens HL.out HP.out
      clear HP
      have ea0 := hS.c 2 rfl 0 rfl
      have ea1 := hS.c 2 rfl 1 rfl
      have ea2 := hS.c 2 rfl 2 rfl
      have ea3 := hS.c 2 rfl 3 rfl
      have ea4 := hS.c 2 rfl 4 rfl
      have eb0 := hS.c 3 rfl 0 rfl
      have eb1 := hS.c 3 rfl 1 rfl
      have eb2 := hS.c 3 rfl 2 rfl
      have eb3 := hS.c 3 rfl 3 rfl
      have eb4 := hS.c 3 rfl 4 rfl
      replace hS := hS.new (B := W6.heap.size) rfl [.bool u, .int .u64 x0, .int .u64 x1, .int .u64 x2, .int .u64 x3, .bool v, .int .u64 y0, .int .u64 y1, .int .u64 y2, .int .u64 y3] 25
      go_wp2_with fail
      clear ea0 ea1 ea2 ea3 ea4 eb0 eb1 eb2 eb3 eb4
      generalize World.alloc _ _ = W7 at hS ⊢
      generalize W6.heap.size = B7 at hS ⊢
      refine (HA2.out _ _ _ (hS.row 6 rfl)).mono ?_
      rintro e w8 ⟨rfl, hb1⟩
      replace hS := hS.after hb1
      clear hb1
      go_wp2_with fail
      refine (sure_any _ _ _ _ _ _ _).mono ?_
      rintro e w9 ⟨rfl, hb1⟩
      replace hS := hS.after hb1
      clear hb1
      replace hS := hS.new (B := w9.heap.size) rfl [.bool sd, .int .u64 d0, .int .u64 d1, .int .u64 d2, .int .u64 d3] 25
      have ea0 := hS.c 7 rfl 0 rfl
      have ea1 := hS.c 7 rfl 1 rfl
      have ea2 := hS.c 7 rfl 2 rfl
      have ea3 := hS.c 7 rfl 3 rfl
      have ea4 := hS.c 7 rfl 4 rfl
      go_wp2_with fail
      clear ea0 ea1 ea2 ea3 ea4
      generalize World.alloc _ _ = W9 at hS ⊢
      generalize w9.heap.size = B9 at hS ⊢
      refine (HNd.out (by trivial) _).mono ?_
      rintro e w10 ⟨rfl, hb1⟩
      replace hS := hS.after hb1
      clear hb1
      go_wp2_with fail
      refine (sure_any _ _ _ _ _ _ _).mono ?_
      rintro e w11 ⟨rfl, hb1⟩
      replace hS := hS.after hb1
      clear hb1
      replace hS := hS.new (B := w11.heap.size) rfl [.bool sc, .int .u64 c0, .int .u64 c1, .int .u64 c2, .int .u64 c3] 25
      have ea0 := hS.c 5 rfl 0 rfl
      have ea1 := hS.c 5 rfl 1 rfl
      have ea2 := hS.c 5 rfl 2 rfl
      have ea3 := hS.c 5 rfl 3 rfl
      have ea4 := hS.c 5 rfl 4 rfl
      have eb0 := hS.c 8 rfl 0 rfl
      have eb1 := hS.c 8 rfl 1 rfl
      have eb2 := hS.c 8 rfl 2 rfl
      have eb3 := hS.c 8 rfl 3 rfl
      have eb4 := hS.c 8 rfl 4 rfl
      have hT := (show ∀ W : World, (binOp .neq 25 (iv sc c0 c1 c2 c3) (iv sc c0 c1 c2 c3)).run Tryd.prog W = .ok (.bool false) W from fun W => by rw [neqInt]; simp)
      go_wp2_with fail
      clear ea0 ea1 ea2 ea3 ea4 eb0 eb1 eb2 eb3 eb4
      clear hT
      generalize World.alloc _ _ = W11 at hS ⊢
      generalize w11.heap.size = B11 at hS ⊢
      go_meet
      exact SL.again HL.out (RS.pre (RS.pre (RS.pre hS)))
  case rest =>
    have hS := SL.opens HL.out hcut.out
    clear hcut HP HL L HA1 HA2 HNd
    have ea0 := hS.c 0 rfl 0 rfl
    have ea1 := hS.c 0 rfl 1 rfl
    have ea2 := hS.c 0 rfl 2 rfl
    have ea3 := hS.c 0 rfl 3 rfl
    have ea4 := hS.c 0 rfl 4 rfl
    have eb0 := hS.c 1 rfl 0 rfl
    have eb1 := hS.c 1 rfl 1 rfl
    have eb2 := hS.c 1 rfl 2 rfl
    have eb3 := hS.c 1 rfl 3 rfl
    have eb4 := hS.c 1 rfl 4 rfl
    replace hS := hS.new (B := wc.heap.size) rfl [.bool s, .int .u64 a0, .int .u64 a1, .int .u64 a2, .int .u64 a3, .bool t, .int .u64 b0, .int .u64 b1, .int .u64 b2, .int .u64 b3] 25
    go_wp2_with fail
    clear ea0 ea1 ea2 ea3 ea4 eb0 eb1 eb2 eb3 eb4
    generalize World.alloc _ _ = W12 at hS ⊢
    generalize wc.heap.size = B12 at hS ⊢
    refine (HM1.out _ _ _ (hS.row 6 rfl)).mono ?_
    rintro e w13 ⟨rfl, hb1⟩
    replace hS := hS.after hb1
    clear hb1
    go_wp2_with fail
    refine (sure_any _ _ _ _ _ _ _).mono ?_
    rintro e w14 ⟨rfl, hb1⟩
    replace hS := hS.after hb1
    clear hb1
    replace hS := hS.new (B := w14.heap.size) rfl [.bool sf, .int .u64 f0, .int .u64 f1, .int .u64 f2, .int .u64 f3] 25
    go_upto_if 102 with fail
    generalize World.alloc _ _ = W14 at hS ⊢
    generalize w14.heap.size = B14 at hS ⊢
    obtain ⟨L, HP, HL⟩ := SL.shuts hS
    clear hS
    go_cut [16] (fun _v wx => Hid (SL w L wx))
    case first =>
      cases hk : (k3 == 0)
      · go_wp2_with fail
        go_meet
        exact HP
      · have hk1 : k3 = 0 := by simpa using hk
        clear hk
        subst hk1
        have hS := SL.opens HL.out HP.out
        clear HP
        have ea0 := hS.c 2 rfl 0 rfl
        have ea1 := hS.c 2 rfl 1 rfl
        have ea2 := hS.c 2 rfl 2 rfl
        have ea3 := hS.c 2 rfl 3 rfl
        have ea4 := hS.c 2 rfl 4 rfl
        have eb0 := hS.c 1 rfl 0 rfl
        have eb1 := hS.c 1 rfl 1 rfl
        have eb2 := hS.c 1 rfl 2 rfl
        have eb3 := hS.c 1 rfl 3 rfl
        have eb4 := hS.c 1 rfl 4 rfl
        replace hS := hS.new (B := W14.heap.size) rfl [.bool u, .int .u64 x0, .int .u64 x1, .int .u64 x2, .int .u64 x3, .bool t, .int .u64 b0, .int .u64 b1, .int .u64 b2, .int .u64 b3] 25
        go_wp2_with fail
        clear ea0 ea1 ea2 ea3 ea4 eb0 eb1 eb2 eb3 eb4
        generalize World.alloc _ _ = W15 at hS ⊢
        generalize W14.heap.size = B15 at hS ⊢
        refine (HM2.out _ _ _ (hS.row 8 rfl)).mono ?_
        rintro e w16 ⟨rfl, hb1⟩
        replace hS := hS.after hb1
        clear hb1
        go_wp2_with fail
        refine (sure_any _ _ _ _ _ _ _).mono ?_
        rintro e w17 ⟨rfl, hb1⟩
        replace hS := hS.after hb1
        clear hb1
        replace hS := hS.new (B := w17.heap.size) rfl [.bool sg, .int .u64 g0, .int .u64 g1, .int .u64 g2, .int .u64 g3] 25
        have ea0 := hS.c 9 rfl 0 rfl
        have ea1 := hS.c 9 rfl 1 rfl
        have ea2 := hS.c 9 rfl 2 rfl
        have ea3 := hS.c 9 rfl 3 rfl
        have ea4 := hS.c 9 rfl 4 rfl
        go_wp2_with fail
        clear ea0 ea1 ea2 ea3 ea4
        generalize World.alloc _ _ = W17 at hS ⊢
        generalize w17.heap.size = B17 at hS ⊢
        refine (HNg.out (by trivial) _).mono ?_
        rintro e w18 ⟨rfl, hb1⟩
        replace hS := hS.after hb1
        clear hb1
        go_wp2_with fail
        refine (sure_any _ _ _ _ _ _ _).mono ?_
        rintro e w19 ⟨rfl, hb1⟩
        replace hS := hS.after hb1
        clear hb1
        replace hS := hS.new (B := w19.heap.size) rfl [.bool sf, .int .u64 f0, .int .u64 f1, .int .u64 f2, .int .u64 f3] 25
        have ea0 := hS.c 7 rfl 0 rfl
        have ea1 := hS.c 7 rfl 1 rfl
        have ea2 := hS.c 7 rfl 2 rfl
        have ea3 := hS.c 7 rfl 3 rfl
        have ea4 := hS.c 7 rfl 4 rfl
        have eb0 := hS.c 10 rfl 0 rfl
        have eb1 := hS.c 10 rfl 1 rfl
        have eb2 := hS.c 10 rfl 2 rfl
        have eb3 := hS.c 10 rfl 3 rfl
        have eb4 := hS.c 10 rfl 4 rfl
        have hT := (show ∀ W : World, (binOp .neq 25 (iv sf f0 f1 f2 f3) (iv sf f0 f1 f2 f3)).run Tryd.prog W = .ok (.bool false) W from fun W => by rw [neqInt]; simp)
        go_wp2_with fail
        clear ea0 ea1 ea2 ea3 ea4 eb0 eb1 eb2 eb3 eb4
        clear hT
        generalize World.alloc _ _ = W19 at hS ⊢
        generalize w19.heap.size = B19 at hS ⊢
        go_meet
        exact SL.again HL.out (RS.pre (RS.pre (RS.pre hS)))
    case rest =>
      have hS := SL.opens HL.out hcut.out
      clear hcut HP HL L HM1 HM2 HNg
      have ea0 := hS.c 0 rfl 0 rfl
      have ea1 := hS.c 0 rfl 1 rfl
      have ea2 := hS.c 0 rfl 2 rfl
      have ea3 := hS.c 0 rfl 3 rfl
      have ea4 := hS.c 0 rfl 4 rfl
      have eb0 := hS.c 1 rfl 0 rfl
      have eb1 := hS.c 1 rfl 1 rfl
      have eb2 := hS.c 1 rfl 2 rfl
      have eb3 := hS.c 1 rfl 3 rfl
      have eb4 := hS.c 1 rfl 4 rfl
      go_wp2_with fail
      clear ea0 ea1 ea2 ea3 ea4 eb0 eb1 eb2 eb3 eb4
      refine (HG1.out _ hS.2).mono ?_
      rintro e w21 ⟨rfl, hb1⟩
      replace hS := hS.after hb1
      clear hb1
      replace hS := hS.new (B := w21.heap.size) rfl [.bool si, .int .u64 i0, .int .u64 i1, .int .u64 i2, .int .u64 i3] 25
      have ea0 := hS.c 2 rfl 0 rfl
      have ea1 := hS.c 2 rfl 1 rfl
      have ea2 := hS.c 2 rfl 2 rfl
      have ea3 := hS.c 2 rfl 3 rfl
      have ea4 := hS.c 2 rfl 4 rfl
      have eb0 := hS.c 1 rfl 0 rfl
      have eb1 := hS.c 1 rfl 1 rfl
      have eb2 := hS.c 1 rfl 2 rfl
      have eb3 := hS.c 1 rfl 3 rfl
      have eb4 := hS.c 1 rfl 4 rfl
      go_wp2_with fail
      clear ea0 ea1 ea2 ea3 ea4 eb0 eb1 eb2 eb3 eb4
      generalize World.alloc _ _ = W21 at hS ⊢
      generalize w21.heap.size = B21 at hS ⊢
      refine (HG2.out _ hS.2).mono ?_
      rintro e w22 ⟨rfl, hb1⟩
      replace hS := hS.after hb1
      clear hb1
      replace hS := hS.new (B := w22.heap.size) rfl [.bool si, .int .u64 i0, .int .u64 i1, .int .u64 i2, .int .u64 i3] 25
      go_wp2_with fail
      generalize World.alloc _ _ = W22 at hS ⊢
      generalize w22.heap.size = B22 at hS ⊢
      refine (num_any _ _).mono ?_
      rintro e w23 ⟨rfl, hb1⟩
      replace hS := hS.after hb1
      clear hb1
      go_wp2_with fail
      refine (num_any _ _).mono ?_
      rintro e w24 ⟨rfl, hb1⟩
      replace hS := hS.after hb1
      clear hb1
      have ea0 := hS.c 8 rfl 0 rfl
      have ea1 := hS.c 8 rfl 1 rfl
      have ea2 := hS.c 8 rfl 2 rfl
      have ea3 := hS.c 8 rfl 3 rfl
      have ea4 := hS.c 8 rfl 4 rfl
      have eb0 := hS.c 9 rfl 0 rfl
      have eb1 := hS.c 9 rfl 1 rfl
      have eb2 := hS.c 9 rfl 2 rfl
      have eb3 := hS.c 9 rfl 3 rfl
      have eb4 := hS.c 9 rfl 4 rfl
      have ec0 := hS.c 0 rfl 0 rfl
      have ec1 := hS.c 0 rfl 1 rfl
      have ec2 := hS.c 0 rfl 2 rfl
      have ec3 := hS.c 0 rfl 3 rfl
      have ec4 := hS.c 0 rfl 4 rfl
      have ed0 := hS.c 1 rfl 0 rfl
      have ed1 := hS.c 1 rfl 1 rfl
      have ed2 := hS.c 1 rfl 2 rfl
      have ed3 := hS.c 1 rfl 3 rfl
      have ed4 := hS.c 1 rfl 4 rfl
      have hT := (show ∀ W : World, (binOp .neq 25 (iv si i0 i1 i2 i3) (iv si i0 i1 i2 i3)).run Tryd.prog W = .ok (.bool false) W from fun W => by rw [neqInt]; simp)
      go_wp2_with fail
      clear ea0 ea1 ea2 ea3 ea4 eb0 eb1 eb2 eb3 eb4 ec0 ec1 ec2 ec3 ec4 ed0 ed1 ed2 ed3 ed4
      clear hT
      refine (HQ1.out _).mono ?_
      rintro e w25 ⟨rfl, hb1⟩
      replace hS := hS.after hb1
      clear hb1
      replace hS := hS.new (B := w25.heap.size) rfl [.bool sj, .int .u64 j0, .int .u64 j1, .int .u64 j2, .int .u64 j3] 25
      replace hS := hS.new (B := w25.heap.size + 1) (by simp) [.bool sl, .int .u64 l0, .int .u64 l1, .int .u64 l2, .int .u64 l3] 25
      have ea0 := hS.c 2 rfl 0 rfl
      have ea1 := hS.c 2 rfl 1 rfl
      have ea2 := hS.c 2 rfl 2 rfl
      have ea3 := hS.c 2 rfl 3 rfl
      have ea4 := hS.c 2 rfl 4 rfl
      have eb0 := hS.c 1 rfl 0 rfl
      have eb1 := hS.c 1 rfl 1 rfl
      have eb2 := hS.c 1 rfl 2 rfl
      have eb3 := hS.c 1 rfl 3 rfl
      have eb4 := hS.c 1 rfl 4 rfl
      go_wp2_with fail
      clear ea0 ea1 ea2 ea3 ea4 eb0 eb1 eb2 eb3 eb4
      generalize World.alloc _ _ = W25 at hS ⊢
      generalize w25.heap.size = B25 at hS ⊢
      refine (HQ2.out _).mono ?_
      rintro e w26 ⟨rfl, hb1⟩
      replace hS := hS.after hb1
      clear hb1
      replace hS := hS.new (B := w26.heap.size) rfl [.bool sm, .int .u64 m0, .int .u64 m1, .int .u64 m2, .int .u64 m3] 25
      replace hS := hS.new (B := w26.heap.size + 1) (by simp) [.bool sn, .int .u64 n0, .int .u64 n1, .int .u64 n2, .int .u64 n3] 25
      go_wp2_with fail
      generalize World.alloc _ _ = W26 at hS ⊢
      generalize w26.heap.size = B26 at hS ⊢
      refine (num_any _ _).mono ?_
      rintro e w27 ⟨rfl, hb1⟩
      replace hS := hS.after hb1
      clear hb1
      go_wp2_with fail
      cases hk : (kq == 0)
      · have hk1 : (kq != 0) = true := by rw [bne, hk]; rfl
        refine (num_any _ _).mono ?_
        rintro e w28 ⟨rfl, hb1⟩
        replace hS := hS.after hb1
        clear hb1
        go_wp2_with fail
        refine (num_any _ _).mono ?_
        rintro e w29 ⟨rfl, hb1⟩
        replace hS := hS.after hb1
        clear hb1
        go_wp2_with fail
        have hb := hS.2
        refine (works_true _ (Ht.out.below hb) (Hz.out.below hg hb) (Nat.lt_of_lt_of_le hw0 hb.size)).mono ?_
        rintro e wz ⟨rfl, hb1⟩
        have HB := Lib.hid (hb.trans (hb1.mono hb.size))
        clear hb hb1 hS
        go_wp2_with fail
        go_ret
        exact ⟨rfl, HB.out⟩
      · have hk1 : kq = 0 := by simpa using hk
        clear hk
        subst hk1
        refine (num_any _ _).mono ?_
        rintro e w30 ⟨rfl, hb1⟩
        replace hS := hS.after hb1
        clear hb1
        go_wp2_with fail
        refine (num_any _ _).mono ?_
        rintro e w31 ⟨rfl, hb1⟩
        replace hS := hS.after hb1
        clear hb1
        have ea0 := hS.c 12 rfl 0 rfl
        have ea1 := hS.c 12 rfl 1 rfl
        have ea2 := hS.c 12 rfl 2 rfl
        have ea3 := hS.c 12 rfl 3 rfl
        have ea4 := hS.c 12 rfl 4 rfl
        go_wp2_with fail
        clear ea0 ea1 ea2 ea3 ea4
        refine ((HNq.out (by trivial)).1 _).mono ?_
        rintro e w32 ⟨rfl, hb1⟩
        replace hS := hS.after hb1
        clear hb1
        replace hS := hS.new (B := w32.heap.size) rfl [.bool sj, .int .u64 j0, .int .u64 j1, .int .u64 j2, .int .u64 j3] 25
        have ea0 := hS.c 13 rfl 0 rfl
        have ea1 := hS.c 13 rfl 1 rfl
        have ea2 := hS.c 13 rfl 2 rfl
        have ea3 := hS.c 13 rfl 3 rfl
        have ea4 := hS.c 13 rfl 4 rfl
        go_wp2_with fail
        clear ea0 ea1 ea2 ea3 ea4
        generalize World.alloc _ _ = W32 at hS ⊢
        generalize w32.heap.size = B32 at hS ⊢
        refine ((HNq.out (by trivial)).2 _).mono ?_
        rintro e w33 ⟨rfl, hb1⟩
        replace hS := hS.after hb1
        clear hb1
        replace hS := hS.new (B := w33.heap.size) rfl [.bool sl, .int .u64 l0, .int .u64 l1, .int .u64 l2, .int .u64 l3] 25
        go_wp2_with fail
        generalize World.alloc _ _ = W33 at hS ⊢
        generalize w33.heap.size = B33 at hS ⊢
        refine (num_any _ _).mono ?_
        rintro e w34 ⟨rfl, hb1⟩
        replace hS := hS.after hb1
        clear hb1
        go_wp2_with fail
        refine (num_any _ _).mono ?_
        rintro e w35 ⟨rfl, hb1⟩
        replace hS := hS.after hb1
        clear hb1
        have ea0 := hS.c 14 rfl 0 rfl
        have ea1 := hS.c 14 rfl 1 rfl
        have ea2 := hS.c 14 rfl 2 rfl
        have ea3 := hS.c 14 rfl 3 rfl
        have ea4 := hS.c 14 rfl 4 rfl
        have eb0 := hS.c 10 rfl 0 rfl
        have eb1 := hS.c 10 rfl 1 rfl
        have eb2 := hS.c 10 rfl 2 rfl
        have eb3 := hS.c 10 rfl 3 rfl
        have eb4 := hS.c 10 rfl 4 rfl
        have ec0 := hS.c 15 rfl 0 rfl
        have ec1 := hS.c 15 rfl 1 rfl
        have ec2 := hS.c 15 rfl 2 rfl
        have ec3 := hS.c 15 rfl 3 rfl
        have ec4 := hS.c 15 rfl 4 rfl
        have ed0 := hS.c 11 rfl 0 rfl
        have ed1 := hS.c 11 rfl 1 rfl
        have ed2 := hS.c 11 rfl 2 rfl
        have ed3 := hS.c 11 rfl 3 rfl
        have ed4 := hS.c 11 rfl 4 rfl
        have hT1 := (show ∀ W : World, (binOp .eql 25 (iv sj j0 j1 j2 j3) (iv sj j0 j1 j2 j3)).run Tryd.prog W = .ok (.bool true) W from fun W => by rw [eqlInt]; simp)
        have hT2 := (show ∀ W : World, (binOp .eql 25 (iv sl l0 l1 l2 l3) (iv sl l0 l1 l2 l3)).run Tryd.prog W = .ok (.bool true) W from fun W => by rw [eqlInt]; simp)
        go_wp2_with fail
        clear ea0 ea1 ea2 ea3 ea4 eb0 eb1 eb2 eb3 eb4 ec0 ec1 ec2 ec3 ec4 ed0 ed1 ed2 ed3 ed4
        clear hT1 hT2
        have hb := hS.2
        refine (works_true _ (Ht.out.below hb) (Hz.out.below hg hb) (Nat.lt_of_lt_of_le hw0 hb.size)).mono ?_
        rintro e wz ⟨rfl, hb1⟩
        have HB := Lib.hid (hb.trans (hb1.mono hb.size))
        clear hb hb1 hS
        go_wp2_with fail
        go_ret
        exact ⟨rfl, HB.out⟩
end Go.Proofs.YtpbdhhdmnnelhaaDoor