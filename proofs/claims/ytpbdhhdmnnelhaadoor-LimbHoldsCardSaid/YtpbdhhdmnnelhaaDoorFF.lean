/- LimbHolds walked: the walk alone, over what its calls answer. -/
import Derived.Test.YtpbdhhdmnnelhaaDoorFB
import Derived.Deep.RegionHeld3
import Derived.Deep.CutBlock
namespace Go.Proofs.YtpbdhhdmnnelhaaDoor
open Go.RowKit

/-- What LimbHolds' calls answer. -/
def HHead (w : World) (T : ByteArray) (s t v sx sz su sp sq sr ss sk : Bool) (a0 a1 a2 a3 b0 b1 b2 b3 c0 c1 c2 c3 x0 x1 x2 x3 z0 z1 z2 z3 u0 u1 u2 u3 p0 p1 p2 p3 q0 q1 q2 q3 r0 r1 r2 r3 y0 y1 y2 y3 k0 k1 k2 k3 e1 e2 e3 e4 e5 e6 e7 e8 e9 : Int) : Prop :=
  (∀ b c W, Row W b [.bool s, .int .u64 a0, .int .u64 a1, .int .u64 a2, .int .u64 a3, .bool t, .int .u64 b0, .int .u64 b1, .int .u64 b2, .int .u64 b3] → Calls Tryd.prog 22 #[.slice (some ⟨b, 0, none⟩) 2 c] W fun e w' => e = .returned (.tuple #[iv sx x0 x1 x2 x3, .int .i64 e1]) ∧ Below W.heap.size W w') ∧
  (∀ b c W, Row W b [.bool t, .int .u64 b0, .int .u64 b1, .int .u64 b2, .int .u64 b3, .bool s, .int .u64 a0, .int .u64 a1, .int .u64 a2, .int .u64 a3] → Calls Tryd.prog 22 #[.slice (some ⟨b, 0, none⟩) 2 c] W fun e w' => e = .returned (.tuple #[iv sx x0 x1 x2 x3, .int .i64 e1]) ∧ Below W.heap.size W w') ∧
  (∀ b c W, Row W b [.bool s, .int .u64 a0, .int .u64 a1, .int .u64 a2, .int .u64 a3, .bool t, .int .u64 b0, .int .u64 b1, .int .u64 b2, .int .u64 b3, .bool v, .int .u64 c0, .int .u64 c1, .int .u64 c2, .int .u64 c3] → Calls Tryd.prog 23 #[.slice (some ⟨b, 0, none⟩) 3 c] W fun e w' => e = .returned (.tuple #[iv sz z0 z1 z2 z3, .int .i64 e2]) ∧ Below W.heap.size W w') ∧
  (∀ b c W, Row W b [.bool v, .int .u64 c0, .int .u64 c1, .int .u64 c2, .int .u64 c3, .bool t, .int .u64 b0, .int .u64 b1, .int .u64 b2, .int .u64 b3, .bool s, .int .u64 a0, .int .u64 a1, .int .u64 a2, .int .u64 a3] → Calls Tryd.prog 23 #[.slice (some ⟨b, 0, none⟩) 3 c] W fun e w' => e = .returned (.tuple #[iv su u0 u1 u2 u3, .int .i64 e3]) ∧ Below W.heap.size W w') ∧
  (∀ b c W, Row W b [.bool sx, .int .u64 x0, .int .u64 x1, .int .u64 x2, .int .u64 x3, .bool v, .int .u64 c0, .int .u64 c1, .int .u64 c2, .int .u64 c3] → Calls Tryd.prog 23 #[.slice (some ⟨b, 0, none⟩) 2 c] W fun e w' => e = .returned (.tuple #[iv sp p0 p1 p2 p3, .int .i64 e4]) ∧ Below W.heap.size W w') ∧
  (∀ b c W, Row W b [.bool s, .int .u64 a0, .int .u64 a1, .int .u64 a2, .int .u64 a3, .bool v, .int .u64 c0, .int .u64 c1, .int .u64 c2, .int .u64 c3] → Calls Tryd.prog 23 #[.slice (some ⟨b, 0, none⟩) 2 c] W fun e w' => e = .returned (.tuple #[iv sq q0 q1 q2 q3, .int .i64 e5]) ∧ Below W.heap.size W w') ∧
  (∀ b c W, Row W b [.bool t, .int .u64 b0, .int .u64 b1, .int .u64 b2, .int .u64 b3, .bool v, .int .u64 c0, .int .u64 c1, .int .u64 c2, .int .u64 c3] → Calls Tryd.prog 23 #[.slice (some ⟨b, 0, none⟩) 2 c] W fun e w' => e = .returned (.tuple #[iv sr r0 r1 r2 r3, .int .i64 e6]) ∧ Below W.heap.size W w') ∧
  (∀ b c W, Row W b [.bool sq, .int .u64 q0, .int .u64 q1, .int .u64 q2, .int .u64 q3, .bool sr, .int .u64 r0, .int .u64 r1, .int .u64 r2, .int .u64 r3] → Calls Tryd.prog 22 #[.slice (some ⟨b, 0, none⟩) 2 c] W fun e w' => e = .returned (.tuple #[iv ss y0 y1 y2 y3, .int .i64 e7]) ∧ Below W.heap.size W w') ∧
  (∀ W, Below w.heap.size w W → Calls Tryd.prog 36 #[iv s a0 a1 a2 a3] W fun e w' => e = .returned (.tuple #[.string T, .int .i64 e8]) ∧ Below W.heap.size W w') ∧
  (∀ W, Calls Tryd.prog 37 #[.string T] W fun e w' => e = .returned (.tuple #[iv sk k0 k1 k2 k3, .int .i64 e9]) ∧ Below W.heap.size W w') ∧
  (∀ W, Below w.heap.size w W → Calls Tryd.prog 41 #[iv s a0 a1 a2 a3, iv t b0 b1 b2 b3] W fun e w' => e = .returned (.bool true) ∧ Below W.heap.size W w')
set_option maxRecDepth 100000 in
set_option maxHeartbeats 100000000 in
theorem holds_core (T : ByteArray) (s t v sx sz su sp sq sr ss sk : Bool) (a0 a1 a2 a3 b0 b1 b2 b3 c0 c1 c2 c3 x0 x1 x2 x3 z0 z1 z2 z3 u0 u1 u2 u3 p0 p1 p2 p3 q0 q1 q2 q3 r0 r1 r2 r3 y0 y1 y2 y3 k0 k1 k2 k3 e1 e2 e3 e4 e5 e6 e7 e8 e9 : Int) (w : World) (ht : Tab10 w) (hz : TabTz w) (hw0 : 0 < w.heap.size)
    (hh : HHead w T s t v sx sz su sp sq sr ss sk a0 a1 a2 a3 b0 b1 b2 b3 c0 c1 c2 c3 x0 x1 x2 x3 z0 z1 z2 z3 u0 u1 u2 u3 p0 p1 p2 p3 q0 q1 q2 q3 r0 r1 r2 r3 y0 y1 y2 y3 k0 k1 k2 k3 e1 e2 e3 e4 e5 e6 e7 e8 e9)
    (h1 : (e2 = 0 ∧ e3 = 0 ∧ sz = su ∧ z0 = u0 ∧ z1 = u1 ∧ z2 = u2 ∧ z3 = u3) ∨ ¬ wrap64 (e2 + e3) = 0)
    (h2 : (e1 = 0 ∧ e4 = 0 ∧ e5 = 0 ∧ e6 = 0 ∧ e7 = 0 ∧ sp = ss ∧ p0 = y0 ∧ p1 = y1 ∧ p2 = y2 ∧ p3 = y3) ∨ ¬ wrap64 (wrap64 (wrap64 (wrap64 (e1 + e4) + e5) + e6) + e7) = 0)
    (h3 : (e8 = 0 ∧ e9 = 0 ∧ s = sk ∧ a0 = k0 ∧ a1 = k1 ∧ a2 = k2 ∧ a3 = k3) ∨ e8 = 2) :
    Calls Tryd.prog 9 #[iv s a0 a1 a2 a3, iv t b0 b1 b2 b3, iv v c0 c1 c2 c3] w fun e w' => e = .returned (.bool true) ∧ Below w.heap.size w w' := by
  have Ht := Lib.hid ht
  have Hz := Lib.hid hz
  have hg : 0 < w.heap.size := block_lt_of_cell (Hz.out 0 (by decide))
  obtain ⟨hA1, hA2, hM1, hM2, hP, hQ, hR, hS0, hT, hB, hD⟩ := hh
  have HA1 := Lib.hid hA1
  have HA2 := Lib.hid hA2
  have HM1 := Lib.hid hM1
  have HM2 := Lib.hid hM2
  have HP := Lib.hid hP
  have HQ := Lib.hid hQ
  have HR := Lib.hid hR
  have HS0 := Lib.hid hS0
  have HT := Lib.hid hT
  have HB := Lib.hid hB
  have HD := Lib.hid hD
  have H1 := Lib.hid h1
  have H2 := Lib.hid h2
  have H3 := Lib.hid h3
  clear ht hz h1 h2 h3 hA1 hA2 hM1 hM2 hP hQ hR hS0 hT hB hD
  go_enter Tryd.func9, Tryd.ntmps9
  go_upto_region 1 with fail
  have hS : RS w [(w.heap.size, [.bool s, .int .u64 a0, .int .u64 a1, .int .u64 a2, .int .u64 a3]), (w.heap.size + 1, [.bool t, .int .u64 b0, .int .u64 b1, .int .u64 b2, .int .u64 b3]), (w.heap.size + 1 + 1, [.bool v, .int .u64 c0, .int .u64 c1, .int .u64 c2, .int .u64 c3])] _ :=
    (((RS.nil w).new (B := w.heap.size) rfl [.bool s, .int .u64 a0, .int .u64 a1, .int .u64 a2, .int .u64 a3] 25).new (B := w.heap.size + 1) (by simp) [.bool t, .int .u64 b0, .int .u64 b1, .int .u64 b2, .int .u64 b3] 25).new (B := w.heap.size + 1 + 1) (by simp) [.bool v, .int .u64 c0, .int .u64 c1, .int .u64 c2, .int .u64 c3] 25
  generalize World.alloc _ _ = W0 at hS ⊢
  have ea0 := hS.c 0 rfl 0 rfl
  have ea1 := hS.c 0 rfl 1 rfl
  have ea2 := hS.c 0 rfl 2 rfl
  have ea3 := hS.c 0 rfl 3 rfl
  have ea4 := hS.c 0 rfl 4 rfl
  have eb0 := hS.c 1 rfl 0 rfl
  have eb1 := hS.c 1 rfl 1 rfl
  have eb2 := hS.c 1 rfl 2 rfl
  have eb3 := hS.c 1 rfl 3 rfl
  have eb4 := hS.c 1 rfl 4 rfl
  replace hS := hS.new (B := W0.heap.size) rfl [.bool s, .int .u64 a0, .int .u64 a1, .int .u64 a2, .int .u64 a3, .bool t, .int .u64 b0, .int .u64 b1, .int .u64 b2, .int .u64 b3] 25
  simp only [List.cons_append, List.nil_append] at hS
  go_wp2_with fail
  clear ea0 ea1 ea2 ea3 ea4 eb0 eb1 eb2 eb3 eb4
  generalize World.alloc _ _ = W1 at hS ⊢
  generalize W0.heap.size = B1 at hS ⊢
  have hrw := hS.row 3 rfl
  refine (HA1.out _ _ _ hrw).mono ?_
  rintro e w2 ⟨rfl, hb1⟩
  replace hS := hS.after hb1
  clear hb1 hrw
  replace hS := hS.new (B := w2.heap.size) rfl [.bool sx, .int .u64 x0, .int .u64 x1, .int .u64 x2, .int .u64 x3] 25
  simp only [List.cons_append, List.nil_append] at hS
  have ea0 := hS.c 1 rfl 0 rfl
  have ea1 := hS.c 1 rfl 1 rfl
  have ea2 := hS.c 1 rfl 2 rfl
  have ea3 := hS.c 1 rfl 3 rfl
  have ea4 := hS.c 1 rfl 4 rfl
  have eb0 := hS.c 0 rfl 0 rfl
  have eb1 := hS.c 0 rfl 1 rfl
  have eb2 := hS.c 0 rfl 2 rfl
  have eb3 := hS.c 0 rfl 3 rfl
  have eb4 := hS.c 0 rfl 4 rfl
  replace hS := hS.new (B := w2.heap.size + 1) (by simp) [.bool t, .int .u64 b0, .int .u64 b1, .int .u64 b2, .int .u64 b3, .bool s, .int .u64 a0, .int .u64 a1, .int .u64 a2, .int .u64 a3] 25
  simp only [List.cons_append, List.nil_append] at hS
  go_wp2_with fail
  clear ea0 ea1 ea2 ea3 ea4 eb0 eb1 eb2 eb3 eb4
  generalize World.alloc _ _ = W2 at hS ⊢
  generalize w2.heap.size = B2 at hS ⊢
  have hrw := hS.row 5 rfl
  refine (HA2.out _ _ _ hrw).mono ?_
  rintro e w3 ⟨rfl, hb1⟩
  replace hS := hS.after hb1
  clear hb1 hrw
  replace hS := hS.new (B := w3.heap.size) rfl [.bool sx, .int .u64 x0, .int .u64 x1, .int .u64 x2, .int .u64 x3] 25
  simp only [List.cons_append, List.nil_append] at hS
  have ea0 := hS.c 4 rfl 0 rfl
  have ea1 := hS.c 4 rfl 1 rfl
  have ea2 := hS.c 4 rfl 2 rfl
  have ea3 := hS.c 4 rfl 3 rfl
  have ea4 := hS.c 4 rfl 4 rfl
  have eb0 := hS.c 6 rfl 0 rfl
  have eb1 := hS.c 6 rfl 1 rfl
  have eb2 := hS.c 6 rfl 2 rfl
  have eb3 := hS.c 6 rfl 3 rfl
  have eb4 := hS.c 6 rfl 4 rfl
  have ec0 := hS.c 0 rfl 0 rfl
  have ec1 := hS.c 0 rfl 1 rfl
  have ec2 := hS.c 0 rfl 2 rfl
  have ec3 := hS.c 0 rfl 3 rfl
  have ec4 := hS.c 0 rfl 4 rfl
  have ed0 := hS.c 1 rfl 0 rfl
  have ed1 := hS.c 1 rfl 1 rfl
  have ed2 := hS.c 1 rfl 2 rfl
  have ed3 := hS.c 1 rfl 3 rfl
  have ed4 := hS.c 1 rfl 4 rfl
  have ee0 := hS.c 2 rfl 0 rfl
  have ee1 := hS.c 2 rfl 1 rfl
  have ee2 := hS.c 2 rfl 2 rfl
  have ee3 := hS.c 2 rfl 3 rfl
  have ee4 := hS.c 2 rfl 4 rfl
  have hT := (show ∀ W : World, (binOp .neq 25 (iv sx x0 x1 x2 x3) (iv sx x0 x1 x2 x3)).run Tryd.prog W = .ok (.bool false) W from fun W => by rw [neqInt]; simp)
  replace hS := hS.new (B := w3.heap.size + 1) (by simp) [.bool s, .int .u64 a0, .int .u64 a1, .int .u64 a2, .int .u64 a3, .bool t, .int .u64 b0, .int .u64 b1, .int .u64 b2, .int .u64 b3, .bool v, .int .u64 c0, .int .u64 c1, .int .u64 c2, .int .u64 c3] 25
  simp only [List.cons_append, List.nil_append] at hS
  go_wp2_with fail
  clear ea0 ea1 ea2 ea3 ea4 eb0 eb1 eb2 eb3 eb4 ec0 ec1 ec2 ec3 ec4 ed0 ed1 ed2 ed3 ed4 ee0 ee1 ee2 ee3 ee4
  clear hT
  generalize World.alloc _ _ = W3 at hS ⊢
  generalize w3.heap.size = B3 at hS ⊢
  have hrw := hS.row 7 rfl
  refine (HM1.out _ _ _ hrw).mono ?_
  rintro e w4 ⟨rfl, hb1⟩
  replace hS := hS.after hb1
  clear hb1 hrw
  replace hS := hS.new (B := w4.heap.size) rfl [.bool sz, .int .u64 z0, .int .u64 z1, .int .u64 z2, .int .u64 z3] 25
  simp only [List.cons_append, List.nil_append] at hS
  have ea0 := hS.c 2 rfl 0 rfl
  have ea1 := hS.c 2 rfl 1 rfl
  have ea2 := hS.c 2 rfl 2 rfl
  have ea3 := hS.c 2 rfl 3 rfl
  have ea4 := hS.c 2 rfl 4 rfl
  have eb0 := hS.c 1 rfl 0 rfl
  have eb1 := hS.c 1 rfl 1 rfl
  have eb2 := hS.c 1 rfl 2 rfl
  have eb3 := hS.c 1 rfl 3 rfl
  have eb4 := hS.c 1 rfl 4 rfl
  have ec0 := hS.c 0 rfl 0 rfl
  have ec1 := hS.c 0 rfl 1 rfl
  have ec2 := hS.c 0 rfl 2 rfl
  have ec3 := hS.c 0 rfl 3 rfl
  have ec4 := hS.c 0 rfl 4 rfl
  replace hS := hS.new (B := w4.heap.size + 1) (by simp) [.bool v, .int .u64 c0, .int .u64 c1, .int .u64 c2, .int .u64 c3, .bool t, .int .u64 b0, .int .u64 b1, .int .u64 b2, .int .u64 b3, .bool s, .int .u64 a0, .int .u64 a1, .int .u64 a2, .int .u64 a3] 25
  simp only [List.cons_append, List.nil_append] at hS
  go_wp2_with fail
  clear ea0 ea1 ea2 ea3 ea4 eb0 eb1 eb2 eb3 eb4 ec0 ec1 ec2 ec3 ec4
  generalize World.alloc _ _ = W4 at hS ⊢
  generalize w4.heap.size = B4 at hS ⊢
  have hrw := hS.row 9 rfl
  refine (HM2.out _ _ _ hrw).mono ?_
  rintro e w5 ⟨rfl, hb1⟩
  replace hS := hS.after hb1
  clear hb1 hrw
  replace hS := hS.new (B := w5.heap.size) rfl [.bool su, .int .u64 u0, .int .u64 u1, .int .u64 u2, .int .u64 u3] 25
  simp only [List.cons_append, List.nil_append] at hS
  go_upto_region 7 with fail
  generalize World.alloc _ _ = W5 at hS ⊢
  generalize w5.heap.size = B5 at hS ⊢
  obtain ⟨L, HP, HL⟩ := SL.shuts hS
  clear hS
  go_cut [75] from 65 to 75 (fun v wx => v = .bool false ∧ Hid (SL w L wx))
  case first =>
    have hS := SL.opens HL.out HP.out
    clear HP

    rcases H1.out with ⟨rfl, rfl, rfl, rfl, rfl, rfl, rfl⟩ | hne
    · go_wp2_with fail
      refine (num_any _ _).mono ?_
      rintro e w6 ⟨rfl, hb1⟩
      replace hS := hS.after hb1
      clear hb1
      go_wp2_with fail
      refine (num_any _ _).mono ?_
      rintro e w7 ⟨rfl, hb1⟩
      replace hS := hS.after hb1
      clear hb1
      have ea0 := hS.c 8 rfl 0 rfl
      have ea1 := hS.c 8 rfl 1 rfl
      have ea2 := hS.c 8 rfl 2 rfl
      have ea3 := hS.c 8 rfl 3 rfl
      have ea4 := hS.c 8 rfl 4 rfl
      have eb0 := hS.c 10 rfl 0 rfl
      have eb1 := hS.c 10 rfl 1 rfl
      have eb2 := hS.c 10 rfl 2 rfl
      have eb3 := hS.c 10 rfl 3 rfl
      have eb4 := hS.c 10 rfl 4 rfl
      have hT := (show ∀ W : World, (binOp .neq 25 (iv sz z0 z1 z2 z3) (iv sz z0 z1 z2 z3)).run Tryd.prog W = .ok (.bool false) W from fun W => by rw [neqInt]; simp)
      go_wp2_with fail
      clear ea0 ea1 ea2 ea3 ea4 eb0 eb1 eb2 eb3 eb4
      clear hT
      go_meet
      exact ⟨rfl, SL.again HL.out hS⟩
    · have hnb : (wrap64 (e2 + e3) == 0) = false := by simpa using hne
      go_wp2_with fail
      refine (num_any _ _).mono ?_
      rintro e w8 ⟨rfl, hb1⟩
      replace hS := hS.after hb1
      clear hb1
      go_wp2_with fail
      refine (num_any _ _).mono ?_
      rintro e w9 ⟨rfl, hb1⟩
      replace hS := hS.after hb1
      clear hb1
      go_wp2_with fail
      go_meet
      exact ⟨rfl, SL.again HL.out hS⟩
  case rest =>
    obtain ⟨rfl, hcut⟩ := hcut
    have hS := SL.opens HL.out hcut.out
    clear hcut HP HL L HA1 HA2 HM1 HM2 H1
    have ea0 := hS.c 4 rfl 0 rfl
    have ea1 := hS.c 4 rfl 1 rfl
    have ea2 := hS.c 4 rfl 2 rfl
    have ea3 := hS.c 4 rfl 3 rfl
    have ea4 := hS.c 4 rfl 4 rfl
    have eb0 := hS.c 2 rfl 0 rfl
    have eb1 := hS.c 2 rfl 1 rfl
    have eb2 := hS.c 2 rfl 2 rfl
    have eb3 := hS.c 2 rfl 3 rfl
    have eb4 := hS.c 2 rfl 4 rfl
    replace hS := hS.new (B := wc.heap.size) rfl [.bool sx, .int .u64 x0, .int .u64 x1, .int .u64 x2, .int .u64 x3, .bool v, .int .u64 c0, .int .u64 c1, .int .u64 c2, .int .u64 c3] 25
    simp only [List.cons_append, List.nil_append] at hS
    go_wp2_with fail
    clear ea0 ea1 ea2 ea3 ea4 eb0 eb1 eb2 eb3 eb4
    generalize World.alloc _ _ = W10 at hS ⊢
    generalize wc.heap.size = B10 at hS ⊢
    have hrw := hS.row 11 rfl
    refine (HP.out _ _ _ hrw).mono ?_
    rintro e w11 ⟨rfl, hb1⟩
    replace hS := hS.after hb1
    clear hb1 hrw
    replace hS := hS.new (B := w11.heap.size) rfl [.bool sp, .int .u64 p0, .int .u64 p1, .int .u64 p2, .int .u64 p3] 25
    simp only [List.cons_append, List.nil_append] at hS
    have ea0 := hS.c 0 rfl 0 rfl
    have ea1 := hS.c 0 rfl 1 rfl
    have ea2 := hS.c 0 rfl 2 rfl
    have ea3 := hS.c 0 rfl 3 rfl
    have ea4 := hS.c 0 rfl 4 rfl
    have eb0 := hS.c 2 rfl 0 rfl
    have eb1 := hS.c 2 rfl 1 rfl
    have eb2 := hS.c 2 rfl 2 rfl
    have eb3 := hS.c 2 rfl 3 rfl
    have eb4 := hS.c 2 rfl 4 rfl
    replace hS := hS.new (B := w11.heap.size + 1) (by simp) [.bool s, .int .u64 a0, .int .u64 a1, .int .u64 a2, .int .u64 a3, .bool v, .int .u64 c0, .int .u64 c1, .int .u64 c2, .int .u64 c3] 25
    simp only [List.cons_append, List.nil_append] at hS
    go_wp2_with fail
    clear ea0 ea1 ea2 ea3 ea4 eb0 eb1 eb2 eb3 eb4
    generalize World.alloc _ _ = W11 at hS ⊢
    generalize w11.heap.size = B11 at hS ⊢
    have hrw := hS.row 13 rfl
    refine (HQ.out _ _ _ hrw).mono ?_
    rintro e w12 ⟨rfl, hb1⟩
    replace hS := hS.after hb1
    clear hb1 hrw
    replace hS := hS.new (B := w12.heap.size) rfl [.bool sq, .int .u64 q0, .int .u64 q1, .int .u64 q2, .int .u64 q3] 25
    simp only [List.cons_append, List.nil_append] at hS
    have ea0 := hS.c 1 rfl 0 rfl
    have ea1 := hS.c 1 rfl 1 rfl
    have ea2 := hS.c 1 rfl 2 rfl
    have ea3 := hS.c 1 rfl 3 rfl
    have ea4 := hS.c 1 rfl 4 rfl
    have eb0 := hS.c 2 rfl 0 rfl
    have eb1 := hS.c 2 rfl 1 rfl
    have eb2 := hS.c 2 rfl 2 rfl
    have eb3 := hS.c 2 rfl 3 rfl
    have eb4 := hS.c 2 rfl 4 rfl
    replace hS := hS.new (B := w12.heap.size + 1) (by simp) [.bool t, .int .u64 b0, .int .u64 b1, .int .u64 b2, .int .u64 b3, .bool v, .int .u64 c0, .int .u64 c1, .int .u64 c2, .int .u64 c3] 25
    simp only [List.cons_append, List.nil_append] at hS
    go_wp2_with fail
    clear ea0 ea1 ea2 ea3 ea4 eb0 eb1 eb2 eb3 eb4
    generalize World.alloc _ _ = W12 at hS ⊢
    generalize w12.heap.size = B12 at hS ⊢
    have hrw := hS.row 15 rfl
    refine (HR.out _ _ _ hrw).mono ?_
    rintro e w13 ⟨rfl, hb1⟩
    replace hS := hS.after hb1
    clear hb1 hrw
    replace hS := hS.new (B := w13.heap.size) rfl [.bool sr, .int .u64 r0, .int .u64 r1, .int .u64 r2, .int .u64 r3] 25
    simp only [List.cons_append, List.nil_append] at hS
    have ea0 := hS.c 14 rfl 0 rfl
    have ea1 := hS.c 14 rfl 1 rfl
    have ea2 := hS.c 14 rfl 2 rfl
    have ea3 := hS.c 14 rfl 3 rfl
    have ea4 := hS.c 14 rfl 4 rfl
    have eb0 := hS.c 16 rfl 0 rfl
    have eb1 := hS.c 16 rfl 1 rfl
    have eb2 := hS.c 16 rfl 2 rfl
    have eb3 := hS.c 16 rfl 3 rfl
    have eb4 := hS.c 16 rfl 4 rfl
    replace hS := hS.new (B := w13.heap.size + 1) (by simp) [.bool sq, .int .u64 q0, .int .u64 q1, .int .u64 q2, .int .u64 q3, .bool sr, .int .u64 r0, .int .u64 r1, .int .u64 r2, .int .u64 r3] 25
    simp only [List.cons_append, List.nil_append] at hS
    go_wp2_with fail
    clear ea0 ea1 ea2 ea3 ea4 eb0 eb1 eb2 eb3 eb4
    generalize World.alloc _ _ = W13 at hS ⊢
    generalize w13.heap.size = B13 at hS ⊢
    have hrw := hS.row 17 rfl
    refine (HS0.out _ _ _ hrw).mono ?_
    rintro e w14 ⟨rfl, hb1⟩
    replace hS := hS.after hb1
    clear hb1 hrw
    replace hS := hS.new (B := w14.heap.size) rfl [.bool ss, .int .u64 y0, .int .u64 y1, .int .u64 y2, .int .u64 y3] 25
    simp only [List.cons_append, List.nil_append] at hS
    go_upto_region 13 with fail
    generalize World.alloc _ _ = W14 at hS ⊢
    generalize w14.heap.size = B14 at hS ⊢
    clear HP HQ HR HS0
    obtain ⟨L, HP, HL⟩ := SL.shuts hS
    clear hS
    go_cut [123] from 104 to 123 (fun v wx => v = .bool false ∧ Hid (SL w L wx))
    case first =>
      have hS := SL.opens HL.out HP.out
      clear HP
      rcases H2.out with ⟨rfl, rfl, rfl, rfl, rfl, rfl, rfl, rfl, rfl, rfl⟩ | hne
      · go_wp2_with fail
        refine (num_any _ _).mono ?_
        rintro e w15 ⟨rfl, hb1⟩
        replace hS := hS.after hb1
        clear hb1
        go_wp2_with fail
        refine (num_any _ _).mono ?_
        rintro e w16 ⟨rfl, hb1⟩
        replace hS := hS.after hb1
        clear hb1
        go_wp2_with fail
        refine (num_any _ _).mono ?_
        rintro e w17 ⟨rfl, hb1⟩
        replace hS := hS.after hb1
        clear hb1
        go_wp2_with fail
        refine (num_any _ _).mono ?_
        rintro e w18 ⟨rfl, hb1⟩
        replace hS := hS.after hb1
        clear hb1
        go_wp2_with fail
        refine (num_any _ _).mono ?_
        rintro e w19 ⟨rfl, hb1⟩
        replace hS := hS.after hb1
        clear hb1
        have ea0 := hS.c 12 rfl 0 rfl
        have ea1 := hS.c 12 rfl 1 rfl
        have ea2 := hS.c 12 rfl 2 rfl
        have ea3 := hS.c 12 rfl 3 rfl
        have ea4 := hS.c 12 rfl 4 rfl
        have eb0 := hS.c 18 rfl 0 rfl
        have eb1 := hS.c 18 rfl 1 rfl
        have eb2 := hS.c 18 rfl 2 rfl
        have eb3 := hS.c 18 rfl 3 rfl
        have eb4 := hS.c 18 rfl 4 rfl
        have hT := (show ∀ W : World, (binOp .neq 25 (iv sp p0 p1 p2 p3) (iv sp p0 p1 p2 p3)).run Tryd.prog W = .ok (.bool false) W from fun W => by rw [neqInt]; simp)
        go_wp2_with fail
        clear ea0 ea1 ea2 ea3 ea4 eb0 eb1 eb2 eb3 eb4
        clear hT
        go_meet
        exact ⟨rfl, SL.again HL.out hS⟩
      · have hnb : (wrap64 (wrap64 (wrap64 (wrap64 (e1 + e4) + e5) + e6) + e7) == 0) = false := by simpa using hne
        go_wp2_with fail
        refine (num_any _ _).mono ?_
        rintro e w20 ⟨rfl, hb1⟩
        replace hS := hS.after hb1
        clear hb1
        go_wp2_with fail
        refine (num_any _ _).mono ?_
        rintro e w21 ⟨rfl, hb1⟩
        replace hS := hS.after hb1
        clear hb1
        go_wp2_with fail
        refine (num_any _ _).mono ?_
        rintro e w22 ⟨rfl, hb1⟩
        replace hS := hS.after hb1
        clear hb1
        go_wp2_with fail
        refine (num_any _ _).mono ?_
        rintro e w23 ⟨rfl, hb1⟩
        replace hS := hS.after hb1
        clear hb1
        go_wp2_with fail
        refine (num_any _ _).mono ?_
        rintro e w24 ⟨rfl, hb1⟩
        replace hS := hS.after hb1
        clear hb1
        go_wp2_with fail
        go_meet
        exact ⟨rfl, SL.again HL.out hS⟩
    case rest =>
      obtain ⟨rfl, hcut⟩ := hcut
      have hS := SL.opens HL.out hcut.out
      clear hcut HP HL L H2
      have ea0 := hS.c 0 rfl 0 rfl
      have ea1 := hS.c 0 rfl 1 rfl
      have ea2 := hS.c 0 rfl 2 rfl
      have ea3 := hS.c 0 rfl 3 rfl
      have ea4 := hS.c 0 rfl 4 rfl
      go_wp2_with fail
      clear ea0 ea1 ea2 ea3 ea4
      refine (HT.out _ hS.2).mono ?_
      rintro e w26 ⟨rfl, hb1⟩
      replace hS := hS.after hb1
      clear hb1
      go_wp2_with fail
      refine (HB.out _).mono ?_
      rintro e w27 ⟨rfl, hb1⟩
      replace hS := hS.after hb1
      clear hb1
      replace hS := hS.new (B := w27.heap.size) rfl [.bool sk, .int .u64 k0, .int .u64 k1, .int .u64 k2, .int .u64 k3] 25
      simp only [List.cons_append, List.nil_append] at hS
      go_upto_region 17 with fail
      generalize World.alloc _ _ = W27 at hS ⊢
      generalize w27.heap.size = B27 at hS ⊢
      clear HT HB
      obtain ⟨L, HP, HL⟩ := SL.shuts hS
      clear hS
      go_cut [146] from 134 to 146 (fun v wx => v = .bool false ∧ Hid (SL w L wx))
      case first =>
        have hS := SL.opens HL.out HP.out
        clear HP
        rcases H3.out with ⟨rfl, rfl, rfl, rfl, rfl, rfl, rfl⟩ | rfl
        · go_wp2_with fail
          refine (num_any _ _).mono ?_
          rintro e w28 ⟨rfl, hb1⟩
          replace hS := hS.after hb1
          clear hb1
          go_wp2_with fail
          refine (num_any _ _).mono ?_
          rintro e w29 ⟨rfl, hb1⟩
          replace hS := hS.after hb1
          clear hb1
          have ea0 := hS.c 19 rfl 0 rfl
          have ea1 := hS.c 19 rfl 1 rfl
          have ea2 := hS.c 19 rfl 2 rfl
          have ea3 := hS.c 19 rfl 3 rfl
          have ea4 := hS.c 19 rfl 4 rfl
          have eb0 := hS.c 0 rfl 0 rfl
          have eb1 := hS.c 0 rfl 1 rfl
          have eb2 := hS.c 0 rfl 2 rfl
          have eb3 := hS.c 0 rfl 3 rfl
          have eb4 := hS.c 0 rfl 4 rfl
          have hT := (show ∀ W : World, (binOp .neq 25 (iv s a0 a1 a2 a3) (iv s a0 a1 a2 a3)).run Tryd.prog W = .ok (.bool false) W from fun W => by rw [neqInt]; simp)
          go_wp2_with fail
          clear ea0 ea1 ea2 ea3 ea4 eb0 eb1 eb2 eb3 eb4
          clear hT
          go_meet
          exact ⟨rfl, SL.again HL.out hS⟩
        · go_wp2_with fail
          refine (num_any _ _).mono ?_
          rintro e w30 ⟨rfl, hb1⟩
          replace hS := hS.after hb1
          clear hb1
          go_wp2_with fail
          go_meet
          exact ⟨rfl, SL.again HL.out hS⟩
      case rest =>
        obtain ⟨rfl, hcut⟩ := hcut
        have hS := SL.opens HL.out hcut.out
        clear hcut HP HL L H3
        have ea0 := hS.c 0 rfl 0 rfl
        have ea1 := hS.c 0 rfl 1 rfl
        have ea2 := hS.c 0 rfl 2 rfl
        have ea3 := hS.c 0 rfl 3 rfl
        have ea4 := hS.c 0 rfl 4 rfl
        have eb0 := hS.c 1 rfl 0 rfl
        have eb1 := hS.c 1 rfl 1 rfl
        have eb2 := hS.c 1 rfl 2 rfl
        have eb3 := hS.c 1 rfl 3 rfl
        have eb4 := hS.c 1 rfl 4 rfl
        go_wp2_with fail
        clear ea0 ea1 ea2 ea3 ea4 eb0 eb1 eb2 eb3 eb4
        refine (HD.out _ hS.2).mono ?_
        rintro e w32 ⟨rfl, hb1⟩
        replace hS := hS.after hb1
        clear hb1
        go_wp2_with fail
        have hb := hS.2
        refine (works_true _ (Ht.out.below hb) (Hz.out.below hg hb) (Nat.lt_of_lt_of_le hw0 hb.size)).mono ?_
        rintro e wz ⟨rfl, hb1⟩
        have HB := Lib.hid (hb.trans (hb1.mono hb.size))
        clear hb hb1 hS
        go_wp2_with fail
        go_ret
        exact ⟨rfl, HB.out⟩
end Go.Proofs.YtpbdhhdmnnelhaaDoor
