/- LimbQuos walked at right Ints: the walk alone, over what its calls answer. -/

import Derived.Test.YtpbdhhdmnnelhaaDoorET
import Derived.Deep.RegionHeld3
import Derived.Deep.CutBlock
namespace Go.Proofs.YtpbdhhdmnnelhaaDoor
open Go.RowKit

section
variable {w W W1 : World} {L L0 M : List (Nat × List Value)}
theorem SL.shut (h : RS w L0 W) : ∃ L, SL w L W ∧ L = L0 := ⟨L0, h, rfl⟩
theorem SL.cc (hL : L = L0) (h : SL w L W) (k : Nat) {b : Nat} {vs : List Value} (hk : L0[k]? = some (b, vs)) (i : Nat) {v : Value} (hv : vs[i]? = some v) : W.cell? ⟨b, i, none⟩ = some v := by
  subst hL; exact h.c k hk i hv
theorem SL.back (hL : L = L0) (h : SL w (L ++ M) W) : RS w (L0 ++ M) W := by subst hL; exact h
theorem SL.back0 (hL : L = L0) (h : SL w L W) : RS w L0 W := by subst hL; exact h
end
/-- A list of known blocks, and two numbers' digits. -/
def TS (w : World) (L : List (Nat × List Value)) (q : Nat) (A1 : Option Addr) (r : Nat) (A2 : Option Addr) (W : World) : Prop := SL w L W ∧ DS W q A1 ∧ DS W r A2
section
variable {w W W1 : World} {L : List (Nat × List Value)} {q r : Nat} {A1 A2 : Option Addr}
theorem TS.alloc (h : TS w L q A1 r A2 W) (o : Obj) : TS w L q A1 r A2 (W.alloc o) :=
  ⟨h.1.alloc o, h.2.1.below ((Below.refl _ _).alloc (Nat.le_refl _) _), h.2.2.below ((Below.refl _ _).alloc (Nat.le_refl _) _)⟩
theorem TS.putB (h : TS w L q A1 r A2 W) {B : Nat} (hB : Row W B [.bool false, .slice none 0 0]) (hC : LB w L B) (b : Bool) (u : Value) : TS w L q A1 r A2 ((W.setCell ⟨B, 0, none⟩ (.bool b)).setCell ⟨B, 1, none⟩ u) :=
  ⟨h.1.put2 hC _ _, (h.2.1.set_bool (hB.c 0 rfl) 0 _).set_bool (X := B) (s := b) (by rw [World.cell?_setCell_same' _ _ _ (by rw [hB.c 0 rfl]; rfl)]) 1 _, (h.2.2.set_bool (hB.c 0 rfl) 0 _).set_bool (X := B) (s := b) (by rw [World.cell?_setCell_same' _ _ _ (by rw [hB.c 0 rfl]; rfl)]) 1 _⟩
end

/-- What the document's numbers of a quotient answer. -/
def QRef (s t qs rs : Bool) (lx ly xn yn lq lr qn rn : Nat) (q0 q1 q2 q3 r0 r1 r2 r3 : Int) : Prop :=
  (∀ A1 A2 c1 c2 W, DS W xn A1 → DS W yn A2 → Calls Tryd.prog 33 #[.agg #[.bool s, .slice A1 lx c1], .agg #[.bool t, .slice A2 ly c2]] W fun e w' => ∃ A c B d, e = .returned (.tuple #[.agg #[.bool qs, .slice A lq c], .agg #[.bool rs, .slice B lr d]]) ∧ lq ≤ c ∧ lr ≤ d ∧ DS w' qn A ∧ DS w' rn B ∧ Below W.heap.size W w') ∧
  (∀ A c W, DS W qn A → Calls Tryd.prog 27 #[.agg #[.bool qs, .slice A lq c]] W fun e w' => e = .returned (.tuple #[iv qs q0 q1 q2 q3, .int .i64 0]) ∧ Below W.heap.size W w') ∧
  (∀ A c W, DS W rn A → Calls Tryd.prog 27 #[.agg #[.bool rs, .slice A lr c]] W fun e w' => e = .returned (.tuple #[iv rs r0 r1 r2 r3, .int .i64 0]) ∧ Below W.heap.size W w')
/-- Up to the document's divisor. -/
def QHead (w : World) (s t qs rs gs : Bool) (lx ly lg xn yn gn : Nat) (a0 a1 a2 a3 b0 b1 b2 b3 q0 q1 q2 q3 r0 r1 r2 r3 g0 g1 g2 g3 ke : Int) : Prop :=
  (∀ W, Calls Tryd.prog 30 #[iv s a0 a1 a2 a3, iv t b0 b1 b2 b3] W fun e w' => e = .returned (.tuple #[iv qs q0 q1 q2 q3, iv rs r0 r1 r2 r3, .int .i64 ke]) ∧ Below W.heap.size W w') ∧
  (∀ W, Below w.heap.size w W → Calls Tryd.prog 31 #[iv s a0 a1 a2 a3, iv t b0 b1 b2 b3] W fun e w' => e = .returned (.tuple #[iv gs g0 g1 g2 g3, .int .i64 0]) ∧ Below W.heap.size W w') ∧
  (∀ W, Calls Tryd.prog 15 #[iv s a0 a1 a2 a3] W fun e w' => e = .returned (.bool true) ∧ Below W.heap.size W w') ∧
  (∀ W, Calls Tryd.prog 15 #[iv t b0 b1 b2 b3] W fun e w' => e = .returned (.bool true) ∧ Below W.heap.size W w') ∧
  (∀ W, Calls Tryd.prog 17 #[iv s a0 a1 a2 a3] W fun e w' => ∃ A c, e = .returned (.agg #[.bool s, .slice A lx c]) ∧ lx ≤ c ∧ DS w' xn A ∧ Below W.heap.size W w') ∧
  (∀ W, Calls Tryd.prog 17 #[iv t b0 b1 b2 b3] W fun e w' => ∃ A c, e = .returned (.agg #[.bool t, .slice A ly c]) ∧ ly ≤ c ∧ DS w' yn A ∧ Below W.heap.size W w') ∧
  (∀ A1 A2 c1 c2 W, DS W xn A1 → DS W yn A2 → lx ≤ c1 → ly ≤ c2 → Calls Tryd.prog 32 #[.agg #[.bool s, .slice A1 lx c1], .agg #[.bool t, .slice A2 ly c2]] W fun e w' => ∃ A c, e = .returned (.agg #[.bool gs, .slice A lg c]) ∧ lg ≤ c ∧ DS w' gn A ∧ Below W.heap.size W w') ∧
  (∀ A c W, DS W gn A → Calls Tryd.prog 27 #[.agg #[.bool gs, .slice A lg c]] W fun e w' => e = .returned (.tuple #[iv gs g0 g1 g2 g3, .int .i64 0]) ∧ Below W.heap.size W w')

set_option maxRecDepth 100000 in
set_option maxHeartbeats 8000000 in
theorem quos_core (zb s t qs rs gs : Bool) (lx ly lg lq lr xn yn gn qn rn : Nat) (a0 a1 a2 a3 b0 b1 b2 b3 q0 q1 q2 q3 r0 r1 r2 r3 g0 g1 g2 g3 ke : Int) (w : World) (ht : Tab10 w) (hz : TabTz w) (hw0 : 0 < w.heap.size)
    (hh : QHead w s t qs rs gs lx ly lg xn yn gn a0 a1 a2 a3 b0 b1 b2 b3 q0 q1 q2 q3 r0 r1 r2 r3 g0 g1 g2 g3 ke)
    (hb0 : ∀ W : World, (binOp .eql 25 (iv t b0 b1 b2 b3) (iv false 0 0 0 0)).run Tryd.prog W = .ok (.bool zb) W)
    (hend : (zb = true ∧ (qs = false ∧ q0 = 0 ∧ q1 = 0 ∧ q2 = 0 ∧ q3 = 0) ∧ (rs = false ∧ r0 = 0 ∧ r1 = 0 ∧ r2 = 0 ∧ r3 = 0) ∧ ke = 2) ∨ (zb = false ∧ ke = 0 ∧ QRef s t qs rs lx ly xn yn lq lr qn rn q0 q1 q2 q3 r0 r1 r2 r3)) :
    Calls Tryd.prog 5 #[iv s a0 a1 a2 a3, iv t b0 b1 b2 b3] w fun e w' => e = .returned (.bool true) ∧ Below w.heap.size w w' := by
  have Ht := Lib.hid ht
  have Hz := Lib.hid hz
  have hg : 0 < w.heap.size := block_lt_of_cell (Hz.out 0 (by decide))
  obtain ⟨hQ, hG, hRa, hRb, hFa, hFb, hGc, hOg⟩ := hh
  have HQ := Lib.hid hQ
  have HG := Lib.hid hG
  have HRa := Lib.hid hRa
  have HRb := Lib.hid hRb
  have HFa := Lib.hid hFa
  have HFb := Lib.hid hFb
  have HGc := Lib.hid hGc
  have HOg := Lib.hid hOg
  have HE := Lib.hid hend
  have HZb := Lib.hid hb0
  clear ht hz hQ hG hRa hRb hFa hFb hGc hOg hend hb0
  go_enter Tryd.func5, Tryd.ntmps5
  go_wp2_with fail
  have hS : RS w [(w.heap.size, [.bool s, .int .u64 a0, .int .u64 a1, .int .u64 a2, .int .u64 a3]), (w.heap.size + 1, [.bool t, .int .u64 b0, .int .u64 b1, .int .u64 b2, .int .u64 b3])] _ :=
    ((RS.nil w).new (B := w.heap.size) rfl [.bool s, .int .u64 a0, .int .u64 a1, .int .u64 a2, .int .u64 a3] 25).new (B := w.heap.size + 1) (by simp) [.bool t, .int .u64 b0, .int .u64 b1, .int .u64 b2, .int .u64 b3] 25
  generalize World.alloc _ _ = W0 at hS ⊢
  refine (HQ.out _).mono ?_
  rintro e w1 ⟨rfl, hb1⟩
  replace hS := hS.after hb1
  clear hb1
  replace hS := (hS.new rfl [.bool qs, .int .u64 q0, .int .u64 q1, .int .u64 q2, .int .u64 q3] 25).new (B := w1.heap.size + 1) (by simp) [.bool rs, .int .u64 r0, .int .u64 r1, .int .u64 r2, .int .u64 r3] 25
  have i0 := hS.c 0 rfl 0 rfl
  have i1 := hS.c 0 rfl 1 rfl
  have i2 := hS.c 0 rfl 2 rfl
  have i3 := hS.c 0 rfl 3 rfl
  have i4 := hS.c 0 rfl 4 rfl
  have j0 := hS.c 1 rfl 0 rfl
  have j1 := hS.c 1 rfl 1 rfl
  have j2 := hS.c 1 rfl 2 rfl
  have j3 := hS.c 1 rfl 3 rfl
  have j4 := hS.c 1 rfl 4 rfl
  go_wp2_with fail
  clear i0 i1 i2 i3 i4 j0 j1 j2 j3 j4
  generalize World.alloc _ _ = W1 at hS ⊢
  generalize w1.heap.size = B1 at hS ⊢
  refine (HG.out _ hS.2).mono ?_
  rintro e w2 ⟨rfl, hb1⟩
  replace hS := hS.after hb1
  clear hb1
  replace hS := hS.new rfl [.bool gs, .int .u64 g0, .int .u64 g1, .int .u64 g2, .int .u64 g3] 25
  have i0 := hS.c 0 rfl 0 rfl
  have i1 := hS.c 0 rfl 1 rfl
  have i2 := hS.c 0 rfl 2 rfl
  have i3 := hS.c 0 rfl 3 rfl
  have i4 := hS.c 0 rfl 4 rfl
  go_wp2_with fail
  clear i0 i1 i2 i3 i4
  generalize World.alloc _ _ = W2 at hS ⊢
  generalize w2.heap.size = B2 at hS ⊢
  refine (HRa.out _).mono ?_
  rintro e w3 ⟨rfl, hb1⟩
  replace hS := hS.after hb1
  clear hb1 HQ HG HRa
  have i0 := hS.c 1 rfl 0 rfl
  have i1 := hS.c 1 rfl 1 rfl
  have i2 := hS.c 1 rfl 2 rfl
  have i3 := hS.c 1 rfl 3 rfl
  have i4 := hS.c 1 rfl 4 rfl
  go_wp2_with fail
  clear i0 i1 i2 i3 i4
  refine (HRb.out _).mono ?_
  rintro e w4 ⟨rfl, hb1⟩
  replace hS := hS.after hb1
  clear hb1 HRb
  go_wp2_with fail
  obtain ⟨L, hP, hL⟩ := SL.shut hS
  clear hS
  have i0 : ∀ W, SL w L W → W.cell? ⟨w.heap.size, 0, none⟩ = some (.bool s) := fun W h => SL.cc hL h 0 rfl 0 rfl
  have i1 : ∀ W, SL w L W → W.cell? ⟨w.heap.size, 1, none⟩ = some (.int .u64 a0) := fun W h => SL.cc hL h 0 rfl 1 rfl
  have i2 : ∀ W, SL w L W → W.cell? ⟨w.heap.size, 2, none⟩ = some (.int .u64 a1) := fun W h => SL.cc hL h 0 rfl 2 rfl
  have i3 : ∀ W, SL w L W → W.cell? ⟨w.heap.size, 3, none⟩ = some (.int .u64 a2) := fun W h => SL.cc hL h 0 rfl 3 rfl
  have i4 : ∀ W, SL w L W → W.cell? ⟨w.heap.size, 4, none⟩ = some (.int .u64 a3) := fun W h => SL.cc hL h 0 rfl 4 rfl
  have j0 : ∀ W, SL w L W → W.cell? ⟨w.heap.size + 1, 0, none⟩ = some (.bool t) := fun W h => SL.cc hL h 1 rfl 0 rfl
  have j1 : ∀ W, SL w L W → W.cell? ⟨w.heap.size + 1, 1, none⟩ = some (.int .u64 b0) := fun W h => SL.cc hL h 1 rfl 1 rfl
  have j2 : ∀ W, SL w L W → W.cell? ⟨w.heap.size + 1, 2, none⟩ = some (.int .u64 b1) := fun W h => SL.cc hL h 1 rfl 2 rfl
  have j3 : ∀ W, SL w L W → W.cell? ⟨w.heap.size + 1, 3, none⟩ = some (.int .u64 b2) := fun W h => SL.cc hL h 1 rfl 3 rfl
  have j4 : ∀ W, SL w L W → W.cell? ⟨w.heap.size + 1, 4, none⟩ = some (.int .u64 b3) := fun W h => SL.cc hL h 1 rfl 4 rfl
  have HL := Lib.hid hL
  clear hL
  go_cut [11, 12] (fun c g wx => ∃ B, c = .pointer (some ⟨B, 0, none⟩) ∧ g = .int .i64 0 ∧ Hid (SL w (L ++ [(B, [.bool gs, .int .u64 g0, .int .u64 g1, .int .u64 g2, .int .u64 g3])]) wx))
  case first =>
    have hp0 := hP.drew
    go_region_held3 (fun w' : World => SL w L w')
      (first
        | (with_reducible refine SL.drew ?_; with_reducible assumption)
        | (with_reducible refine SL.after ?_ hb; with_reducible assumption)
        | (with_reducible refine SL.alloc ?_ _; with_reducible assumption)
        | (with_reducible exact SL.alloc hp4 _)
        | (with_reducible exact SL.drew (SL.alloc hP _))
        | (with_reducible refine SL.put5 ?_ zl _ _ _ _ _; with_reducible assumption))
      (first
        | (go_at_call 17; refine Calls.mono (by with_reducible exact HFa.out _) ?_; rintro e v1 ⟨A2, c2, rfl, hc2, hd2, hb⟩; have HD2 := Lib.hid hd2; have HC2 := Lib.hid hc2; clear hd2 hc2; have hp1 := SL.after (L := L) (w := w) (by assumption) hb; (first | (replace rz := rz.after hb) | (have rz := (Row.at (w := w4) (n := w4.heap.size) rfl [.bool false, .int .u64 0, .int .u64 0, .int .u64 0, .int .u64 0] 25).drew.after hb; have zl := SL.lb hP) | skip))
        | (go_at_call 17; refine Calls.mono (by with_reducible exact HFb.out _) ?_; clear hb; rintro e v2 ⟨A3, c3, rfl, hc3, hd3, hb⟩; have HD2b := Lib.hid ((HD2.out.below (by first | exact Below.refl _ _ | exact (Below.refl _ _).alloc (Nat.le_refl _) _)).below hb); have HD3 := Lib.hid hd3; have HC3 := Lib.hid hc3; clear hd3 hc3; have hp2 := SL.after (L := L) (w := w) (by assumption) hb; (first | (replace rz := rz.after hb) | (have rz := (Row.at (w := v1) rfl [.bool false, .int .u64 0, .int .u64 0, .int .u64 0, .int .u64 0] 25).after hb; have zl := SL.lb hp1) | skip))
        | (go_at_call 32; refine Calls.mono (by with_reducible exact (HGc.out _ _ _ _ _ (HD2b.out.below (by first | exact Below.refl _ _ | exact (Below.refl _ _).alloc (Nat.le_refl _) _)) (HD3.out.below (by first | exact Below.refl _ _ | exact (Below.refl _ _).alloc (Nat.le_refl _) _)) HC2.out HC3.out)) ?_; clear hb; rintro e v3 ⟨A4, c4, rfl, hc4, hd4, hb⟩; have HD4 := Lib.hid hd4; clear hd4 hc4; have hp3 := SL.after (L := L) (w := w) (by assumption) hb; (first | (replace rz := rz.after hb) | (have rz := (Row.at (w := v2) rfl [.bool false, .int .u64 0, .int .u64 0, .int .u64 0, .int .u64 0] 25).after hb; have zl := SL.lb hp2) | skip))
        | (go_at_call 27; refine Calls.mono (by with_reducible exact (HOg.out _ _ _ (HD4.out.below (by first | exact Below.refl _ _ | exact (Below.refl _ _).alloc (Nat.le_refl _) _)))) ?_; clear hb; rintro e v4 ⟨rfl, hb⟩; have hp4 := SL.after (L := L) (w := w) (by assumption) hb; (first | (replace rz := rz.after hb) | (have rz := (Row.at (w := v3) rfl [.bool false, .int .u64 0, .int .u64 0, .int .u64 0, .int .u64 0] 25).after hb; have zl := SL.lb hp3) | skip); try (have z0 := rz.c 0 rfl; have y0 := rz.f 0 rfl; have z1 := rz.c 1 rfl; have y1 := rz.f 1 rfl; have z2 := rz.c 2 rfl; have y2 := rz.f 2 rfl; have z3 := rz.c 3 rfl; have y3 := rz.f 3 rfl; have z4 := rz.c 4 rfl; have y4 := rz.f 4 rfl)))
    all_goals
      go_wp2_with fail
      go_meet
      first
        | (with_reducible exact ⟨_, rfl, rfl, SL.made hp4 _ _⟩)
        | (with_reducible exact ⟨_, rfl, rfl, SL.laid hp4 rz zl _ _ _ _ _⟩)
  case rest =>
    obtain ⟨B9, rfl, rfl, HK9⟩ := hcut
    have hS := SL.back HL.out HK9.out
    clear HK9 hP i0 i1 i2 i3 i4 j0 j1 j2 j3 j4 HL L HGc HOg
    have hT := (show ∀ W : World, (binOp .neq 25 (iv gs g0 g1 g2 g3) (iv gs g0 g1 g2 g3)).run Tryd.prog W = .ok (.bool false) W from fun W => by rw [neqInt]; simp)
    have hZ := HZb.out
    have i0 := hS.c 4 rfl 0 rfl
    have i1 := hS.c 4 rfl 1 rfl
    have i2 := hS.c 4 rfl 2 rfl
    have i3 := hS.c 4 rfl 3 rfl
    have i4 := hS.c 4 rfl 4 rfl
    have j0 := hS.c 5 rfl 0 rfl
    have j1 := hS.c 5 rfl 1 rfl
    have j2 := hS.c 5 rfl 2 rfl
    have j3 := hS.c 5 rfl 3 rfl
    have j4 := hS.c 5 rfl 4 rfl
    go_wp2_with fail
    clear i0 i1 i2 i3 i4 j0 j1 j2 j3 j4
    refine (num_any _ _).mono ?_
    rintro e w5 ⟨rfl, hb1⟩
    replace hS := hS.after hb1
    clear hb1 hT
    have i0 := hS.c 1 rfl 0 rfl
    have i1 := hS.c 1 rfl 1 rfl
    have i2 := hS.c 1 rfl 2 rfl
    have i3 := hS.c 1 rfl 3 rfl
    have i4 := hS.c 1 rfl 4 rfl
    rcases HE.out with ⟨rfl, ⟨rfl, rfl, rfl, rfl, rfl⟩, ⟨rfl, rfl, rfl, rfl, rfl⟩, rfl⟩ | ⟨rfl, rfl, hq⟩
    · have hT := (show ∀ W : World, (binOp .eql 25 (iv false 0 0 0 0) (iv false 0 0 0 0)).run Tryd.prog W = .ok (.bool true) W from fun W => by rw [eqlInt]; simp)
      have j0 := hS.c 2 rfl 0 rfl
      have j1 := hS.c 2 rfl 1 rfl
      have j2 := hS.c 2 rfl 2 rfl
      have j3 := hS.c 2 rfl 3 rfl
      have j4 := hS.c 2 rfl 4 rfl
      have k0 := hS.c 3 rfl 0 rfl
      have k1 := hS.c 3 rfl 1 rfl
      have k2 := hS.c 3 rfl 2 rfl
      have k3 := hS.c 3 rfl 3 rfl
      have k4 := hS.c 3 rfl 4 rfl
      go_wp2_with fail
      clear i0 i1 i2 i3 i4 j0 j1 j2 j3 j4 k0 k1 k2 k3 k4
      clear hT hZ
      refine (num_any _ _).mono ?_
      rintro e w6 ⟨rfl, hb1⟩
      replace hS := hS.after hb1
      clear hb1
      go_wp2_with fail
      have hb := hS.2
      refine (works_true _ (Ht.out.below hb) (Hz.out.below hg hb) (Nat.lt_of_lt_of_le hw0 hb.size)).mono ?_
      rintro e w10 ⟨rfl, hb1⟩
      have HB := Lib.hid (hb.trans (hb1.mono hb.size))
      clear hb hb1 hS
      go_wp2_with fail
      go_ret
      exact ⟨rfl, HB.out⟩
    · obtain ⟨hQr, hOq, hOr⟩ := hq
      have HQr := Lib.hid hQr
      have HOq := Lib.hid hOq
      have HOr := Lib.hid hOr
      clear hQr hOq hOr
      go_upto_region 11 with fail
      clear i0 i1 i2 i3 i4
      clear hZ HE HZb
      obtain ⟨L, hP, hL⟩ := SL.shut hS
      clear hS
      have i0 : ∀ W, SL w L W → W.cell? ⟨w.heap.size, 0, none⟩ = some (.bool s) := fun W h => SL.cc hL h 0 rfl 0 rfl
      have i1 : ∀ W, SL w L W → W.cell? ⟨w.heap.size, 1, none⟩ = some (.int .u64 a0) := fun W h => SL.cc hL h 0 rfl 1 rfl
      have i2 : ∀ W, SL w L W → W.cell? ⟨w.heap.size, 2, none⟩ = some (.int .u64 a1) := fun W h => SL.cc hL h 0 rfl 2 rfl
      have i3 : ∀ W, SL w L W → W.cell? ⟨w.heap.size, 3, none⟩ = some (.int .u64 a2) := fun W h => SL.cc hL h 0 rfl 3 rfl
      have i4 : ∀ W, SL w L W → W.cell? ⟨w.heap.size, 4, none⟩ = some (.int .u64 a3) := fun W h => SL.cc hL h 0 rfl 4 rfl
      have j0 : ∀ W, SL w L W → W.cell? ⟨w.heap.size + 1, 0, none⟩ = some (.bool t) := fun W h => SL.cc hL h 1 rfl 0 rfl
      have j1 : ∀ W, SL w L W → W.cell? ⟨w.heap.size + 1, 1, none⟩ = some (.int .u64 b0) := fun W h => SL.cc hL h 1 rfl 1 rfl
      have j2 : ∀ W, SL w L W → W.cell? ⟨w.heap.size + 1, 2, none⟩ = some (.int .u64 b1) := fun W h => SL.cc hL h 1 rfl 2 rfl
      have j3 : ∀ W, SL w L W → W.cell? ⟨w.heap.size + 1, 3, none⟩ = some (.int .u64 b2) := fun W h => SL.cc hL h 1 rfl 3 rfl
      have j4 : ∀ W, SL w L W → W.cell? ⟨w.heap.size + 1, 4, none⟩ = some (.int .u64 b3) := fun W h => SL.cc hL h 1 rfl 4 rfl
      have HL := Lib.hid hL
      clear hL
      go_cut [13, 14] (fun p r wx => ∃ B5 B6 A2 c2 A3 c3, p = .pointer (some ⟨B5, 0, none⟩) ∧ r = .pointer (some ⟨B6, 0, none⟩) ∧ Hid (TS w L qn A2 rn A3 wx ∧ wx.cell? ⟨B5, 0, none⟩ = some (.bool qs) ∧ wx.cell? ⟨B5, 1, none⟩ = some (.slice A2 lq c2) ∧ wx.cell? ⟨B6, 0, none⟩ = some (.bool rs) ∧ wx.cell? ⟨B6, 1, none⟩ = some (.slice A3 lr c3)))
      case first =>
        have hp0 := hP.drew
        go_region_held3 (fun w' : World => SL w L w')
          (first
            | (with_reducible assumption)
            | (with_reducible refine SL.drew ?_; with_reducible assumption)
            | (with_reducible refine SL.after ?_ hb; with_reducible assumption)
            | (repeat (first | (with_reducible assumption) | (with_reducible refine SL.alloc ?_ _) | (with_reducible refine SL.drew ?_) | (refine SL.put2 ?_ (by first | exact hP.lb | exact hp1.lb | exact hp2.lb | exact hp3.lb | exact hP.lb.up (by simp) | exact hp1.lb.up (by simp) | exact hp2.lb.up (by simp) | exact hp3.lb.up (by simp)) _ _))))
          (first
            | (go_at_call 17; refine Calls.mono (by with_reducible exact HFa.out _) ?_; rintro e v1 ⟨A2, c2, rfl, hc2, hd2, hb⟩; have HD2 := Lib.hid hd2; clear hd2 hc2; have hp1 := SL.after (L := L) (w := w) (by assumption) hb; (first | (have rA := ((Row.at (w := w5) (n := w5.heap.size) rfl [.bool false, .slice none 0 0] 30).alloc (.cells #[.bool false, .slice none 0 0] 30)).drew.after hb; have rB := (Row.at (w := w5.alloc (.cells #[.bool false, .slice none 0 0] 30)) (n := w5.heap.size + 1) (by simp) [.bool false, .slice none 0 0] 30).drew.after hb) | (have rA := (Row.at (w := w5) (n := w5.heap.size) rfl [.bool false, .slice none 0 0] 30).drew.after hb) | skip); try (have za := rA.lt); try (have zb := rB.lt))
            | (go_at_call 17; refine Calls.mono (by with_reducible exact HFb.out _) ?_; clear hb; rintro e v2 ⟨A3, c3, rfl, hc3, hd3, hb⟩; have HD2b := Lib.hid ((HD2.out.below (by first | exact Below.refl _ _ | exact (Below.refl _ _).alloc (Nat.le_refl _) _ | exact ((Below.refl _ _).alloc (Nat.le_refl _) _).alloc (by simp) _)).below hb); have HD3 := Lib.hid hd3; clear hd3 hc3; have hp2 := SL.after (L := L) (w := w) (by assumption) hb; (first | (replace rB := rB.after hb; replace rA := rA.after hb) | (have rB := (Row.at (w := v1) rfl [.bool false, .slice none 0 0] 30).after hb; replace rA := (rA.alloc _).after hb) | (replace rA := rA.after hb) | (have rB := (Row.at (w := v1.alloc (.cells #[.bool false, .slice none 0 0] 30)) (n := v1.heap.size + 1) (by simp) [.bool false, .slice none 0 0] 30).after hb; have rA := ((Row.at (w := v1) rfl [.bool false, .slice none 0 0] 30).alloc (.cells #[.bool false, .slice none 0 0] 30)).after hb) | (have rA := (Row.at (w := v1) rfl [.bool false, .slice none 0 0] 30).after hb) | skip); try (have zc := rA.lt); try (have zd := rB.lt))
            | (go_at_call 33; refine Calls.mono (by with_reducible exact (HQr.out _ _ _ _ _ (HD2b.out.below (by first | exact Below.refl _ _ | exact (Below.refl _ _).alloc (Nat.le_refl _) _ | exact ((Below.refl _ _).alloc (Nat.le_refl _) _).alloc (by simp) _)) (HD3.out.below (by first | exact Below.refl _ _ | exact (Below.refl _ _).alloc (Nat.le_refl _) _ | exact ((Below.refl _ _).alloc (Nat.le_refl _) _).alloc (by simp) _)))) ?_; clear hb; rintro e v3 ⟨A4, c4, A5, c5, rfl, hc4, hc5, hd4, hd5, hb⟩; clear hc4 hc5; have hp3 := SL.after (L := L) (w := w) (by assumption) hb; have hTS : TS w L qn A4 rn A5 v3 := ⟨hp3, hd4, hd5⟩; clear hd4 hd5; (first | (replace rB := rB.after hb; replace rA := rA.after hb) | (have rB := (Row.at (w := v2) rfl [.bool false, .slice none 0 0] 30).after hb; replace rA := (rA.alloc _).after hb) | (replace rA := rA.after hb) | (have rB := (Row.at (w := v2.alloc (.cells #[.bool false, .slice none 0 0] 30)) (n := v2.heap.size + 1) (by simp) [.bool false, .slice none 0 0] 30).after hb; have rA := ((Row.at (w := v2) rfl [.bool false, .slice none 0 0] 30).alloc (.cells #[.bool false, .slice none 0 0] 30)).after hb) | (have rA := (Row.at (w := v2) rfl [.bool false, .slice none 0 0] 30).after hb) | skip); try (have z0 := rA.c 0 rfl; have z1 := rA.c 1 rfl; have y0 := rA.f 0 rfl; have y1 := rA.f 1 rfl; have zl := rA.lt); try (have x0 := rB.c 0 rfl; have x1 := rB.c 1 rfl; have u0 := rB.f 0 rfl; have u1 := rB.f 1 rfl; have xl := rB.lt)))
        all_goals
          go_wp2_with fail
          go_meet
          refine ⟨_, _, A4, c4, A5, c5, rfl, rfl, Lib.hid ⟨?_, ?_, ?_, ?_, ?_⟩⟩
          · repeat (first | (with_reducible exact hTS) | (with_reducible refine TS.alloc ?_ _) | (refine TS.putB ?_ (by first | exact rA | exact rB | exact rA.alloc _ | exact rB.alloc _ | exact (rA.alloc _).alloc _ | exact (rB.other (by first | (simp; done) | (simp; omega)) _).other (by first | (simp; done) | (simp; omega)) _ | exact (rA.other (by first | (simp; done) | (simp; omega)) _).other (by first | (simp; done) | (simp; omega)) _) (by first | exact hP.lb | exact hp1.lb | exact hp2.lb | exact hp3.lb | exact hP.lb.up (by simp) | exact hp1.lb.up (by simp) | exact hp2.lb.up (by simp) | exact hp3.lb.up (by simp)) _ _))
          · go_simp
          · go_simp
          · go_simp
          · go_simp
      case rest =>
        obtain ⟨B5, B6, A4, c4, A5, c5, rfl, rfl, HF⟩ := hcut
        have hS := SL.back0 HL.out HF.out.1.1
        have hr := HF.out.1.2.2
        have z0 := HF.out.2.1
        have z1 := HF.out.2.2.1
        have x0 := HF.out.2.2.2.1
        have x1 := HF.out.2.2.2.2
        clear hP i0 i1 i2 i3 i4 j0 j1 j2 j3 j4 HL HFa HFb HQr
        go_wp2_with fail
        refine (HOq.out _ _ _ HF.out.1.2.1).mono ?_
        rintro e w6 ⟨rfl, hb1⟩
        replace hS := hS.after hb1
        have hb2 := hb1.trans (((Below.refl w6.heap.size w6).alloc (Nat.le_refl _) (.cells #[.bool qs, .int .u64 q0, .int .u64 q1, .int .u64 q2, .int .u64 q3] 25)).mono hb1.size)
        have y0 := (hb2.cell (p := ⟨B6, 0, none⟩) (block_lt_of_cell x0)).trans x0
        have y1 := (hb2.cell (p := ⟨B6, 1, none⟩) (block_lt_of_cell x1)).trans x1
        have hr2 := hr.below hb2
        clear hb1 hb2 z0 z1 x0 x1 hr HF HOq
        replace hS := hS.new rfl [.bool qs, .int .u64 q0, .int .u64 q1, .int .u64 q2, .int .u64 q3] 25
        go_wp2_with fail
        generalize World.alloc _ _ = W6 at hS y0 y1 hr2 ⊢
        generalize w6.heap.size = B7 at hS ⊢
        refine (HOr.out _ _ _ hr2).mono ?_
        rintro e w7 ⟨rfl, hb1⟩
        replace hS := hS.after hb1
        clear hb1 y0 y1 hr2 HOr
        replace hS := hS.new rfl [.bool rs, .int .u64 r0, .int .u64 r1, .int .u64 r2, .int .u64 r3] 25
        have hT1 := (show ∀ W : World, (binOp .eql 25 (iv qs q0 q1 q2 q3) (iv qs q0 q1 q2 q3)).run Tryd.prog W = .ok (.bool true) W from fun W => by rw [eqlInt]; simp)
        have hT2 := (show ∀ W : World, (binOp .eql 25 (iv rs r0 r1 r2 r3) (iv rs r0 r1 r2 r3)).run Tryd.prog W = .ok (.bool true) W from fun W => by rw [eqlInt]; simp)
        have i0 := hS.c 2 rfl 0 rfl
        have i1 := hS.c 2 rfl 1 rfl
        have i2 := hS.c 2 rfl 2 rfl
        have i3 := hS.c 2 rfl 3 rfl
        have i4 := hS.c 2 rfl 4 rfl
        have j0 := hS.c 3 rfl 0 rfl
        have j1 := hS.c 3 rfl 1 rfl
        have j2 := hS.c 3 rfl 2 rfl
        have j3 := hS.c 3 rfl 3 rfl
        have j4 := hS.c 3 rfl 4 rfl
        have k0 := hS.c 6 rfl 0 rfl
        have k1 := hS.c 6 rfl 1 rfl
        have k2 := hS.c 6 rfl 2 rfl
        have k3 := hS.c 6 rfl 3 rfl
        have k4 := hS.c 6 rfl 4 rfl
        have l0 := hS.c 7 rfl 0 rfl
        have l1 := hS.c 7 rfl 1 rfl
        have l2 := hS.c 7 rfl 2 rfl
        have l3 := hS.c 7 rfl 3 rfl
        have l4 := hS.c 7 rfl 4 rfl
        go_wp2_with fail
        clear i0 i1 i2 i3 i4 j0 j1 j2 j3 j4 k0 k1 k2 k3 k4 l0 l1 l2 l3 l4
        clear hT1 hT2
        generalize World.alloc _ _ = W7 at hS ⊢
        generalize w7.heap.size = B8 at hS ⊢
        refine (num_any _ _).mono ?_
        rintro e w8 ⟨rfl, hb1⟩
        replace hS := hS.after hb1
        clear hb1
        go_wp2_with fail
        have hb := hS.2
        refine (works_true _ (Ht.out.below hb) (Hz.out.below hg hb) (Nat.lt_of_lt_of_le hw0 hb.size)).mono ?_
        rintro e w10 ⟨rfl, hb1⟩
        have HB := Lib.hid (hb.trans (hb1.mono hb.size))
        clear hb hb1 hS
        go_wp2_with fail
        go_ret
        exact ⟨rfl, HB.out⟩
end Go.Proofs.YtpbdhhdmnnelhaaDoor
