import Derived.Test.YteolocchmhpggaaGreatDoorZKkBase
import Derived.Deep.RegionHeld3
namespace Go.Proofs.YteolocchmhpggaaGreatDoor
open Go.RowKit
def cellV (w : World) (b i : Nat) : Value := (w.cell? ⟨b, i, none⟩).getD undef
theorem cellV_of {w : World} {b : Nat} {vs : List Value} (h : Row w b vs) (i : Nat) (hi : i < vs.length) : w.cell? ⟨b, i, none⟩ = some (cellV w b i) := by
 rw [cellV, h.c i (List.getElem?_eq_getElem hi)]; rfl
def Buf5 (w : World) (b : Nat) : Prop := ∃ v0 v1 v2 v3 v4 : Value, Row w b [v0, v1, v2, v3, v4]
theorem Buf5.eqs {w : World} {b : Nat} (h : Buf5 w b) : (w.cell? ⟨b, 0, none⟩ = some (cellV w b 0) ∧ w.cell? ⟨b, 1, none⟩ = some (cellV w b 1) ∧ w.cell? ⟨b, 2, none⟩ = some (cellV w b 2) ∧ w.cell? ⟨b, 3, none⟩ = some (cellV w b 3) ∧ w.cell? ⟨b, 4, none⟩ = some (cellV w b 4)) ∧
 w.frozen? ⟨b, 0, none⟩ = false ∧ w.frozen? ⟨b, 1, none⟩ = false ∧ w.frozen? ⟨b, 2, none⟩ = false ∧ w.frozen? ⟨b, 3, none⟩ = false ∧ w.frozen? ⟨b, 4, none⟩ = false := by
 obtain ⟨v0, v1, v2, v3, v4, h⟩ := h
 exact ⟨⟨cellV_of h 0 (by simp), cellV_of h 1 (by simp), cellV_of h 2 (by simp), cellV_of h 3 (by simp), cellV_of h 4 (by simp)⟩, h.f 0 rfl, h.f 1 rfl, h.f 2 rfl, h.f 3 rfl, h.f 4 rfl⟩
def QP (w0 : World) (A B C D Q R : Nat) (s t : Bool) (q0 q1 q2 q3 r0 r1 r2 r3 : Int) (w : World) : Prop :=
 Below w0.heap.size w0 w ∧ (A < w.heap.size ∧ w.cell? ⟨A, 0, none⟩ = some (.bool s)) ∧ (B < w.heap.size ∧ w.cell? ⟨B, 0, none⟩ = some (.bool t)) ∧ Row w Q [.int .u64 q0, .int .u64 q1, .int .u64 q2, .int .u64 q3] ∧ Row w R [.int .u64 r0, .int .u64 r1, .int .u64 r2, .int .u64 r3] ∧ Buf5 w C ∧ Buf5 w D ∧
  (w0.heap.size ≤ C ∧ w0.heap.size ≤ D ∧ A ≠ C ∧ A ≠ D ∧ B ≠ C ∧ B ≠ D ∧ Q ≠ C ∧ Q ≠ D ∧ R ≠ C ∧ R ≠ D ∧ C ≠ D)
theorem cell_after {w w1 : World} {b i : Nat} {v : Value} (h : b < w.heap.size ∧ w.cell? ⟨b, i, none⟩ = some v) (hb : Below w.heap.size w w1) : b < w1.heap.size ∧ w1.cell? ⟨b, i, none⟩ = some v :=
 ⟨Nat.lt_of_lt_of_le h.1 hb.size, (hb.cell (p := ⟨b, i, none⟩) h.1).trans h.2⟩
theorem cell_put5 {w : World} {b i c : Nat} {v : Value} (h : b < w.heap.size ∧ w.cell? ⟨b, i, none⟩ = some v) (hc : c ≠ b) (y0 y1 y2 y3 y4 : Value) :
 b < (((((w.setCell ⟨c, 0, none⟩ y0).setCell ⟨c, 1, none⟩ y1).setCell ⟨c, 2, none⟩ y2).setCell ⟨c, 3, none⟩ y3).setCell ⟨c, 4, none⟩ y4).heap.size ∧
 (((((w.setCell ⟨c, 0, none⟩ y0).setCell ⟨c, 1, none⟩ y1).setCell ⟨c, 2, none⟩ y2).setCell ⟨c, 3, none⟩ y3).setCell ⟨c, 4, none⟩ y4).cell? ⟨b, i, none⟩ = some v := by
 have hne : ∀ j, (⟨c, j, none⟩ : Addr) ≠ ⟨b, i, none⟩ := fun j e => hc (congrArg Addr.block e)
 refine ⟨by have := h.1; simp [World.setCell]; omega, ?_⟩
 rw [World.cell?_setCell_other _ _ _ _ (hne 4), World.cell?_setCell_other _ _ _ _ (hne 3), World.cell?_setCell_other _ _ _ _ (hne 2), World.cell?_setCell_other _ _ _ _ (hne 1), World.cell?_setCell_other _ _ _ _ (hne 0)]
 exact h.2
theorem Buf5.other5 {w : World} {b c : Nat} (h : Buf5 w b) (hc : c ≠ b) (y0 y1 y2 y3 y4 : Value) :
 Buf5 (((((w.setCell ⟨c, 0, none⟩ y0).setCell ⟨c, 1, none⟩ y1).setCell ⟨c, 2, none⟩ y2).setCell ⟨c, 3, none⟩ y3).setCell ⟨c, 4, none⟩ y4) b := by
 obtain ⟨v0, v1, v2, v3, v4, h⟩ := h
 exact ⟨v0, v1, v2, v3, v4, h.other5 hc _ _ _ _ _⟩
theorem Buf5.put5 {w : World} {c : Nat} (h : Buf5 w c) (y0 y1 y2 y3 y4 : Value) :
 Row (((((w.setCell ⟨c, 0, none⟩ y0).setCell ⟨c, 1, none⟩ y1).setCell ⟨c, 2, none⟩ y2).setCell ⟨c, 3, none⟩ y3).setCell ⟨c, 4, none⟩ y4) c [y0, y1, y2, y3, y4] := by
 obtain ⟨v0, v1, v2, v3, v4, h⟩ := h
 exact h.put5 _ _ _ _ _
theorem isSome_setCell (w : World) (a b : Addr) (v : Value) : ((w.setCell a v).cell? b).isSome = (w.cell? b).isSome := by
 unfold World.cell? World.setCell
 simp only [Array.getElem?_modify]
 by_cases e : a.block = b.block
 ·rw [if_pos e]
  cases w.heap[b.block]? with
  | none => rfl
  | some o =>
    cases o with
    | cells c t f =>
      simp only [Option.map_some]
      by_cases e2 : b.spot.isSome = true
      ·simp [e2]
      ·simp only [e2]
       by_cases e3 : a.spot.isSome = true
       ·simp [e3]
       ·simp [e3]
        by_cases e4 : b.off < c.size
        ·simp [e4]
        ·simp [e4]
    | _ => rfl
 ·rw [if_neg e]
def Some5 (w : World) (b : Nat) : Prop := b < w.heap.size ∧ ∀ i, i < 5 → (w.cell? ⟨b, i, none⟩).isSome = true ∧ w.frozen? ⟨b, i, none⟩ = false
theorem Buf5.some5 {w : World} {b : Nat} (h : Buf5 w b) : Some5 w b := by
 obtain ⟨v0, v1, v2, v3, v4, h⟩ := h
 refine ⟨h.lt, fun i hi => ?_⟩
 match i, hi with
 | 0, _ => exact ⟨by rw [h.c 0 rfl]; rfl, h.f 0 rfl⟩
 | 1, _ => exact ⟨by rw [h.c 1 rfl]; rfl, h.f 1 rfl⟩
 | 2, _ => exact ⟨by rw [h.c 2 rfl]; rfl, h.f 2 rfl⟩
 | 3, _ => exact ⟨by rw [h.c 3 rfl]; rfl, h.f 3 rfl⟩
 | 4, _ => exact ⟨by rw [h.c 4 rfl]; rfl, h.f 4 rfl⟩
theorem Some5.buf5 {w : World} {b : Nat} (h : Some5 w b) : Buf5 w b := by
 obtain ⟨v0, e0⟩ := Option.isSome_iff_exists.1 (h.2 0 (by omega)).1
 obtain ⟨v1, e1⟩ := Option.isSome_iff_exists.1 (h.2 1 (by omega)).1
 obtain ⟨v2, e2⟩ := Option.isSome_iff_exists.1 (h.2 2 (by omega)).1
 obtain ⟨v3, e3⟩ := Option.isSome_iff_exists.1 (h.2 3 (by omega)).1
 obtain ⟨v4, e4⟩ := Option.isSome_iff_exists.1 (h.2 4 (by omega)).1
 refine ⟨v0, v1, v2, v3, v4, h.1, fun i v hv => ?_⟩
 match i, hv with
 | 0, hv => exact ⟨e0.trans hv, (h.2 0 (by omega)).2⟩
 | 1, hv => exact ⟨e1.trans hv, (h.2 1 (by omega)).2⟩
 | 2, hv => exact ⟨e2.trans hv, (h.2 2 (by omega)).2⟩
 | 3, hv => exact ⟨e3.trans hv, (h.2 3 (by omega)).2⟩
 | 4, hv => exact ⟨e4.trans hv, (h.2 4 (by omega)).2⟩
theorem Some5.of_set {w : World} {b : Nat} {p : Addr} {v : Value} (h : Some5 (w.setCell p v) b) : Some5 w b :=
 ⟨by have := h.1; simpa [World.setCell] using this, fun i hi => ⟨by rw [← isSome_setCell w p ⟨b, i, none⟩ v]; exact (h.2 i hi).1, by rw [← World.frozen?_setCell w p ⟨b, i, none⟩ v]; exact (h.2 i hi).2⟩⟩
theorem Buf5.of_put5 {w : World} {b c : Nat} {y0 y1 y2 y3 y4 : Value} (h : Buf5 (((((w.setCell ⟨c, 0, none⟩ y0).setCell ⟨c, 1, none⟩ y1).setCell ⟨c, 2, none⟩ y2).setCell ⟨c, 3, none⟩ y3).setCell ⟨c, 4, none⟩ y4) b) : Buf5 w b :=
 h.some5.of_set.of_set.of_set.of_set.of_set.buf5
section
variable {w0 : World} {A B C D Q R : Nat} {s t : Bool} {q0 q1 q2 q3 r0 r1 r2 r3 : Int} {w w1 : World}
theorem QP.drew (h : QP w0 A B C D Q R s t q0 q1 q2 q3 r0 r1 r2 r3 w) : QP w0 A B C D Q R s t q0 q1 q2 q3 r0 r1 r2 r3 w.drew := ⟨h.1.drew, h.2⟩
theorem QP.after (h : QP w0 A B C D Q R s t q0 q1 q2 q3 r0 r1 r2 r3 w) (hb : Below w.heap.size w w1) : QP w0 A B C D Q R s t q0 q1 q2 q3 r0 r1 r2 r3 w1 := by
 obtain ⟨h0, h1, h2, h3, h4, ⟨_, _, _, _, _, h5⟩, ⟨_, _, _, _, _, h6⟩, h7⟩ := h
 exact ⟨h0.trans (hb.mono h0.size), cell_after h1 hb, cell_after h2 hb, h3.after hb, h4.after hb, ⟨_, _, _, _, _, h5.after hb⟩, ⟨_, _, _, _, _, h6.after hb⟩, h7⟩
theorem QP.putC (h : QP w0 A B C D Q R s t q0 q1 q2 q3 r0 r1 r2 r3 w) (y0 y1 y2 y3 y4 : Value) :
 QP w0 A B C D Q R s t q0 q1 q2 q3 r0 r1 r2 r3 (((((w.setCell ⟨C, 0, none⟩ y0).setCell ⟨C, 1, none⟩ y1).setCell ⟨C, 2, none⟩ y2).setCell ⟨C, 3, none⟩ y3).setCell ⟨C, 4, none⟩ y4) := by
 obtain ⟨h0, h1, h2, h3, h4, h5, h6, hC, hD, e1, e2, e3, e4, e5, e6, e7, e8, e9⟩ := h
 exact ⟨below_put5 h0 hC _ _ _ _ _, cell_put5 h1 (Ne.symm e1) _ _ _ _ _, cell_put5 h2 (Ne.symm e3) _ _ _ _ _, h3.other5 (Ne.symm e5) _ _ _ _ _, h4.other5 (Ne.symm e7) _ _ _ _ _, ⟨_, _, _, _, _, h5.put5 _ _ _ _ _⟩, h6.other5 e9 _ _ _ _ _, hC, hD, e1, e2, e3, e4, e5, e6, e7, e8, e9⟩
theorem QP.putD (h : QP w0 A B C D Q R s t q0 q1 q2 q3 r0 r1 r2 r3 w) (y0 y1 y2 y3 y4 : Value) :
 QP w0 A B C D Q R s t q0 q1 q2 q3 r0 r1 r2 r3 (((((w.setCell ⟨D, 0, none⟩ y0).setCell ⟨D, 1, none⟩ y1).setCell ⟨D, 2, none⟩ y2).setCell ⟨D, 3, none⟩ y3).setCell ⟨D, 4, none⟩ y4) := by
 obtain ⟨h0, h1, h2, h3, h4, h5, h6, hC, hD, e1, e2, e3, e4, e5, e6, e7, e8, e9⟩ := h
 exact ⟨below_put5 h0 hD _ _ _ _ _, cell_put5 h1 (Ne.symm e2) _ _ _ _ _, cell_put5 h2 (Ne.symm e4) _ _ _ _ _, h3.other5 (Ne.symm e6) _ _ _ _ _, h4.other5 (Ne.symm e8) _ _ _ _ _, h5.other5 (Ne.symm e9) _ _ _ _ _, ⟨_, _, _, _, _, h6.put5 _ _ _ _ _⟩, hC, hD, e1, e2, e3, e4, e5, e6, e7, e8, e9⟩
end
theorem two_ints {w : World} {b : Nat} {s t : Bool} {a0 a1 a2 a3 b0 b1 b2 b3 : Int}
 (h : Row w b [.bool s, .int .u64 a0, .int .u64 a1, .int .u64 a2, .int .u64 a3, .bool t, .int .u64 b0, .int .u64 b1, .int .u64 b2, .int .u64 b3]) :
 IntsAt w b 0 2 (fun i => if i = 0 then s else t) (fun i => if i = 0 then row4 a0 a1 a2 a3 else row4 b0 b1 b2 b3) := by
 intro i hi
 match i, hi with
 | 0, _ => exact ⟨h.c 0 rfl, h.c 1 rfl, h.c 2 rfl, h.c 3 rfl, h.c 4 rfl⟩
 | 1, _ => exact ⟨h.c 5 rfl, h.c 6 rfl, h.c 7 rfl, h.c 8 rfl, h.c 9 rfl⟩
theorem errAll_two {s t : Bool} {a0 a1 a2 a3 b0 b1 b2 b3 : Int} : errAll (fun i => if i = 0 then s else t) (fun i => if i = 0 then row4 a0 a1 a2 a3 else row4 b0 b1 b2 b3) 2 =
 if errArg s a0 a1 a2 a3 = 0 then errArg t b0 b1 b2 b3 else errArg s a0 a1 a2 a3 := by
 simp [errAll, row4]
set_option maxHeartbeats 2000000 in
theorem quo_of (s t : Bool) (a0 a1 a2 a3 b0 b1 b2 b3 q0 q1 q2 q3 r0 r1 r2 r3 : Int) (w : World)
 (hs : (s && zeroB a0 a1 a2 a3) = false) (ht : (t && zeroB b0 b1 b2 b3) = false) (hz : zeroB b0 b1 b2 b3 = false)
 (hp : ∀ w, Calls Tryz.prog 169 #[wv a0 a1 a2 a3, wv b0 b1 b2 b3] w fun e w' => e = .returned (.tuple #[wv q0 q1 q2 q3, wv r0 r1 r2 r3]) ∧ Below w.heap.size w w') :
 Calls Tryz.prog 167 #[iv s a0 a1 a2 a3, iv t b0 b1 b2 b3] w fun e w' =>
  e = .returned (.tuple #[iv (!(s == t) && !zeroB q0 q1 q2 q3) q0 q1 q2 q3, iv (s && !zeroB r0 r1 r2 r3) r0 r1 r2 r3, .int .i64 0]) ∧ Below w.heap.size w w' := by
 have HE := Lib.hid (show errAll (fun i => if i = 0 then s else t) (fun i => if i = 0 then row4 a0 a1 a2 a3 else row4 b0 b1 b2 b3) 2 = 0 by rw [errAll_two, errArg_ok hs, if_pos rfl, errArg_ok ht])
 have HG : Hid (sgnB t b0 b1 b2 b3 ≠ 0) := Lib.hid (by simp only [sgnB, hz]; cases t <;> simp)
 have Hp := Lib.hid hp
 clear hp hs ht hz
 go_enter Tryz.func167, Tryz.ntmps167
 go_wp2_with fail
 generalize hW : World.alloc _ _ = W0
 have hB : Below w.heap.size w W0 := by
  rw [← hW]; exact (((((Below.refl w.heap.size w).alloc (Nat.le_refl _) _).alloc (by simp) _).alloc (by simp; omega) _).alloc (by simp; omega) _).alloc (by simp; omega) _
 have rA : Row W0 w.heap.size [.bool s, .int .u64 a0, .int .u64 a1, .int .u64 a2, .int .u64 a3] := by
  rw [← hW]; exact ((((Row.at rfl _ _).alloc _).alloc _).alloc _).alloc _
 have rB : Row W0 (w.heap.size + 1) [.bool t, .int .u64 b0, .int .u64 b1, .int .u64 b2, .int .u64 b3] := by
  rw [← hW]; exact (((Row.at (by simp) _ _).alloc _).alloc _).alloc _
 have rC : Row W0 (w.heap.size + 1 + 1) [.bool false, .int .u64 0, .int .u64 0, .int .u64 0, .int .u64 0] := by
  rw [← hW]; exact ((Row.at (by simp) _ _).alloc _).alloc _
 have rD : Row W0 (w.heap.size + 1 + 1 + 1) [.bool false, .int .u64 0, .int .u64 0, .int .u64 0, .int .u64 0] := by
  rw [← hW]; exact (Row.at (by simp) _ _).alloc _
 have rE : Row W0 (w.heap.size + 1 + 1 + 1 + 1) [.bool s, .int .u64 a0, .int .u64 a1, .int .u64 a2, .int .u64 a3, .bool t, .int .u64 b0, .int .u64 b1, .int .u64 b2, .int .u64 b3] := by
  rw [← hW]; exact Row.at (by simp) _ _
 clear hW
 refine (checkAll_any _ _ 2 _ 0 2 W0 (by omega) rE.lt (two_ints rE)).mono ?_
 rintro e w1 ⟨rfl, hb1⟩
 rw [HE.out]
 replace hB := hB.trans (hb1.mono hB.size)
 replace rA := rA.after hb1
 replace rB := rB.after hb1
 replace rC := rC.after hb1
 replace rD := rD.after hb1
 clear rE hb1
 have i0 := rB.c 0 rfl
 have i1 := rB.c 1 rfl
 have i2 := rB.c 2 rfl
 have i3 := rB.c 3 rfl
 have i4 := rB.c 4 rfl
 go_wp2_with fail
 refine (sign_any _ _ _ _ _ _).mono ?_
 rintro e w2 ⟨rfl, hb1⟩
 have hg : (sgnB t b0 b1 b2 b3 == 0) = false := by simpa using HG.out
 replace hB := hB.trans (hb1.mono hB.size)
 replace rA := rA.after hb1
 replace rB := rB.after hb1
 replace rC := rC.after hb1
 replace rD := rD.after hb1
 clear hb1 i0 i1 i2 i3 i4
 have i0 := rB.c 0 rfl
 have i1 := rB.c 1 rfl
 have i2 := rB.c 2 rfl
 have i3 := rB.c 3 rfl
 have i4 := rB.c 4 rfl
 have j0 := rA.c 0 rfl
 have j1 := rA.c 1 rfl
 have j2 := rA.c 2 rfl
 have j3 := rA.c 3 rfl
 have j4 := rA.c 4 rfl
 go_wp2_with fail
 refine (Hp.out _).mono ?_
 rintro e w3 ⟨rfl, hb1⟩
 replace hB := hB.trans (hb1.mono hB.size)
 replace rA := rA.after hb1
 replace rB := rB.after hb1
 replace rC := rC.after hb1
 replace rD := rD.after hb1
 clear hb1 i0 i1 i2 i3 i4 j0 j1 j2 j3 j4
 go_wp2
 generalize hW : World.alloc _ _ = W4
 have hl : w.heap.size ≤ w3.heap.size := hB.size
 have lD := rD.lt
 have hP : QP w w.heap.size (w.heap.size + 1) (w.heap.size + 1 + 1) (w.heap.size + 1 + 1 + 1) w3.heap.size (w3.heap.size + 1) s t q0 q1 q2 q3 r0 r1 r2 r3 W4 := by
  rw [← hW]
  refine ⟨(hB.alloc hl _).alloc (by simp; omega) _, ⟨?_, ((rA.alloc _).alloc _).c 0 rfl⟩, ⟨?_, ((rB.alloc _).alloc _).c 0 rfl⟩, (Row.at rfl _ _).alloc _, Row.at (by simp) _ _, ⟨_, _, _, _, _, (rC.alloc _).alloc _⟩, ⟨_, _, _, _, _, (rD.alloc _).alloc _⟩, ?_⟩
  ·simp; omega
  ·simp; omega
  ·refine ⟨?_, ?_, ?_, ?_, ?_, ?_, ?_, ?_, ?_, ?_, ?_⟩ <;> omega
 clear hW rA rB rC rD hB hl lD
 generalize w3.heap.size = Q at *
 generalize w.heap.size + 1 + 1 + 1 = D at *
 generalize w.heap.size + 1 + 1 = C at *
 generalize w.heap.size + 1 = B at *
 generalize hAA : w.heap.size = A at *
 generalize Q + 1 = R at *
 have kA : ∀ w', QP w A B C D Q R s t q0 q1 q2 q3 r0 r1 r2 r3 w' → w'.cell? ⟨A, 0, none⟩ = some (.bool s) := fun w' h => by
  obtain ⟨h0, h1, h2, h3, h4, h5, h6, h7⟩ := h; exact h1.2
 have kB : ∀ w', QP w A B C D Q R s t q0 q1 q2 q3 r0 r1 r2 r3 w' → w'.cell? ⟨B, 0, none⟩ = some (.bool t) := fun w' h => by
  obtain ⟨h0, h1, h2, h3, h4, h5, h6, h7⟩ := h; exact h2.2
 have kQ0 : ∀ w', QP w A B C D Q R s t q0 q1 q2 q3 r0 r1 r2 r3 w' → w'.cell? ⟨Q, 0, none⟩ = some (.int .u64 q0) := fun w' h => by
  obtain ⟨h0, h1, h2, h3, h4, h5, h6, h7⟩ := h; exact h3.c 0 rfl
 have kQ1 : ∀ w', QP w A B C D Q R s t q0 q1 q2 q3 r0 r1 r2 r3 w' → w'.cell? ⟨Q, 1, none⟩ = some (.int .u64 q1) := fun w' h => by
  obtain ⟨h0, h1, h2, h3, h4, h5, h6, h7⟩ := h; exact h3.c 1 rfl
 have kQ2 : ∀ w', QP w A B C D Q R s t q0 q1 q2 q3 r0 r1 r2 r3 w' → w'.cell? ⟨Q, 2, none⟩ = some (.int .u64 q2) := fun w' h => by
  obtain ⟨h0, h1, h2, h3, h4, h5, h6, h7⟩ := h; exact h3.c 2 rfl
 have kQ3 : ∀ w', QP w A B C D Q R s t q0 q1 q2 q3 r0 r1 r2 r3 w' → w'.cell? ⟨Q, 3, none⟩ = some (.int .u64 q3) := fun w' h => by
  obtain ⟨h0, h1, h2, h3, h4, h5, h6, h7⟩ := h; exact h3.c 3 rfl
 have kR0 : ∀ w', QP w A B C D Q R s t q0 q1 q2 q3 r0 r1 r2 r3 w' → w'.cell? ⟨R, 0, none⟩ = some (.int .u64 r0) := fun w' h => by
  obtain ⟨h0, h1, h2, h3, h4, h5, h6, h7⟩ := h; exact h4.c 0 rfl
 have kR1 : ∀ w', QP w A B C D Q R s t q0 q1 q2 q3 r0 r1 r2 r3 w' → w'.cell? ⟨R, 1, none⟩ = some (.int .u64 r1) := fun w' h => by
  obtain ⟨h0, h1, h2, h3, h4, h5, h6, h7⟩ := h; exact h4.c 1 rfl
 have kR2 : ∀ w', QP w A B C D Q R s t q0 q1 q2 q3 r0 r1 r2 r3 w' → w'.cell? ⟨R, 2, none⟩ = some (.int .u64 r2) := fun w' h => by
  obtain ⟨h0, h1, h2, h3, h4, h5, h6, h7⟩ := h; exact h4.c 2 rfl
 have kR3 : ∀ w', QP w A B C D Q R s t q0 q1 q2 q3 r0 r1 r2 r3 w' → w'.cell? ⟨R, 3, none⟩ = some (.int .u64 r3) := fun w' h => by
  obtain ⟨h0, h1, h2, h3, h4, h5, h6, h7⟩ := h; exact h4.c 3 rfl
 have kC0 : ∀ w', QP w A B C D Q R s t q0 q1 q2 q3 r0 r1 r2 r3 w' → w'.cell? ⟨C, 0, none⟩ = some (cellV w' C 0) := fun w' h => by
  obtain ⟨h0, h1, h2, h3, h4, h5, h6, h7⟩ := h; exact h5.eqs.1.1
 have fC0 : ∀ w', QP w A B C D Q R s t q0 q1 q2 q3 r0 r1 r2 r3 w' → w'.frozen? ⟨C, 0, none⟩ = false := fun w' h => by
  obtain ⟨h0, h1, h2, h3, h4, h5, h6, h7⟩ := h; exact h5.eqs.2.1
 have kC1 : ∀ w', QP w A B C D Q R s t q0 q1 q2 q3 r0 r1 r2 r3 w' → w'.cell? ⟨C, 1, none⟩ = some (cellV w' C 1) := fun w' h => by
  obtain ⟨h0, h1, h2, h3, h4, h5, h6, h7⟩ := h; exact h5.eqs.1.2.1
 have fC1 : ∀ w', QP w A B C D Q R s t q0 q1 q2 q3 r0 r1 r2 r3 w' → w'.frozen? ⟨C, 1, none⟩ = false := fun w' h => by
  obtain ⟨h0, h1, h2, h3, h4, h5, h6, h7⟩ := h; exact h5.eqs.2.2.1
 have kC2 : ∀ w', QP w A B C D Q R s t q0 q1 q2 q3 r0 r1 r2 r3 w' → w'.cell? ⟨C, 2, none⟩ = some (cellV w' C 2) := fun w' h => by
  obtain ⟨h0, h1, h2, h3, h4, h5, h6, h7⟩ := h; exact h5.eqs.1.2.2.1
 have fC2 : ∀ w', QP w A B C D Q R s t q0 q1 q2 q3 r0 r1 r2 r3 w' → w'.frozen? ⟨C, 2, none⟩ = false := fun w' h => by
  obtain ⟨h0, h1, h2, h3, h4, h5, h6, h7⟩ := h; exact h5.eqs.2.2.2.1
 have kC3 : ∀ w', QP w A B C D Q R s t q0 q1 q2 q3 r0 r1 r2 r3 w' → w'.cell? ⟨C, 3, none⟩ = some (cellV w' C 3) := fun w' h => by
  obtain ⟨h0, h1, h2, h3, h4, h5, h6, h7⟩ := h; exact h5.eqs.1.2.2.2.1
 have fC3 : ∀ w', QP w A B C D Q R s t q0 q1 q2 q3 r0 r1 r2 r3 w' → w'.frozen? ⟨C, 3, none⟩ = false := fun w' h => by
  obtain ⟨h0, h1, h2, h3, h4, h5, h6, h7⟩ := h; exact h5.eqs.2.2.2.2.1
 have kC4 : ∀ w', QP w A B C D Q R s t q0 q1 q2 q3 r0 r1 r2 r3 w' → w'.cell? ⟨C, 4, none⟩ = some (cellV w' C 4) := fun w' h => by
  obtain ⟨h0, h1, h2, h3, h4, h5, h6, h7⟩ := h; exact h5.eqs.1.2.2.2.2
 have fC4 : ∀ w', QP w A B C D Q R s t q0 q1 q2 q3 r0 r1 r2 r3 w' → w'.frozen? ⟨C, 4, none⟩ = false := fun w' h => by
  obtain ⟨h0, h1, h2, h3, h4, h5, h6, h7⟩ := h; exact h5.eqs.2.2.2.2.2
 have kD0 : ∀ w', QP w A B C D Q R s t q0 q1 q2 q3 r0 r1 r2 r3 w' → w'.cell? ⟨D, 0, none⟩ = some (cellV w' D 0) := fun w' h => by
  obtain ⟨h0, h1, h2, h3, h4, h5, h6, h7⟩ := h; exact h6.eqs.1.1
 have fD0 : ∀ w', QP w A B C D Q R s t q0 q1 q2 q3 r0 r1 r2 r3 w' → w'.frozen? ⟨D, 0, none⟩ = false := fun w' h => by
  obtain ⟨h0, h1, h2, h3, h4, h5, h6, h7⟩ := h; exact h6.eqs.2.1
 have kD1 : ∀ w', QP w A B C D Q R s t q0 q1 q2 q3 r0 r1 r2 r3 w' → w'.cell? ⟨D, 1, none⟩ = some (cellV w' D 1) := fun w' h => by
  obtain ⟨h0, h1, h2, h3, h4, h5, h6, h7⟩ := h; exact h6.eqs.1.2.1
 have fD1 : ∀ w', QP w A B C D Q R s t q0 q1 q2 q3 r0 r1 r2 r3 w' → w'.frozen? ⟨D, 1, none⟩ = false := fun w' h => by
  obtain ⟨h0, h1, h2, h3, h4, h5, h6, h7⟩ := h; exact h6.eqs.2.2.1
 have kD2 : ∀ w', QP w A B C D Q R s t q0 q1 q2 q3 r0 r1 r2 r3 w' → w'.cell? ⟨D, 2, none⟩ = some (cellV w' D 2) := fun w' h => by
  obtain ⟨h0, h1, h2, h3, h4, h5, h6, h7⟩ := h; exact h6.eqs.1.2.2.1
 have fD2 : ∀ w', QP w A B C D Q R s t q0 q1 q2 q3 r0 r1 r2 r3 w' → w'.frozen? ⟨D, 2, none⟩ = false := fun w' h => by
  obtain ⟨h0, h1, h2, h3, h4, h5, h6, h7⟩ := h; exact h6.eqs.2.2.2.1
 have kD3 : ∀ w', QP w A B C D Q R s t q0 q1 q2 q3 r0 r1 r2 r3 w' → w'.cell? ⟨D, 3, none⟩ = some (cellV w' D 3) := fun w' h => by
  obtain ⟨h0, h1, h2, h3, h4, h5, h6, h7⟩ := h; exact h6.eqs.1.2.2.2.1
 have fD3 : ∀ w', QP w A B C D Q R s t q0 q1 q2 q3 r0 r1 r2 r3 w' → w'.frozen? ⟨D, 3, none⟩ = false := fun w' h => by
  obtain ⟨h0, h1, h2, h3, h4, h5, h6, h7⟩ := h; exact h6.eqs.2.2.2.2.1
 have kD4 : ∀ w', QP w A B C D Q R s t q0 q1 q2 q3 r0 r1 r2 r3 w' → w'.cell? ⟨D, 4, none⟩ = some (cellV w' D 4) := fun w' h => by
  obtain ⟨h0, h1, h2, h3, h4, h5, h6, h7⟩ := h; exact h6.eqs.1.2.2.2.2
 have fD4 : ∀ w', QP w A B C D Q R s t q0 q1 q2 q3 r0 r1 r2 r3 w' → w'.frozen? ⟨D, 4, none⟩ = false := fun w' h => by
  obtain ⟨h0, h1, h2, h3, h4, h5, h6, h7⟩ := h; exact h6.eqs.2.2.2.2.2
 clear HE HG Hp hg
 go_region_held3 (fun w' : World => QP w A B C D Q R s t q0 q1 q2 q3 r0 r1 r2 r3 w')
  (first
    | (with_reducible refine QP.drew ?_; with_reducible assumption)
    | (with_reducible refine QP.putC ?_ _ _ _ _ _; with_reducible assumption)
    | (with_reducible refine QP.putD ?_ _ _ _ _ _; with_reducible assumption)
    | (with_reducible refine QP.after ?_ hb; with_reducible assumption))
  (first
    | (go_at_call 140; refine (signed_any _ _ _ _ _ _).mono ?_; rintro e w' ⟨rfl, hb⟩))
 clear hP kA kB kQ0 kQ1 kQ2 kQ3 kR0 kR1 kR2 kR3 kC0 kC1 kC2 kC3 kC4 kD0 kD1 kD2 kD3 kD4 fC0 fC1 fC2 fC3 fC4 fD0 fD1 fD2 fD3 fD4
 have hq := ‹QP w A B C D Q R s t q0 q1 q2 q3 r0 r1 r2 r3 _›
 obtain ⟨h0, h1, h2, h3, h4, h5, h6, hC, hD, e1, e2, e3, e4, e5, e6, e7, e8, e9⟩ := hq
 have rD := (h6.of_put5).put5 (.bool (s && !zeroB r0 r1 r2 r3)) (.int .u64 r0) (.int .u64 r1) (.int .u64 r2) (.int .u64 r3)
 have rC := ((h5.of_put5.of_put5).put5 (.bool (!(s == t) && !zeroB q0 q1 q2 q3)) (.int .u64 q0) (.int .u64 q1) (.int .u64 q2) (.int .u64 q3)).other5 (Ne.symm e9) (.bool (s && !zeroB r0 r1 r2 r3)) (.int .u64 r0) (.int .u64 r1) (.int .u64 r2) (.int .u64 r3)
 clear h1 h2 h3 h4 h5 h6
 go_wp2
 generalize hW : World.setCell _ _ _ = W9 at rC rD h0 ⊢
 clear hW
 exact bodyPost_ret (v := .tuple #[iv (!(s == t) && !zeroB q0 q1 q2 q3) q0 q1 q2 q3, iv (s && !zeroB r0 r1 r2 r3) r0 r1 r2 r3, .int .i64 0]) (by simp [results, Tryz.results167, go_sem, rC.c 0 rfl, rC.c 1 rfl, rC.c 2 rfl, rC.c 3 rfl, rC.c 4 rfl, rD.c 0 rfl, rD.c 1 rfl, rD.c 2 rfl, rD.c 3 rfl, rD.c 4 rfl]) rfl ⟨rfl, h0⟩
end Go.Proofs.YteolocchmhpggaaGreatDoor
namespace Go.Proofs.YteolocchmhpggaaGreatDoor
open Go.RowKit
set_option maxHeartbeats 2000000 in
theorem gcd_of (s t : Bool) (a0 a1 a2 a3 b0 b1 b2 b3 g0 g1 g2 g3 : Int) (w : World)
 (hs : (s && zeroB a0 a1 a2 a3) = false) (ht : (t && zeroB b0 b1 b2 b3) = false)
 (hp : ∀ W, Below w.heap.size w W → Calls Tryz.prog 142 #[wv a0 a1 a2 a3, wv b0 b1 b2 b3] W fun e w' => e = .returned (wv g0 g1 g2 g3) ∧ Below W.heap.size W w') :
 Calls Tryz.prog 125 #[iv s a0 a1 a2 a3, iv t b0 b1 b2 b3] w fun e w' => e = .returned (.tuple #[iv false g0 g1 g2 g3, .int .i64 0]) ∧ Below w.heap.size w w' := by
 have HE := Lib.hid (show errAll (fun i => if i = 0 then s else t) (fun i => if i = 0 then row4 a0 a1 a2 a3 else row4 b0 b1 b2 b3) 2 = 0 by rw [errAll_two, errArg_ok hs, if_pos rfl, errArg_ok ht])
 have Hp := Lib.hid hp
 clear hp hs ht
 go_enter Tryz.func125, Tryz.ntmps125
 go_wp2_with fail
 generalize hW : World.alloc _ _ = W0
 have hB : Below w.heap.size w W0 := by
  rw [← hW]; exact ((((Below.refl w.heap.size w).alloc (Nat.le_refl _) _).alloc (by simp) _).alloc (by simp; omega) _).alloc (by simp; omega) _
 have rA : Row W0 w.heap.size [.bool s, .int .u64 a0, .int .u64 a1, .int .u64 a2, .int .u64 a3] := by
  rw [← hW]; exact (((Row.at rfl _ _).alloc _).alloc _).alloc _
 have rB : Row W0 (w.heap.size + 1) [.bool t, .int .u64 b0, .int .u64 b1, .int .u64 b2, .int .u64 b3] := by
  rw [← hW]; exact ((Row.at (by simp) _ _).alloc _).alloc _
 have rC : Row W0 (w.heap.size + 1 + 1) [.bool false, .int .u64 0, .int .u64 0, .int .u64 0, .int .u64 0] := by
  rw [← hW]; exact (Row.at (by simp) _ _).alloc _
 have rE : Row W0 (w.heap.size + 1 + 1 + 1) [.bool s, .int .u64 a0, .int .u64 a1, .int .u64 a2, .int .u64 a3, .bool t, .int .u64 b0, .int .u64 b1, .int .u64 b2, .int .u64 b3] := by
  rw [← hW]; exact Row.at (by simp) _ _
 clear hW
 refine (checkAll_any _ _ 2 _ 0 2 W0 (by omega) rE.lt (two_ints rE)).mono ?_
 rintro e w1 ⟨rfl, hb1⟩
 rw [HE.out]
 replace hB := hB.trans (hb1.mono hB.size)
 replace rA := rA.after hb1
 replace rB := rB.after hb1
 replace rC := rC.after hb1
 clear rE hb1
 have i1 := rA.c 1 rfl
 have i2 := rA.c 2 rfl
 have i3 := rA.c 3 rfl
 have i4 := rA.c 4 rfl
 have j1 := rB.c 1 rfl
 have j2 := rB.c 2 rfl
 have j3 := rB.c 3 rfl
 have j4 := rB.c 4 rfl
 go_wp2_with fail
 refine (Hp.out _ hB).mono ?_
 rintro e w2 ⟨rfl, hb2⟩
 replace hB := hB.trans (hb2.mono hB.size)
 replace rC := rC.after hb2
 clear rA rB hb2 i1 i2 i3 i4 j1 j2 j3 j4
 go_wp2_with fail
 refine (signed_any _ _ _ _ _ _).mono ?_
 rintro e w3 ⟨rfl, hb3⟩
 rw [show (false && !zeroB g0 g1 g2 g3) = false from rfl]
 replace hB := hB.trans (hb3.mono hB.size)
 replace rC := rC.after hb3
 clear hb3
 have c0 := rC.c 0 rfl
 have c1 := rC.c 1 rfl
 have c2 := rC.c 2 rfl
 have c3 := rC.c 3 rfl
 have c4 := rC.c 4 rfl
 have f0 := rC.f 0 rfl
 have f1 := rC.f 1 rfl
 have f2 := rC.f 2 rfl
 have f3 := rC.f 3 rfl
 have f4 := rC.f 4 rfl
 go_wp2
 clear c0 c1 c2 c3 c4 f0 f1 f2 f3 f4
 generalize hW : World.setCell _ _ _ = W8
 have rR : Row W8 (w.heap.size + 1 + 1) [.bool false, .int .u64 g0, .int .u64 g1, .int .u64 g2, .int .u64 g3] := by rw [← hW]; exact rC.put5 _ _ _ _ _
 replace hB : Below w.heap.size w W8 := by rw [← hW]; exact below_put5 hB (by omega) _ _ _ _ _
 clear hW rC
 exact bodyPost_ret (v := .tuple #[iv false g0 g1 g2 g3, .int .i64 0]) (by simp [results, Tryz.results125, go_sem, rR.c 0 rfl, rR.c 1 rfl, rR.c 2 rfl, rR.c 3 rfl, rR.c 4 rfl]) rfl ⟨rfl, hB⟩
end Go.Proofs.YteolocchmhpggaaGreatDoor

namespace Go.Proofs.YteolocchmhpggaaGreatDoor
open Go.RowKit
theorem order_rows (o o' p q k k' : Nat) (a b c d a' b' c' d' : Int) (w : World)
 (h0 : w.cell? ⟨p, o, none⟩ = some (.int .u64 a)) (h1 : w.cell? ⟨p, o + 1, none⟩ = some (.int .u64 b)) (h2 : w.cell? ⟨p, o + 2, none⟩ = some (.int .u64 c)) (h3 : w.cell? ⟨p, o + 3, none⟩ = some (.int .u64 d))
 (g0 : w.cell? ⟨q, o', none⟩ = some (.int .u64 a')) (g1 : w.cell? ⟨q, o' + 1, none⟩ = some (.int .u64 b')) (g2 : w.cell? ⟨q, o' + 2, none⟩ = some (.int .u64 c')) (g3 : w.cell? ⟨q, o' + 3, none⟩ = some (.int .u64 d')) :
 Calls Tryz.prog 107 #[.slice (some ⟨p, o, none⟩) 4 k, .slice (some ⟨q, o', none⟩) 4 k'] w fun e w' => e = .returned (.int .i64 (ordW a b c d a' b' c' d')) ∧ ∃ k, w' = w.drewN k := by
 rw [← ordF_row4]
 refine order_any _ _ 4 p o q o' k k' w (by omega) (fun i hi => ?_) (fun i hi => ?_)
 ·match i, hi with
  | 0, _ => exact h0
  | 1, _ => exact h1
  | 2, _ => exact h2
  | 3, _ => exact h3
 ·match i, hi with
  | 0, _ => exact g0
  | 1, _ => exact g1
  | 2, _ => exact g2
  | 3, _ => exact g3
def cmpS (s t : Bool) (a b c d a' b' c' d' : Int) : Int :=
 match s, t with
 | true, true => ordW a' b' c' d' a b c d
 | true, false => -1
 | false, true => 1
 | false, false => ordW a b c d a' b' c' d'
def cmpE (s t : Bool) (a b c d a' b' c' d' : Int) : Value :=
 if (s && zeroB a b c d || t && zeroB a' b' c' d') = true then .tuple #[.int .i64 0, .int .i64 2] else .tuple #[.int .i64 (cmpS s t a b c d a' b' c' d'), .int .i64 0]
set_option maxHeartbeats 1000000 in
theorem cmp_bad (s t : Bool) (a0 a1 a2 a3 b0 b1 b2 b3 : Int) (w : World) (h : errAll (fun i => if i = 0 then s else t) (fun i => if i = 0 then row4 a0 a1 a2 a3 else row4 b0 b1 b2 b3) 2 = 2) :
 Calls Tryz.prog 69 #[iv s a0 a1 a2 a3, iv t b0 b1 b2 b3] w fun e w' => e = .returned (.tuple #[.int .i64 0, .int .i64 2]) ∧ Below w.heap.size w w' := by
 have HE := Lib.hid h
 clear h
 go_enter Tryz.func69, Tryz.ntmps69
 go_wp2_with fail
 generalize hW : World.alloc _ _ = W0
 have hB : Below w.heap.size w W0 := by
  rw [← hW]; exact (((Below.refl w.heap.size w).alloc (Nat.le_refl _) _).alloc (by simp) _).alloc (by simp; omega) _
 have rE : Row W0 (w.heap.size + 1 + 1) [.bool s, .int .u64 a0, .int .u64 a1, .int .u64 a2, .int .u64 a3, .bool t, .int .u64 b0, .int .u64 b1, .int .u64 b2, .int .u64 b3] := by
  rw [← hW]; exact Row.at (by simp) _ _
 clear hW
 refine (checkAll_any _ _ 2 _ 0 2 W0 (by omega) rE.lt (two_ints rE)).mono ?_
 rintro e w1 ⟨rfl, hb1⟩
 rw [HE.out]
 replace hB := hB.trans (hb1.mono hB.size)
 clear rE hb1 HE
 go_wp2_with fail
 go_ret2
 exact ⟨rfl, hB⟩
set_option maxHeartbeats 1000000 in
theorem cmp_any (s t : Bool) (a0 a1 a2 a3 b0 b1 b2 b3 : Int) (w : World) :
 Calls Tryz.prog 69 #[iv s a0 a1 a2 a3, iv t b0 b1 b2 b3] w fun e w' => e = .returned (cmpE s t a0 a1 a2 a3 b0 b1 b2 b3) ∧ Below w.heap.size w w' := by
 by_cases hs : (s && zeroB a0 a1 a2 a3) = false
 ·by_cases ht : (t && zeroB b0 b1 b2 b3) = false
  ·have HE := Lib.hid (show errAll (fun i => if i = 0 then s else t) (fun i => if i = 0 then row4 a0 a1 a2 a3 else row4 b0 b1 b2 b3) 2 = 0 by rw [errAll_two, errArg_ok hs, if_pos rfl, errArg_ok ht])
   have HC := Lib.hid (show cmpE s t a0 a1 a2 a3 b0 b1 b2 b3 = .tuple #[.int .i64 (cmpS s t a0 a1 a2 a3 b0 b1 b2 b3), .int .i64 0] by simp only [cmpE, hs, ht]; rfl)
   rw [HC.out]
   clear hs ht HC
   go_enter Tryz.func69, Tryz.ntmps69
   go_wp2_with fail
   generalize hW : World.alloc _ _ = W0
   have hB : Below w.heap.size w W0 := by
    rw [← hW]; exact (((Below.refl w.heap.size w).alloc (Nat.le_refl _) _).alloc (by simp) _).alloc (by simp; omega) _
   have rA : Row W0 w.heap.size [.bool s, .int .u64 a0, .int .u64 a1, .int .u64 a2, .int .u64 a3] := by
    rw [← hW]; exact ((Row.at rfl _ _).alloc _).alloc _
   have rB : Row W0 (w.heap.size + 1) [.bool t, .int .u64 b0, .int .u64 b1, .int .u64 b2, .int .u64 b3] := by
    rw [← hW]; exact (Row.at (by simp) _ _).alloc _
   have rE : Row W0 (w.heap.size + 1 + 1) [.bool s, .int .u64 a0, .int .u64 a1, .int .u64 a2, .int .u64 a3, .bool t, .int .u64 b0, .int .u64 b1, .int .u64 b2, .int .u64 b3] := by
    rw [← hW]; exact Row.at (by simp) _ _
   clear hW
   refine (checkAll_any _ _ 2 _ 0 2 W0 (by omega) rE.lt (two_ints rE)).mono ?_
   rintro e w1 ⟨rfl, hb1⟩
   rw [HE.out]
   replace hB := hB.trans (hb1.mono hB.size)
   replace rA := rA.after hb1
   replace rB := rB.after hb1
   clear rE hb1 HE
   have i0 := rA.c 0 rfl
   have i1 := rA.c 1 rfl
   have i2 := rA.c 2 rfl
   have i3 := rA.c 3 rfl
   have i4 := rA.c 4 rfl
   have j0 := rB.c 0 rfl
   have j1 := rB.c 1 rfl
   have j2 := rB.c 2 rfl
   have j3 := rB.c 3 rfl
   have j4 := rB.c 4 rfl
   clear rA rB
   cases s <;> cases t
   ·go_wp2_with fail
    go_quiet ((go_at_call 107; refine Calls.quiet_of (order_rows 1 1 _ _ _ _ a0 a1 a2 a3 b0 b1 b2 b3 _ ?_ ?_ ?_ ?_ ?_ ?_ ?_ ?_) <;> go_simp))
    go_wp2
    go_ret2
    exact ⟨rfl, below_drewN hB nq⟩
   ·go_wp2_with fail
    go_ret2
    exact ⟨rfl, hB⟩
   ·go_wp2_with fail
    go_ret2
    exact ⟨rfl, hB⟩
   ·go_wp2_with fail
    go_quiet ((go_at_call 107; refine Calls.quiet_of (order_rows 1 1 _ _ _ _ b0 b1 b2 b3 a0 a1 a2 a3 _ ?_ ?_ ?_ ?_ ?_ ?_ ?_ ?_) <;> go_simp))
    go_wp2
    go_ret2
    exact ⟨rfl, below_drewN hB nq⟩
  ·have ht' : (t && zeroB b0 b1 b2 b3) = true := by simpa using ht
   have h0 : errArg s a0 a1 a2 a3 = 0 := errArg_ok hs
   have h1 : errArg t b0 b1 b2 b3 = 2 := by simp only [errArg, ht', if_true]
   rw [show cmpE s t a0 a1 a2 a3 b0 b1 b2 b3 = .tuple #[.int .i64 0, .int .i64 2] by simp only [cmpE, ht', Bool.or_true, if_true]]
   exact cmp_bad s t a0 a1 a2 a3 b0 b1 b2 b3 w (by rw [errAll_two, h0, if_pos rfl, h1])
 ·have hs' : (s && zeroB a0 a1 a2 a3) = true := by simpa using hs
  have h0 : errArg s a0 a1 a2 a3 = 2 := by simp only [errArg, hs', if_true]
  rw [show cmpE s t a0 a1 a2 a3 b0 b1 b2 b3 = .tuple #[.int .i64 0, .int .i64 2] by simp only [cmpE, hs', Bool.true_or, if_true]]
  exact cmp_bad s t a0 a1 a2 a3 b0 b1 b2 b3 w (by rw [errAll_two, h0]; rfl)
end Go.Proofs.YteolocchmhpggaaGreatDoor
