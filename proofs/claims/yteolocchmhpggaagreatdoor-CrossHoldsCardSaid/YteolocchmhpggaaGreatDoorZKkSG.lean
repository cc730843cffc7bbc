import Derived.Test.YteolocchmhpggaaGreatDoorZKkSD
import Derived.Deep.CutBlock
import Derived.Test.YteolocchmhpggaaGreatDoorZKkRI
namespace Go.Proofs.YteolocchmhpggaaGreatDoor
open Go.RowKit

def LBs (w : World) (L : List (Nat × Array Value)) (C : Nat) : Prop := w.heap.size ≤ C ∧ ∀ p, p ∈ L → p.1 < C
section
variable {w W W1 : World} {L F : List (Nat × Array Value)}
theorem KS.lb (h : KS w L W) : LBs w L W.heap.size := ⟨h.2.size, fun p hp => (h.1 p hp).lt⟩
theorem KS.below (h : KS w L W) : Below w.heap.size w W := h.2
theorem KS.far5 (h : KS w L W) {C : Nat} (hC : LBs w L C) (y0 y1 y2 y3 y4 : Value) :
 KS w L (((((W.setCell ⟨C, 0, none⟩ y0).setCell ⟨C, 1, none⟩ y1).setCell ⟨C, 2, none⟩ y2).setCell ⟨C, 3, none⟩ y3).setCell ⟨C, 4, none⟩ y4) :=
 ⟨fun p hp => (h.1 p hp).other5 (by have := hC.2 p hp; omega) _ _ _ _ _, below_put5 h.2 hC.1 _ _ _ _ _⟩
end
def KR (w : World) (X : Nat) (L : List (Nat × Nat × Array Value)) (o n : Nat) (W : World) : Prop :=
 (∀ p, p ∈ L → p.1 < W.heap.size ∧ W.rangeAt p.1 p.2.1 p.2.2.toList ∧ (p.1 ≠ X ∨ p.2.1 + p.2.2.size ≤ o ∨ o + n ≤ p.2.1)) ∧ (X < W.heap.size ∧ W.there X 0 10 ∧ o + n ≤ 10) ∧ KB w.heap.size X w W
theorem range_after {w w1 : World} {b o : Nat} {cs : List Value} (h : w.rangeAt b o cs) (hlt : b < w.heap.size) (hb : Below w.heap.size w w1) : w1.rangeAt b o cs := fun j v hv => (hb.cell (p := ⟨b, o + j, none⟩) hlt).trans (h j v hv)
theorem there_after {w w1 : World} {b o n : Nat} (h : w.there b o n) (hlt : b < w.heap.size) (hb : Below w.heap.size w w1) : w1.there b o n := fun j hj => by
 rw [hb.cell (p := ⟨b, o + j, none⟩) hlt, hb.frozen (p := ⟨b, o + j, none⟩) hlt]; exact h j hj
section
variable {w W W1 : World} {X o n : Nat} {L : List (Nat × Nat × Array Value)}
theorem KR.drew (h : KR w X L o n W) : KR w X L o n W.drew := ⟨fun p hp => ⟨(h.1 p hp).1, (World.rangeAt_drew _ _ _ _).2 (h.1 p hp).2.1, (h.1 p hp).2.2⟩, ⟨h.2.1.1, (World.there_drew _ _ _ _).2 h.2.1.2.1, h.2.1.2.2⟩, h.2.2.drew⟩
theorem KR.after (h : KR w X L o n W) (hb : Below W.heap.size W W1) : KR w X L o n W1 :=
 ⟨fun p hp => ⟨Nat.lt_of_lt_of_le (h.1 p hp).1 hb.size, range_after (h.1 p hp).2.1 (h.1 p hp).1 hb, (h.1 p hp).2.2⟩, ⟨Nat.lt_of_lt_of_le h.2.1.1 hb.size, there_after h.2.1.2.1 h.2.1.1 hb, h.2.1.2.2⟩, h.2.2.below hb h.2.2.size⟩
theorem KR.alloc (h : KR w X L o n W) (ob : Obj) : KR w X L o n (W.alloc ob) := h.after ((Below.refl _ _).alloc (Nat.le_refl _) ob)
theorem KR.c (h : KR w X L o n W) (k : Nat) {b q : Nat} {cs : Array Value} (hk : L[k]? = some (b, q, cs)) (i : Nat) {v : Value} (hv : cs[i]? = some v) : W.cell? ⟨b, q + i, none⟩ = some v := (h.1 (b, q, cs) (List.mem_of_getElem? hk)).2.1 i v (by simpa using hv)
theorem there_piece {W : World} {b o n : Nat} (h : W.there b 0 10) (hn : o + n ≤ 10) : W.there b o n := fun j hj => by
 have := h (o + j) (by omega)
 rw [Nat.zero_add] at this
 exact this
theorem KR.puts (h : KR w X L o n W) (cs : List Value) (hl : cs.length = n) : KR w X L o n (W.setCells X o cs) := by
 have ho := On.setCells W X cs o W (On.refl W X)
 refine ⟨fun p hp => ⟨by rw [ho.size]; exact (h.1 p hp).1, World.rangeAt_setCells_apart (h.1 p hp).2.1 X o cs ?_, (h.1 p hp).2.2⟩, ⟨by rw [ho.size]; exact h.2.1.1, World.there_setCells h.2.1.2.1 X o cs, h.2.1.2.2⟩, h.2.2.on ho (Or.inl rfl)⟩
 have := (h.1 p hp).2.2
 rw [hl]
 simpa using this
theorem KR.here (h : KR w X L o n W) (i : Nat) (hi : i < 10) : W.cell? ⟨X, i, none⟩ = some (cellAt W X i) := by
 have := (h.2.1.2.1 i hi).1
 rw [Nat.zero_add] at this
 obtain ⟨v, hv⟩ := Option.isSome_iff_exists.1 this
 rw [cellAt, hv]; rfl
theorem KR.free (h : KR w X L o n W) (i : Nat) (hi : i < 10) : W.frozen? ⟨X, i, none⟩ = false := by
 have := (h.2.1.2.1 i hi).2
 rw [Nat.zero_add] at this
 exact this
theorem there_of_setCells {b o n c : Nat} : ∀ (vs : List Value) (q : Nat) {W : World}, (W.setCells c q vs).there b o n → W.there b o n
 | [], _, _, h => h
 | v :: r, q, W, h => fun j hj => by
   have := there_of_setCells r (q + 1) (W := W.setCell ⟨c, q, none⟩ v) h j hj
   rw [isSome_setCell, World.frozen?_setCell] at this
   exact this
theorem KR.last {cs : List Value} (h : KR w X L o n (W.setCells X o cs)) (hl : cs.length = n) : (W.setCells X o cs).rangeAt X o cs :=
 World.rangeAt_setCells_same W X o cs (by rw [hl]; exact there_piece (there_of_setCells cs o h.2.1.2.1) h.2.1.2.2)
end
theorem Row.of_two {w : World} {b : Nat} {n d : Int} (hb : b < w.heap.size) (hn : w.rangeAt b 0 (intA n).toList) (hd : w.rangeAt b 5 (intA d).toList) (hf : ∀ i, i < 10 → w.frozen? ⟨b, i, none⟩ = false) : Row w b (ratA n d).toList :=
 ⟨hb, fun i v hv => ⟨by
  match i, hv with
  | 0, hv => exact hn 0 _ hv
  | 1, hv => exact hn 1 _ hv
  | 2, hv => exact hn 2 _ hv
  | 3, hv => exact hn 3 _ hv
  | 4, hv => exact hn 4 _ hv
  | 5, hv => exact hd 0 _ hv
  | 6, hv => exact hd 1 _ hv
  | 7, hv => exact hd 2 _ hv
  | 8, hv => exact hd 3 _ hv
  | 9, hv => exact hd 4 _ hv
  | _ + 10, hv => simp [ratA] at hv, hf i (by
    have := (List.getElem?_eq_some_iff.1 hv).1
    simpa [ratA] using this)⟩⟩
structure AcrossS (w0 : World) (L : List (Nat × Array Value)) (ga gb : Int) (ls : Nat → Bool) (sl : Nat → Value) (W : World) : Prop where
 base : KS w0 L W
 fst : ls 22 = true → ∃ A, sl 4 = .pointer (some ⟨A, 0, none⟩) ∧ LBs w0 L A ∧ Row W A (if ls 24 = true then (intA ga).toList else zero_int.toList)
 snd : ls 23 = true → ∃ B, sl 5 = .pointer (some ⟨B, 0, none⟩) ∧ LBs w0 L B ∧ Row W B (if ls 25 = true then (intA gb).toList else zero_int.toList)
 ne : ls 22 = true → ls 23 = true → sl 4 ≠ sl 5
 o24 : ls 24 = true → ls 22 = true
 o25 : ls 25 = true → ls 23 = true
section
variable {w0 W W1 : World} {L : List (Nat × Array Value)} {ga gb : Int} {listed : Array Bool} {a : Act}
theorem AcrossS.next (h : AcrossS w0 L ga gb (fun j => listed.getD j false) (slotOf a) W) (hb : Below W.heap.size W W1) (i t : Nat) (v : Value) (hi : i < 22) (h4 : t ≠ 4) (h5 : t ≠ 5) :
 AcrossS w0 L ga gb (fun j => (listed.setIfInBounds i true).getD j false) (slotOf (a.put (some t) v)) W1 := by
 have e : ∀ j, 22 ≤ j → (listed.setIfInBounds i true).getD j false = listed.getD j false := fun j hj => getD_set_ne false (by omega)
 refine ⟨h.base.after hb, fun q => ?_, fun q => ?_, fun q r => ?_, fun q => ?_, fun q => ?_⟩
 ·rw [e 22 (by omega)] at q
  obtain ⟨A, hs, hl, hr⟩ := h.fst q
  refine ⟨A, by rw [slot_put_other v h4]; exact hs, hl, ?_⟩
  rw [e 24 (by omega)]; exact hr.after hb
 ·rw [e 23 (by omega)] at q
  obtain ⟨A, hs, hl, hr⟩ := h.snd q
  refine ⟨A, by rw [slot_put_other v h5]; exact hs, hl, ?_⟩
  rw [e 25 (by omega)]; exact hr.after hb
 ·rw [e 22 (by omega)] at q
  rw [e 23 (by omega)] at r
  rw [slot_put_other v h4, slot_put_other v h5]
  exact h.ne q r
 ·rw [e 24 (by omega)] at q
  rw [e 22 (by omega)]
  exact h.o24 q
 ·rw [e 25 (by omega)] at q
  rw [e 23 (by omega)]
  exact h.o25 q
theorem listed_self (hs : listed.size = 26) (i : Nat) (hi : i < 26) : (listed.setIfInBounds i true).getD i false = true := by
 have : i < listed.size := by omega
 simp [this]
theorem AcrossS.new4 (h : AcrossS w0 L ga gb (fun j => listed.getD j false) (slotOf a) W) (_hs : listed.size = 26) (ht : 5 < a.tmps.size) (h0 : listed.getD 22 false = false) (t : TypeId) :
 AcrossS w0 L ga gb (fun j => (listed.setIfInBounds 22 true).getD j false) (slotOf (a.put (some 4) (.pointer (some ⟨W.heap.size, 0, none⟩)))) (W.alloc (.cells zero_int t)) := by
 have e : ∀ j, j ≠ 22 → (listed.setIfInBounds 22 true).getD j false = listed.getD j false := fun j hj => getD_set_ne false (by omega)
 have n24 : listed.getD 24 false = false := by
  cases q : listed.getD 24 false
  ·rfl
  ·have := h.o24 q; rw [h0] at this; cases this
 refine ⟨h.base.alloc _, fun q => ⟨W.heap.size, slot_put_same _ (by omega), h.base.lb, ?_⟩, fun q => ?_, fun q r => ?_, fun q => ?_, fun q => ?_⟩
 ·rw [e 24 (by omega), n24]; exact Row.at rfl _ _
 ·rw [e 23 (by omega)] at q
  obtain ⟨A, hs, hl, hr⟩ := h.snd q
  refine ⟨A, by rw [slot_put_other _ (by omega)]; exact hs, hl, ?_⟩
  rw [e 25 (by omega)]; exact hr.alloc _
 ·rw [e 23 (by omega)] at r
  obtain ⟨A, hs, hl, hr⟩ := h.snd r
  rw [slot_put_same _ (by omega), slot_put_other _ (by omega), hs]
  intro he
  have hlt := hr.lt
  injection he with he
  injection he with he
  injection he with he
  omega
 ·rw [e 24 (by omega), n24] at q; cases q
 ·rw [e 25 (by omega)] at q
  rw [e 23 (by omega)]
  exact h.o25 q
theorem AcrossS.new5 (h : AcrossS w0 L ga gb (fun j => listed.getD j false) (slotOf a) W) (_hs : listed.size = 26) (ht : 5 < a.tmps.size) (h0 : listed.getD 23 false = false) (t : TypeId) :
 AcrossS w0 L ga gb (fun j => (listed.setIfInBounds 23 true).getD j false) (slotOf (a.put (some 5) (.pointer (some ⟨W.heap.size, 0, none⟩)))) (W.alloc (.cells zero_int t)) := by
 have e : ∀ j, j ≠ 23 → (listed.setIfInBounds 23 true).getD j false = listed.getD j false := fun j hj => getD_set_ne false (by omega)
 have n25 : listed.getD 25 false = false := by
  cases q : listed.getD 25 false
  ·rfl
  ·have := h.o25 q; rw [h0] at this; cases this
 refine ⟨h.base.alloc _, fun q => ?_, fun q => ⟨W.heap.size, slot_put_same _ (by omega), h.base.lb, ?_⟩, fun q r => ?_, fun q => ?_, fun q => ?_⟩
 ·rw [e 22 (by omega)] at q
  obtain ⟨A, hs, hl, hr⟩ := h.fst q
  refine ⟨A, by rw [slot_put_other _ (by omega)]; exact hs, hl, ?_⟩
  rw [e 24 (by omega)]; exact hr.alloc _
 ·rw [e 25 (by omega), n25]; exact Row.at rfl _ _
 ·rw [e 22 (by omega)] at q
  obtain ⟨A, hs, hl, hr⟩ := h.fst q
  rw [slot_put_same _ (by omega), slot_put_other _ (by omega), hs]
  intro he
  have hlt := hr.lt
  injection he with he
  injection he with he
  injection he with he
  omega
 ·rw [e 24 (by omega)] at q
  rw [e 22 (by omega)]
  exact h.o24 q
 ·rw [e 25 (by omega), n25] at q; cases q
theorem AcrossS.put4 (h : AcrossS w0 L ga gb (fun j => listed.getD j false) (slotOf a) W) (hs : listed.size = 26) (h22 : listed.getD 22 false = true) {A : Nat} (hA : slotOf a 4 = .pointer (some ⟨A, 0, none⟩)) :
 AcrossS w0 L ga gb (fun j => (listed.setIfInBounds 24 true).getD j false) (slotOf (a.put none undef)) (((((W.setCell ⟨A, 0, none⟩ (.bool (decide (ga < 0)))).setCell ⟨A, 1, none⟩ (.int .u64 (W64 ga.natAbs 0 : Nat))).setCell ⟨A, 2, none⟩ (.int .u64 (W64 ga.natAbs 1 : Nat))).setCell ⟨A, 3, none⟩ (.int .u64 (W64 ga.natAbs 2 : Nat))).setCell ⟨A, 4, none⟩ (.int .u64 (W64 ga.natAbs 3 : Nat))) := by
 have e : ∀ j, j ≠ 24 → (listed.setIfInBounds 24 true).getD j false = listed.getD j false := fun j hj => getD_set_ne false (by omega)
 obtain ⟨A', hs', hl, hr⟩ := h.fst h22
 obtain rfl : A' = A := by rw [hA] at hs'; injection hs' with q; injection q with q; injection q with q; exact q.symm
 refine ⟨h.base.far5 hl _ _ _ _ _, fun q => ⟨A', hA, hl, ?_⟩, fun q => ?_, fun q r => ?_, fun q => ?_, fun q => ?_⟩
 ·rw [listed_self hs 24 (by omega), if_pos rfl]
  have : ∃ vs : List Value, vs.length = 5 ∧ Row W A' vs := ⟨_, by split <;> rfl, hr⟩
  obtain ⟨vs, h5, hr5⟩ := this
  exact hr5.putAll [_, _, _, _, _] h5
 ·rw [e 23 (by omega)] at q
  obtain ⟨B, hs, hl', hr'⟩ := h.snd q
  refine ⟨B, hs, hl', ?_⟩
  rw [e 25 (by omega)]
  exact hr'.other5 (fun he => h.ne h22 q (by rw [hA, hs, he])) _ _ _ _ _
 ·rw [e 22 (by omega)] at q
  rw [e 23 (by omega)] at r
  exact h.ne q r
 ·rw [e 22 (by omega)]; exact h22
 ·rw [e 25 (by omega)] at q
  rw [e 23 (by omega)]
  exact h.o25 q
theorem AcrossS.put5 (h : AcrossS w0 L ga gb (fun j => listed.getD j false) (slotOf a) W) (hs : listed.size = 26) (h23 : listed.getD 23 false = true) {A : Nat} (hA : slotOf a 5 = .pointer (some ⟨A, 0, none⟩)) :
 AcrossS w0 L ga gb (fun j => (listed.setIfInBounds 25 true).getD j false) (slotOf (a.put none undef)) (((((W.setCell ⟨A, 0, none⟩ (.bool (decide (gb < 0)))).setCell ⟨A, 1, none⟩ (.int .u64 (W64 gb.natAbs 0 : Nat))).setCell ⟨A, 2, none⟩ (.int .u64 (W64 gb.natAbs 1 : Nat))).setCell ⟨A, 3, none⟩ (.int .u64 (W64 gb.natAbs 2 : Nat))).setCell ⟨A, 4, none⟩ (.int .u64 (W64 gb.natAbs 3 : Nat))) := by
 have e : ∀ j, j ≠ 25 → (listed.setIfInBounds 25 true).getD j false = listed.getD j false := fun j hj => getD_set_ne false (by omega)
 obtain ⟨A', hs', hl, hr⟩ := h.snd h23
 obtain rfl : A' = A := by rw [hA] at hs'; injection hs' with q; injection q with q; injection q with q; exact q.symm
 refine ⟨h.base.far5 hl _ _ _ _ _, fun q => ?_, fun q => ⟨A', hA, hl, ?_⟩, fun q r => ?_, fun q => ?_, fun q => ?_⟩
 ·rw [e 22 (by omega)] at q
  obtain ⟨B, hs, hl', hr'⟩ := h.fst q
  refine ⟨B, hs, hl', ?_⟩
  rw [e 24 (by omega)]
  exact hr'.other5 (fun he => h.ne q h23 (by rw [hA, hs, he])) _ _ _ _ _
 ·rw [listed_self hs 25 (by omega), if_pos rfl]
  have : ∃ vs : List Value, vs.length = 5 ∧ Row W A' vs := ⟨_, by split <;> rfl, hr⟩
  obtain ⟨vs, h5, hr5⟩ := this
  exact hr5.putAll [_, _, _, _, _] h5
 ·rw [e 22 (by omega)] at q
  rw [e 23 (by omega)] at r
  exact h.ne q r
 ·rw [e 24 (by omega)] at q
  rw [e 22 (by omega)]
  exact h.o24 q
 ·rw [e 23 (by omega)]; exact h23
end
theorem arr68 (a : Array Value) (h : a.size = 68) : ∃ x0 x1 x2 x3 x4 x5 x6 x7 x8 x9 x10 x11 x12 x13 x14 x15 x16 x17 x18 x19 x20 x21 x22 x23 x24 x25 x26 x27 x28 x29 x30 x31 x32 x33 x34 x35 x36 x37 x38 x39 x40 x41 x42 x43 x44 x45 x46 x47 x48 x49 x50 x51 x52 x53 x54 x55 x56 x57 x58 x59 x60 x61 x62 x63 x64 x65 x66 x67, a = #[x0, x1, x2, x3, x4, x5, x6, x7, x8, x9, x10, x11, x12, x13, x14, x15, x16, x17, x18, x19, x20, x21, x22, x23, x24, x25, x26, x27, x28, x29, x30, x31, x32, x33, x34, x35, x36, x37, x38, x39, x40, x41, x42, x43, x44, x45, x46, x47, x48, x49, x50, x51, x52, x53, x54, x55, x56, x57, x58, x59, x60, x61, x62, x63, x64, x65, x66, x67] := by
 refine ⟨a[0], a[1], a[2], a[3], a[4], a[5], a[6], a[7], a[8], a[9], a[10], a[11], a[12], a[13], a[14], a[15], a[16], a[17], a[18], a[19], a[20], a[21], a[22], a[23], a[24], a[25], a[26], a[27], a[28], a[29], a[30], a[31], a[32], a[33], a[34], a[35], a[36], a[37], a[38], a[39], a[40], a[41], a[42], a[43], a[44], a[45], a[46], a[47], a[48], a[49], a[50], a[51], a[52], a[53], a[54], a[55], a[56], a[57], a[58], a[59], a[60], a[61], a[62], a[63], a[64], a[65], a[66], a[67], ?_⟩
 refine Array.ext (by simp [h]) (fun i h1 h2 => ?_)
 match i, h2 with
 | 0, _ | 1, _ | 2, _ | 3, _ | 4, _ | 5, _ | 6, _ | 7, _ | 8, _ | 9, _ | 10, _ | 11, _ | 12, _ | 13, _ | 14, _ | 15, _ | 16, _ | 17, _ | 18, _ | 19, _ | 20, _ | 21, _ | 22, _ | 23, _ | 24, _ | 25, _ | 26, _ | 27, _ | 28, _ | 29, _ | 30, _ | 31, _ | 32, _ | 33, _ | 34, _ | 35, _ | 36, _ | 37, _ | 38, _ | 39, _ | 40, _ | 41, _ | 42, _ | 43, _ | 44, _ | 45, _ | 46, _ | 47, _ | 48, _ | 49, _ | 50, _ | 51, _ | 52, _ | 53, _ | 54, _ | 55, _ | 56, _ | 57, _ | 58, _ | 59, _ | 60, _ | 61, _ | 62, _ | 63, _ | 64, _ | 65, _ | 66, _ | 67, _ => rfl
 | i + 68, h2 => simp at h2; omega
theorem noDst_spec {ops : Array Oper} {t : Nat} (h : (ops.all fun o => o.dst != some t) = true) (i : Nat) (o : Oper) (hi : ops[i]? = some o) : o.dst ≠ some t := by
 have := Array.all_eq_true_iff_forall_mem.1 h o (Array.mem_of_getElem? hi)
 simpa using this
theorem getD_no {listed : Array Bool} {i : Nat} (h : listed.getD i true = false) : listed.getD i false = false := by
 cases hl : listed[i]? with
 | none => simp [hl] at h
 | some b => simp [hl] at h ⊢; exact h
def chT : Nat → Option Nat
 | 7 => some 5
 | 12 => some 7
 | 13 => some 12
 | 14 => some 13
 | 16 => some 14
 | 20 => some 16
 | _ => none
structure TimesS (V : World) (X : Nat) (L : List (Nat × Nat × Array Value)) (o S : Nat) (old new : Int) (cs : List Value) (ls : Nat → Bool) (sl : Nat → Value) (W : World) : Prop where
 base : KR V X L o 5 W
 ch : ∀ i k, chT i = some k → ls i = true → ls k = true
 here : ls 20 = false → W.rangeAt X o (intA old).toList
 done : ls 20 = true → W.rangeAt X o (intA new).toList
 two : ls 12 = true → ls 20 = false → ∃ B, sl S = .slice (some ⟨B, 0, none⟩) 2 2 ∧ Row W B cs
section
variable {V W W1 : World} {X o S : Nat} {L : List (Nat × Nat × Array Value)} {old new : Int} {cs : List Value} {listed : Array Bool} {a : Act}
theorem TimesS.start (h : KR V X L o 5 W) (hr : W.rangeAt X o (intA old).toList) (sl : Nat → Value) : TimesS V X L o S old new cs (fun _ => false) sl W :=
 ⟨h, fun _ _ _ h => (by simp at h), fun _ => hr, fun h => (by simp at h), fun h => (by simp at h)⟩
theorem TimesS.no20 (h : TimesS V X L o S old new cs (fun j => listed.getD j false) (slotOf a) W) {i : Nat} (hi : i = 5 ∨ i = 7 ∨ i = 12 ∨ i = 13) (h0 : listed.getD i false = false) : listed.getD 20 false = false := by
 cases q : listed.getD 20 false
 ·rfl
 ·exfalso
  have h16 : listed.getD 16 false = true := h.ch 20 16 rfl q
  have h14 : listed.getD 14 false = true := h.ch 16 14 rfl h16
  have h13 : listed.getD 13 false = true := h.ch 14 13 rfl h14
  have h12 : listed.getD 12 false = true := h.ch 13 12 rfl h13
  have h7 : listed.getD 7 false = true := h.ch 12 7 rfl h12
  have h5 : listed.getD 5 false = true := h.ch 7 5 rfl h7
  rcases hi with rfl | rfl | rfl | rfl
  ·rw [h0] at h5; cases h5
  ·rw [h0] at h7; cases h7
  ·rw [h0] at h12; cases h12
  ·rw [h0] at h13; cases h13
theorem getD_more {i j : Nat} (h : listed.getD j false = true) : (listed.setIfInBounds i true).getD j false = true := by
 by_cases e : i = j
 ·subst e
  have : i < listed.size := by
   by_cases hl : i < listed.size
   ·exact hl
   ·simp [hl] at h
  simp [this]
 ·rw [getD_set_ne false e]; exact h
theorem TimesS.chain (h : TimesS V X L o S old new cs (fun j => listed.getD j false) (slotOf a) W) {i : Nat} (hc : ∀ k, chT i = some k → listed.getD k false = true) :
 ∀ j k, chT j = some k → (listed.setIfInBounds i true).getD j false = true → (listed.setIfInBounds i true).getD k false = true := fun j k hk hj => by
 refine getD_more ?_
 by_cases e : i = j
 ·subst e; exact hc k hk
 ·rw [getD_set_ne false e] at hj; exact h.ch j k hk hj
theorem TimesS.next (h : TimesS V X L o S old new cs (fun j => listed.getD j false) (slotOf a) W) (hb : Below W.heap.size W W1) (i t : Nat) (v : Value) (hi : i < 20) (h12 : i ≠ 12) (hS : t ≠ S) (hc : ∀ k, chT i = some k → listed.getD k false = true) :
 TimesS V X L o S old new cs (fun j => (listed.setIfInBounds i true).getD j false) (slotOf (a.put (some t) v)) W1 := by
 have e20 : (listed.setIfInBounds i true).getD 20 false = listed.getD 20 false := getD_set_ne false (by omega)
 have e12 : (listed.setIfInBounds i true).getD 12 false = listed.getD 12 false := getD_set_ne false (by omega)
 refine ⟨h.base.after hb, h.chain hc, fun q => ?_, fun q => ?_, fun q r => ?_⟩
 ·rw [e20] at q; exact range_after (h.here q) h.base.2.1.1 hb
 ·rw [e20] at q; exact range_after (h.done q) h.base.2.1.1 hb
 ·rw [e20] at r
  rw [e12] at q
  obtain ⟨B, hs, hr⟩ := h.two q r
  exact ⟨B, by rw [slot_put_other v hS]; exact hs, hr.after hb⟩
theorem TimesS.made (h : TimesS V X L o S old new cs (fun j => listed.getD j false) (slotOf a) W) (hsz : S < a.tmps.size) (hc : ∀ k, chT 12 = some k → listed.getD k false = true) (t : TypeId) (h0 : listed.getD 12 false = false) :
 TimesS V X L o S old new cs (fun j => (listed.setIfInBounds 12 true).getD j false) (slotOf (a.put (some S) (.slice (some ⟨W.heap.size, 0, none⟩) 2 2))) (W.alloc (.cells cs.toArray t)) := by
 have e20 : (listed.setIfInBounds 12 true).getD 20 false = listed.getD 20 false := getD_set_ne false (by omega)
 have n20 := h.no20 (i := 12) (by omega) h0
 refine ⟨h.base.alloc _, h.chain hc, fun _ => range_after (h.here n20) h.base.2.1.1 ((Below.refl _ _).alloc (Nat.le_refl _) _), fun q => ?_, fun _ _ => ⟨W.heap.size, slot_put_same _ hsz, Row.at rfl cs _⟩⟩
 rw [e20, n20] at q; cases q
theorem TimesS.put (h : TimesS V X L o S old new cs (fun j => listed.getD j false) (slotOf a) W) (hls : listed.size = 21) (hc : ∀ k, chT 20 = some k → listed.getD k false = true) (v : Value) :
 TimesS V X L o S old new cs (fun j => (listed.setIfInBounds 20 true).getD j false) (slotOf (a.put none v)) (W.setCells X o (intA new).toList) := by
 have e20 : (listed.setIfInBounds 20 true).getD 20 false = true := by have : 20 < listed.size := by omega
                                                                      simp [this]
 have hk := h.base.puts (intA new).toList rfl
 refine ⟨hk, h.chain hc, fun q => ?_, fun _ => KR.last hk rfl, fun _ q => ?_⟩
 ·rw [e20] at q; cases q
 ·rw [e20] at q; cases q
end
theorem must_z (z : Int) (w : World) : Calls Tryz.prog 64 #[.agg (intA z), .int .i64 0] w fun e w' => e = .returned (.agg (intA z)) ∧ Below w.heap.size w w' := must_int (intA z) rfl (intA_one z) w
set_option maxRecDepth 100000 in
set_option maxHeartbeats 16000000 in
theorem times_core (g q m : Int → Int → Int) (Ok OkQ OkM : Int → Int → Prop) (an ad bn bd : Int) (X : Nat) (w : World)
 (hG : ∀ x y, Ok x y → ∀ W, Below w.heap.size w W → Calls Tryz.prog 125 #[.agg (intA x), .agg (intA y)] W fun e w' => e = .returned (.tuple #[.agg (intA (g x y)), .int .i64 0]) ∧ Below W.heap.size W w')
 (hQ : ∀ x y W, OkQ x y → Calls Tryz.prog 162 #[.agg (intA x), .agg (intA y)] W fun e w' => e = .returned (.agg (intA (q x y))) ∧ Below W.heap.size W w')
 (hM : ∀ x y W b, OkM x y → Row W b [.bool (decide (x < 0)), .int .u64 (W64 (x).natAbs 0 : Nat), .int .u64 (W64 (x).natAbs 1 : Nat), .int .u64 (W64 (x).natAbs 2 : Nat), .int .u64 (W64 (x).natAbs 3 : Nat), .bool (decide (y < 0)), .int .u64 (W64 (y).natAbs 0 : Nat), .int .u64 (W64 (y).natAbs 1 : Nat), .int .u64 (W64 (y).natAbs 2 : Nat), .int .u64 (W64 (y).natAbs 3 : Nat)] → Calls Tryz.prog 65 #[.slice (some ⟨b, 0, none⟩) 2 2] W fun e w' => e = .returned (.tuple #[.agg (intA (m x y)), .int .i64 0]) ∧ Below W.heap.size W w')
 (ok1 : Ok an bd) (ok2 : Ok bn ad) (ok3 : OkQ an (g an bd)) (ok4 : OkQ bn (g bn ad)) (ok5 : OkQ ad (g bn ad)) (ok6 : OkQ bd (g an bd)) (ok7 : OkM (q an (g an bd)) (q bn (g bn ad))) (ok8 : OkM (q ad (g bn ad)) (q bd (g an bd)))
 (hX : Row w X (ratA an ad).toList) : Calls Tryz.prog 150 #[.pointer (some ⟨X, 0, none⟩), .agg (ratA bn bd)] w fun e w' => e = .returned (.tuple #[]) ∧ Row w' X (ratA (m (q an (g an bd)) (q bn (g bn ad))) (m (q ad (g bn ad)) (q bd (g an bd)))).toList ∧ KB w.heap.size X w w' := by
 have HG := Lib.hid hG; clear hG
 have HQ := Lib.hid hQ; clear hQ
 have HM := Lib.hid hM; clear hM
 have HX := Lib.hid hX; clear hX
 go_enter Tryz.func150, Tryz.ntmps150
 go_wp2_with fail
 have hK : KS w ([] ++ [(X, ratA an ad)] ++ [(w.heap.size, ratA bn bd)]) (w.alloc (.cells (ratA bn bd) 31)) := ((KS.nil w).more HX.out).boxed rfl _ _
 generalize hL : [] ++ [(X, ratA an ad)] ++ [(w.heap.size, ratA bn bd)] = L at hK
 have HL := Lib.hid hL; clear hL
 generalize hW : World.alloc _ _ = W0 at hK ⊢
 clear hW
 have x0 : ∀ W, KS w L W → W.cell? ⟨X, 0, none⟩ = some (.bool (decide (an < 0))) := fun W h => h.c 0 (by rw [← HL.out]; rfl) 0 rfl
 have x1 : ∀ W, KS w L W → W.cell? ⟨X, 1, none⟩ = some (.int .u64 (W64 (an).natAbs 0 : Nat)) := fun W h => h.c 0 (by rw [← HL.out]; rfl) 1 rfl
 have x2 : ∀ W, KS w L W → W.cell? ⟨X, 2, none⟩ = some (.int .u64 (W64 (an).natAbs 1 : Nat)) := fun W h => h.c 0 (by rw [← HL.out]; rfl) 2 rfl
 have x3 : ∀ W, KS w L W → W.cell? ⟨X, 3, none⟩ = some (.int .u64 (W64 (an).natAbs 2 : Nat)) := fun W h => h.c 0 (by rw [← HL.out]; rfl) 3 rfl
 have x4 : ∀ W, KS w L W → W.cell? ⟨X, 4, none⟩ = some (.int .u64 (W64 (an).natAbs 3 : Nat)) := fun W h => h.c 0 (by rw [← HL.out]; rfl) 4 rfl
 have x5 : ∀ W, KS w L W → W.cell? ⟨X, 5, none⟩ = some (.bool (decide (ad < 0))) := fun W h => h.c 0 (by rw [← HL.out]; rfl) 5 rfl
 have x6 : ∀ W, KS w L W → W.cell? ⟨X, 6, none⟩ = some (.int .u64 (W64 (ad).natAbs 0 : Nat)) := fun W h => h.c 0 (by rw [← HL.out]; rfl) 6 rfl
 have x7 : ∀ W, KS w L W → W.cell? ⟨X, 7, none⟩ = some (.int .u64 (W64 (ad).natAbs 1 : Nat)) := fun W h => h.c 0 (by rw [← HL.out]; rfl) 7 rfl
 have x8 : ∀ W, KS w L W → W.cell? ⟨X, 8, none⟩ = some (.int .u64 (W64 (ad).natAbs 2 : Nat)) := fun W h => h.c 0 (by rw [← HL.out]; rfl) 8 rfl
 have x9 : ∀ W, KS w L W → W.cell? ⟨X, 9, none⟩ = some (.int .u64 (W64 (ad).natAbs 3 : Nat)) := fun W h => h.c 0 (by rw [← HL.out]; rfl) 9 rfl
 have b0 : ∀ W, KS w L W → W.cell? ⟨w.heap.size, 0, none⟩ = some (.bool (decide (bn < 0))) := fun W h => h.c 1 (by rw [← HL.out]; rfl) 0 rfl
 have b1 : ∀ W, KS w L W → W.cell? ⟨w.heap.size, 1, none⟩ = some (.int .u64 (W64 (bn).natAbs 0 : Nat)) := fun W h => h.c 1 (by rw [← HL.out]; rfl) 1 rfl
 have b2 : ∀ W, KS w L W → W.cell? ⟨w.heap.size, 2, none⟩ = some (.int .u64 (W64 (bn).natAbs 1 : Nat)) := fun W h => h.c 1 (by rw [← HL.out]; rfl) 2 rfl
 have b3 : ∀ W, KS w L W → W.cell? ⟨w.heap.size, 3, none⟩ = some (.int .u64 (W64 (bn).natAbs 2 : Nat)) := fun W h => h.c 1 (by rw [← HL.out]; rfl) 3 rfl
 have b4 : ∀ W, KS w L W → W.cell? ⟨w.heap.size, 4, none⟩ = some (.int .u64 (W64 (bn).natAbs 3 : Nat)) := fun W h => h.c 1 (by rw [← HL.out]; rfl) 4 rfl
 have b5 : ∀ W, KS w L W → W.cell? ⟨w.heap.size, 5, none⟩ = some (.bool (decide (bd < 0))) := fun W h => h.c 1 (by rw [← HL.out]; rfl) 5 rfl
 have b6 : ∀ W, KS w L W → W.cell? ⟨w.heap.size, 6, none⟩ = some (.int .u64 (W64 (bd).natAbs 0 : Nat)) := fun W h => h.c 1 (by rw [← HL.out]; rfl) 6 rfl
 have b7 : ∀ W, KS w L W → W.cell? ⟨w.heap.size, 7, none⟩ = some (.int .u64 (W64 (bd).natAbs 1 : Nat)) := fun W h => h.c 1 (by rw [← HL.out]; rfl) 7 rfl
 have b8 : ∀ W, KS w L W → W.cell? ⟨w.heap.size, 8, none⟩ = some (.int .u64 (W64 (bd).natAbs 2 : Nat)) := fun W h => h.c 1 (by rw [← HL.out]; rfl) 8 rfl
 have b9 : ∀ W, KS w L W → W.cell? ⟨w.heap.size, 9, none⟩ = some (.int .u64 (W64 (bd).natAbs 3 : Nat)) := fun W h => h.c 1 (by rw [← HL.out]; rfl) 9 rfl
 go_cut [4, 5] from 6 to 27 (fun p r wx => ∃ B4 B5, p = .pointer (some ⟨B4, 0, none⟩) ∧ r = .pointer (some ⟨B5, 0, none⟩) ∧ Hid (KS w L wx ∧ (LBs w L B4 ∧ LBs w L B5) ∧ wx.cell? ⟨B4, 0, none⟩ = some (.bool (decide ((g an bd) < 0))) ∧ wx.cell? ⟨B4, 1, none⟩ = some (.int .u64 (W64 ((g an bd)).natAbs 0 : Nat)) ∧ wx.cell? ⟨B4, 2, none⟩ = some (.int .u64 (W64 ((g an bd)).natAbs 1 : Nat)) ∧ wx.cell? ⟨B4, 3, none⟩ = some (.int .u64 (W64 ((g an bd)).natAbs 2 : Nat)) ∧ wx.cell? ⟨B4, 4, none⟩ = some (.int .u64 (W64 ((g an bd)).natAbs 3 : Nat)) ∧ wx.cell? ⟨B5, 0, none⟩ = some (.bool (decide ((g bn ad) < 0))) ∧ wx.cell? ⟨B5, 1, none⟩ = some (.int .u64 (W64 ((g bn ad)).natAbs 0 : Nat)) ∧ wx.cell? ⟨B5, 2, none⟩ = some (.int .u64 (W64 ((g bn ad)).natAbs 1 : Nat)) ∧ wx.cell? ⟨B5, 3, none⟩ = some (.int .u64 (W64 ((g bn ad)).natAbs 2 : Nat)) ∧ wx.cell? ⟨B5, 4, none⟩ = some (.int .u64 (W64 ((g bn ad)).natAbs 3 : Nat))))
 case first =>
  refine wp_region_mid (by kernel_rfl) (fun i => match i with
   | 0 => some (.pointer (some ⟨X, 0, none⟩))
   | 1 => some (.pointer (some ⟨X, 0, none⟩))
   | 2 => some (.pointer (some ⟨X, 0, none⟩))
   | 3 => some (.pointer (some ⟨X, 0, none⟩))
   | 4 => some (.agg (intA an))
   | 5 => some (.pointer (some ⟨w.heap.size, 5, none⟩))
   | 6 => some (.agg (intA bd))
   | 7 => some (.tuple #[.agg (intA (g an bd)), .int .i64 0])
   | 8 => some (.agg (intA (g an bd)))
   | 9 => some (.int .i64 0)
   | 10 => some (.agg (intA (g an bd)))
   | 11 => some (.pointer (some ⟨w.heap.size, 0, none⟩))
   | 12 => some (.agg (intA bn))
   | 13 => some (.pointer (some ⟨X, 0, none⟩))
   | 14 => some (.pointer (some ⟨X, 0, none⟩))
   | 15 => some (.pointer (some ⟨X, 0, none⟩))
   | 16 => some (.pointer (some ⟨X, 5, none⟩))
   | 17 => some (.agg (intA ad))
   | 18 => some (.tuple #[.agg (intA (g bn ad)), .int .i64 0])
   | 19 => some (.agg (intA (g bn ad)))
   | 20 => some (.int .i64 0)
   | 21 => some (.agg (intA (g bn ad)))
   | _ => none) (AcrossS w L (g an bd) (g bn ad)) (by kernel_rfl) ⟨hK.drew, fun h => by simp at h, fun h => by simp at h, fun h => by simp at h, fun h => by simp at h, fun h => by simp at h⟩ ?_ ?_
  ·intro listed a W i o hI ho h0 hdep K hK'
   have hi : i < 26 := (Array.getElem?_eq_some_iff.1 ho).1
   have hS := hI.world
   have hls : listed.size = 26 := hI.lsize
   have hsz : 5 < a.tmps.size := by rw [hI.size]; show (5 : Nat) < 68; decide
   have q0 : a.tmps[0]?.getD undef = .pointer (some ⟨X, 0, none⟩) := hI.old 0 (noDst_spec (by kernel_rfl))
   have q3 : a.tmps[3]?.getD undef = .pointer (some ⟨w.heap.size, 0, none⟩) := hI.old 3 (noDst_spec (by kernel_rfl))
   have hcase : i = 0 ∨ i = 1 ∨ i = 2 ∨ i = 3 ∨ i = 4 ∨ i = 5 ∨ i = 6 ∨ i = 7 ∨ i = 8 ∨ i = 9 ∨ i = 10 ∨ i = 11 ∨ i = 12 ∨ i = 13 ∨ i = 14 ∨ i = 15 ∨ i = 16 ∨ i = 17 ∨ i = 18 ∨ i = 19 ∨ i = 20 ∨ i = 21 ∨ i = 22 ∨ i = 23 ∨ i = 24 ∨ i = 25 := by omega
   clear hi
   rcases hcase with rfl | rfl | rfl | rfl | rfl | rfl | rfl | rfl | rfl | rfl | rfl | rfl | rfl | rfl | rfl | rfl | rfl | rfl | rfl | rfl | rfl | rfl | rfl | rfl | rfl | rfl
   ·obtain rfl := oI ho
    clear hdep hI ho
    go_simp
    exact hK' (.pointer (some ⟨X, 0, none⟩)) _ (fun u hu => oV hu) (hS.next (Below.refl _ _) 0 6 _ (by decide) (by decide) (by decide))
   ·obtain rfl := oI ho
    have d0 : listed.getD 0 false = true := hdep ⟨0, .data⟩ (by simp) rfl
    have q106 : a.tmps[6]?.getD undef = .pointer (some ⟨X, 0, none⟩) := hI.val 0 _ 6 _ rfl rfl rfl d0
    clear hdep hI ho
    go_simp
    exact hK' (.pointer (some ⟨X, 0, none⟩)) _ (fun u hu => oV hu) (hS.next (Below.refl _ _) 1 7 _ (by decide) (by decide) (by decide))
   ·obtain rfl := oI ho
    have d1 : listed.getD 1 false = true := hdep ⟨1, .data⟩ (by simp) rfl
    have q107 : a.tmps[7]?.getD undef = .pointer (some ⟨X, 0, none⟩) := hI.val 1 _ 7 _ rfl rfl rfl d1
    clear hdep hI ho
    go_simp
    exact hK' (.pointer (some ⟨X, 0, none⟩)) _ (fun u hu => oV hu) (hS.next (Below.refl _ _) 2 8 _ (by decide) (by decide) (by decide))
   ·obtain rfl := oI ho
    have d2 : listed.getD 2 false = true := hdep ⟨2, .data⟩ (by simp) rfl
    have q108 : a.tmps[8]?.getD undef = .pointer (some ⟨X, 0, none⟩) := hI.val 2 _ 8 _ rfl rfl rfl d2
    clear hdep hI ho
    go_simp
    exact hK' (.pointer (some ⟨X, 0, none⟩)) _ (fun u hu => oV hu) (hS.next (Below.refl _ _) 3 9 _ (by decide) (by decide) (by decide))
   ·obtain rfl := oI ho
    have d3 : listed.getD 3 false = true := hdep ⟨3, .data⟩ (by simp) rfl
    have q109 : a.tmps[9]?.getD undef = .pointer (some ⟨X, 0, none⟩) := hI.val 3 _ 9 _ rfl rfl rfl d3
    have x0 := hS.base.c 0 (b := X) (cs := ratA an ad) (by rw [← HL.out]; rfl) 0 rfl
    have x1 := hS.base.c 0 (b := X) (cs := ratA an ad) (by rw [← HL.out]; rfl) 1 rfl
    have x2 := hS.base.c 0 (b := X) (cs := ratA an ad) (by rw [← HL.out]; rfl) 2 rfl
    have x3 := hS.base.c 0 (b := X) (cs := ratA an ad) (by rw [← HL.out]; rfl) 3 rfl
    have x4 := hS.base.c 0 (b := X) (cs := ratA an ad) (by rw [← HL.out]; rfl) 4 rfl
    clear hdep hI ho
    go_simp
    exact hK' (.agg (intA an)) _ (fun u hu => oV hu) (hS.next (Below.refl _ _) 4 10 _ (by decide) (by decide) (by decide))
   ·obtain rfl := oI ho
    clear hdep hI ho
    go_simp
    exact hK' (.pointer (some ⟨w.heap.size, 5, none⟩)) _ (fun u hu => oV hu) (hS.next (Below.refl _ _) 5 11 _ (by decide) (by decide) (by decide))
   ·obtain rfl := oI ho
    have d5 : listed.getD 5 false = true := hdep ⟨5, .data⟩ (by simp) rfl
    have q111 : a.tmps[11]?.getD undef = .pointer (some ⟨w.heap.size, 5, none⟩) := hI.val 5 _ 11 _ rfl rfl rfl d5
    have x0 := hS.base.c 1 (b := w.heap.size) (cs := ratA bn bd) (by rw [← HL.out]; rfl) 5 rfl
    have x1 := hS.base.c 1 (b := w.heap.size) (cs := ratA bn bd) (by rw [← HL.out]; rfl) 6 rfl
    have x2 := hS.base.c 1 (b := w.heap.size) (cs := ratA bn bd) (by rw [← HL.out]; rfl) 7 rfl
    have x3 := hS.base.c 1 (b := w.heap.size) (cs := ratA bn bd) (by rw [← HL.out]; rfl) 8 rfl
    have x4 := hS.base.c 1 (b := w.heap.size) (cs := ratA bn bd) (by rw [← HL.out]; rfl) 9 rfl
    clear hdep hI ho
    go_simp
    exact hK' (.agg (intA bd)) _ (fun u hu => oV hu) (hS.next (Below.refl _ _) 6 12 _ (by decide) (by decide) (by decide))
   ·obtain rfl := oI ho
    have d4 : listed.getD 4 false = true := hdep ⟨4, .data⟩ (by simp) rfl
    have q110 : a.tmps[10]?.getD undef = .agg (intA an) := hI.val 4 _ 10 _ rfl rfl rfl d4
    have d6 : listed.getD 6 false = true := hdep ⟨6, .data⟩ (by simp) rfl
    have q112 : a.tmps[12]?.getD undef = .agg (intA bd) := hI.val 6 _ 12 _ rfl rfl rfl d6
    clear hdep hI ho
    go_simp
    refine (HG.out _ _ ok1 _ (KS.below hS.base)).mono ?_
    rintro e W1 ⟨rfl, hb⟩
    exact hK' (.tuple #[.agg (intA (g an bd)), .int .i64 0]) W1 (fun u hu => oV hu) (hS.next hb 7 13 _ (by decide) (by decide) (by decide))
   ·obtain rfl := oI ho
    have d7 : listed.getD 7 false = true := hdep ⟨7, .data⟩ (by simp) rfl
    have q113 : a.tmps[13]?.getD undef = .tuple #[.agg (intA (g an bd)), .int .i64 0] := hI.val 7 _ 13 _ rfl rfl rfl d7
    clear hdep hI ho
    go_simp
    exact hK' (.agg (intA (g an bd))) _ (fun u hu => oV hu) (hS.next (Below.refl _ _) 8 14 _ (by decide) (by decide) (by decide))
   ·obtain rfl := oI ho
    have d7 : listed.getD 7 false = true := hdep ⟨7, .data⟩ (by simp) rfl
    have q113 : a.tmps[13]?.getD undef = .tuple #[.agg (intA (g an bd)), .int .i64 0] := hI.val 7 _ 13 _ rfl rfl rfl d7
    clear hdep hI ho
    go_simp
    exact hK' (.int .i64 0) _ (fun u hu => oV hu) (hS.next (Below.refl _ _) 9 15 _ (by decide) (by decide) (by decide))
   ·obtain rfl := oI ho
    have d8 : listed.getD 8 false = true := hdep ⟨8, .data⟩ (by simp) rfl
    have q114 : a.tmps[14]?.getD undef = .agg (intA (g an bd)) := hI.val 8 _ 14 _ rfl rfl rfl d8
    have d9 : listed.getD 9 false = true := hdep ⟨9, .data⟩ (by simp) rfl
    have q115 : a.tmps[15]?.getD undef = .int .i64 0 := hI.val 9 _ 15 _ rfl rfl rfl d9
    clear hdep hI ho
    go_simp
    refine (must_z _ _).mono ?_
    rintro e W1 ⟨rfl, hb⟩
    exact hK' (.agg (intA (g an bd))) W1 (fun u hu => oV hu) (hS.next hb 10 16 _ (by decide) (by decide) (by decide))
   ·obtain rfl := oI ho
    clear hdep hI ho
    go_simp
    exact hK' (.pointer (some ⟨w.heap.size, 0, none⟩)) _ (fun u hu => oV hu) (hS.next (Below.refl _ _) 11 17 _ (by decide) (by decide) (by decide))
   ·obtain rfl := oI ho
    have d11 : listed.getD 11 false = true := hdep ⟨11, .data⟩ (by simp) rfl
    have q117 : a.tmps[17]?.getD undef = .pointer (some ⟨w.heap.size, 0, none⟩) := hI.val 11 _ 17 _ rfl rfl rfl d11
    have x0 := hS.base.c 1 (b := w.heap.size) (cs := ratA bn bd) (by rw [← HL.out]; rfl) 0 rfl
    have x1 := hS.base.c 1 (b := w.heap.size) (cs := ratA bn bd) (by rw [← HL.out]; rfl) 1 rfl
    have x2 := hS.base.c 1 (b := w.heap.size) (cs := ratA bn bd) (by rw [← HL.out]; rfl) 2 rfl
    have x3 := hS.base.c 1 (b := w.heap.size) (cs := ratA bn bd) (by rw [← HL.out]; rfl) 3 rfl
    have x4 := hS.base.c 1 (b := w.heap.size) (cs := ratA bn bd) (by rw [← HL.out]; rfl) 4 rfl
    clear hdep hI ho
    go_simp
    exact hK' (.agg (intA bn)) _ (fun u hu => oV hu) (hS.next (Below.refl _ _) 12 18 _ (by decide) (by decide) (by decide))
   ·obtain rfl := oI ho
    clear hdep hI ho
    go_simp
    exact hK' (.pointer (some ⟨X, 0, none⟩)) _ (fun u hu => oV hu) (hS.next (Below.refl _ _) 13 19 _ (by decide) (by decide) (by decide))
   ·obtain rfl := oI ho
    have d13 : listed.getD 13 false = true := hdep ⟨13, .data⟩ (by simp) rfl
    have q119 : a.tmps[19]?.getD undef = .pointer (some ⟨X, 0, none⟩) := hI.val 13 _ 19 _ rfl rfl rfl d13
    clear hdep hI ho
    go_simp
    exact hK' (.pointer (some ⟨X, 0, none⟩)) _ (fun u hu => oV hu) (hS.next (Below.refl _ _) 14 20 _ (by decide) (by decide) (by decide))
   ·obtain rfl := oI ho
    have d14 : listed.getD 14 false = true := hdep ⟨14, .data⟩ (by simp) rfl
    have q120 : a.tmps[20]?.getD undef = .pointer (some ⟨X, 0, none⟩) := hI.val 14 _ 20 _ rfl rfl rfl d14
    clear hdep hI ho
    go_simp
    exact hK' (.pointer (some ⟨X, 0, none⟩)) _ (fun u hu => oV hu) (hS.next (Below.refl _ _) 15 21 _ (by decide) (by decide) (by decide))
   ·obtain rfl := oI ho
    have d15 : listed.getD 15 false = true := hdep ⟨15, .data⟩ (by simp) rfl
    have q121 : a.tmps[21]?.getD undef = .pointer (some ⟨X, 0, none⟩) := hI.val 15 _ 21 _ rfl rfl rfl d15
    clear hdep hI ho
    go_simp
    exact hK' (.pointer (some ⟨X, 5, none⟩)) _ (fun u hu => oV hu) (hS.next (Below.refl _ _) 16 22 _ (by decide) (by decide) (by decide))
   ·obtain rfl := oI ho
    have d16 : listed.getD 16 false = true := hdep ⟨16, .data⟩ (by simp) rfl
    have q122 : a.tmps[22]?.getD undef = .pointer (some ⟨X, 5, none⟩) := hI.val 16 _ 22 _ rfl rfl rfl d16
    have x0 := hS.base.c 0 (b := X) (cs := ratA an ad) (by rw [← HL.out]; rfl) 5 rfl
    have x1 := hS.base.c 0 (b := X) (cs := ratA an ad) (by rw [← HL.out]; rfl) 6 rfl
    have x2 := hS.base.c 0 (b := X) (cs := ratA an ad) (by rw [← HL.out]; rfl) 7 rfl
    have x3 := hS.base.c 0 (b := X) (cs := ratA an ad) (by rw [← HL.out]; rfl) 8 rfl
    have x4 := hS.base.c 0 (b := X) (cs := ratA an ad) (by rw [← HL.out]; rfl) 9 rfl
    clear hdep hI ho
    go_simp
    exact hK' (.agg (intA ad)) _ (fun u hu => oV hu) (hS.next (Below.refl _ _) 17 23 _ (by decide) (by decide) (by decide))
   ·obtain rfl := oI ho
    have d12 : listed.getD 12 false = true := hdep ⟨12, .data⟩ (by simp) rfl
    have q118 : a.tmps[18]?.getD undef = .agg (intA bn) := hI.val 12 _ 18 _ rfl rfl rfl d12
    have d17 : listed.getD 17 false = true := hdep ⟨17, .data⟩ (by simp) rfl
    have q123 : a.tmps[23]?.getD undef = .agg (intA ad) := hI.val 17 _ 23 _ rfl rfl rfl d17
    clear hdep hI ho
    go_simp
    refine (HG.out _ _ ok2 _ (KS.below hS.base)).mono ?_
    rintro e W1 ⟨rfl, hb⟩
    exact hK' (.tuple #[.agg (intA (g bn ad)), .int .i64 0]) W1 (fun u hu => oV hu) (hS.next hb 18 24 _ (by decide) (by decide) (by decide))
   ·obtain rfl := oI ho
    have d18 : listed.getD 18 false = true := hdep ⟨18, .data⟩ (by simp) rfl
    have q124 : a.tmps[24]?.getD undef = .tuple #[.agg (intA (g bn ad)), .int .i64 0] := hI.val 18 _ 24 _ rfl rfl rfl d18
    clear hdep hI ho
    go_simp
    exact hK' (.agg (intA (g bn ad))) _ (fun u hu => oV hu) (hS.next (Below.refl _ _) 19 25 _ (by decide) (by decide) (by decide))
   ·obtain rfl := oI ho
    have d18 : listed.getD 18 false = true := hdep ⟨18, .data⟩ (by simp) rfl
    have q124 : a.tmps[24]?.getD undef = .tuple #[.agg (intA (g bn ad)), .int .i64 0] := hI.val 18 _ 24 _ rfl rfl rfl d18
    clear hdep hI ho
    go_simp
    exact hK' (.int .i64 0) _ (fun u hu => oV hu) (hS.next (Below.refl _ _) 20 26 _ (by decide) (by decide) (by decide))
   ·obtain rfl := oI ho
    have d19 : listed.getD 19 false = true := hdep ⟨19, .data⟩ (by simp) rfl
    have q125 : a.tmps[25]?.getD undef = .agg (intA (g bn ad)) := hI.val 19 _ 25 _ rfl rfl rfl d19
    have d20 : listed.getD 20 false = true := hdep ⟨20, .data⟩ (by simp) rfl
    have q126 : a.tmps[26]?.getD undef = .int .i64 0 := hI.val 20 _ 26 _ rfl rfl rfl d20
    clear hdep hI ho
    go_simp
    refine (must_z _ _).mono ?_
    rintro e W1 ⟨rfl, hb⟩
    exact hK' (.agg (intA (g bn ad))) W1 (fun u hu => oV hu) (hS.next hb 21 27 _ (by decide) (by decide) (by decide))
   ·obtain rfl := oI ho
    have hz : listed.getD 22 false = false := getD_no h0
    clear hdep hI ho
    go_simp
    exact hK' _ _ (fun u hu => nV hu) (hS.new4 hls hsz hz _)
   ·obtain rfl := oI ho
    have hz : listed.getD 23 false = false := getD_no h0
    clear hdep hI ho
    go_simp
    exact hK' _ _ (fun u hu => nV hu) (hS.new5 hls hsz hz _)
   ·obtain rfl := oI ho
    have d22 : listed.getD 22 false = true := hdep ⟨22, .data⟩ (by simp) rfl
    have d10 : listed.getD 10 false = true := hdep ⟨10, .data⟩ (by simp) rfl
    have q116 : a.tmps[16]?.getD undef = .agg (intA (g an bd)) := hI.val 10 _ 16 _ rfl rfl rfl d10
    obtain ⟨A, hA, hlA, hr⟩ := hS.fst d22
    have hz : listed.getD 24 false = false := getD_no h0
    rw [hz, if_neg (by decide)] at hr
    have q104 : a.tmps[4]?.getD undef = .pointer (some ⟨A, 0, none⟩) := hA
    have x0 := hr.c 0 rfl
    have f0 := hr.f 0 rfl
    have x1 := hr.c 1 rfl
    have f1 := hr.f 1 rfl
    have x2 := hr.c 2 rfl
    have f2 := hr.f 2 rfl
    have x3 := hr.c 3 rfl
    have f3 := hr.f 3 rfl
    have x4 := hr.c 4 rfl
    have f4 := hr.f 4 rfl
    clear hdep hI ho hr hsz
    go_simp
    exact hK' undef _ (fun u hu => nV hu) (hS.put4 hls d22 hA)
   ·obtain rfl := oI ho
    have d23 : listed.getD 23 false = true := hdep ⟨23, .data⟩ (by simp) rfl
    have d21 : listed.getD 21 false = true := hdep ⟨21, .data⟩ (by simp) rfl
    have q127 : a.tmps[27]?.getD undef = .agg (intA (g bn ad)) := hI.val 21 _ 27 _ rfl rfl rfl d21
    obtain ⟨A, hA, hlA, hr⟩ := hS.snd d23
    have hz : listed.getD 25 false = false := getD_no h0
    rw [hz, if_neg (by decide)] at hr
    have q105 : a.tmps[5]?.getD undef = .pointer (some ⟨A, 0, none⟩) := hA
    have x0 := hr.c 0 rfl
    have f0 := hr.f 0 rfl
    have x1 := hr.c 1 rfl
    have f1 := hr.f 1 rfl
    have x2 := hr.c 2 rfl
    have f2 := hr.f 2 rfl
    have x3 := hr.c 3 rfl
    have f3 := hr.f 3 rfl
    have x4 := hr.c 4 rfl
    have f4 := hr.f 4 rfl
    clear hdep hI ho hr hsz
    go_simp
    exact hK' undef _ (fun u hu => nV hu) (hS.put5 hls d23 hA)
  ·intro listed a W hI hall
   obtain ⟨A, hA, hlA, hrA⟩ := hI.world.fst (hall 22 (by decide))
   obtain ⟨A5, hA5, hlA5, hrA5⟩ := hI.world.snd (hall 23 (by decide))
   rw [hall 24 (by decide), if_pos rfl] at hrA
   rw [hall 25 (by decide), if_pos rfl] at hrA5
   have hbase := hI.world.base
   have hdef := hI.defers
   obtain ⟨x0, x1, x2, x3, x4, x5, x6, x7, x8, x9, x10, x11, x12, x13, x14, x15, x16, x17, x18, x19, x20, x21, x22, x23, x24, x25, x26, x27, x28, x29, x30, x31, x32, x33, x34, x35, x36, x37, x38, x39, x40, x41, x42, x43, x44, x45, x46, x47, x48, x49, x50, x51, x52, x53, x54, x55, x56, x57, x58, x59, x60, x61, x62, x63, x64, x65, x66, x67, hx⟩ := arr68 a.tmps hI.size
   obtain ⟨tmps, defers⟩ := a
   simp only at hx hdef
   subst hx
   subst hdef
   obtain rfl := hI.old 0 (noDst_spec (by kernel_rfl))
   obtain rfl := hI.old 1 (noDst_spec (by kernel_rfl))
   obtain rfl := hI.old 2 (noDst_spec (by kernel_rfl))
   obtain rfl := hI.old 3 (noDst_spec (by kernel_rfl))
   obtain rfl := hI.old 28 (noDst_spec (by kernel_rfl))
   obtain rfl := hI.old 29 (noDst_spec (by kernel_rfl))
   obtain rfl := hI.old 30 (noDst_spec (by kernel_rfl))
   obtain rfl := hI.old 31 (noDst_spec (by kernel_rfl))
   obtain rfl := hI.old 32 (noDst_spec (by kernel_rfl))
   obtain rfl := hI.old 33 (noDst_spec (by kernel_rfl))
   obtain rfl := hI.old 34 (noDst_spec (by kernel_rfl))
   obtain rfl := hI.old 35 (noDst_spec (by kernel_rfl))
   obtain rfl := hI.old 36 (noDst_spec (by kernel_rfl))
   obtain rfl := hI.old 37 (noDst_spec (by kernel_rfl))
   obtain rfl := hI.old 38 (noDst_spec (by kernel_rfl))
   obtain rfl := hI.old 39 (noDst_spec (by kernel_rfl))
   obtain rfl := hI.old 40 (noDst_spec (by kernel_rfl))
   obtain rfl := hI.old 41 (noDst_spec (by kernel_rfl))
   obtain rfl := hI.old 42 (noDst_spec (by kernel_rfl))
   obtain rfl := hI.old 43 (noDst_spec (by kernel_rfl))
   obtain rfl := hI.old 44 (noDst_spec (by kernel_rfl))
   obtain rfl := hI.old 45 (noDst_spec (by kernel_rfl))
   obtain rfl := hI.old 46 (noDst_spec (by kernel_rfl))
   obtain rfl := hI.old 47 (noDst_spec (by kernel_rfl))
   obtain rfl := hI.old 48 (noDst_spec (by kernel_rfl))
   obtain rfl := hI.old 49 (noDst_spec (by kernel_rfl))
   obtain rfl := hI.old 50 (noDst_spec (by kernel_rfl))
   obtain rfl := hI.old 51 (noDst_spec (by kernel_rfl))
   obtain rfl := hI.old 52 (noDst_spec (by kernel_rfl))
   obtain rfl := hI.old 53 (noDst_spec (by kernel_rfl))
   obtain rfl := hI.old 54 (noDst_spec (by kernel_rfl))
   obtain rfl := hI.old 55 (noDst_spec (by kernel_rfl))
   obtain rfl := hI.old 56 (noDst_spec (by kernel_rfl))
   obtain rfl := hI.old 57 (noDst_spec (by kernel_rfl))
   obtain rfl := hI.old 58 (noDst_spec (by kernel_rfl))
   obtain rfl := hI.old 59 (noDst_spec (by kernel_rfl))
   obtain rfl := hI.old 60 (noDst_spec (by kernel_rfl))
   obtain rfl := hI.old 61 (noDst_spec (by kernel_rfl))
   obtain rfl := hI.old 62 (noDst_spec (by kernel_rfl))
   obtain rfl := hI.old 63 (noDst_spec (by kernel_rfl))
   obtain rfl := hI.old 64 (noDst_spec (by kernel_rfl))
   obtain rfl := hI.old 65 (noDst_spec (by kernel_rfl))
   obtain rfl := hI.old 66 (noDst_spec (by kernel_rfl))
   obtain rfl := hI.old 67 (noDst_spec (by kernel_rfl))
   obtain rfl := hA
   obtain rfl := hA5
   go_wp2_with fail
   go_meet
   exact ⟨_, _, rfl, rfl, Lib.hid ⟨hbase, ⟨hlA, hlA5⟩, hrA.c 0 rfl, hrA.c 1 rfl, hrA.c 2 rfl, hrA.c 3 rfl, hrA.c 4 rfl, hrA5.c 0 rfl, hrA5.c 1 rfl, hrA5.c 2 rfl, hrA5.c 3 rfl, hrA5.c 4 rfl⟩⟩
 case rest =>
  obtain ⟨B4, B5, rfl, rfl, HF⟩ := hcut
  obtain ⟨hS, ⟨lb4, lb5⟩, a0, a1, a2, a3, a4, c0, c1, c2, c3, c4⟩ := HF.out
  clear HF
  generalize wc = V at *
  have rX := hS.row 0 (b := X) (cs := ratA an ad) (by rw [← HL.out]; rfl)
  have rB := hS.row 1 (b := w.heap.size) (cs := ratA bn bd) (by rw [← HL.out]; rfl)
  have hXw : X < w.heap.size := HX.out.lt
  have hB := hS.2
  have n4 : X ≠ B4 := by have := lb4.2 (X, ratA an ad) (by rw [← HL.out]; simp); exact Nat.ne_of_lt this
  have n5 : X ≠ B5 := by have := lb5.2 (X, ratA an ad) (by rw [← HL.out]; simp); exact Nat.ne_of_lt this
  have l4 := block_lt_of_cell a0
  have l5 := block_lt_of_cell c0
  have r4 : V.rangeAt B4 0 (intA (g an bd)).toList := fun j v hv => by
   rw [Nat.zero_add]
   match j, hv with
   | 0, hv => exact a0.trans hv
   | 1, hv => exact a1.trans hv
   | 2, hv => exact a2.trans hv
   | 3, hv => exact a3.trans hv
   | 4, hv => exact a4.trans hv
   | _ + 5, hv => simp at hv
  have r5 : V.rangeAt B5 0 (intA (g bn ad)).toList := fun j v hv => by
   rw [Nat.zero_add]
   match j, hv with
   | 0, hv => exact c0.trans hv
   | 1, hv => exact c1.trans hv
   | 2, hv => exact c2.trans hv
   | 3, hv => exact c3.trans hv
   | 4, hv => exact c4.trans hv
   | _ + 5, hv => simp at hv
  have hT : V.there X 0 10 := rX.there 0 10 (by simp [ratA])
  have hx2 : V.rangeAt X 0 (intA an).toList := rX.rat_n
  have hK2 : KR V X [(X, 5, intA ad), (w.heap.size, 0, intA bn), (w.heap.size, 5, intA bd), (B4, 0, intA (g an bd)), (B5, 0, intA (g bn ad))] 0 5 V := by
   refine ⟨fun p hp => ?_, ⟨rX.lt, hT, by decide⟩, KB.refl _ _ _⟩
   simp only [List.mem_cons, List.not_mem_nil, or_false] at hp
   rcases hp with rfl | rfl | rfl | rfl | rfl
   ·exact ⟨rX.lt, rX.rat_d, .inr (.inr (Nat.le_refl 5))⟩
   ·exact ⟨rB.lt, rB.rat_n, .inl (by omega)⟩
   ·exact ⟨rB.lt, rB.rat_d, .inl (by omega)⟩
   ·exact ⟨l4, r4, .inl (Ne.symm n4)⟩
   ·exact ⟨l5, r5, .inl (Ne.symm n5)⟩
  clear a0 a1 a2 a3 a4 c0 c1 c2 c3 c4 x0 x1 x2 x3 x4 x5 x6 x7 x8 x9 b0 b1 b2 b3 b4 b5 b6 b7 b8 b9 hK HG ok1 ok2 r4 r5
  generalize hL2 : [(X, 5, intA ad), (w.heap.size, 0, intA bn), (w.heap.size, 5, intA bd), (B4, 0, intA (g an bd)), (B5, 0, intA (g bn ad))] = L2 at hK2
  have HL2 := Lib.hid hL2
  clear hL2
  go_upto_region 2 with fail
  go_cut [] from 28 to 47 (fun wx => Hid (KR V X L2 0 5 wx ∧ wx.rangeAt X 0 (intA (m (q an (g an bd)) (q bn (g bn ad)))).toList))
  case first =>
   refine wp_region_mid (by kernel_rfl) (fun i => match i with
    | 0 => some (.pointer (some ⟨X, 0, none⟩))
    | 1 => some (.pointer (some ⟨X, 0, none⟩))
    | 2 => some (.pointer (some ⟨X, 0, none⟩))
    | 3 => some (.pointer (some ⟨X, 0, none⟩))
    | 4 => some (.pointer (some ⟨X, 0, none⟩))
    | 5 => some (.agg (intA an))
    | 6 => some (.agg (intA (g an bd)))
    | 7 => some (.agg (intA (q an (g an bd))))
    | 8 => some (.pointer (some ⟨w.heap.size, 0, none⟩))
    | 9 => some (.agg (intA bn))
    | 10 => some (.agg (intA (g bn ad)))
    | 11 => some (.agg (intA (q bn (g bn ad))))
    | 13 => some (.tuple #[.agg (intA (m (q an (g an bd)) (q bn (g bn ad)))), .int .i64 0])
    | 14 => some (.agg (intA (m (q an (g an bd)) (q bn (g bn ad)))))
    | 15 => some (.int .i64 0)
    | 16 => some (.agg (intA (m (q an (g an bd)) (q bn (g bn ad)))))
    | 17 => some (.pointer (some ⟨X, 0, none⟩))
    | 18 => some (.pointer (some ⟨X, 0, none⟩))
    | 19 => some (.pointer (some ⟨X, 0, none⟩))
    | _ => none) (TimesS V X L2 0 40 an (m (q an (g an bd)) (q bn (g bn ad))) [.bool (decide ((q an (g an bd)) < 0)), .int .u64 (W64 ((q an (g an bd))).natAbs 0 : Nat), .int .u64 (W64 ((q an (g an bd))).natAbs 1 : Nat), .int .u64 (W64 ((q an (g an bd))).natAbs 2 : Nat), .int .u64 (W64 ((q an (g an bd))).natAbs 3 : Nat), .bool (decide ((q bn (g bn ad)) < 0)), .int .u64 (W64 ((q bn (g bn ad))).natAbs 0 : Nat), .int .u64 (W64 ((q bn (g bn ad))).natAbs 1 : Nat), .int .u64 (W64 ((q bn (g bn ad))).natAbs 2 : Nat), .int .u64 (W64 ((q bn (g bn ad))).natAbs 3 : Nat)]) (by kernel_rfl) (TimesS.start hK2.drew ((World.rangeAt_drew _ _ _ _).2 hx2) _) ?_ ?_
   ·intro listed a W i o hI ho h0 hdep K hK'
    have hi : i < 21 := (Array.getElem?_eq_some_iff.1 ho).1
    have hS := hI.world
    have hls : listed.size = 21 := hI.lsize
    have hsz : 40 < a.tmps.size := by rw [hI.size]; show (40 : Nat) < 68; decide
    have q0 : a.tmps[0]?.getD undef = .pointer (some ⟨X, 0, none⟩) := hI.old 0 (noDst_spec (by kernel_rfl))
    have q3 : a.tmps[3]?.getD undef = .pointer (some ⟨w.heap.size, 0, none⟩) := hI.old 3 (noDst_spec (by kernel_rfl))
    have q4 : a.tmps[4]?.getD undef = .pointer (some ⟨B4, 0, none⟩) := hI.old 4 (noDst_spec (by kernel_rfl))
    have q5 : a.tmps[5]?.getD undef = .pointer (some ⟨B5, 0, none⟩) := hI.old 5 (noDst_spec (by kernel_rfl))
    have hcase : i = 0 ∨ i = 1 ∨ i = 2 ∨ i = 3 ∨ i = 4 ∨ i = 5 ∨ i = 6 ∨ i = 7 ∨ i = 8 ∨ i = 9 ∨ i = 10 ∨ i = 11 ∨ i = 12 ∨ i = 13 ∨ i = 14 ∨ i = 15 ∨ i = 16 ∨ i = 17 ∨ i = 18 ∨ i = 19 ∨ i = 20 := by omega
    clear hi
    rcases hcase with rfl | rfl | rfl | rfl | rfl | rfl | rfl | rfl | rfl | rfl | rfl | rfl | rfl | rfl | rfl | rfl | rfl | rfl | rfl | rfl | rfl
    ·obtain rfl := oI ho
     clear hdep hI ho
     go_simp
     exact hK' (.pointer (some ⟨X, 0, none⟩)) _ (fun u hu => oV hu) (hS.next (Below.refl _ _) 0 28 _ (by decide) (by decide) (by decide) (fun k hk => by cases hk))
    ·obtain rfl := oI ho
     clear hdep hI ho
     go_simp
     exact hK' (.pointer (some ⟨X, 0, none⟩)) _ (fun u hu => oV hu) (hS.next (Below.refl _ _) 1 29 _ (by decide) (by decide) (by decide) (fun k hk => by cases hk))
    ·obtain rfl := oI ho
     have d1 : listed.getD 1 false = true := hdep ⟨1, .data⟩ (by simp) rfl
     have q129 : a.tmps[29]?.getD undef = .pointer (some ⟨X, 0, none⟩) := hI.val 1 _ 29 _ rfl rfl rfl d1
     clear hdep hI ho
     go_simp
     exact hK' (.pointer (some ⟨X, 0, none⟩)) _ (fun u hu => oV hu) (hS.next (Below.refl _ _) 2 30 _ (by decide) (by decide) (by decide) (fun k hk => by cases hk))
    ·obtain rfl := oI ho
     have d2 : listed.getD 2 false = true := hdep ⟨2, .data⟩ (by simp) rfl
     have q130 : a.tmps[30]?.getD undef = .pointer (some ⟨X, 0, none⟩) := hI.val 2 _ 30 _ rfl rfl rfl d2
     clear hdep hI ho
     go_simp
     exact hK' (.pointer (some ⟨X, 0, none⟩)) _ (fun u hu => oV hu) (hS.next (Below.refl _ _) 3 31 _ (by decide) (by decide) (by decide) (fun k hk => by cases hk))
    ·obtain rfl := oI ho
     have d3 : listed.getD 3 false = true := hdep ⟨3, .data⟩ (by simp) rfl
     have q131 : a.tmps[31]?.getD undef = .pointer (some ⟨X, 0, none⟩) := hI.val 3 _ 31 _ rfl rfl rfl d3
     clear hdep hI ho
     go_simp
     exact hK' (.pointer (some ⟨X, 0, none⟩)) _ (fun u hu => oV hu) (hS.next (Below.refl _ _) 4 32 _ (by decide) (by decide) (by decide) (fun k hk => by cases hk))
    ·obtain rfl := oI ho
     have d4 : listed.getD 4 false = true := hdep ⟨4, .data⟩ (by simp) rfl
     have q132 : a.tmps[32]?.getD undef = .pointer (some ⟨X, 0, none⟩) := hI.val 4 _ 32 _ rfl rfl rfl d4
     have hr := hS.here (hS.no20 (by omega) (getD_no h0))
     have x0 : W.cell? ⟨X, 0, none⟩ = _ := hr 0 _ rfl
     have x1 : W.cell? ⟨X, 1, none⟩ = _ := hr 1 _ rfl
     have x2 : W.cell? ⟨X, 2, none⟩ = _ := hr 2 _ rfl
     have x3 : W.cell? ⟨X, 3, none⟩ = _ := hr 3 _ rfl
     have x4 : W.cell? ⟨X, 4, none⟩ = _ := hr 4 _ rfl
     clear hdep hI ho hr
     go_simp
     exact hK' (.agg (intA an)) _ (fun u hu => oV hu) (hS.next (Below.refl _ _) 5 33 _ (by decide) (by decide) (by decide) (fun k hk => by cases hk))
    ·obtain rfl := oI ho
     have x0 : W.cell? ⟨B4, 0, none⟩ = _ := hS.base.c 3 (b := B4) (q := 0) (cs := intA (g an bd)) (by rw [← HL2.out]; rfl) 0 rfl
     have x1 : W.cell? ⟨B4, 1, none⟩ = _ := hS.base.c 3 (b := B4) (q := 0) (cs := intA (g an bd)) (by rw [← HL2.out]; rfl) 1 rfl
     have x2 : W.cell? ⟨B4, 2, none⟩ = _ := hS.base.c 3 (b := B4) (q := 0) (cs := intA (g an bd)) (by rw [← HL2.out]; rfl) 2 rfl
     have x3 : W.cell? ⟨B4, 3, none⟩ = _ := hS.base.c 3 (b := B4) (q := 0) (cs := intA (g an bd)) (by rw [← HL2.out]; rfl) 3 rfl
     have x4 : W.cell? ⟨B4, 4, none⟩ = _ := hS.base.c 3 (b := B4) (q := 0) (cs := intA (g an bd)) (by rw [← HL2.out]; rfl) 4 rfl
     clear hdep hI ho
     go_simp
     exact hK' (.agg (intA (g an bd))) _ (fun u hu => oV hu) (hS.next (Below.refl _ _) 6 34 _ (by decide) (by decide) (by decide) (fun k hk => by cases hk))
    ·obtain rfl := oI ho
     have d5 : listed.getD 5 false = true := hdep ⟨5, .data⟩ (by simp) rfl
     have q133 : a.tmps[33]?.getD undef = .agg (intA an) := hI.val 5 _ 33 _ rfl rfl rfl d5
     have d6 : listed.getD 6 false = true := hdep ⟨6, .data⟩ (by simp) rfl
     have q134 : a.tmps[34]?.getD undef = .agg (intA (g an bd)) := hI.val 6 _ 34 _ rfl rfl rfl d6
     clear hdep hI ho
     go_simp
     refine (HQ.out _ _ _ ok3).mono ?_
     rintro e W1 ⟨rfl, hb⟩
     exact hK' (.agg (intA (q an (g an bd)))) W1 (fun u hu => oV hu) (hS.next hb 7 35 _ (by decide) (by decide) (by decide) (fun k hk => by obtain rfl := Option.some.inj (show some 5 = some k from hk); exact d5))
    ·obtain rfl := oI ho
     clear hdep hI ho
     go_simp
     exact hK' (.pointer (some ⟨w.heap.size, 0, none⟩)) _ (fun u hu => oV hu) (hS.next (Below.refl _ _) 8 36 _ (by decide) (by decide) (by decide) (fun k hk => by cases hk))
    ·obtain rfl := oI ho
     have d8 : listed.getD 8 false = true := hdep ⟨8, .data⟩ (by simp) rfl
     have q136 : a.tmps[36]?.getD undef = .pointer (some ⟨w.heap.size, 0, none⟩) := hI.val 8 _ 36 _ rfl rfl rfl d8
     have x0 : W.cell? ⟨w.heap.size, 0, none⟩ = _ := hS.base.c 1 (b := w.heap.size) (q := 0) (cs := intA bn) (by rw [← HL2.out]; rfl) 0 rfl
     have x1 : W.cell? ⟨w.heap.size, 1, none⟩ = _ := hS.base.c 1 (b := w.heap.size) (q := 0) (cs := intA bn) (by rw [← HL2.out]; rfl) 1 rfl
     have x2 : W.cell? ⟨w.heap.size, 2, none⟩ = _ := hS.base.c 1 (b := w.heap.size) (q := 0) (cs := intA bn) (by rw [← HL2.out]; rfl) 2 rfl
     have x3 : W.cell? ⟨w.heap.size, 3, none⟩ = _ := hS.base.c 1 (b := w.heap.size) (q := 0) (cs := intA bn) (by rw [← HL2.out]; rfl) 3 rfl
     have x4 : W.cell? ⟨w.heap.size, 4, none⟩ = _ := hS.base.c 1 (b := w.heap.size) (q := 0) (cs := intA bn) (by rw [← HL2.out]; rfl) 4 rfl
     clear hdep hI ho
     go_simp
     exact hK' (.agg (intA bn)) _ (fun u hu => oV hu) (hS.next (Below.refl _ _) 9 37 _ (by decide) (by decide) (by decide) (fun k hk => by cases hk))
    ·obtain rfl := oI ho
     have x0 : W.cell? ⟨B5, 0, none⟩ = _ := hS.base.c 4 (b := B5) (q := 0) (cs := intA (g bn ad)) (by rw [← HL2.out]; rfl) 0 rfl
     have x1 : W.cell? ⟨B5, 1, none⟩ = _ := hS.base.c 4 (b := B5) (q := 0) (cs := intA (g bn ad)) (by rw [← HL2.out]; rfl) 1 rfl
     have x2 : W.cell? ⟨B5, 2, none⟩ = _ := hS.base.c 4 (b := B5) (q := 0) (cs := intA (g bn ad)) (by rw [← HL2.out]; rfl) 2 rfl
     have x3 : W.cell? ⟨B5, 3, none⟩ = _ := hS.base.c 4 (b := B5) (q := 0) (cs := intA (g bn ad)) (by rw [← HL2.out]; rfl) 3 rfl
     have x4 : W.cell? ⟨B5, 4, none⟩ = _ := hS.base.c 4 (b := B5) (q := 0) (cs := intA (g bn ad)) (by rw [← HL2.out]; rfl) 4 rfl
     clear hdep hI ho
     go_simp
     exact hK' (.agg (intA (g bn ad))) _ (fun u hu => oV hu) (hS.next (Below.refl _ _) 10 38 _ (by decide) (by decide) (by decide) (fun k hk => by cases hk))
    ·obtain rfl := oI ho
     have d9 : listed.getD 9 false = true := hdep ⟨9, .data⟩ (by simp) rfl
     have q137 : a.tmps[37]?.getD undef = .agg (intA bn) := hI.val 9 _ 37 _ rfl rfl rfl d9
     have d10 : listed.getD 10 false = true := hdep ⟨10, .data⟩ (by simp) rfl
     have q138 : a.tmps[38]?.getD undef = .agg (intA (g bn ad)) := hI.val 10 _ 38 _ rfl rfl rfl d10
     clear hdep hI ho
     go_simp
     refine (HQ.out _ _ _ ok4).mono ?_
     rintro e W1 ⟨rfl, hb⟩
     exact hK' (.agg (intA (q bn (g bn ad)))) W1 (fun u hu => oV hu) (hS.next hb 11 39 _ (by decide) (by decide) (by decide) (fun k hk => by cases hk))
    ·obtain rfl := oI ho
     have d7 : listed.getD 7 false = true := hdep ⟨7, .data⟩ (by simp) rfl
     have q135 : a.tmps[35]?.getD undef = .agg (intA (q an (g an bd))) := hI.val 7 _ 35 _ rfl rfl rfl d7
     have d11 : listed.getD 11 false = true := hdep ⟨11, .data⟩ (by simp) rfl
     have q139 : a.tmps[39]?.getD undef = .agg (intA (q bn (g bn ad))) := hI.val 11 _ 39 _ rfl rfl rfl d11
     have hz := getD_no h0
     clear hdep hI ho
     go_simp
     exact hK' _ _ (fun u hu => nV hu) (hS.made hsz (fun k hk => by obtain rfl := Option.some.inj (show some 7 = some k from hk); exact d7) _ hz)
    ·obtain rfl := oI ho
     have d12 : listed.getD 12 false = true := hdep ⟨12, .data⟩ (by simp) rfl
     obtain ⟨B, hB', hr⟩ := hS.two d12 (hS.no20 (by omega) (getD_no h0))
     have q140 : a.tmps[40]?.getD undef = .slice (some ⟨B, 0, none⟩) 2 2 := hB'
     have HR := Lib.hid hr
     have HS := Lib.hid hS
     clear hdep hI ho hr hB' hS hsz
     go_simp
     have hS := HS.out
     refine (HM.out (q an (g an bd)) (q bn (g bn ad)) W B ok7 HR.out).mono ?_
     rintro e W1 ⟨rfl, hb⟩
     exact hK' (.tuple #[.agg (intA (m (q an (g an bd)) (q bn (g bn ad)))), .int .i64 0]) W1 (fun u hu => oV hu) (hS.next hb 13 41 _ (by decide) (by decide) (by decide) (fun k hk => by obtain rfl := Option.some.inj (show some 12 = some k from hk); exact d12))
    ·obtain rfl := oI ho
     have d13 : listed.getD 13 false = true := hdep ⟨13, .data⟩ (by simp) rfl
     have q141 : a.tmps[41]?.getD undef = .tuple #[.agg (intA (m (q an (g an bd)) (q bn (g bn ad)))), .int .i64 0] := hI.val 13 _ 41 _ rfl rfl rfl d13
     clear hdep hI ho
     go_simp
     exact hK' (.agg (intA (m (q an (g an bd)) (q bn (g bn ad))))) _ (fun u hu => oV hu) (hS.next (Below.refl _ _) 14 42 _ (by decide) (by decide) (by decide) (fun k hk => by obtain rfl := Option.some.inj (show some 13 = some k from hk); exact d13))
    ·obtain rfl := oI ho
     have d13 : listed.getD 13 false = true := hdep ⟨13, .data⟩ (by simp) rfl
     have q141 : a.tmps[41]?.getD undef = .tuple #[.agg (intA (m (q an (g an bd)) (q bn (g bn ad)))), .int .i64 0] := hI.val 13 _ 41 _ rfl rfl rfl d13
     clear hdep hI ho
     go_simp
     exact hK' (.int .i64 0) _ (fun u hu => oV hu) (hS.next (Below.refl _ _) 15 43 _ (by decide) (by decide) (by decide) (fun k hk => by cases hk))
    ·obtain rfl := oI ho
     have d14 : listed.getD 14 false = true := hdep ⟨14, .data⟩ (by simp) rfl
     have q142 : a.tmps[42]?.getD undef = .agg (intA (m (q an (g an bd)) (q bn (g bn ad)))) := hI.val 14 _ 42 _ rfl rfl rfl d14
     have d15 : listed.getD 15 false = true := hdep ⟨15, .data⟩ (by simp) rfl
     have q143 : a.tmps[43]?.getD undef = .int .i64 0 := hI.val 15 _ 43 _ rfl rfl rfl d15
     clear hdep hI ho
     go_simp
     refine (must_z _ _).mono ?_
     rintro e W1 ⟨rfl, hb⟩
     exact hK' (.agg (intA (m (q an (g an bd)) (q bn (g bn ad))))) W1 (fun u hu => oV hu) (hS.next hb 16 44 _ (by decide) (by decide) (by decide) (fun k hk => by obtain rfl := Option.some.inj (show some 14 = some k from hk); exact d14))
    ·obtain rfl := oI ho
     have d0 : listed.getD 0 false = true := hdep ⟨0, .data⟩ (by simp) rfl
     have q128 : a.tmps[28]?.getD undef = .pointer (some ⟨X, 0, none⟩) := hI.val 0 _ 28 _ rfl rfl rfl d0
     clear hdep hI ho
     go_simp
     exact hK' (.pointer (some ⟨X, 0, none⟩)) _ (fun u hu => oV hu) (hS.next (Below.refl _ _) 17 45 _ (by decide) (by decide) (by decide) (fun k hk => by cases hk))
    ·obtain rfl := oI ho
     have d17 : listed.getD 17 false = true := hdep ⟨17, .data⟩ (by simp) rfl
     have q145 : a.tmps[45]?.getD undef = .pointer (some ⟨X, 0, none⟩) := hI.val 17 _ 45 _ rfl rfl rfl d17
     clear hdep hI ho
     go_simp
     exact hK' (.pointer (some ⟨X, 0, none⟩)) _ (fun u hu => oV hu) (hS.next (Below.refl _ _) 18 46 _ (by decide) (by decide) (by decide) (fun k hk => by cases hk))
    ·obtain rfl := oI ho
     have d18 : listed.getD 18 false = true := hdep ⟨18, .data⟩ (by simp) rfl
     have q146 : a.tmps[46]?.getD undef = .pointer (some ⟨X, 0, none⟩) := hI.val 18 _ 46 _ rfl rfl rfl d18
     clear hdep hI ho
     go_simp
     exact hK' (.pointer (some ⟨X, 0, none⟩)) _ (fun u hu => oV hu) (hS.next (Below.refl _ _) 19 47 _ (by decide) (by decide) (by decide) (fun k hk => by cases hk))
    ·obtain rfl := oI ho
     have d16 : listed.getD 16 false = true := hdep ⟨16, .data⟩ (by simp) rfl
     have q144 : a.tmps[44]?.getD undef = .agg (intA (m (q an (g an bd)) (q bn (g bn ad)))) := hI.val 16 _ 44 _ rfl rfl rfl d16
     have d19 : listed.getD 19 false = true := hdep ⟨19, .data⟩ (by simp) rfl
     have q147 : a.tmps[47]?.getD undef = .pointer (some ⟨X, 0, none⟩) := hI.val 19 _ 47 _ rfl rfl rfl d19
     have x0 := hS.base.here 0 (by decide)
     have f0 := hS.base.free 0 (by decide)
     have x1 := hS.base.here 1 (by decide)
     have f1 := hS.base.free 1 (by decide)
     have x2 := hS.base.here 2 (by decide)
     have f2 := hS.base.free 2 (by decide)
     have x3 := hS.base.here 3 (by decide)
     have f3 := hS.base.free 3 (by decide)
     have x4 := hS.base.here 4 (by decide)
     have f4 := hS.base.free 4 (by decide)
     clear hdep hI ho
     go_simp
     exact hK' undef _ (fun u hu => nV hu) (hS.put hls (fun k hk => by obtain rfl := Option.some.inj (show some 16 = some k from hk); exact d16) _)
   ·intro listed a W hI hall
    have hrN := hI.world.done (hall 20 (by decide))
    have hbase := hI.world.base
    have hdef := hI.defers
    obtain ⟨x0, x1, x2, x3, x4, x5, x6, x7, x8, x9, x10, x11, x12, x13, x14, x15, x16, x17, x18, x19, x20, x21, x22, x23, x24, x25, x26, x27, x28, x29, x30, x31, x32, x33, x34, x35, x36, x37, x38, x39, x40, x41, x42, x43, x44, x45, x46, x47, x48, x49, x50, x51, x52, x53, x54, x55, x56, x57, x58, x59, x60, x61, x62, x63, x64, x65, x66, x67, hx⟩ := arr68 a.tmps hI.size
    obtain ⟨tmps, defers⟩ := a
    simp only at hx hdef
    subst hx
    subst hdef
    have e0 : x0 = .pointer (some ⟨X, 0, none⟩) := hI.old 0 (noDst_spec (by kernel_rfl))
    subst x0
    have e1 : x1 = .agg (ratA bn bd) := hI.old 1 (noDst_spec (by kernel_rfl))
    subst x1
    have e2 : x2 = undef := hI.old 2 (noDst_spec (by kernel_rfl))
    subst x2
    have e3 : x3 = .pointer (some ⟨w.heap.size, 0, none⟩) := hI.old 3 (noDst_spec (by kernel_rfl))
    subst x3
    have e4 : x4 = .pointer (some ⟨B4, 0, none⟩) := hI.old 4 (noDst_spec (by kernel_rfl))
    subst x4
    have e5 : x5 = .pointer (some ⟨B5, 0, none⟩) := hI.old 5 (noDst_spec (by kernel_rfl))
    subst x5
    have e6 : x6 = u6 := hI.old 6 (noDst_spec (by kernel_rfl))
    subst x6
    have e7 : x7 = u7 := hI.old 7 (noDst_spec (by kernel_rfl))
    subst x7
    have e8 : x8 = u8 := hI.old 8 (noDst_spec (by kernel_rfl))
    subst x8
    have e9 : x9 = u9 := hI.old 9 (noDst_spec (by kernel_rfl))
    subst x9
    have e10 : x10 = u10 := hI.old 10 (noDst_spec (by kernel_rfl))
    subst x10
    have e11 : x11 = u11 := hI.old 11 (noDst_spec (by kernel_rfl))
    subst x11
    have e12 : x12 = u12 := hI.old 12 (noDst_spec (by kernel_rfl))
    subst x12
    have e13 : x13 = u13 := hI.old 13 (noDst_spec (by kernel_rfl))
    subst x13
    have e14 : x14 = u14 := hI.old 14 (noDst_spec (by kernel_rfl))
    subst x14
    have e15 : x15 = u15 := hI.old 15 (noDst_spec (by kernel_rfl))
    subst x15
    have e16 : x16 = u16 := hI.old 16 (noDst_spec (by kernel_rfl))
    subst x16
    have e17 : x17 = u17 := hI.old 17 (noDst_spec (by kernel_rfl))
    subst x17
    have e18 : x18 = u18 := hI.old 18 (noDst_spec (by kernel_rfl))
    subst x18
    have e19 : x19 = u19 := hI.old 19 (noDst_spec (by kernel_rfl))
    subst x19
    have e20 : x20 = u20 := hI.old 20 (noDst_spec (by kernel_rfl))
    subst x20
    have e21 : x21 = u21 := hI.old 21 (noDst_spec (by kernel_rfl))
    subst x21
    have e22 : x22 = u22 := hI.old 22 (noDst_spec (by kernel_rfl))
    subst x22
    have e23 : x23 = u23 := hI.old 23 (noDst_spec (by kernel_rfl))
    subst x23
    have e24 : x24 = u24 := hI.old 24 (noDst_spec (by kernel_rfl))
    subst x24
    have e25 : x25 = u25 := hI.old 25 (noDst_spec (by kernel_rfl))
    subst x25
    have e26 : x26 = u26 := hI.old 26 (noDst_spec (by kernel_rfl))
    subst x26
    have e27 : x27 = u27 := hI.old 27 (noDst_spec (by kernel_rfl))
    subst x27
    have e48 : x48 = undef := hI.old 48 (noDst_spec (by kernel_rfl))
    subst x48
    have e49 : x49 = undef := hI.old 49 (noDst_spec (by kernel_rfl))
    subst x49
    have e50 : x50 = undef := hI.old 50 (noDst_spec (by kernel_rfl))
    subst x50
    have e51 : x51 = undef := hI.old 51 (noDst_spec (by kernel_rfl))
    subst x51
    have e52 : x52 = undef := hI.old 52 (noDst_spec (by kernel_rfl))
    subst x52
    have e53 : x53 = undef := hI.old 53 (noDst_spec (by kernel_rfl))
    subst x53
    have e54 : x54 = undef := hI.old 54 (noDst_spec (by kernel_rfl))
    subst x54
    have e55 : x55 = undef := hI.old 55 (noDst_spec (by kernel_rfl))
    subst x55
    have e56 : x56 = undef := hI.old 56 (noDst_spec (by kernel_rfl))
    subst x56
    have e57 : x57 = undef := hI.old 57 (noDst_spec (by kernel_rfl))
    subst x57
    have e58 : x58 = undef := hI.old 58 (noDst_spec (by kernel_rfl))
    subst x58
    have e59 : x59 = undef := hI.old 59 (noDst_spec (by kernel_rfl))
    subst x59
    have e60 : x60 = undef := hI.old 60 (noDst_spec (by kernel_rfl))
    subst x60
    have e61 : x61 = undef := hI.old 61 (noDst_spec (by kernel_rfl))
    subst x61
    have e62 : x62 = undef := hI.old 62 (noDst_spec (by kernel_rfl))
    subst x62
    have e63 : x63 = undef := hI.old 63 (noDst_spec (by kernel_rfl))
    subst x63
    have e64 : x64 = undef := hI.old 64 (noDst_spec (by kernel_rfl))
    subst x64
    have e65 : x65 = undef := hI.old 65 (noDst_spec (by kernel_rfl))
    subst x65
    have e66 : x66 = undef := hI.old 66 (noDst_spec (by kernel_rfl))
    subst x66
    have e67 : x67 = undef := hI.old 67 (noDst_spec (by kernel_rfl))
    subst x67
    go_wp2_with fail
    go_meet
    exact Lib.hid ⟨hbase, hrN⟩
  case rest =>
   obtain ⟨hK2', rN⟩ := hcut.out
   clear hcut hK2
   rename_i W3
   have q0 := hK2'.1 (X, 5, intA ad) (by rw [← HL2.out]; simp)
   have q2 := hK2'.1 (w.heap.size, 5, intA bd) (by rw [← HL2.out]; simp)
   have q3 := hK2'.1 (B4, 0, intA (g an bd)) (by rw [← HL2.out]; simp)
   have q4 := hK2'.1 (B5, 0, intA (g bn ad)) (by rw [← HL2.out]; simp)
   have hx3 := q0.2.1
   have hK3 : KR V X [(X, 0, intA (m (q an (g an bd)) (q bn (g bn ad)))), (w.heap.size, 5, intA bd), (B4, 0, intA (g an bd)), (B5, 0, intA (g bn ad))] 5 5 wc := by
    refine ⟨fun p hp => ?_, ⟨hK2'.2.1.1, hK2'.2.1.2.1, by decide⟩, hK2'.2.2⟩
    simp only [List.mem_cons, List.not_mem_nil, or_false] at hp
    rcases hp with rfl | rfl | rfl | rfl
    ·exact ⟨hK2'.2.1.1, rN, .inr (.inl (Nat.le_refl 5))⟩
    ·exact ⟨q2.1, q2.2.1, .inl (Ne.symm (Nat.ne_of_lt hXw))⟩
    ·exact ⟨q3.1, q3.2.1, .inl (Ne.symm n4)⟩
    ·exact ⟨q4.1, q4.2.1, .inl (Ne.symm n5)⟩
   clear q0 q2 q3 q4 rN hK2' hx2 ok3 ok4 ok7
   generalize hL3 : [(X, 0, intA (m (q an (g an bd)) (q bn (g bn ad)))), (w.heap.size, 5, intA bd), (B4, 0, intA (g an bd)), (B5, 0, intA (g bn ad))] = L3 at hK3
   have HL3 := Lib.hid hL3
   clear hL3
   go_upto_region 3 with fail
   refine wp_region_mid (by kernel_rfl) (fun i => match i with
    | 0 => some (.pointer (some ⟨X, 0, none⟩))
    | 1 => some (.pointer (some ⟨X, 0, none⟩))
    | 2 => some (.pointer (some ⟨X, 0, none⟩))
    | 3 => some (.pointer (some ⟨X, 0, none⟩))
    | 4 => some (.pointer (some ⟨X, 5, none⟩))
    | 5 => some (.agg (intA ad))
    | 6 => some (.agg (intA (g bn ad)))
    | 7 => some (.agg (intA (q ad (g bn ad))))
    | 8 => some (.pointer (some ⟨w.heap.size, 5, none⟩))
    | 9 => some (.agg (intA bd))
    | 10 => some (.agg (intA (g an bd)))
    | 11 => some (.agg (intA (q bd (g an bd))))
    | 13 => some (.tuple #[.agg (intA (m (q ad (g bn ad)) (q bd (g an bd)))), .int .i64 0])
    | 14 => some (.agg (intA (m (q ad (g bn ad)) (q bd (g an bd)))))
    | 15 => some (.int .i64 0)
    | 16 => some (.agg (intA (m (q ad (g bn ad)) (q bd (g an bd)))))
    | 17 => some (.pointer (some ⟨X, 0, none⟩))
    | 18 => some (.pointer (some ⟨X, 0, none⟩))
    | 19 => some (.pointer (some ⟨X, 5, none⟩))
    | _ => none) (TimesS V X L3 5 60 ad (m (q ad (g bn ad)) (q bd (g an bd))) [.bool (decide ((q ad (g bn ad)) < 0)), .int .u64 (W64 ((q ad (g bn ad))).natAbs 0 : Nat), .int .u64 (W64 ((q ad (g bn ad))).natAbs 1 : Nat), .int .u64 (W64 ((q ad (g bn ad))).natAbs 2 : Nat), .int .u64 (W64 ((q ad (g bn ad))).natAbs 3 : Nat), .bool (decide ((q bd (g an bd)) < 0)), .int .u64 (W64 ((q bd (g an bd))).natAbs 0 : Nat), .int .u64 (W64 ((q bd (g an bd))).natAbs 1 : Nat), .int .u64 (W64 ((q bd (g an bd))).natAbs 2 : Nat), .int .u64 (W64 ((q bd (g an bd))).natAbs 3 : Nat)]) (by kernel_rfl) (TimesS.start hK3.drew ((World.rangeAt_drew _ _ _ _).2 hx3) _) ?_ ?_
   ·intro listed a W i o hI ho h0 hdep K hK'
    have hi : i < 21 := (Array.getElem?_eq_some_iff.1 ho).1
    have hS := hI.world
    have hls : listed.size = 21 := hI.lsize
    have hsz : 60 < a.tmps.size := by rw [hI.size]; show (60 : Nat) < 68; decide
    have q0 : a.tmps[0]?.getD undef = .pointer (some ⟨X, 0, none⟩) := hI.old 0 (noDst_spec (by kernel_rfl))
    have q3 : a.tmps[3]?.getD undef = .pointer (some ⟨w.heap.size, 0, none⟩) := hI.old 3 (noDst_spec (by kernel_rfl))
    have q4 : a.tmps[4]?.getD undef = .pointer (some ⟨B4, 0, none⟩) := hI.old 4 (noDst_spec (by kernel_rfl))
    have q5 : a.tmps[5]?.getD undef = .pointer (some ⟨B5, 0, none⟩) := hI.old 5 (noDst_spec (by kernel_rfl))
    have hcase : i = 0 ∨ i = 1 ∨ i = 2 ∨ i = 3 ∨ i = 4 ∨ i = 5 ∨ i = 6 ∨ i = 7 ∨ i = 8 ∨ i = 9 ∨ i = 10 ∨ i = 11 ∨ i = 12 ∨ i = 13 ∨ i = 14 ∨ i = 15 ∨ i = 16 ∨ i = 17 ∨ i = 18 ∨ i = 19 ∨ i = 20 := by omega
    clear hi
    rcases hcase with rfl | rfl | rfl | rfl | rfl | rfl | rfl | rfl | rfl | rfl | rfl | rfl | rfl | rfl | rfl | rfl | rfl | rfl | rfl | rfl | rfl
    ·obtain rfl := oI ho
     clear hdep hI ho
     go_simp
     exact hK' (.pointer (some ⟨X, 0, none⟩)) _ (fun u hu => oV hu) (hS.next (Below.refl _ _) 0 48 _ (by decide) (by decide) (by decide) (fun k hk => by cases hk))
    ·obtain rfl := oI ho
     clear hdep hI ho
     go_simp
     exact hK' (.pointer (some ⟨X, 0, none⟩)) _ (fun u hu => oV hu) (hS.next (Below.refl _ _) 1 49 _ (by decide) (by decide) (by decide) (fun k hk => by cases hk))
    ·obtain rfl := oI ho
     have d1 : listed.getD 1 false = true := hdep ⟨1, .data⟩ (by simp) rfl
     have q149 : a.tmps[49]?.getD undef = .pointer (some ⟨X, 0, none⟩) := hI.val 1 _ 49 _ rfl rfl rfl d1
     clear hdep hI ho
     go_simp
     exact hK' (.pointer (some ⟨X, 0, none⟩)) _ (fun u hu => oV hu) (hS.next (Below.refl _ _) 2 50 _ (by decide) (by decide) (by decide) (fun k hk => by cases hk))
    ·obtain rfl := oI ho
     have d2 : listed.getD 2 false = true := hdep ⟨2, .data⟩ (by simp) rfl
     have q150 : a.tmps[50]?.getD undef = .pointer (some ⟨X, 0, none⟩) := hI.val 2 _ 50 _ rfl rfl rfl d2
     clear hdep hI ho
     go_simp
     exact hK' (.pointer (some ⟨X, 0, none⟩)) _ (fun u hu => oV hu) (hS.next (Below.refl _ _) 3 51 _ (by decide) (by decide) (by decide) (fun k hk => by cases hk))
    ·obtain rfl := oI ho
     have d3 : listed.getD 3 false = true := hdep ⟨3, .data⟩ (by simp) rfl
     have q151 : a.tmps[51]?.getD undef = .pointer (some ⟨X, 0, none⟩) := hI.val 3 _ 51 _ rfl rfl rfl d3
     clear hdep hI ho
     go_simp
     exact hK' (.pointer (some ⟨X, 5, none⟩)) _ (fun u hu => oV hu) (hS.next (Below.refl _ _) 4 52 _ (by decide) (by decide) (by decide) (fun k hk => by cases hk))
    ·obtain rfl := oI ho
     have d4 : listed.getD 4 false = true := hdep ⟨4, .data⟩ (by simp) rfl
     have q152 : a.tmps[52]?.getD undef = .pointer (some ⟨X, 5, none⟩) := hI.val 4 _ 52 _ rfl rfl rfl d4
     have hr := hS.here (hS.no20 (by omega) (getD_no h0))
     have x0 : W.cell? ⟨X, 5, none⟩ = _ := hr 0 _ rfl
     have x1 : W.cell? ⟨X, 6, none⟩ = _ := hr 1 _ rfl
     have x2 : W.cell? ⟨X, 7, none⟩ = _ := hr 2 _ rfl
     have x3 : W.cell? ⟨X, 8, none⟩ = _ := hr 3 _ rfl
     have x4 : W.cell? ⟨X, 9, none⟩ = _ := hr 4 _ rfl
     clear hdep hI ho hr
     go_simp
     exact hK' (.agg (intA ad)) _ (fun u hu => oV hu) (hS.next (Below.refl _ _) 5 53 _ (by decide) (by decide) (by decide) (fun k hk => by cases hk))
    ·obtain rfl := oI ho
     have x0 : W.cell? ⟨B5, 0, none⟩ = _ := hS.base.c 3 (b := B5) (q := 0) (cs := intA (g bn ad)) (by rw [← HL3.out]; rfl) 0 rfl
     have x1 : W.cell? ⟨B5, 1, none⟩ = _ := hS.base.c 3 (b := B5) (q := 0) (cs := intA (g bn ad)) (by rw [← HL3.out]; rfl) 1 rfl
     have x2 : W.cell? ⟨B5, 2, none⟩ = _ := hS.base.c 3 (b := B5) (q := 0) (cs := intA (g bn ad)) (by rw [← HL3.out]; rfl) 2 rfl
     have x3 : W.cell? ⟨B5, 3, none⟩ = _ := hS.base.c 3 (b := B5) (q := 0) (cs := intA (g bn ad)) (by rw [← HL3.out]; rfl) 3 rfl
     have x4 : W.cell? ⟨B5, 4, none⟩ = _ := hS.base.c 3 (b := B5) (q := 0) (cs := intA (g bn ad)) (by rw [← HL3.out]; rfl) 4 rfl
     clear hdep hI ho
     go_simp
     exact hK' (.agg (intA (g bn ad))) _ (fun u hu => oV hu) (hS.next (Below.refl _ _) 6 54 _ (by decide) (by decide) (by decide) (fun k hk => by cases hk))
    ·obtain rfl := oI ho
     have d5 : listed.getD 5 false = true := hdep ⟨5, .data⟩ (by simp) rfl
     have q153 : a.tmps[53]?.getD undef = .agg (intA ad) := hI.val 5 _ 53 _ rfl rfl rfl d5
     have d6 : listed.getD 6 false = true := hdep ⟨6, .data⟩ (by simp) rfl
     have q154 : a.tmps[54]?.getD undef = .agg (intA (g bn ad)) := hI.val 6 _ 54 _ rfl rfl rfl d6
     clear hdep hI ho
     go_simp
     refine (HQ.out _ _ _ ok5).mono ?_
     rintro e W1 ⟨rfl, hb⟩
     exact hK' (.agg (intA (q ad (g bn ad)))) W1 (fun u hu => oV hu) (hS.next hb 7 55 _ (by decide) (by decide) (by decide) (fun k hk => by obtain rfl := Option.some.inj (show some 5 = some k from hk); exact d5))
    ·obtain rfl := oI ho
     clear hdep hI ho
     go_simp
     exact hK' (.pointer (some ⟨w.heap.size, 5, none⟩)) _ (fun u hu => oV hu) (hS.next (Below.refl _ _) 8 56 _ (by decide) (by decide) (by decide) (fun k hk => by cases hk))
    ·obtain rfl := oI ho
     have d8 : listed.getD 8 false = true := hdep ⟨8, .data⟩ (by simp) rfl
     have q156 : a.tmps[56]?.getD undef = .pointer (some ⟨w.heap.size, 5, none⟩) := hI.val 8 _ 56 _ rfl rfl rfl d8
     have x0 : W.cell? ⟨w.heap.size, 5, none⟩ = _ := hS.base.c 1 (b := w.heap.size) (q := 5) (cs := intA bd) (by rw [← HL3.out]; rfl) 0 rfl
     have x1 : W.cell? ⟨w.heap.size, 6, none⟩ = _ := hS.base.c 1 (b := w.heap.size) (q := 5) (cs := intA bd) (by rw [← HL3.out]; rfl) 1 rfl
     have x2 : W.cell? ⟨w.heap.size, 7, none⟩ = _ := hS.base.c 1 (b := w.heap.size) (q := 5) (cs := intA bd) (by rw [← HL3.out]; rfl) 2 rfl
     have x3 : W.cell? ⟨w.heap.size, 8, none⟩ = _ := hS.base.c 1 (b := w.heap.size) (q := 5) (cs := intA bd) (by rw [← HL3.out]; rfl) 3 rfl
     have x4 : W.cell? ⟨w.heap.size, 9, none⟩ = _ := hS.base.c 1 (b := w.heap.size) (q := 5) (cs := intA bd) (by rw [← HL3.out]; rfl) 4 rfl
     clear hdep hI ho
     go_simp
     exact hK' (.agg (intA bd)) _ (fun u hu => oV hu) (hS.next (Below.refl _ _) 9 57 _ (by decide) (by decide) (by decide) (fun k hk => by cases hk))
    ·obtain rfl := oI ho
     have x0 : W.cell? ⟨B4, 0, none⟩ = _ := hS.base.c 2 (b := B4) (q := 0) (cs := intA (g an bd)) (by rw [← HL3.out]; rfl) 0 rfl
     have x1 : W.cell? ⟨B4, 1, none⟩ = _ := hS.base.c 2 (b := B4) (q := 0) (cs := intA (g an bd)) (by rw [← HL3.out]; rfl) 1 rfl
     have x2 : W.cell? ⟨B4, 2, none⟩ = _ := hS.base.c 2 (b := B4) (q := 0) (cs := intA (g an bd)) (by rw [← HL3.out]; rfl) 2 rfl
     have x3 : W.cell? ⟨B4, 3, none⟩ = _ := hS.base.c 2 (b := B4) (q := 0) (cs := intA (g an bd)) (by rw [← HL3.out]; rfl) 3 rfl
     have x4 : W.cell? ⟨B4, 4, none⟩ = _ := hS.base.c 2 (b := B4) (q := 0) (cs := intA (g an bd)) (by rw [← HL3.out]; rfl) 4 rfl
     clear hdep hI ho
     go_simp
     exact hK' (.agg (intA (g an bd))) _ (fun u hu => oV hu) (hS.next (Below.refl _ _) 10 58 _ (by decide) (by decide) (by decide) (fun k hk => by cases hk))
    ·obtain rfl := oI ho
     have d9 : listed.getD 9 false = true := hdep ⟨9, .data⟩ (by simp) rfl
     have q157 : a.tmps[57]?.getD undef = .agg (intA bd) := hI.val 9 _ 57 _ rfl rfl rfl d9
     have d10 : listed.getD 10 false = true := hdep ⟨10, .data⟩ (by simp) rfl
     have q158 : a.tmps[58]?.getD undef = .agg (intA (g an bd)) := hI.val 10 _ 58 _ rfl rfl rfl d10
     clear hdep hI ho
     go_simp
     refine (HQ.out _ _ _ ok6).mono ?_
     rintro e W1 ⟨rfl, hb⟩
     exact hK' (.agg (intA (q bd (g an bd)))) W1 (fun u hu => oV hu) (hS.next hb 11 59 _ (by decide) (by decide) (by decide) (fun k hk => by cases hk))
    ·obtain rfl := oI ho
     have d7 : listed.getD 7 false = true := hdep ⟨7, .data⟩ (by simp) rfl
     have q155 : a.tmps[55]?.getD undef = .agg (intA (q ad (g bn ad))) := hI.val 7 _ 55 _ rfl rfl rfl d7
     have d11 : listed.getD 11 false = true := hdep ⟨11, .data⟩ (by simp) rfl
     have q159 : a.tmps[59]?.getD undef = .agg (intA (q bd (g an bd))) := hI.val 11 _ 59 _ rfl rfl rfl d11
     have hz := getD_no h0
     clear hdep hI ho
     go_simp
     exact hK' _ _ (fun u hu => nV hu) (hS.made hsz (fun k hk => by obtain rfl := Option.some.inj (show some 7 = some k from hk); exact d7) _ hz)
    ·obtain rfl := oI ho
     have d12 : listed.getD 12 false = true := hdep ⟨12, .data⟩ (by simp) rfl
     obtain ⟨B, hB', hr⟩ := hS.two d12 (hS.no20 (by omega) (getD_no h0))
     have q160 : a.tmps[60]?.getD undef = .slice (some ⟨B, 0, none⟩) 2 2 := hB'
     have HR := Lib.hid hr
     have HS := Lib.hid hS
     clear hdep hI ho hr hB' hS hsz
     go_simp
     have hS := HS.out
     refine (HM.out (q ad (g bn ad)) (q bd (g an bd)) W B ok8 HR.out).mono ?_
     rintro e W1 ⟨rfl, hb⟩
     exact hK' (.tuple #[.agg (intA (m (q ad (g bn ad)) (q bd (g an bd)))), .int .i64 0]) W1 (fun u hu => oV hu) (hS.next hb 13 61 _ (by decide) (by decide) (by decide) (fun k hk => by obtain rfl := Option.some.inj (show some 12 = some k from hk); exact d12))
    ·obtain rfl := oI ho
     have d13 : listed.getD 13 false = true := hdep ⟨13, .data⟩ (by simp) rfl
     have q161 : a.tmps[61]?.getD undef = .tuple #[.agg (intA (m (q ad (g bn ad)) (q bd (g an bd)))), .int .i64 0] := hI.val 13 _ 61 _ rfl rfl rfl d13
     clear hdep hI ho
     go_simp
     exact hK' (.agg (intA (m (q ad (g bn ad)) (q bd (g an bd))))) _ (fun u hu => oV hu) (hS.next (Below.refl _ _) 14 62 _ (by decide) (by decide) (by decide) (fun k hk => by obtain rfl := Option.some.inj (show some 13 = some k from hk); exact d13))
    ·obtain rfl := oI ho
     have d13 : listed.getD 13 false = true := hdep ⟨13, .data⟩ (by simp) rfl
     have q161 : a.tmps[61]?.getD undef = .tuple #[.agg (intA (m (q ad (g bn ad)) (q bd (g an bd)))), .int .i64 0] := hI.val 13 _ 61 _ rfl rfl rfl d13
     clear hdep hI ho
     go_simp
     exact hK' (.int .i64 0) _ (fun u hu => oV hu) (hS.next (Below.refl _ _) 15 63 _ (by decide) (by decide) (by decide) (fun k hk => by cases hk))
    ·obtain rfl := oI ho
     have d14 : listed.getD 14 false = true := hdep ⟨14, .data⟩ (by simp) rfl
     have q162 : a.tmps[62]?.getD undef = .agg (intA (m (q ad (g bn ad)) (q bd (g an bd)))) := hI.val 14 _ 62 _ rfl rfl rfl d14
     have d15 : listed.getD 15 false = true := hdep ⟨15, .data⟩ (by simp) rfl
     have q163 : a.tmps[63]?.getD undef = .int .i64 0 := hI.val 15 _ 63 _ rfl rfl rfl d15
     clear hdep hI ho
     go_simp
     refine (must_z _ _).mono ?_
     rintro e W1 ⟨rfl, hb⟩
     exact hK' (.agg (intA (m (q ad (g bn ad)) (q bd (g an bd))))) W1 (fun u hu => oV hu) (hS.next hb 16 64 _ (by decide) (by decide) (by decide) (fun k hk => by obtain rfl := Option.some.inj (show some 14 = some k from hk); exact d14))
    ·obtain rfl := oI ho
     have d0 : listed.getD 0 false = true := hdep ⟨0, .data⟩ (by simp) rfl
     have q148 : a.tmps[48]?.getD undef = .pointer (some ⟨X, 0, none⟩) := hI.val 0 _ 48 _ rfl rfl rfl d0
     clear hdep hI ho
     go_simp
     exact hK' (.pointer (some ⟨X, 0, none⟩)) _ (fun u hu => oV hu) (hS.next (Below.refl _ _) 17 65 _ (by decide) (by decide) (by decide) (fun k hk => by cases hk))
    ·obtain rfl := oI ho
     have d17 : listed.getD 17 false = true := hdep ⟨17, .data⟩ (by simp) rfl
     have q165 : a.tmps[65]?.getD undef = .pointer (some ⟨X, 0, none⟩) := hI.val 17 _ 65 _ rfl rfl rfl d17
     clear hdep hI ho
     go_simp
     exact hK' (.pointer (some ⟨X, 0, none⟩)) _ (fun u hu => oV hu) (hS.next (Below.refl _ _) 18 66 _ (by decide) (by decide) (by decide) (fun k hk => by cases hk))
    ·obtain rfl := oI ho
     have d18 : listed.getD 18 false = true := hdep ⟨18, .data⟩ (by simp) rfl
     have q166 : a.tmps[66]?.getD undef = .pointer (some ⟨X, 0, none⟩) := hI.val 18 _ 66 _ rfl rfl rfl d18
     clear hdep hI ho
     go_simp
     exact hK' (.pointer (some ⟨X, 5, none⟩)) _ (fun u hu => oV hu) (hS.next (Below.refl _ _) 19 67 _ (by decide) (by decide) (by decide) (fun k hk => by cases hk))
    ·obtain rfl := oI ho
     have d16 : listed.getD 16 false = true := hdep ⟨16, .data⟩ (by simp) rfl
     have q164 : a.tmps[64]?.getD undef = .agg (intA (m (q ad (g bn ad)) (q bd (g an bd)))) := hI.val 16 _ 64 _ rfl rfl rfl d16
     have d19 : listed.getD 19 false = true := hdep ⟨19, .data⟩ (by simp) rfl
     have q167 : a.tmps[67]?.getD undef = .pointer (some ⟨X, 5, none⟩) := hI.val 19 _ 67 _ rfl rfl rfl d19
     have x0 := hS.base.here 5 (by decide)
     have f0 := hS.base.free 5 (by decide)
     have x1 := hS.base.here 6 (by decide)
     have f1 := hS.base.free 6 (by decide)
     have x2 := hS.base.here 7 (by decide)
     have f2 := hS.base.free 7 (by decide)
     have x3 := hS.base.here 8 (by decide)
     have f3 := hS.base.free 8 (by decide)
     have x4 := hS.base.here 9 (by decide)
     have f4 := hS.base.free 9 (by decide)
     clear hdep hI ho
     go_simp
     exact hK' undef _ (fun u hu => nV hu) (hS.put hls (fun k hk => by obtain rfl := Option.some.inj (show some 16 = some k from hk); exact d16) _)
   ·intro listed a W hI hall
    have hrN := hI.world.done (hall 20 (by decide))
    have hbase := hI.world.base
    have hdef := hI.defers
    obtain ⟨x0, x1, x2, x3, x4, x5, x6, x7, x8, x9, x10, x11, x12, x13, x14, x15, x16, x17, x18, x19, x20, x21, x22, x23, x24, x25, x26, x27, x28, x29, x30, x31, x32, x33, x34, x35, x36, x37, x38, x39, x40, x41, x42, x43, x44, x45, x46, x47, x48, x49, x50, x51, x52, x53, x54, x55, x56, x57, x58, x59, x60, x61, x62, x63, x64, x65, x66, x67, hx⟩ := arr68 a.tmps hI.size
    obtain ⟨tmps, defers⟩ := a
    simp only at hx hdef
    subst hx
    subst hdef
    have e0 : x0 = .pointer (some ⟨X, 0, none⟩) := hI.old 0 (noDst_spec (by kernel_rfl))
    subst x0
    have e1 : x1 = .agg (ratA bn bd) := hI.old 1 (noDst_spec (by kernel_rfl))
    subst x1
    have e2 : x2 = undef := hI.old 2 (noDst_spec (by kernel_rfl))
    subst x2
    have e3 : x3 = .pointer (some ⟨w.heap.size, 0, none⟩) := hI.old 3 (noDst_spec (by kernel_rfl))
    subst x3
    have e4 : x4 = .pointer (some ⟨B4, 0, none⟩) := hI.old 4 (noDst_spec (by kernel_rfl))
    subst x4
    have e5 : x5 = .pointer (some ⟨B5, 0, none⟩) := hI.old 5 (noDst_spec (by kernel_rfl))
    subst x5
    have e6 : x6 = u6 := hI.old 6 (noDst_spec (by kernel_rfl))
    subst x6
    have e7 : x7 = u7 := hI.old 7 (noDst_spec (by kernel_rfl))
    subst x7
    have e8 : x8 = u8 := hI.old 8 (noDst_spec (by kernel_rfl))
    subst x8
    have e9 : x9 = u9 := hI.old 9 (noDst_spec (by kernel_rfl))
    subst x9
    have e10 : x10 = u10 := hI.old 10 (noDst_spec (by kernel_rfl))
    subst x10
    have e11 : x11 = u11 := hI.old 11 (noDst_spec (by kernel_rfl))
    subst x11
    have e12 : x12 = u12 := hI.old 12 (noDst_spec (by kernel_rfl))
    subst x12
    have e13 : x13 = u13 := hI.old 13 (noDst_spec (by kernel_rfl))
    subst x13
    have e14 : x14 = u14 := hI.old 14 (noDst_spec (by kernel_rfl))
    subst x14
    have e15 : x15 = u15 := hI.old 15 (noDst_spec (by kernel_rfl))
    subst x15
    have e16 : x16 = u16 := hI.old 16 (noDst_spec (by kernel_rfl))
    subst x16
    have e17 : x17 = u17 := hI.old 17 (noDst_spec (by kernel_rfl))
    subst x17
    have e18 : x18 = u18 := hI.old 18 (noDst_spec (by kernel_rfl))
    subst x18
    have e19 : x19 = u19 := hI.old 19 (noDst_spec (by kernel_rfl))
    subst x19
    have e20 : x20 = u20 := hI.old 20 (noDst_spec (by kernel_rfl))
    subst x20
    have e21 : x21 = u21 := hI.old 21 (noDst_spec (by kernel_rfl))
    subst x21
    have e22 : x22 = u22 := hI.old 22 (noDst_spec (by kernel_rfl))
    subst x22
    have e23 : x23 = u23 := hI.old 23 (noDst_spec (by kernel_rfl))
    subst x23
    have e24 : x24 = u24 := hI.old 24 (noDst_spec (by kernel_rfl))
    subst x24
    have e25 : x25 = u25 := hI.old 25 (noDst_spec (by kernel_rfl))
    subst x25
    have e26 : x26 = u26 := hI.old 26 (noDst_spec (by kernel_rfl))
    subst x26
    have e27 : x27 = u27 := hI.old 27 (noDst_spec (by kernel_rfl))
    subst x27
    have e28 : x28 = u28 := hI.old 28 (noDst_spec (by kernel_rfl))
    subst x28
    have e29 : x29 = u29 := hI.old 29 (noDst_spec (by kernel_rfl))
    subst x29
    have e30 : x30 = u30 := hI.old 30 (noDst_spec (by kernel_rfl))
    subst x30
    have e31 : x31 = u31 := hI.old 31 (noDst_spec (by kernel_rfl))
    subst x31
    have e32 : x32 = u32 := hI.old 32 (noDst_spec (by kernel_rfl))
    subst x32
    have e33 : x33 = u33 := hI.old 33 (noDst_spec (by kernel_rfl))
    subst x33
    have e34 : x34 = u34 := hI.old 34 (noDst_spec (by kernel_rfl))
    subst x34
    have e35 : x35 = u35 := hI.old 35 (noDst_spec (by kernel_rfl))
    subst x35
    have e36 : x36 = u36 := hI.old 36 (noDst_spec (by kernel_rfl))
    subst x36
    have e37 : x37 = u37 := hI.old 37 (noDst_spec (by kernel_rfl))
    subst x37
    have e38 : x38 = u38 := hI.old 38 (noDst_spec (by kernel_rfl))
    subst x38
    have e39 : x39 = u39 := hI.old 39 (noDst_spec (by kernel_rfl))
    subst x39
    have e40 : x40 = u40 := hI.old 40 (noDst_spec (by kernel_rfl))
    subst x40
    have e41 : x41 = u41 := hI.old 41 (noDst_spec (by kernel_rfl))
    subst x41
    have e42 : x42 = u42 := hI.old 42 (noDst_spec (by kernel_rfl))
    subst x42
    have e43 : x43 = u43 := hI.old 43 (noDst_spec (by kernel_rfl))
    subst x43
    have e44 : x44 = u44 := hI.old 44 (noDst_spec (by kernel_rfl))
    subst x44
    have e45 : x45 = u45 := hI.old 45 (noDst_spec (by kernel_rfl))
    subst x45
    have e46 : x46 = u46 := hI.old 46 (noDst_spec (by kernel_rfl))
    subst x46
    have e47 : x47 = u47 := hI.old 47 (noDst_spec (by kernel_rfl))
    subst x47
    have hq := hbase
    have rD := hrN
    have r0 := (hq.1 (X, 0, intA (m (q an (g an bd)) (q bn (g bn ad)))) (by rw [← HL3.out]; simp)).2.1
    have hf : ∀ i, i < 10 → World.frozen? _ ⟨X, i, none⟩ = false := fun i hi => hq.free i hi
    have hx := hq.2.1.1
    have hb9 := hq.2.2
    go_wp2
    refine bodyPost_end (results_none rfl _ _ _) rfl ⟨rfl, Row.of_two hx r0 rD hf, ((KB.refl w.heap.size X w).below hB (Nat.le_refl _)).trans hb9 hB.size⟩
end Go.Proofs.YteolocchmhpggaaGreatDoor

namespace Go.Proofs.YteolocchmhpggaaGreatDoor
open Go.RowKit

theorem Row.putPart {w : World} {b : Nat} {us vs ws : List Value} (h : Row w b (us ++ vs ++ ws)) (cs : List Value) (hl : cs.length = vs.length) : Row (w.setCells b us.length cs) b (us ++ cs ++ ws) := by
 have ho := On.setCells w b cs us.length w (On.refl w b)
 have ht : ∀ j, j < cs.length → (w.cell? ⟨b, us.length + j, none⟩).isSome = true := fun j hj => by
  have hv := List.getElem?_eq_getElem (l := us ++ vs ++ ws) (i := us.length + j) (by simp; omega)
  rw [h.c _ hv]; rfl
 refine ⟨by rw [ho.size]; exact h.lt, fun i v hv => ⟨?_, ?_⟩⟩
 ·by_cases h1 : i < us.length
  ·rw [World.cell?_setCells_out b cs us.length w _ (by simp; omega)]
   refine h.c i ?_
   rw [List.append_assoc, List.getElem?_append_left h1] at hv ⊢
   exact hv
  ·by_cases h2 : i < us.length + cs.length
   ·have := World.cell?_setCells_in b cs us.length w ht (i - us.length) (by omega)
    rw [show us.length + (i - us.length) = i by omega] at this
    rw [this, ← hv, List.append_assoc, List.getElem?_append_right (by omega), List.getElem?_append_left (by omega), List.getElem?_eq_getElem (by omega)]
   ·rw [World.cell?_setCells_out b cs us.length w _ (by simp; omega)]
    refine h.c i ?_
    rw [List.getElem?_append_right (by simp; omega)] at hv ⊢
    rw [← hv]; congr 1; simp; omega
 ·rw [World.frozen?_setCells]
  have hi := (List.getElem?_eq_some_iff.1 hv).1
  exact h.f i (List.getElem?_eq_getElem (l := us ++ vs ++ ws) (i := i) (by simp at hi ⊢; omega))
def chN : Nat → Option Nat
 | 2 => some 1
 | 3 => some 2
 | 5 => some 3
 | 13 => some 5
 | 8 => some 7
 | 9 => some 8
 | 11 => some 9
 | 15 => some 11
 | _ => none
structure NegS (w0 : World) (B : Nat) (o1 n1 o2 n2 : Int) (ls : Nat → Bool) (W : World) : Prop where
 below : Below w0.heap.size w0 W
 ge : w0.heap.size ≤ B
 row : Row W B ((if ls 13 = true then intA n1 else intA o1).toList ++ (if ls 15 = true then intA n2 else intA o2).toList)
 ch : ∀ i k, chN i = some k → ls i = true → ls k = true
section
variable {w0 W W1 : World} {B : Nat} {o1 n1 o2 n2 : Int} {listed : Array Bool}
theorem NegS.start (hb : Below w0.heap.size w0 W) (hg : w0.heap.size ≤ B) (hr : Row W B ((intA o1).toList ++ (intA o2).toList)) : NegS w0 B o1 n1 o2 n2 (fun _ => false) W :=
 ⟨hb, hg, by simpa using hr, fun _ _ _ h => (by simp at h)⟩
theorem getD_moreN {i j : Nat} (h : listed.getD j false = true) : (listed.setIfInBounds i true).getD j false = true := by
 by_cases e : i = j
 ·subst e
  have : i < listed.size := by
   by_cases hl : i < listed.size
   ·exact hl
   ·simp [hl] at h
  simp [this]
 ·rw [getD_set_ne false e]; exact h
theorem NegS.chain (h : NegS w0 B o1 n1 o2 n2 (fun j => listed.getD j false) W) {i : Nat} (hc : ∀ k, chN i = some k → listed.getD k false = true) :
 ∀ j k, chN j = some k → (listed.setIfInBounds i true).getD j false = true → (listed.setIfInBounds i true).getD k false = true := fun j k hk hj => by
 refine getD_moreN ?_
 by_cases e : i = j
 ·subst e; exact hc k hk
 ·rw [getD_set_ne false e] at hj; exact h.ch j k hk hj
theorem NegS.no13 (h : NegS w0 B o1 n1 o2 n2 (fun j => listed.getD j false) W) (h0 : listed.getD 1 false = false) : listed.getD 13 false = false := by
 cases q : listed.getD 13 false
 ·rfl
 ·exfalso
  have h5 : listed.getD 5 false = true := h.ch 13 5 rfl q
  have h3 : listed.getD 3 false = true := h.ch 5 3 rfl h5
  have h2 : listed.getD 2 false = true := h.ch 3 2 rfl h3
  have h1 : listed.getD 1 false = true := h.ch 2 1 rfl h2
  rw [h0] at h1; cases h1
theorem NegS.no15 (h : NegS w0 B o1 n1 o2 n2 (fun j => listed.getD j false) W) (h0 : listed.getD 7 false = false) : listed.getD 15 false = false := by
 cases q : listed.getD 15 false
 ·rfl
 ·exfalso
  have h5 : listed.getD 11 false = true := h.ch 15 11 rfl q
  have h3 : listed.getD 9 false = true := h.ch 11 9 rfl h5
  have h2 : listed.getD 8 false = true := h.ch 9 8 rfl h3
  have h1 : listed.getD 7 false = true := h.ch 8 7 rfl h2
  rw [h0] at h1; cases h1
theorem NegS.next (h : NegS w0 B o1 n1 o2 n2 (fun j => listed.getD j false) W) (hb : Below W.heap.size W W1) (i : Nat) (h13 : i ≠ 13) (h15 : i ≠ 15) (hc : ∀ k, chN i = some k → listed.getD k false = true) :
 NegS w0 B o1 n1 o2 n2 (fun j => (listed.setIfInBounds i true).getD j false) W1 := by
 refine ⟨h.below.trans (hb.mono h.below.size), h.ge, ?_, h.chain hc⟩
 rw [getD_set_ne false h13, getD_set_ne false h15]
 exact h.row.after hb
theorem NegS.put13 (h : NegS w0 B o1 n1 o2 n2 (fun j => listed.getD j false) W) (hls : listed.size = 16) (h0 : listed.getD 13 false = false) (hc : ∀ k, chN 13 = some k → listed.getD k false = true) :
 NegS w0 B o1 n1 o2 n2 (fun j => (listed.setIfInBounds 13 true).getD j false) (W.setCells B 0 (intA n1).toList) := by
 have e13 : (listed.setIfInBounds 13 true).getD 13 false = true := by
  have : 13 < listed.size := by omega
  simp [this]
 have hr := h.row
 refine ⟨below_on h.below (On.setCells W B _ 0 W (On.refl W B)) h.ge, h.ge, ?_, h.chain hc⟩
 rw [e13, getD_set_ne false (by decide), if_pos rfl]
 simp only [h0, Bool.false_eq_true, if_false] at hr
 exact Row.putPart (us := []) (vs := (intA o1).toList) hr (intA n1).toList rfl
theorem NegS.put15 (h : NegS w0 B o1 n1 o2 n2 (fun j => listed.getD j false) W) (hls : listed.size = 16) (h0 : listed.getD 15 false = false) (hc : ∀ k, chN 15 = some k → listed.getD k false = true) :
 NegS w0 B o1 n1 o2 n2 (fun j => (listed.setIfInBounds 15 true).getD j false) (W.setCells B 5 (intA n2).toList) := by
 have e15 : (listed.setIfInBounds 15 true).getD 15 false = true := by
  have : 15 < listed.size := by omega
  simp [this]
 have hr := h.row
 refine ⟨below_on h.below (On.setCells W B _ 5 W (On.refl W B)) h.ge, h.ge, ?_, h.chain hc⟩
 rw [e15, getD_set_ne false (by decide), if_pos rfl]
 simp only [h0, Bool.false_eq_true, if_false] at hr
 have := Row.putPart (us := (if listed.getD 13 false = true then intA n1 else intA o1).toList) (vs := (intA o2).toList) (ws := []) (by simpa using hr) (intA n2).toList rfl
 have e5 : (if listed.getD 13 false = true then intA n1 else intA o1).toList.length = 5 := by split <;> rfl
 rw [e5] at this
 simpa using this
end
theorem arr33 (a : Array Value) (h : a.size = 33) : ∃ x0 x1 x2 x3 x4 x5 x6 x7 x8 x9 x10 x11 x12 x13 x14 x15 x16 x17 x18 x19 x20 x21 x22 x23 x24 x25 x26 x27 x28 x29 x30 x31 x32, a = #[x0, x1, x2, x3, x4, x5, x6, x7, x8, x9, x10, x11, x12, x13, x14, x15, x16, x17, x18, x19, x20, x21, x22, x23, x24, x25, x26, x27, x28, x29, x30, x31, x32] := by
 refine ⟨a[0], a[1], a[2], a[3], a[4], a[5], a[6], a[7], a[8], a[9], a[10], a[11], a[12], a[13], a[14], a[15], a[16], a[17], a[18], a[19], a[20], a[21], a[22], a[23], a[24], a[25], a[26], a[27], a[28], a[29], a[30], a[31], a[32], ?_⟩
 refine Array.ext (by simp [h]) (fun i h1 h2 => ?_)
 match i, h2 with
 | 0, _ | 1, _ | 2, _ | 3, _ | 4, _ | 5, _ | 6, _ | 7, _ | 8, _ | 9, _ | 10, _ | 11, _ | 12, _ | 13, _ | 14, _ | 15, _ | 16, _ | 17, _ | 18, _ | 19, _ | 20, _ | 21, _ | 22, _ | 23, _ | 24, _ | 25, _ | 26, _ | 27, _ | 28, _ | 29, _ | 30, _ | 31, _ | 32, _ => rfl
 | i + 33, h2 => simp at h2; omega
set_option maxRecDepth 100000 in
set_option maxHeartbeats 4000000 in
theorem over_pos (d o : Int) (C : List Value) (X : Nat) (w : World) (_hlt : X < w.heap.size) (hS : ∀ W, Calls Tryz.prog 126 #[.agg (intA d)] W fun e w' => e = .returned (.int .i64 1) ∧ Below W.heap.size W w')
 (hT : ∀ W, Below w.heap.size w W → Calls Tryz.prog 150 #[.pointer (some ⟨X, 0, none⟩), .agg #[.bool (decide (o < 0)), .int .u64 (W64 (o).natAbs 0 : Nat), .int .u64 (W64 (o).natAbs 1 : Nat), .int .u64 (W64 (o).natAbs 2 : Nat), .int .u64 (W64 (o).natAbs 3 : Nat), .bool (decide (d < 0)), .int .u64 (W64 (d).natAbs 0 : Nat), .int .u64 (W64 (d).natAbs 1 : Nat), .int .u64 (W64 (d).natAbs 2 : Nat), .int .u64 (W64 (d).natAbs 3 : Nat)]] W (fun e w' => e = .returned (.tuple #[]) ∧ Row w' X C ∧ KB W.heap.size X W w')) :
 Calls Tryz.prog 139 #[.pointer (some ⟨X, 0, none⟩), .agg (ratA d o)] w (fun e w' => e = .returned (.tuple #[]) ∧ Row w' X C ∧ KB w.heap.size X w w') := by
 have HS := Lib.hid hS; clear hS
 have HT := Lib.hid hT; clear hT
 have rA := fun t => Row.at (w := w) rfl (ratA d o).toList t
 have hB := (Below.refl w.heap.size w).alloc (Nat.le_refl _) (.cells (ratA d o) 31)
 go_enter Tryz.func139, Tryz.ntmps139
 go_wp2_with (first | (refine wpList_load_M rfl _ _ rfl _ 0 rfl (intA d) (rA _).rat_n agg_int ?_))
 refine (HS.out _).mono ?_
 rintro e w1 ⟨rfl, hb⟩
 have r1 := (rA 31).after hb
 replace hB := hB.trans (hb.mono hB.size)
 clear hb rA
 go_wp2_with (first | (refine wpList_load_M rfl _ _ rfl _ 0 rfl (intA d) r1.rat_n agg_int ?_) | (refine wpList_load_M rfl _ _ rfl _ 5 rfl (intA o) r1.rat_d agg_int ?_))
 refine (HT.out _ hB).mono ?_
 rintro e w2 ⟨rfl, hr, hk⟩
 go_wp2_with fail
 refine bodyPost_end (results_none rfl _ _ _) rfl ⟨rfl, hr, ((KB.refl w.heap.size X w).below hB (Nat.le_refl _)).trans hk hB.size⟩
set_option maxRecDepth 100000 in
set_option maxHeartbeats 8000000 in
theorem over_neg (nn : Int → Int) (OkN : Int → Prop) (d o : Int) (C : List Value) (X : Nat) (w : World) (_hlt : X < w.heap.size) (hS : ∀ W, Calls Tryz.prog 126 #[.agg (intA d)] W fun e w' => e = .returned (.int .i64 (-1)) ∧ Below W.heap.size W w')
 (hN : ∀ x, OkN x → ∀ W, Calls Tryz.prog 122 #[.agg (intA x)] W fun e w' => e = .returned (.tuple #[.agg (intA (nn x)), .int .i64 0]) ∧ Below W.heap.size W w') (ok1 : OkN d) (ok2 : OkN o)
 (hT : ∀ W, Below w.heap.size w W → Calls Tryz.prog 150 #[.pointer (some ⟨X, 0, none⟩), .agg #[.bool (decide ((nn o) < 0)), .int .u64 (W64 ((nn o)).natAbs 0 : Nat), .int .u64 (W64 ((nn o)).natAbs 1 : Nat), .int .u64 (W64 ((nn o)).natAbs 2 : Nat), .int .u64 (W64 ((nn o)).natAbs 3 : Nat), .bool (decide ((nn d) < 0)), .int .u64 (W64 ((nn d)).natAbs 0 : Nat), .int .u64 (W64 ((nn d)).natAbs 1 : Nat), .int .u64 (W64 ((nn d)).natAbs 2 : Nat), .int .u64 (W64 ((nn d)).natAbs 3 : Nat)]] W (fun e w' => e = .returned (.tuple #[]) ∧ Row w' X C ∧ KB W.heap.size X W w')) :
 Calls Tryz.prog 139 #[.pointer (some ⟨X, 0, none⟩), .agg (ratA d o)] w (fun e w' => e = .returned (.tuple #[]) ∧ Row w' X C ∧ KB w.heap.size X w w') := by
 have HS := Lib.hid hS; clear hS
 have HT := Lib.hid hT; clear hT
 have HN := Lib.hid hN
 clear hN
 have rA := fun t => Row.at (w := w) rfl (ratA d o).toList t
 have hB := (Below.refl w.heap.size w).alloc (Nat.le_refl _) (.cells (ratA d o) 31)
 go_enter Tryz.func139, Tryz.ntmps139
 go_wp2_with (first | (refine wpList_load_M rfl _ _ rfl _ 0 rfl (intA d) (rA _).rat_n agg_int ?_))
 refine (HS.out _).mono ?_
 rintro e w1 ⟨rfl, hb⟩
 have r1 := (rA 31).after hb
 replace hB := hB.trans (hb.mono hB.size)
 clear hb rA
 go_upto_region 5 with fail
 refine wp_region_mid (by kernel_rfl) (fun i => match i with
  | 0 => some (.pointer (some ⟨w.heap.size, 0, none⟩))
  | 1 => some (.agg (intA d))
  | 2 => some (.tuple #[.agg (intA (nn d)), .int .i64 0])
  | 3 => some (.agg (intA (nn d)))
  | 4 => some (.int .i64 0)
  | 5 => some (.agg (intA (nn d)))
  | 6 => some (.pointer (some ⟨w.heap.size, 5, none⟩))
  | 7 => some (.agg (intA o))
  | 8 => some (.tuple #[.agg (intA (nn o)), .int .i64 0])
  | 9 => some (.agg (intA (nn o)))
  | 10 => some (.int .i64 0)
  | 11 => some (.agg (intA (nn o)))
  | 12 => some (.pointer (some ⟨w.heap.size, 0, none⟩))
  | 14 => some (.pointer (some ⟨w.heap.size, 5, none⟩))
  | _ => none) (fun ls _ W => NegS w w.heap.size d (nn d) o (nn o) ls W) (by kernel_rfl) (NegS.start hB.drew (Nat.le_refl _) r1.drew) ?_ ?_
 ·intro listed a W i o_ hI ho h0 hdep K hK'
  have hi : i < 16 := (Array.getElem?_eq_some_iff.1 ho).1
  have hS := hI.world
  have hls : listed.size = 16 := hI.lsize
  have q3 : a.tmps[3]?.getD undef = .pointer (some ⟨w.heap.size, 0, none⟩) := hI.old 3 (noDst_spec (by kernel_rfl))
  have hcase : i = 0 ∨ i = 1 ∨ i = 2 ∨ i = 3 ∨ i = 4 ∨ i = 5 ∨ i = 6 ∨ i = 7 ∨ i = 8 ∨ i = 9 ∨ i = 10 ∨ i = 11 ∨ i = 12 ∨ i = 13 ∨ i = 14 ∨ i = 15 := by omega
  clear hi
  rcases hcase with rfl | rfl | rfl | rfl | rfl | rfl | rfl | rfl | rfl | rfl | rfl | rfl | rfl | rfl | rfl | rfl
  ·obtain rfl := Option.some.inj (show some _ = some o_ from ho)
   clear hdep hI ho
   go_simp
   exact hK' (.pointer (some ⟨w.heap.size, 0, none⟩)) _ (fun u hu => oV hu) (hS.next (Below.refl _ _) 0 (by decide) (by decide) (fun k hk => by cases hk))
  ·obtain rfl := Option.some.inj (show some _ = some o_ from ho)
   have d0 : listed.getD 0 false = true := hdep ⟨0, .data⟩ (by simp) rfl
   have q112 : a.tmps[12]?.getD undef = .pointer (some ⟨w.heap.size, 0, none⟩) := hI.val 0 _ 12 _ rfl rfl rfl d0
   have hr := hS.row
   simp only [hS.no13 (getD_no h0), Bool.false_eq_true, if_false] at hr
   have x0 : W.cell? ⟨w.heap.size, 0, none⟩ = _ := hr.c 0 (by rw [List.getElem?_append_left (by simp)]; rfl)
   have x1 : W.cell? ⟨w.heap.size, 1, none⟩ = _ := hr.c 1 (by rw [List.getElem?_append_left (by simp)]; rfl)
   have x2 : W.cell? ⟨w.heap.size, 2, none⟩ = _ := hr.c 2 (by rw [List.getElem?_append_left (by simp)]; rfl)
   have x3 : W.cell? ⟨w.heap.size, 3, none⟩ = _ := hr.c 3 (by rw [List.getElem?_append_left (by simp)]; rfl)
   have x4 : W.cell? ⟨w.heap.size, 4, none⟩ = _ := hr.c 4 (by rw [List.getElem?_append_left (by simp)]; rfl)
   clear hdep hI ho hr
   go_simp
   exact hK' (.agg (intA d)) _ (fun u hu => oV hu) (hS.next (Below.refl _ _) 1 (by decide) (by decide) (fun k hk => by cases hk))
  ·obtain rfl := Option.some.inj (show some _ = some o_ from ho)
   have d1 : listed.getD 1 false = true := hdep ⟨1, .data⟩ (by simp) rfl
   have q113 : a.tmps[13]?.getD undef = .agg (intA d) := hI.val 1 _ 13 _ rfl rfl rfl d1
   clear hdep hI ho
   go_simp
   refine (HN.out _ ok1 _).mono ?_
   rintro e W1 ⟨rfl, hb⟩
   exact hK' (.tuple #[.agg (intA (nn d)), .int .i64 0]) W1 (fun u hu => oV hu) (hS.next hb 2 (by decide) (by decide) (fun k hk => by obtain rfl := Option.some.inj (show some 1 = some k from hk); exact d1))
  ·obtain rfl := Option.some.inj (show some _ = some o_ from ho)
   have d2 : listed.getD 2 false = true := hdep ⟨2, .data⟩ (by simp) rfl
   have q114 : a.tmps[14]?.getD undef = .tuple #[.agg (intA (nn d)), .int .i64 0] := hI.val 2 _ 14 _ rfl rfl rfl d2
   clear hdep hI ho
   go_simp
   exact hK' (.agg (intA (nn d))) _ (fun u hu => oV hu) (hS.next (Below.refl _ _) 3 (by decide) (by decide) (fun k hk => by obtain rfl := Option.some.inj (show some 2 = some k from hk); exact d2))
  ·obtain rfl := Option.some.inj (show some _ = some o_ from ho)
   have d2 : listed.getD 2 false = true := hdep ⟨2, .data⟩ (by simp) rfl
   have q114 : a.tmps[14]?.getD undef = .tuple #[.agg (intA (nn d)), .int .i64 0] := hI.val 2 _ 14 _ rfl rfl rfl d2
   clear hdep hI ho
   go_simp
   exact hK' (.int .i64 0) _ (fun u hu => oV hu) (hS.next (Below.refl _ _) 4 (by decide) (by decide) (fun k hk => by cases hk))
  ·obtain rfl := Option.some.inj (show some _ = some o_ from ho)
   have d3 : listed.getD 3 false = true := hdep ⟨3, .data⟩ (by simp) rfl
   have q115 : a.tmps[15]?.getD undef = .agg (intA (nn d)) := hI.val 3 _ 15 _ rfl rfl rfl d3
   have d4 : listed.getD 4 false = true := hdep ⟨4, .data⟩ (by simp) rfl
   have q116 : a.tmps[16]?.getD undef = .int .i64 0 := hI.val 4 _ 16 _ rfl rfl rfl d4
   clear hdep hI ho
   go_simp
   refine (must_z _ _).mono ?_
   rintro e W1 ⟨rfl, hb⟩
   exact hK' (.agg (intA (nn d))) W1 (fun u hu => oV hu) (hS.next hb 5 (by decide) (by decide) (fun k hk => by obtain rfl := Option.some.inj (show some 3 = some k from hk); exact d3))
  ·obtain rfl := Option.some.inj (show some _ = some o_ from ho)
   clear hdep hI ho
   go_simp
   exact hK' (.pointer (some ⟨w.heap.size, 5, none⟩)) _ (fun u hu => oV hu) (hS.next (Below.refl _ _) 6 (by decide) (by decide) (fun k hk => by cases hk))
  ·obtain rfl := Option.some.inj (show some _ = some o_ from ho)
   have d6 : listed.getD 6 false = true := hdep ⟨6, .data⟩ (by simp) rfl
   have q118 : a.tmps[18]?.getD undef = .pointer (some ⟨w.heap.size, 5, none⟩) := hI.val 6 _ 18 _ rfl rfl rfl d6
   have hr := hS.row
   simp only [hS.no15 (getD_no h0), Bool.false_eq_true, if_false] at hr
   have e5 : (if listed.getD 13 false = true then intA (nn d) else intA d).toList.length = 5 := by split <;> rfl
   have x0 : W.cell? ⟨w.heap.size, 5, none⟩ = _ := hr.c 5 (by rw [List.getElem?_append_right (by rw [e5]; decide), e5]; rfl)
   have x1 : W.cell? ⟨w.heap.size, 6, none⟩ = _ := hr.c 6 (by rw [List.getElem?_append_right (by rw [e5]; decide), e5]; rfl)
   have x2 : W.cell? ⟨w.heap.size, 7, none⟩ = _ := hr.c 7 (by rw [List.getElem?_append_right (by rw [e5]; decide), e5]; rfl)
   have x3 : W.cell? ⟨w.heap.size, 8, none⟩ = _ := hr.c 8 (by rw [List.getElem?_append_right (by rw [e5]; decide), e5]; rfl)
   have x4 : W.cell? ⟨w.heap.size, 9, none⟩ = _ := hr.c 9 (by rw [List.getElem?_append_right (by rw [e5]; decide), e5]; rfl)
   clear hdep hI ho hr e5
   go_simp
   exact hK' (.agg (intA o)) _ (fun u hu => oV hu) (hS.next (Below.refl _ _) 7 (by decide) (by decide) (fun k hk => by cases hk))
  ·obtain rfl := Option.some.inj (show some _ = some o_ from ho)
   have d7 : listed.getD 7 false = true := hdep ⟨7, .data⟩ (by simp) rfl
   have q119 : a.tmps[19]?.getD undef = .agg (intA o) := hI.val 7 _ 19 _ rfl rfl rfl d7
   clear hdep hI ho
   go_simp
   refine (HN.out _ ok2 _).mono ?_
   rintro e W1 ⟨rfl, hb⟩
   exact hK' (.tuple #[.agg (intA (nn o)), .int .i64 0]) W1 (fun u hu => oV hu) (hS.next hb 8 (by decide) (by decide) (fun k hk => by obtain rfl := Option.some.inj (show some 7 = some k from hk); exact d7))
  ·obtain rfl := Option.some.inj (show some _ = some o_ from ho)
   have d8 : listed.getD 8 false = true := hdep ⟨8, .data⟩ (by simp) rfl
   have q120 : a.tmps[20]?.getD undef = .tuple #[.agg (intA (nn o)), .int .i64 0] := hI.val 8 _ 20 _ rfl rfl rfl d8
   clear hdep hI ho
   go_simp
   exact hK' (.agg (intA (nn o))) _ (fun u hu => oV hu) (hS.next (Below.refl _ _) 9 (by decide) (by decide) (fun k hk => by obtain rfl := Option.some.inj (show some 8 = some k from hk); exact d8))
  ·obtain rfl := Option.some.inj (show some _ = some o_ from ho)
   have d8 : listed.getD 8 false = true := hdep ⟨8, .data⟩ (by simp) rfl
   have q120 : a.tmps[20]?.getD undef = .tuple #[.agg (intA (nn o)), .int .i64 0] := hI.val 8 _ 20 _ rfl rfl rfl d8
   clear hdep hI ho
   go_simp
   exact hK' (.int .i64 0) _ (fun u hu => oV hu) (hS.next (Below.refl _ _) 10 (by decide) (by decide) (fun k hk => by cases hk))
  ·obtain rfl := Option.some.inj (show some _ = some o_ from ho)
   have d9 : listed.getD 9 false = true := hdep ⟨9, .data⟩ (by simp) rfl
   have q121 : a.tmps[21]?.getD undef = .agg (intA (nn o)) := hI.val 9 _ 21 _ rfl rfl rfl d9
   have d10 : listed.getD 10 false = true := hdep ⟨10, .data⟩ (by simp) rfl
   have q122 : a.tmps[22]?.getD undef = .int .i64 0 := hI.val 10 _ 22 _ rfl rfl rfl d10
   clear hdep hI ho
   go_simp
   refine (must_z _ _).mono ?_
   rintro e W1 ⟨rfl, hb⟩
   exact hK' (.agg (intA (nn o))) W1 (fun u hu => oV hu) (hS.next hb 11 (by decide) (by decide) (fun k hk => by obtain rfl := Option.some.inj (show some 9 = some k from hk); exact d9))
  ·obtain rfl := Option.some.inj (show some _ = some o_ from ho)
   clear hdep hI ho
   go_simp
   exact hK' (.pointer (some ⟨w.heap.size, 0, none⟩)) _ (fun u hu => oV hu) (hS.next (Below.refl _ _) 12 (by decide) (by decide) (fun k hk => by cases hk))
  ·obtain rfl := Option.some.inj (show some _ = some o_ from ho)
   have d5 : listed.getD 5 false = true := hdep ⟨5, .data⟩ (by simp) rfl
   have q117 : a.tmps[17]?.getD undef = .agg (intA (nn d)) := hI.val 5 _ 17 _ rfl rfl rfl d5
   have d12 : listed.getD 12 false = true := hdep ⟨12, .data⟩ (by simp) rfl
   have q124 : a.tmps[24]?.getD undef = .pointer (some ⟨w.heap.size, 0, none⟩) := hI.val 12 _ 24 _ rfl rfl rfl d12
   have hr := hS.row
   have e5 : (if listed.getD 13 false = true then intA (nn d) else intA d).toList.length = 5 := by split <;> rfl
   have e6 : (if listed.getD 15 false = true then intA (nn o) else intA o).toList.length = 5 := by split <;> rfl
   have ht := hr.there 0 5 (by rw [List.length_append, e5, e6]; decide)
   obtain ⟨v0, x0⟩ := Option.isSome_iff_exists.1 (ht 0 (by decide)).1
   have f0 := (ht 0 (by decide)).2
   obtain ⟨v1, x1⟩ := Option.isSome_iff_exists.1 (ht 1 (by decide)).1
   have f1 := (ht 1 (by decide)).2
   obtain ⟨v2, x2⟩ := Option.isSome_iff_exists.1 (ht 2 (by decide)).1
   have f2 := (ht 2 (by decide)).2
   obtain ⟨v3, x3⟩ := Option.isSome_iff_exists.1 (ht 3 (by decide)).1
   have f3 := (ht 3 (by decide)).2
   obtain ⟨v4, x4⟩ := Option.isSome_iff_exists.1 (ht 4 (by decide)).1
   have f4 := (ht 4 (by decide)).2
   simp only [Nat.reduceAdd] at x0 f0 x1 f1 x2 f2 x3 f3 x4 f4
   clear hdep hI ho hr e5 e6 ht
   go_simp
   exact hK' undef _ (fun u hu => nV hu) (hS.put13 hls (getD_no h0) (fun k hk => by obtain rfl := Option.some.inj (show some 5 = some k from hk); exact d5))
  ·obtain rfl := Option.some.inj (show some _ = some o_ from ho)
   clear hdep hI ho
   go_simp
   exact hK' (.pointer (some ⟨w.heap.size, 5, none⟩)) _ (fun u hu => oV hu) (hS.next (Below.refl _ _) 14 (by decide) (by decide) (fun k hk => by cases hk))
  ·obtain rfl := Option.some.inj (show some _ = some o_ from ho)
   have d11 : listed.getD 11 false = true := hdep ⟨11, .data⟩ (by simp) rfl
   have q123 : a.tmps[23]?.getD undef = .agg (intA (nn o)) := hI.val 11 _ 23 _ rfl rfl rfl d11
   have d14 : listed.getD 14 false = true := hdep ⟨14, .data⟩ (by simp) rfl
   have q125 : a.tmps[25]?.getD undef = .pointer (some ⟨w.heap.size, 5, none⟩) := hI.val 14 _ 25 _ rfl rfl rfl d14
   have hr := hS.row
   have e5 : (if listed.getD 13 false = true then intA (nn d) else intA d).toList.length = 5 := by split <;> rfl
   have e6 : (if listed.getD 15 false = true then intA (nn o) else intA o).toList.length = 5 := by split <;> rfl
   have ht := hr.there 5 5 (by rw [List.length_append, e5, e6]; decide)
   obtain ⟨v0, x0⟩ := Option.isSome_iff_exists.1 (ht 0 (by decide)).1
   have f0 := (ht 0 (by decide)).2
   obtain ⟨v1, x1⟩ := Option.isSome_iff_exists.1 (ht 1 (by decide)).1
   have f1 := (ht 1 (by decide)).2
   obtain ⟨v2, x2⟩ := Option.isSome_iff_exists.1 (ht 2 (by decide)).1
   have f2 := (ht 2 (by decide)).2
   obtain ⟨v3, x3⟩ := Option.isSome_iff_exists.1 (ht 3 (by decide)).1
   have f3 := (ht 3 (by decide)).2
   obtain ⟨v4, x4⟩ := Option.isSome_iff_exists.1 (ht 4 (by decide)).1
   have f4 := (ht 4 (by decide)).2
   simp only [Nat.reduceAdd] at x0 f0 x1 f1 x2 f2 x3 f3 x4 f4
   clear hdep hI ho hr e5 e6 ht
   go_simp
   exact hK' undef _ (fun u hu => nV hu) (hS.put15 hls (getD_no h0) (fun k hk => by obtain rfl := Option.some.inj (show some 11 = some k from hk); exact d11))
 ·intro listed a W hI hall
  have hr := hI.world.row
  rw [hall 13 (by decide), hall 15 (by decide), if_pos rfl, if_pos rfl] at hr
  have r2 : Row W w.heap.size (ratA (nn d) (nn o)).toList := hr
  have hB2 := hI.world.below
  have hdef := hI.defers
  obtain ⟨x0, x1, x2, x3, x4, x5, x6, x7, x8, x9, x10, x11, x12, x13, x14, x15, x16, x17, x18, x19, x20, x21, x22, x23, x24, x25, x26, x27, x28, x29, x30, x31, x32, hx⟩ := arr33 a.tmps hI.size
  obtain ⟨tmps, defers⟩ := a
  simp only at hx hdef
  subst hx
  subst hdef
  have e0 : x0 = .pointer (some ⟨X, 0, none⟩) := hI.old 0 (noDst_spec (by kernel_rfl))
  subst x0
  have e3 : x3 = .pointer (some ⟨w.heap.size, 0, none⟩) := hI.old 3 (noDst_spec (by kernel_rfl))
  subst x3
  clear hI hr hall r1 hB
  go_wp2_with (first | (refine wpList_load_M rfl _ _ rfl _ 0 rfl (intA (nn d)) (Row.rat_n (d := nn o) r2) agg_int ?_) | (refine wpList_load_M rfl _ _ rfl _ 5 rfl (intA (nn o)) (Row.rat_d (n := nn d) r2) agg_int ?_))
  refine (HT.out _ hB2).mono ?_
  rintro e w2 ⟨rfl, hr, hk⟩
  go_wp2_with fail
  refine bodyPost_end (results_none rfl _ _ _) rfl ⟨rfl, hr, ((KB.refl w.heap.size X w).below hB2 (Nat.le_refl _)).trans hk hB2.size⟩
end Go.Proofs.YteolocchmhpggaaGreatDoor

namespace Go.Proofs.YteolocchmhpggaaGreatDoor
open Go.RowKit


section
variable {w0 W W1 : World} {L : List (Nat × Array Value)} {i s p i' s' p' : Nat} {z r z' r' : Array Value} {listed : Array Bool} {a : Act}
end
end Go.Proofs.YteolocchmhpggaaGreatDoor
