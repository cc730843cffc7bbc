import Derived.Test.YtdfmmkidknginaaGreatDoorZKkSD
import Derived.Deep.CutBlock
import Derived.Test.YtdfmmkidknginaaGreatDoorZKkRI
namespace Go.Proofs.YtdfmmkidknginaaGreatDoor
open Go.RowKit
def LBs (w : World) (L : List (Nat × Array Value)) (C : Nat) : Prop := w.heap.size ≤ C ∧ ∀ p, p ∈ L → p.1 < C
section
variable {w W W1 : World} {L F : List (Nat × Array Value)}
theorem KS.lb (h : KS w L W) : LBs w L W.heap.size := ⟨h.2.size, fun p hp => (h.1 p hp).lt⟩
end
def KR (w : World) (X : Nat) (L : List (Nat × Nat × Array Value)) (o n : Nat) (W : World) : Prop :=
 (∀ p, p ∈ L → p.1 < W.heap.size ∧ W.rangeAt p.1 p.2.1 p.2.2.toList ∧ (p.1 ≠ X ∨ p.2.1 + p.2.2.size ≤ o ∨ o + n ≤ p.2.1)) ∧ (X < W.heap.size ∧ W.there X 0 10 ∧ o + n ≤ 10) ∧ KB w.heap.size X w W
section
variable {w W W1 : World} {X o n : Nat} {L : List (Nat × Nat × Array Value)}
end
section
variable {w0 W W1 : World} {L : List (Nat × Array Value)} {ga gb : Int} {listed : Array Bool} {a : Act}
end
theorem noDst_spec {ops : Array Oper} {t : Nat} (h : (ops.all fun o => o.dst != some t) = true) (i : Nat) (o : Oper) (hi : ops[i]? = some o) : o.dst ≠ some t := by
 have := Array.all_eq_true_iff_forall_mem.1 h o (Array.mem_of_getElem? hi)
 simpa using this
theorem getD_no {listed : Array Bool} {i : Nat} (h : listed.getD i true = false) : listed.getD i false = false := by
 cases hl : listed[i]? with
 | none => simp [hl] at h
 | some b => simp [hl] at h ⊢; exact h
section
variable {V W W1 : World} {X o S : Nat} {L : List (Nat × Nat × Array Value)} {old new : Int} {cs : List Value} {listed : Array Bool} {a : Act}
end
end Go.Proofs.YtdfmmkidknginaaGreatDoor

namespace Go.Proofs.YtdfmmkidknginaaGreatDoor
open Go.RowKit
section
variable {w0 W W1 : World} {B : Nat} {o1 n1 o2 n2 : Int} {listed : Array Bool}
end
end Go.Proofs.YtdfmmkidknginaaGreatDoor

namespace Go.Proofs.YtdfmmkidknginaaGreatDoor
open Go.RowKit
section
variable {w0 W W1 : World} {L : List (Nat × Array Value)} {i s p i' s' p' : Nat} {z r z' r' : Array Value} {listed : Array Bool} {a : Act}
end
end Go.Proofs.YtdfmmkidknginaaGreatDoor

namespace Go.Proofs.YtdfmmkidknginaaGreatDoor
open Go.RowKit
theorem act_tmp' (a : Act) (i : Nat) : a.eval (.tmp i) = a.tmps[i]?.getD undef := by simp [Act.eval]
def cellsV : Value → List Value
 | .agg cs => cs.toList
 | _ => []
abbrev zB : List Value := [.bool false, .slice none 0 0]
structure FromS (w0 : World) (L : List (Nat × Array Value)) (s t : Bool) (m k p j : Nat) (ls : Nat → Bool) (sl : Nat → Value) (W : World) : Prop where
 base : KS w0 L W
 n : ls 2 = true → ∃ A c, sl 17 = .agg #[.bool s, .slice A k c] ∧ k ≤ c ∧ DS W m A
 d : ls 5 = true → ∃ B c, sl 20 = .agg #[.bool t, .slice B j c] ∧ j ≤ c ∧ DS W p B
 x : ls 6 = true → ∃ X, sl 3 = .pointer (some ⟨X, 0, none⟩) ∧ LBs w0 L X ∧ Row W X (if ls 8 = true then cellsV (sl 17) else zB)
 y : ls 7 = true → ∃ Y, sl 4 = .pointer (some ⟨Y, 0, none⟩) ∧ LBs w0 L Y ∧ Row W Y (if ls 9 = true then cellsV (sl 20) else zB)
 ne : ls 6 = true → ls 7 = true → sl 3 ≠ sl 4
 c8 : ls 8 = true → ls 2 = true ∧ ls 6 = true
 c9 : ls 9 = true → ls 5 = true ∧ ls 7 = true
section
variable {w0 W W1 : World} {L : List (Nat × Array Value)} {s t : Bool} {m k p j : Nat} {listed : Array Bool} {a : Act}
theorem FromS.start (h : KS w0 L W) (sl : Nat → Value) : FromS w0 L s t m k p j (fun _ => false) sl W :=
 ⟨h, fun h => by simp at h, fun h => by simp at h, fun h => by simp at h, fun h => by simp at h, fun h => by simp at h, fun h => by simp at h, fun h => by simp at h⟩
theorem FromS.next (h : FromS w0 L s t m k p j (fun i => listed.getD i false) (slotOf a) W) (hb : Below W.heap.size W W1) (i u : Nat) (v : Value) (hi : i = 0 ∨ i = 1 ∨ i = 3 ∨ i = 4) (hu : u ≠ 17 ∧ u ≠ 20 ∧ u ≠ 3 ∧ u ≠ 4) :
 FromS w0 L s t m k p j (fun i' => (listed.setIfInBounds i true).getD i' false) (slotOf (a.put (some u) v)) W1 := by
 have e : ∀ i', i' ≠ 0 → i' ≠ 1 → i' ≠ 3 → i' ≠ 4 → (listed.setIfInBounds i true).getD i' false = listed.getD i' false := fun i' h0 h1 h3 h4 => getD_set_ne false (by omega)
 refine ⟨h.base.after hb, fun q => ?_, fun q => ?_, fun q => ?_, fun q => ?_, fun q r => ?_, fun q => ?_, fun q => ?_⟩
 ·rw [e 2 (by omega) (by omega) (by omega) (by omega)] at q
  obtain ⟨A, c, h1, h2, h3⟩ := h.n q
  exact ⟨A, c, by rw [slot_put_other v hu.1]; exact h1, h2, h3.below hb⟩
 ·rw [e 5 (by omega) (by omega) (by omega) (by omega)] at q
  obtain ⟨A, c, h1, h2, h3⟩ := h.d q
  exact ⟨A, c, by rw [slot_put_other v hu.2.1]; exact h1, h2, h3.below hb⟩
 ·rw [e 6 (by omega) (by omega) (by omega) (by omega)] at q
  obtain ⟨X, h1, h2, h3⟩ := h.x q
  refine ⟨X, by rw [slot_put_other v hu.2.2.1]; exact h1, h2, ?_⟩
  rw [e 8 (by omega) (by omega) (by omega) (by omega), slot_put_other v hu.1]; exact h3.after hb
 ·rw [e 7 (by omega) (by omega) (by omega) (by omega)] at q
  obtain ⟨X, h1, h2, h3⟩ := h.y q
  refine ⟨X, by rw [slot_put_other v hu.2.2.2]; exact h1, h2, ?_⟩
  rw [e 9 (by omega) (by omega) (by omega) (by omega), slot_put_other v hu.2.1]; exact h3.after hb
 ·rw [e 6 (by omega) (by omega) (by omega) (by omega)] at q
  rw [e 7 (by omega) (by omega) (by omega) (by omega)] at r
  rw [slot_put_other v hu.2.2.1, slot_put_other v hu.2.2.2]; exact h.ne q r
 ·rw [e 8 (by omega) (by omega) (by omega) (by omega)] at q
  rw [e 2 (by omega) (by omega) (by omega) (by omega), e 6 (by omega) (by omega) (by omega) (by omega)]; exact h.c8 q
 ·rw [e 9 (by omega) (by omega) (by omega) (by omega)] at q
  rw [e 5 (by omega) (by omega) (by omega) (by omega), e 7 (by omega) (by omega) (by omega) (by omega)]; exact h.c9 q
theorem FromS.off8 (h : FromS w0 L s t m k p j (fun i => listed.getD i false) (slotOf a) W) (h0 : listed.getD 2 false = false ∨ listed.getD 6 false = false) : listed.getD 8 false = false := by
 cases q : listed.getD 8 false
 ·rfl
 ·have := h.c8 q
  (try dsimp only at this)
  rcases h0 with h0 | h0 <;> rw [h0] at this <;> simp at this
theorem FromS.off9 (h : FromS w0 L s t m k p j (fun i => listed.getD i false) (slotOf a) W) (h0 : listed.getD 5 false = false ∨ listed.getD 7 false = false) : listed.getD 9 false = false := by
 cases q : listed.getD 9 false
 ·rfl
 ·have := h.c9 q
  (try dsimp only at this)
  rcases h0 with h0 | h0 <;> rw [h0] at this <;> simp at this
theorem FromS.callN (h : FromS w0 L s t m k p j (fun i => listed.getD i false) (slotOf a) W) (hb : Below W.heap.size W W1) (h0 : listed.getD 2 false = false) (hz : 17 < a.tmps.size) (A : Option Addr) (c : Nat) (hc : k ≤ c) (hd : DS W1 m A) :
 FromS w0 L s t m k p j (fun i' => (listed.setIfInBounds 2 true).getD i' false) (slotOf (a.put (some 17) (.agg #[.bool s, .slice A k c]))) W1 := by
 have e : ∀ i', i' ≠ 2 → (listed.setIfInBounds 2 true).getD i' false = listed.getD i' false := fun i' hi => getD_set_ne false (fun q => hi q.symm)
 have hp := h.off8 (.inl h0)
 refine ⟨h.base.after hb, fun q => ?_, fun q => ?_, fun q => ?_, fun q => ?_, fun q r => ?_, fun q => ?_, fun q => ?_⟩
 ·exact ⟨A, c, slot_put_same _ hz, hc, hd⟩
 ·rw [e 5 (by decide)] at q
  obtain ⟨B, c', h1, h2, h3⟩ := h.d q
  exact ⟨B, c', by rw [slot_put_other _ (by decide)]; exact h1, h2, h3.below hb⟩
 ·rw [e 6 (by decide)] at q
  obtain ⟨X, h1, h2, h3⟩ := h.x q
  refine ⟨X, by rw [slot_put_other _ (by decide)]; exact h1, h2, ?_⟩
  rw [hp] at h3
  rw [e 8 (by decide), hp]; exact h3.after hb
 ·rw [e 7 (by decide)] at q
  obtain ⟨X, h1, h2, h3⟩ := h.y q
  refine ⟨X, by rw [slot_put_other _ (by decide)]; exact h1, h2, ?_⟩
  rw [e 9 (by decide), slot_put_other _ (by decide)]; exact h3.after hb
 ·rw [e 6 (by decide)] at q
  rw [e 7 (by decide)] at r
  rw [slot_put_other _ (by decide), slot_put_other _ (by decide)]; exact h.ne q r
 ·rw [e 8 (by decide), hp] at q; cases q
 ·rw [e 9 (by decide)] at q
  rw [e 5 (by decide), e 7 (by decide)]; exact h.c9 q
theorem FromS.callD (h : FromS w0 L s t m k p j (fun i => listed.getD i false) (slotOf a) W) (hb : Below W.heap.size W W1) (h0 : listed.getD 5 false = false) (hz : 20 < a.tmps.size) (A : Option Addr) (c : Nat) (hc : j ≤ c) (hd : DS W1 p A) :
 FromS w0 L s t m k p j (fun i' => (listed.setIfInBounds 5 true).getD i' false) (slotOf (a.put (some 20) (.agg #[.bool t, .slice A j c]))) W1 := by
 have e : ∀ i', i' ≠ 5 → (listed.setIfInBounds 5 true).getD i' false = listed.getD i' false := fun i' hi => getD_set_ne false (fun q => hi q.symm)
 have hp := h.off9 (.inl h0)
 refine ⟨h.base.after hb, fun q => ?_, fun q => ?_, fun q => ?_, fun q => ?_, fun q r => ?_, fun q => ?_, fun q => ?_⟩
 ·rw [e 2 (by decide)] at q
  obtain ⟨B, c', h1, h2, h3⟩ := h.n q
  exact ⟨B, c', by rw [slot_put_other _ (by decide)]; exact h1, h2, h3.below hb⟩
 ·exact ⟨A, c, slot_put_same _ hz, hc, hd⟩
 ·rw [e 6 (by decide)] at q
  obtain ⟨X, h1, h2, h3⟩ := h.x q
  refine ⟨X, by rw [slot_put_other _ (by decide)]; exact h1, h2, ?_⟩
  rw [e 8 (by decide), slot_put_other _ (by decide)]; exact h3.after hb
 ·rw [e 7 (by decide)] at q
  obtain ⟨X, h1, h2, h3⟩ := h.y q
  refine ⟨X, by rw [slot_put_other _ (by decide)]; exact h1, h2, ?_⟩
  rw [hp] at h3
  rw [e 9 (by decide), hp]; exact h3.after hb
 ·rw [e 6 (by decide)] at q
  rw [e 7 (by decide)] at r
  rw [slot_put_other _ (by decide), slot_put_other _ (by decide)]; exact h.ne q r
 ·rw [e 8 (by decide)] at q
  rw [e 2 (by decide), e 6 (by decide)]; exact h.c8 q
 ·rw [e 9 (by decide), hp] at q; cases q
theorem FromS.newN (h : FromS w0 L s t m k p j (fun i => listed.getD i false) (slotOf a) W) (h0 : listed.getD 6 false = false) (hz : 3 < a.tmps.size) (ty : TypeId) :
 FromS w0 L s t m k p j (fun i' => (listed.setIfInBounds 6 true).getD i' false) (slotOf (a.put (some 3) (.pointer (some ⟨W.heap.size, 0, none⟩)))) (W.alloc (.cells #[.bool false, .slice none 0 0] ty)) := by
 have e : ∀ i', i' ≠ 6 → (listed.setIfInBounds 6 true).getD i' false = listed.getD i' false := fun i' hi => getD_set_ne false (fun q => hi q.symm)
 have hp := h.off8 (.inr h0)
 have hb := (Below.refl W.heap.size W).alloc (Nat.le_refl _) (.cells #[.bool false, .slice none 0 0] ty)
 refine ⟨h.base.alloc _, fun q => ?_, fun q => ?_, fun q => ?_, fun q => ?_, fun q r => ?_, fun q => ?_, fun q => ?_⟩
 ·rw [e 2 (by decide)] at q
  obtain ⟨B, c', h1, h2, h3⟩ := h.n q
  exact ⟨B, c', by rw [slot_put_other _ (by decide)]; exact h1, h2, h3.below hb⟩
 ·rw [e 5 (by decide)] at q
  obtain ⟨B, c', h1, h2, h3⟩ := h.d q
  exact ⟨B, c', by rw [slot_put_other _ (by decide)]; exact h1, h2, h3.below hb⟩
 ·refine ⟨W.heap.size, slot_put_same _ hz, h.base.lb, ?_⟩
  rw [e 8 (by decide), hp]; exact Row.at rfl _ _
 ·rw [e 7 (by decide)] at q
  obtain ⟨X, h1, h2, h3⟩ := h.y q
  refine ⟨X, by rw [slot_put_other _ (by decide)]; exact h1, h2, ?_⟩
  rw [e 9 (by decide), slot_put_other _ (by decide)]; exact h3.alloc _
 ·rw [e 7 (by decide)] at r
  obtain ⟨X, h1, h2, h3⟩ := h.y r
  have hlt := h3.lt
  rw [slot_put_same _ hz, slot_put_other _ (by decide), h1]
  intro he
  injection he with he
  injection he with he
  injection he with he
  omega
 ·rw [e 8 (by decide), hp] at q; cases q
 ·rw [e 9 (by decide)] at q
  rw [e 5 (by decide), e 7 (by decide)]; exact h.c9 q
theorem FromS.newD (h : FromS w0 L s t m k p j (fun i => listed.getD i false) (slotOf a) W) (h0 : listed.getD 7 false = false) (hz : 4 < a.tmps.size) (ty : TypeId) :
 FromS w0 L s t m k p j (fun i' => (listed.setIfInBounds 7 true).getD i' false) (slotOf (a.put (some 4) (.pointer (some ⟨W.heap.size, 0, none⟩)))) (W.alloc (.cells #[.bool false, .slice none 0 0] ty)) := by
 have e : ∀ i', i' ≠ 7 → (listed.setIfInBounds 7 true).getD i' false = listed.getD i' false := fun i' hi => getD_set_ne false (fun q => hi q.symm)
 have hp := h.off9 (.inr h0)
 have hb := (Below.refl W.heap.size W).alloc (Nat.le_refl _) (.cells #[.bool false, .slice none 0 0] ty)
 refine ⟨h.base.alloc _, fun q => ?_, fun q => ?_, fun q => ?_, fun q => ?_, fun q r => ?_, fun q => ?_, fun q => ?_⟩
 ·rw [e 2 (by decide)] at q
  obtain ⟨B, c', h1, h2, h3⟩ := h.n q
  exact ⟨B, c', by rw [slot_put_other _ (by decide)]; exact h1, h2, h3.below hb⟩
 ·rw [e 5 (by decide)] at q
  obtain ⟨B, c', h1, h2, h3⟩ := h.d q
  exact ⟨B, c', by rw [slot_put_other _ (by decide)]; exact h1, h2, h3.below hb⟩
 ·rw [e 6 (by decide)] at q
  obtain ⟨X, h1, h2, h3⟩ := h.x q
  refine ⟨X, by rw [slot_put_other _ (by decide)]; exact h1, h2, ?_⟩
  rw [e 8 (by decide), slot_put_other _ (by decide)]; exact h3.alloc _
 ·refine ⟨W.heap.size, slot_put_same _ hz, h.base.lb, ?_⟩
  rw [e 9 (by decide), hp]; exact Row.at rfl _ _
 ·rw [e 6 (by decide)] at q
  obtain ⟨X, h1, h2, h3⟩ := h.x q
  have hlt := h3.lt
  rw [slot_put_other _ (by decide), slot_put_same _ hz, h1]
  intro he
  injection he with he
  injection he with he
  injection he with he
  omega
 ·rw [e 8 (by decide)] at q
  rw [e 2 (by decide), e 6 (by decide)]; exact h.c8 q
 ·rw [e 9 (by decide), hp] at q; cases q
theorem FromS.putN (h : FromS w0 L s t m k p j (fun i => listed.getD i false) (slotOf a) W) (h0 : listed.getD 8 false = false) (hls : listed.size = 10) (h1 : listed.getD 2 false = true) (h2 : listed.getD 6 false = true) {X : Nat} (hX : slotOf a 3 = .pointer (some ⟨X, 0, none⟩)) {cs : Array Value} (hcs : slotOf a 17 = .agg cs) (hl : cs.size = 2) (v : Value) :
 FromS w0 L s t m k p j (fun i' => (listed.setIfInBounds 8 true).getD i' false) (slotOf (a.put none v)) (W.setCells X 0 cs.toList) := by
 have e : ∀ i', i' ≠ 8 → (listed.setIfInBounds 8 true).getD i' false = listed.getD i' false := fun i' hi => getD_set_ne false (fun q => hi q.symm)
 obtain ⟨X', hs', hlb, hr⟩ := h.x h2
 obtain rfl : X' = X := by rw [hX] at hs'; injection hs' with q; injection q with q; injection q with q; exact q.symm
 (try dsimp only at hr)
 rw [h0, if_neg (by decide)] at hr
 have ho := On.setCells W X' cs.toList 0 W (On.refl W X')
 have hz := hr.c 0 rfl
 refine ⟨⟨fun q hq => ho.row (Nat.ne_of_lt (hlb.2 q hq)) (h.base.1 q hq), below_on h.base.2 ho hlb.1⟩, fun q => ?_, fun q => ?_, fun q => ?_, fun q => ?_, fun q r => ?_, fun q => ?_, fun q => ?_⟩
 ·rw [e 2 (by decide)] at q
  obtain ⟨B, c', h3, h4, h5⟩ := h.n q
  exact ⟨B, c', h3, h4, h5.on ho hz⟩
 ·rw [e 5 (by decide)] at q
  obtain ⟨B, c', h3, h4, h5⟩ := h.d q
  exact ⟨B, c', h3, h4, h5.on ho hz⟩
 ·refine ⟨X', hX, hlb, ?_⟩
  show Row _ _ (if (listed.setIfInBounds 8 true).getD 8 false = true then cellsV (slotOf a 17) else zB)
  rw [hcs]
  split
  ·exact hr.putAll cs.toList (by simpa using hl.symm)
  ·rename_i hn
   exfalso
   have : 8 < listed.size := by
    have := h.c8
    by_cases hq : 8 < listed.size
    ·exact hq
    ·exact absurd hls (by omega)
   exact hn (by simp [this])
 ·rw [e 7 (by decide)] at q
  obtain ⟨Y, h3, h4, h5⟩ := h.y q
  refine ⟨Y, h3, h4, ?_⟩
  (try dsimp only at h5)
  rw [e 9 (by decide)]
  refine ho.row (fun hh => h.ne h2 q ?_) h5
  subst hh
  exact hX.trans h3.symm
 ·rw [e 6 (by decide)] at q
  rw [e 7 (by decide)] at r
  exact h.ne q r
 ·rw [e 2 (by decide), e 6 (by decide)]; exact ⟨h1, h2⟩
 ·rw [e 9 (by decide)] at q
  rw [e 5 (by decide), e 7 (by decide)]; exact h.c9 q
theorem FromS.putD (h : FromS w0 L s t m k p j (fun i => listed.getD i false) (slotOf a) W) (h0 : listed.getD 9 false = false) (hls : listed.size = 10) (h1 : listed.getD 5 false = true) (h2 : listed.getD 7 false = true) {X : Nat} (hX : slotOf a 4 = .pointer (some ⟨X, 0, none⟩)) {cs : Array Value} (hcs : slotOf a 20 = .agg cs) (hl : cs.size = 2) (v : Value) :
 FromS w0 L s t m k p j (fun i' => (listed.setIfInBounds 9 true).getD i' false) (slotOf (a.put none v)) (W.setCells X 0 cs.toList) := by
 have e : ∀ i', i' ≠ 9 → (listed.setIfInBounds 9 true).getD i' false = listed.getD i' false := fun i' hi => getD_set_ne false (fun q => hi q.symm)
 obtain ⟨X', hs', hlb, hr⟩ := h.y h2
 obtain rfl : X' = X := by rw [hX] at hs'; injection hs' with q; injection q with q; injection q with q; exact q.symm
 (try dsimp only at hr)
 rw [h0, if_neg (by decide)] at hr
 have ho := On.setCells W X' cs.toList 0 W (On.refl W X')
 have hz := hr.c 0 rfl
 refine ⟨⟨fun q hq => ho.row (Nat.ne_of_lt (hlb.2 q hq)) (h.base.1 q hq), below_on h.base.2 ho hlb.1⟩, fun q => ?_, fun q => ?_, fun q => ?_, fun q => ?_, fun q r => ?_, fun q => ?_, fun q => ?_⟩
 ·rw [e 2 (by decide)] at q
  obtain ⟨B, c', h3, h4, h5⟩ := h.n q
  exact ⟨B, c', h3, h4, h5.on ho hz⟩
 ·rw [e 5 (by decide)] at q
  obtain ⟨B, c', h3, h4, h5⟩ := h.d q
  exact ⟨B, c', h3, h4, h5.on ho hz⟩
 ·rw [e 6 (by decide)] at q
  obtain ⟨Y, h3, h4, h5⟩ := h.x q
  refine ⟨Y, h3, h4, ?_⟩
  (try dsimp only at h5)
  rw [e 8 (by decide)]
  refine ho.row (fun hh => h.ne q h2 ?_) h5
  subst hh
  exact h3.trans hX.symm
 ·refine ⟨X', hX, hlb, ?_⟩
  show Row _ _ (if (listed.setIfInBounds 9 true).getD 9 false = true then cellsV (slotOf a 20) else zB)
  rw [hcs]
  split
  ·exact hr.putAll cs.toList (by simpa using hl.symm)
  ·rename_i hn
   exfalso
   have : 9 < listed.size := by
    have := h.c9
    by_cases hq : 9 < listed.size
    ·exact hq
    ·exact absurd hls (by omega)
   exact hn (by simp [this])
 ·rw [e 6 (by decide)] at q
  rw [e 7 (by decide)] at r
  exact h.ne q r
 ·rw [e 8 (by decide)] at q
  rw [e 2 (by decide), e 6 (by decide)]; exact h.c8 q
 ·rw [e 5 (by decide), e 7 (by decide)]; exact ⟨h1, h2⟩
end
end Go.Proofs.YtdfmmkidknginaaGreatDoor
