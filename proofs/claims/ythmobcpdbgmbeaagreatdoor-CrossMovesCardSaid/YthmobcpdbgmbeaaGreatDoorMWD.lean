/- The document's Right of a fraction that may be, over what its calls answer. -/
import Derived.Test.YthmobcpdbgmbeaaGreatDoorMSH
import Derived.Test.YthmobcpdbgmbeaaGreatDoorMRI
import Derived.Test.YthmobcpdbgmbeaaGreatDoorMSG
namespace Go.Proofs.YthmobcpdbgmbeaaGreatDoor
open Go.RowKit

theorem act_tmp' (a : Act) (i : Nat) : a.eval (.tmp i) = a.tmps[i]?.getD undef := by simp [Act.eval]
/-- The cells of a struct. -/
def cellsV : Value → List Value
  | .agg cs => cs.toList
  | _ => []
abbrev zB : List Value := [.bool false, .slice none 0 0]
/-- In the midst of 'n, d := From(..), From(..)': what the calls answered, the two variables, each from when it is made on. -/
structure FromS (w0 : World) (L : List (Nat × Array Value)) (s t : Bool) (m k p j : Nat) (ls : Nat → Bool) (sl : Nat → Value) (W : World) : Prop where
  base : KS w0 L W
  n : ls 2 = true → ∃ A c, sl 17 = .agg #[.bool s, .slice A k c] ∧ k ≤ c ∧ DS W m A
  d : ls 5 = true → ∃ B c, sl 20 = .agg #[.bool t, .slice B j c] ∧ j ≤ c ∧ DS W p B
  x : ls 6 = true → ∃ X, sl 3 = .pointer (some ⟨X, 0, none⟩) ∧ LBs w0 L X ∧ Row W X (if ls 8 = true then cellsV (sl 17) else zB)
  y : ls 7 = true → ∃ Y, sl 4 = .pointer (some ⟨Y, 0, none⟩) ∧ LBs w0 L Y ∧ Row W Y (if ls 9 = true then cellsV (sl 20) else zB)
  ne : ls 6 = true → ls 7 = true → sl 3 ≠ sl 4
  c8 : ls 8 = true → ls 2 = true ∧ ls 6 = true
  c9 : ls 9 = true → ls 5 = true ∧ ls 7 = true
section
variable {w0 W W1 : World} {L : List (Nat × Array Value)} {s t : Bool} {m k p j : Nat} {listed : Array Bool} {a : Act}
theorem FromS.start (h : KS w0 L W) (sl : Nat → Value) : FromS w0 L s t m k p j (fun _ => false) sl W :=
  ⟨h, fun h => by simp at h, fun h => by simp at h, fun h => by simp at h, fun h => by simp at h, fun h => by simp at h, fun h => by simp at h, fun h => by simp at h⟩
theorem FromS.next (h : FromS w0 L s t m k p j (fun i => listed.getD i false) (slotOf a) W) (hb : Below W.heap.size W W1) (i u : Nat) (v : Value) (hi : i = 0 ∨ i = 1 ∨ i = 3 ∨ i = 4) (hu : u ≠ 17 ∧ u ≠ 20 ∧ u ≠ 3 ∧ u ≠ 4) :
    FromS w0 L s t m k p j (fun i' => (listed.setIfInBounds i true).getD i' false) (slotOf (a.put (some u) v)) W1 := by
  have e : ∀ i', i' ≠ 0 → i' ≠ 1 → i' ≠ 3 → i' ≠ 4 → (listed.setIfInBounds i true).getD i' false = listed.getD i' false := fun i' h0 h1 h3 h4 => getD_set_ne false (by omega)
  refine ⟨h.base.after hb, fun q => ?_, fun q => ?_, fun q => ?_, fun q => ?_, fun q r => ?_, fun q => ?_, fun q => ?_⟩
  · rw [e 2 (by omega) (by omega) (by omega) (by omega)] at q
    obtain ⟨A, c, h1, h2, h3⟩ := h.n q
    exact ⟨A, c, by rw [slot_put_other v hu.1]; exact h1, h2, h3.below hb⟩
  · rw [e 5 (by omega) (by omega) (by omega) (by omega)] at q
    obtain ⟨A, c, h1, h2, h3⟩ := h.d q
    exact ⟨A, c, by rw [slot_put_other v hu.2.1]; exact h1, h2, h3.below hb⟩
  · rw [e 6 (by omega) (by omega) (by omega) (by omega)] at q
    obtain ⟨X, h1, h2, h3⟩ := h.x q
    refine ⟨X, by rw [slot_put_other v hu.2.2.1]; exact h1, h2, ?_⟩
    rw [e 8 (by omega) (by omega) (by omega) (by omega), slot_put_other v hu.1]; exact h3.after hb
  · rw [e 7 (by omega) (by omega) (by omega) (by omega)] at q
    obtain ⟨X, h1, h2, h3⟩ := h.y q
    refine ⟨X, by rw [slot_put_other v hu.2.2.2]; exact h1, h2, ?_⟩
    rw [e 9 (by omega) (by omega) (by omega) (by omega), slot_put_other v hu.2.1]; exact h3.after hb
  · rw [e 6 (by omega) (by omega) (by omega) (by omega)] at q
    rw [e 7 (by omega) (by omega) (by omega) (by omega)] at r
    rw [slot_put_other v hu.2.2.1, slot_put_other v hu.2.2.2]; exact h.ne q r
  · rw [e 8 (by omega) (by omega) (by omega) (by omega)] at q
    rw [e 2 (by omega) (by omega) (by omega) (by omega), e 6 (by omega) (by omega) (by omega) (by omega)]; exact h.c8 q
  · rw [e 9 (by omega) (by omega) (by omega) (by omega)] at q
    rw [e 5 (by omega) (by omega) (by omega) (by omega), e 7 (by omega) (by omega) (by omega) (by omega)]; exact h.c9 q
theorem FromS.off8 (h : FromS w0 L s t m k p j (fun i => listed.getD i false) (slotOf a) W) (h0 : listed.getD 2 false = false ∨ listed.getD 6 false = false) : listed.getD 8 false = false := by
  cases q : listed.getD 8 false
  · rfl
  · have := h.c8 q
    (try dsimp only at this)
    rcases h0 with h0 | h0 <;> rw [h0] at this <;> simp at this
theorem FromS.off9 (h : FromS w0 L s t m k p j (fun i => listed.getD i false) (slotOf a) W) (h0 : listed.getD 5 false = false ∨ listed.getD 7 false = false) : listed.getD 9 false = false := by
  cases q : listed.getD 9 false
  · rfl
  · have := h.c9 q
    (try dsimp only at this)
    rcases h0 with h0 | h0 <;> rw [h0] at this <;> simp at this

theorem FromS.callN (h : FromS w0 L s t m k p j (fun i => listed.getD i false) (slotOf a) W) (hb : Below W.heap.size W W1) (h0 : listed.getD 2 false = false) (hz : 17 < a.tmps.size) (A : Option Addr) (c : Nat) (hc : k ≤ c) (hd : DS W1 m A) :
    FromS w0 L s t m k p j (fun i' => (listed.setIfInBounds 2 true).getD i' false) (slotOf (a.put (some 17) (.agg #[.bool s, .slice A k c]))) W1 := by
  have e : ∀ i', i' ≠ 2 → (listed.setIfInBounds 2 true).getD i' false = listed.getD i' false := fun i' hi => getD_set_ne false (fun q => hi q.symm)
  have hp := h.off8 (.inl h0)
  refine ⟨h.base.after hb, fun q => ?_, fun q => ?_, fun q => ?_, fun q => ?_, fun q r => ?_, fun q => ?_, fun q => ?_⟩
  · exact ⟨A, c, slot_put_same _ hz, hc, hd⟩
  · rw [e 5 (by decide)] at q
    obtain ⟨B, c', h1, h2, h3⟩ := h.d q
    exact ⟨B, c', by rw [slot_put_other _ (by decide)]; exact h1, h2, h3.below hb⟩
  · rw [e 6 (by decide)] at q
    obtain ⟨X, h1, h2, h3⟩ := h.x q
    refine ⟨X, by rw [slot_put_other _ (by decide)]; exact h1, h2, ?_⟩
    rw [hp] at h3
    rw [e 8 (by decide), hp]; exact h3.after hb
  · rw [e 7 (by decide)] at q
    obtain ⟨X, h1, h2, h3⟩ := h.y q
    refine ⟨X, by rw [slot_put_other _ (by decide)]; exact h1, h2, ?_⟩
    rw [e 9 (by decide), slot_put_other _ (by decide)]; exact h3.after hb
  · rw [e 6 (by decide)] at q
    rw [e 7 (by decide)] at r
    rw [slot_put_other _ (by decide), slot_put_other _ (by decide)]; exact h.ne q r
  · rw [e 8 (by decide), hp] at q; cases q
  · rw [e 9 (by decide)] at q
    rw [e 5 (by decide), e 7 (by decide)]; exact h.c9 q

theorem FromS.callD (h : FromS w0 L s t m k p j (fun i => listed.getD i false) (slotOf a) W) (hb : Below W.heap.size W W1) (h0 : listed.getD 5 false = false) (hz : 20 < a.tmps.size) (A : Option Addr) (c : Nat) (hc : j ≤ c) (hd : DS W1 p A) :
    FromS w0 L s t m k p j (fun i' => (listed.setIfInBounds 5 true).getD i' false) (slotOf (a.put (some 20) (.agg #[.bool t, .slice A j c]))) W1 := by
  have e : ∀ i', i' ≠ 5 → (listed.setIfInBounds 5 true).getD i' false = listed.getD i' false := fun i' hi => getD_set_ne false (fun q => hi q.symm)
  have hp := h.off9 (.inl h0)
  refine ⟨h.base.after hb, fun q => ?_, fun q => ?_, fun q => ?_, fun q => ?_, fun q r => ?_, fun q => ?_, fun q => ?_⟩
  · rw [e 2 (by decide)] at q
    obtain ⟨B, c', h1, h2, h3⟩ := h.n q
    exact ⟨B, c', by rw [slot_put_other _ (by decide)]; exact h1, h2, h3.below hb⟩
  · exact ⟨A, c, slot_put_same _ hz, hc, hd⟩
  · rw [e 6 (by decide)] at q
    obtain ⟨X, h1, h2, h3⟩ := h.x q
    refine ⟨X, by rw [slot_put_other _ (by decide)]; exact h1, h2, ?_⟩
    rw [e 8 (by decide), slot_put_other _ (by decide)]; exact h3.after hb
  · rw [e 7 (by decide)] at q
    obtain ⟨X, h1, h2, h3⟩ := h.y q
    refine ⟨X, by rw [slot_put_other _ (by decide)]; exact h1, h2, ?_⟩
    rw [hp] at h3
    rw [e 9 (by decide), hp]; exact h3.after hb
  · rw [e 6 (by decide)] at q
    rw [e 7 (by decide)] at r
    rw [slot_put_other _ (by decide), slot_put_other _ (by decide)]; exact h.ne q r
  · rw [e 8 (by decide)] at q
    rw [e 2 (by decide), e 6 (by decide)]; exact h.c8 q
  · rw [e 9 (by decide), hp] at q; cases q

theorem FromS.newN (h : FromS w0 L s t m k p j (fun i => listed.getD i false) (slotOf a) W) (h0 : listed.getD 6 false = false) (hz : 3 < a.tmps.size) (ty : TypeId) :
    FromS w0 L s t m k p j (fun i' => (listed.setIfInBounds 6 true).getD i' false) (slotOf (a.put (some 3) (.pointer (some ⟨W.heap.size, 0, none⟩)))) (W.alloc (.cells #[.bool false, .slice none 0 0] ty)) := by
  have e : ∀ i', i' ≠ 6 → (listed.setIfInBounds 6 true).getD i' false = listed.getD i' false := fun i' hi => getD_set_ne false (fun q => hi q.symm)
  have hp := h.off8 (.inr h0)
  have hb := (Below.refl W.heap.size W).alloc (Nat.le_refl _) (.cells #[.bool false, .slice none 0 0] ty)
  refine ⟨h.base.alloc _, fun q => ?_, fun q => ?_, fun q => ?_, fun q => ?_, fun q r => ?_, fun q => ?_, fun q => ?_⟩
  · rw [e 2 (by decide)] at q
    obtain ⟨B, c', h1, h2, h3⟩ := h.n q
    exact ⟨B, c', by rw [slot_put_other _ (by decide)]; exact h1, h2, h3.below hb⟩
  · rw [e 5 (by decide)] at q
    obtain ⟨B, c', h1, h2, h3⟩ := h.d q
    exact ⟨B, c', by rw [slot_put_other _ (by decide)]; exact h1, h2, h3.below hb⟩
  · refine ⟨W.heap.size, slot_put_same _ hz, h.base.lb, ?_⟩
    rw [e 8 (by decide), hp]; exact Row.at rfl _ _
  · rw [e 7 (by decide)] at q
    obtain ⟨X, h1, h2, h3⟩ := h.y q
    refine ⟨X, by rw [slot_put_other _ (by decide)]; exact h1, h2, ?_⟩
    rw [e 9 (by decide), slot_put_other _ (by decide)]; exact h3.alloc _
  · rw [e 7 (by decide)] at r
    obtain ⟨X, h1, h2, h3⟩ := h.y r
    have hlt := h3.lt
    rw [slot_put_same _ hz, slot_put_other _ (by decide), h1]
    intro he
    injection he with he
    injection he with he
    injection he with he
    omega
  · rw [e 8 (by decide), hp] at q; cases q
  · rw [e 9 (by decide)] at q
    rw [e 5 (by decide), e 7 (by decide)]; exact h.c9 q

theorem FromS.newD (h : FromS w0 L s t m k p j (fun i => listed.getD i false) (slotOf a) W) (h0 : listed.getD 7 false = false) (hz : 4 < a.tmps.size) (ty : TypeId) :
    FromS w0 L s t m k p j (fun i' => (listed.setIfInBounds 7 true).getD i' false) (slotOf (a.put (some 4) (.pointer (some ⟨W.heap.size, 0, none⟩)))) (W.alloc (.cells #[.bool false, .slice none 0 0] ty)) := by
  have e : ∀ i', i' ≠ 7 → (listed.setIfInBounds 7 true).getD i' false = listed.getD i' false := fun i' hi => getD_set_ne false (fun q => hi q.symm)
  have hp := h.off9 (.inr h0)
  have hb := (Below.refl W.heap.size W).alloc (Nat.le_refl _) (.cells #[.bool false, .slice none 0 0] ty)
  refine ⟨h.base.alloc _, fun q => ?_, fun q => ?_, fun q => ?_, fun q => ?_, fun q r => ?_, fun q => ?_, fun q => ?_⟩
  · rw [e 2 (by decide)] at q
    obtain ⟨B, c', h1, h2, h3⟩ := h.n q
    exact ⟨B, c', by rw [slot_put_other _ (by decide)]; exact h1, h2, h3.below hb⟩
  · rw [e 5 (by decide)] at q
    obtain ⟨B, c', h1, h2, h3⟩ := h.d q
    exact ⟨B, c', by rw [slot_put_other _ (by decide)]; exact h1, h2, h3.below hb⟩
  · rw [e 6 (by decide)] at q
    obtain ⟨X, h1, h2, h3⟩ := h.x q
    refine ⟨X, by rw [slot_put_other _ (by decide)]; exact h1, h2, ?_⟩
    rw [e 8 (by decide), slot_put_other _ (by decide)]; exact h3.alloc _
  · refine ⟨W.heap.size, slot_put_same _ hz, h.base.lb, ?_⟩
    rw [e 9 (by decide), hp]; exact Row.at rfl _ _
  · rw [e 6 (by decide)] at q
    obtain ⟨X, h1, h2, h3⟩ := h.x q
    have hlt := h3.lt
    rw [slot_put_other _ (by decide), slot_put_same _ hz, h1]
    intro he
    injection he with he
    injection he with he
    injection he with he
    omega
  · rw [e 8 (by decide)] at q
    rw [e 2 (by decide), e 6 (by decide)]; exact h.c8 q
  · rw [e 9 (by decide), hp] at q; cases q

theorem FromS.putN (h : FromS w0 L s t m k p j (fun i => listed.getD i false) (slotOf a) W) (h0 : listed.getD 8 false = false) (hls : listed.size = 10) (h1 : listed.getD 2 false = true) (h2 : listed.getD 6 false = true) {X : Nat} (hX : slotOf a 3 = .pointer (some ⟨X, 0, none⟩)) {cs : Array Value} (hcs : slotOf a 17 = .agg cs) (hl : cs.size = 2) (v : Value) :
    FromS w0 L s t m k p j (fun i' => (listed.setIfInBounds 8 true).getD i' false) (slotOf (a.put none v)) (W.setCells X 0 cs.toList) := by
  have e : ∀ i', i' ≠ 8 → (listed.setIfInBounds 8 true).getD i' false = listed.getD i' false := fun i' hi => getD_set_ne false (fun q => hi q.symm)
  obtain ⟨X', hs', hlb, hr⟩ := h.x h2
  obtain rfl : X' = X := by rw [hX] at hs'; injection hs' with q; injection q with q; injection q with q; exact q.symm
  (try dsimp only at hr)
  rw [h0, if_neg (by decide)] at hr
  have ho := On.setCells W X' cs.toList 0 W (On.refl W X')
  have hz := hr.c 0 rfl
  refine ⟨⟨fun q hq => ho.row (Nat.ne_of_lt (hlb.2 q hq)) (h.base.1 q hq), below_on h.base.2 ho hlb.1⟩, fun q => ?_, fun q => ?_, fun q => ?_, fun q => ?_, fun q r => ?_, fun q => ?_, fun q => ?_⟩
  · rw [e 2 (by decide)] at q
    obtain ⟨B, c', h3, h4, h5⟩ := h.n q
    exact ⟨B, c', h3, h4, h5.on ho hz⟩
  · rw [e 5 (by decide)] at q
    obtain ⟨B, c', h3, h4, h5⟩ := h.d q
    exact ⟨B, c', h3, h4, h5.on ho hz⟩
  · refine ⟨X', hX, hlb, ?_⟩
    show Row _ _ (if (listed.setIfInBounds 8 true).getD 8 false = true then cellsV (slotOf a 17) else zB)
    rw [hcs]
    split
    · exact hr.putAll cs.toList (by simpa using hl.symm)
    · rename_i hn
      exfalso
      have : 8 < listed.size := by
        have := h.c8
        by_cases hq : 8 < listed.size
        · exact hq
        · exact absurd hls (by omega)
      exact hn (by simp [this])
  · rw [e 7 (by decide)] at q
    obtain ⟨Y, h3, h4, h5⟩ := h.y q
    refine ⟨Y, h3, h4, ?_⟩
    (try dsimp only at h5)
    rw [e 9 (by decide)]
    refine ho.row (fun hh => h.ne h2 q ?_) h5
    subst hh
    exact hX.trans h3.symm
  · rw [e 6 (by decide)] at q
    rw [e 7 (by decide)] at r
    exact h.ne q r
  · rw [e 2 (by decide), e 6 (by decide)]; exact ⟨h1, h2⟩
  · rw [e 9 (by decide)] at q
    rw [e 5 (by decide), e 7 (by decide)]; exact h.c9 q

theorem FromS.putD (h : FromS w0 L s t m k p j (fun i => listed.getD i false) (slotOf a) W) (h0 : listed.getD 9 false = false) (hls : listed.size = 10) (h1 : listed.getD 5 false = true) (h2 : listed.getD 7 false = true) {X : Nat} (hX : slotOf a 4 = .pointer (some ⟨X, 0, none⟩)) {cs : Array Value} (hcs : slotOf a 20 = .agg cs) (hl : cs.size = 2) (v : Value) :
    FromS w0 L s t m k p j (fun i' => (listed.setIfInBounds 9 true).getD i' false) (slotOf (a.put none v)) (W.setCells X 0 cs.toList) := by
  have e : ∀ i', i' ≠ 9 → (listed.setIfInBounds 9 true).getD i' false = listed.getD i' false := fun i' hi => getD_set_ne false (fun q => hi q.symm)
  obtain ⟨X', hs', hlb, hr⟩ := h.y h2
  obtain rfl : X' = X := by rw [hX] at hs'; injection hs' with q; injection q with q; injection q with q; exact q.symm
  (try dsimp only at hr)
  rw [h0, if_neg (by decide)] at hr
  have ho := On.setCells W X' cs.toList 0 W (On.refl W X')
  have hz := hr.c 0 rfl
  refine ⟨⟨fun q hq => ho.row (Nat.ne_of_lt (hlb.2 q hq)) (h.base.1 q hq), below_on h.base.2 ho hlb.1⟩, fun q => ?_, fun q => ?_, fun q => ?_, fun q => ?_, fun q r => ?_, fun q => ?_, fun q => ?_⟩
  · rw [e 2 (by decide)] at q
    obtain ⟨B, c', h3, h4, h5⟩ := h.n q
    exact ⟨B, c', h3, h4, h5.on ho hz⟩
  · rw [e 5 (by decide)] at q
    obtain ⟨B, c', h3, h4, h5⟩ := h.d q
    exact ⟨B, c', h3, h4, h5.on ho hz⟩
  · rw [e 6 (by decide)] at q
    obtain ⟨Y, h3, h4, h5⟩ := h.x q
    refine ⟨Y, h3, h4, ?_⟩
    (try dsimp only at h5)
    rw [e 8 (by decide)]
    refine ho.row (fun hh => h.ne q h2 ?_) h5
    subst hh
    exact h3.trans hX.symm
  · refine ⟨X', hX, hlb, ?_⟩
    show Row _ _ (if (listed.setIfInBounds 9 true).getD 9 false = true then cellsV (slotOf a 20) else zB)
    rw [hcs]
    split
    · exact hr.putAll cs.toList (by simpa using hl.symm)
    · rename_i hn
      exfalso
      have : 9 < listed.size := by
        have := h.c9
        by_cases hq : 9 < listed.size
        · exact hq
        · exact absurd hls (by omega)
      exact hn (by simp [this])
  · rw [e 6 (by decide)] at q
    rw [e 7 (by decide)] at r
    exact h.ne q r
  · rw [e 8 (by decide)] at q
    rw [e 2 (by decide), e 6 (by decide)]; exact h.c8 q
  · rw [e 5 (by decide), e 7 (by decide)]; exact ⟨h1, h2⟩

end
set_option maxRecDepth 100000 in
set_option maxHeartbeats 6400000 in
theorem rright_core (s t u : Bool) (a0 a1 a2 a3 b0 b1 b2 b3 : Int) (m k p j gm gk k1 : Nat) (w : World)
    (hR1 : ∀ W, Calls Tryz.prog 116 #[.agg #[.bool s, .int .u64 a0, .int .u64 a1, .int .u64 a2, .int .u64 a3]] W (fun e w' => e = .returned (.bool true) ∧ Below W.heap.size W w'))
    (hR2 : ∀ W, Calls Tryz.prog 116 #[.agg #[.bool t, .int .u64 b0, .int .u64 b1, .int .u64 b2, .int .u64 b3]] W (fun e w' => e = .returned (.bool true) ∧ Below W.heap.size W w'))
    (hF1 : ∀ W, Calls Tryz.prog 83 #[.agg #[.bool s, .int .u64 a0, .int .u64 a1, .int .u64 a2, .int .u64 a3]] W (BgPost W u m k))
    (hF2 : ∀ W, Calls Tryz.prog 83 #[.agg #[.bool t, .int .u64 b0, .int .u64 b1, .int .u64 b2, .int .u64 b3]] W (BgPost W false p j))
    (hS : ∀ B d W, DS W p B → Calls Tryz.prog 103 #[.agg #[.bool false, .slice B j d]] W (fun e w' => e = .returned (.int .i64 1) ∧ Below W.heap.size W w'))
    (hG : ∀ A c B d W, DS W m A → DS W p B → k ≤ c → j ≤ d → Calls Tryz.prog 61 #[.agg #[.bool u, .slice A k c], .agg #[.bool false, .slice B j d]] W (BgPost W false gm gk))
    (hN : ∀ W, Calls Tryz.prog 34 #[.int .i64 1] W (BgPost W false 1 k1))
    (hC : ∀ A c B d W, DS W gm A → DS W 1 B → Calls Tryz.prog 60 #[.agg #[.bool false, .slice A gk c], .agg #[.bool false, .slice B k1 d]] W (fun e w' => e = .returned (.int .i64 0) ∧ Below W.heap.size W w')) :
    Calls Tryz.prog 84 #[.agg #[.bool s, .int .u64 a0, .int .u64 a1, .int .u64 a2, .int .u64 a3, .bool t, .int .u64 b0, .int .u64 b1, .int .u64 b2, .int .u64 b3]] w fun e w' => e = .returned (.bool true) ∧ Below w.heap.size w w' := by
  have H_hR1 := Lib.hid hR1; clear hR1
  have H_hR2 := Lib.hid hR2; clear hR2
  have H_hF1 := Lib.hid hF1; clear hF1
  have H_hF2 := Lib.hid hF2; clear hF2
  have H_hS := Lib.hid hS; clear hS
  have H_hG := Lib.hid hG; clear hG
  have H_hN := Lib.hid hN; clear hN
  have H_hC := Lib.hid hC; clear hC
  go_enter Tryz.func84, Tryz.ntmps84
  go_upto_region 1 with fail
  generalize hW : World.alloc _ _ = W0
  have hK : KS w ([] ++ [(w.heap.size, #[.bool s, .int .u64 a0, .int .u64 a1, .int .u64 a2, .int .u64 a3, .bool t, .int .u64 b0, .int .u64 b1, .int .u64 b2, .int .u64 b3])]) W0 := by rw [← hW]; exact (KS.nil w).boxed rfl _ _
  clear hW
  generalize hL : ([] ++ [(w.heap.size, #[.bool s, .int .u64 a0, .int .u64 a1, .int .u64 a2, .int .u64 a3, .bool t, .int .u64 b0, .int .u64 b1, .int .u64 b2, .int .u64 b3])] : List (Nat × Array Value)) = L at hK
  have HL := Lib.hid hL; clear hL
  have y0 : ∀ W, KS w L W → W.cell? ⟨w.heap.size, 0, none⟩ = some (.bool s) := fun W h => h.c 0 (by rw [← HL.out]; rfl) 0 rfl
  have y1 : ∀ W, KS w L W → W.cell? ⟨w.heap.size, 1, none⟩ = some (.int .u64 a0) := fun W h => h.c 0 (by rw [← HL.out]; rfl) 1 rfl
  have y2 : ∀ W, KS w L W → W.cell? ⟨w.heap.size, 2, none⟩ = some (.int .u64 a1) := fun W h => h.c 0 (by rw [← HL.out]; rfl) 2 rfl
  have y3 : ∀ W, KS w L W → W.cell? ⟨w.heap.size, 3, none⟩ = some (.int .u64 a2) := fun W h => h.c 0 (by rw [← HL.out]; rfl) 3 rfl
  have y4 : ∀ W, KS w L W → W.cell? ⟨w.heap.size, 4, none⟩ = some (.int .u64 a3) := fun W h => h.c 0 (by rw [← HL.out]; rfl) 4 rfl
  have y5 : ∀ W, KS w L W → W.cell? ⟨w.heap.size, 5, none⟩ = some (.bool t) := fun W h => h.c 0 (by rw [← HL.out]; rfl) 5 rfl
  have y6 : ∀ W, KS w L W → W.cell? ⟨w.heap.size, 6, none⟩ = some (.int .u64 b0) := fun W h => h.c 0 (by rw [← HL.out]; rfl) 6 rfl
  have y7 : ∀ W, KS w L W → W.cell? ⟨w.heap.size, 7, none⟩ = some (.int .u64 b1) := fun W h => h.c 0 (by rw [← HL.out]; rfl) 7 rfl
  have y8 : ∀ W, KS w L W → W.cell? ⟨w.heap.size, 8, none⟩ = some (.int .u64 b2) := fun W h => h.c 0 (by rw [← HL.out]; rfl) 8 rfl
  have y9 : ∀ W, KS w L W → W.cell? ⟨w.heap.size, 9, none⟩ = some (.int .u64 b3) := fun W h => h.c 0 (by rw [← HL.out]; rfl) 9 rfl
  have x0 := y0 _ hK
  have x1 := y1 _ hK
  have x2 := y2 _ hK
  have x3 := y3 _ hK
  have x4 := y4 _ hK
  have HY := Lib.hid (And.intro y0 (And.intro y1 (And.intro y2 (And.intro y3 (And.intro y4 (And.intro y5 (And.intro y6 (And.intro y7 (And.intro y8 y9)))))))))
  clear y0 y1 y2 y3 y4 y5 y6 y7 y8 y9
  go_wp2_with fail
  refine (H_hR1.out _).mono ?_
  rintro e w1 ⟨rfl, hb⟩
  replace hK := hK.after hb
  clear hb x0 x1 x2 x3 x4
  obtain ⟨y0, y1, y2, y3, y4, y5, y6, y7, y8, y9⟩ := HY.out
  have x5 := y5 _ hK
  have x6 := y6 _ hK
  have x7 := y7 _ hK
  have x8 := y8 _ hK
  have x9 := y9 _ hK
  clear y0 y1 y2 y3 y4 y5 y6 y7 y8 y9
  go_wp2_with fail
  refine (H_hR2.out _).mono ?_
  rintro e w2 ⟨rfl, hb⟩
  replace hK := hK.after hb
  clear hb x5 x6 x7 x8 x9
  go_upto_region 3 with fail
  go_cut [3, 4] from 15 to 20 (fun x y wx => ∃ X Y A c B d, x = .pointer (some ⟨X, 0, none⟩) ∧ y = .pointer (some ⟨Y, 0, none⟩) ∧ Hid (Below w.heap.size w wx ∧ Row wx X [.bool u, .slice A k c] ∧ Row wx Y [.bool false, .slice B j d] ∧ (k ≤ c ∧ j ≤ d) ∧ DS wx m A ∧ DS wx p B))
  case first =>
    refine wp_region_midG (by kernel_rfl) [] (fun i => match i with
      | 0 => some (.pointer (some ⟨w.heap.size, 0, none⟩))
      | 1 => some (.agg #[.bool s, .int .u64 a0, .int .u64 a1, .int .u64 a2, .int .u64 a3])
      | 3 => some (.pointer (some ⟨w.heap.size, 5, none⟩))
      | 4 => some (.agg #[.bool t, .int .u64 b0, .int .u64 b1, .int .u64 b2, .int .u64 b3])
      | _ => none) (fun j hj => by cases hj) (FromS w L u false m k p j) (by kernel_rfl) (FromS.start hK.drew _) ?_ ?_
    · intro listed a W i o hI ho h0 hdep K hK'
      have hi : i < 10 := (Array.getElem?_eq_some_iff.1 ho).1
      have hS := hI.world
      have hls : listed.size = 10 := hI.lsize
      have hsz : a.tmps.size = 32 := hI.size
      have q1 : a.tmps[1]?.getD undef = .pointer (some ⟨w.heap.size, 0, none⟩) := hI.old 1 (noDst_spec (by kernel_rfl))
      have h0' := getD_no h0
      have hcase : i = 0 ∨ i = 1 ∨ i = 2 ∨ i = 3 ∨ i = 4 ∨ i = 5 ∨ i = 6 ∨ i = 7 ∨ i = 8 ∨ i = 9 := by omega
      clear hi
      rcases hcase with rfl | rfl | rfl | rfl | rfl | rfl | rfl | rfl | rfl | rfl
      · obtain rfl := Option.some.inj (show some _ = some o from ho)
        clear hdep hI ho hsz
        go_simp
        exact hK' (.pointer (some ⟨w.heap.size, 0, none⟩)) _ (fun u hu => Option.some.inj (show some _ = some u from hu)) (hS.next (Below.refl _ _) 0 15 _ (by decide) (by decide))
      · obtain rfl := Option.some.inj (show some _ = some o from ho)
        have d0 : listed.getD 0 false = true := hdep ⟨0, .data⟩ (by simp) rfl
        have q15 : a.tmps[15]?.getD undef = .pointer (some ⟨w.heap.size, 0, none⟩) := hI.val 0 _ 15 _ rfl rfl rfl d0
        obtain ⟨y0, y1, y2, y3, y4, y5, y6, y7, y8, y9⟩ := HY.out
        have x0 := y0 _ hS.base
        have x1 := y1 _ hS.base
        have x2 := y2 _ hS.base
        have x3 := y3 _ hS.base
        have x4 := y4 _ hS.base
        clear y0 y1 y2 y3 y4 y5 y6 y7 y8 y9
        clear hdep hI ho hsz
        go_simp
        exact hK' (.agg #[.bool s, .int .u64 a0, .int .u64 a1, .int .u64 a2, .int .u64 a3]) _ (fun u hu => Option.some.inj (show some _ = some u from hu)) (hS.next (Below.refl _ _) 1 16 _ (by decide) (by decide))
      · obtain rfl := Option.some.inj (show some _ = some o from ho)
        have d1 : listed.getD 1 false = true := hdep ⟨1, .data⟩ (by simp) rfl
        have q16 : a.tmps[16]?.getD undef = .agg #[.bool s, .int .u64 a0, .int .u64 a1, .int .u64 a2, .int .u64 a3] := hI.val 1 _ 16 _ rfl rfl rfl d1
        clear hdep hI ho
        have HZ := Lib.hid hsz; clear hsz
        go_simp
        refine (H_hF1.out _).mono ?_
        rintro e W1 ⟨A, c, rfl, hc, hd, hb⟩
        exact hK' _ _ (fun u hu => absurd (show (none : Option Value) = some u from hu) (by simp)) (hS.callN hb h0' (by rw [HZ.out]; decide) A c hc hd)
      · obtain rfl := Option.some.inj (show some _ = some o from ho)
        clear hdep hI ho hsz
        go_simp
        exact hK' (.pointer (some ⟨w.heap.size, 5, none⟩)) _ (fun u hu => Option.some.inj (show some _ = some u from hu)) (hS.next (Below.refl _ _) 3 18 _ (by decide) (by decide))
      · obtain rfl := Option.some.inj (show some _ = some o from ho)
        have d3 : listed.getD 3 false = true := hdep ⟨3, .data⟩ (by simp) rfl
        have q18 : a.tmps[18]?.getD undef = .pointer (some ⟨w.heap.size, 5, none⟩) := hI.val 3 _ 18 _ rfl rfl rfl d3
        obtain ⟨y0, y1, y2, y3, y4, y5, y6, y7, y8, y9⟩ := HY.out
        have x5 := y5 _ hS.base
        have x6 := y6 _ hS.base
        have x7 := y7 _ hS.base
        have x8 := y8 _ hS.base
        have x9 := y9 _ hS.base
        clear y0 y1 y2 y3 y4 y5 y6 y7 y8 y9
        clear hdep hI ho hsz
        go_simp
        exact hK' (.agg #[.bool t, .int .u64 b0, .int .u64 b1, .int .u64 b2, .int .u64 b3]) _ (fun u hu => Option.some.inj (show some _ = some u from hu)) (hS.next (Below.refl _ _) 4 19 _ (by decide) (by decide))
      · obtain rfl := Option.some.inj (show some _ = some o from ho)
        have d4 : listed.getD 4 false = true := hdep ⟨4, .data⟩ (by simp) rfl
        have q19 : a.tmps[19]?.getD undef = .agg #[.bool t, .int .u64 b0, .int .u64 b1, .int .u64 b2, .int .u64 b3] := hI.val 4 _ 19 _ rfl rfl rfl d4
        clear hdep hI ho
        have HZ := Lib.hid hsz; clear hsz
        go_simp
        refine (H_hF2.out _).mono ?_
        rintro e W1 ⟨A, c, rfl, hc, hd, hb⟩
        exact hK' _ _ (fun u hu => absurd (show (none : Option Value) = some u from hu) (by simp)) (hS.callD hb h0' (by rw [HZ.out]; decide) A c hc hd)
      · obtain rfl := Option.some.inj (show some _ = some o from ho)
        clear hdep hI ho
        have HZ := Lib.hid hsz; clear hsz
        go_simp
        exact hK' _ _ (fun u hu => absurd (show (none : Option Value) = some u from hu) (by simp)) (hS.newN h0' (by rw [HZ.out]; decide) _)
      · obtain rfl := Option.some.inj (show some _ = some o from ho)
        clear hdep hI ho
        have HZ := Lib.hid hsz; clear hsz
        go_simp
        exact hK' _ _ (fun u hu => absurd (show (none : Option Value) = some u from hu) (by simp)) (hS.newD h0' (by rw [HZ.out]; decide) _)
      · obtain rfl := Option.some.inj (show some _ = some o from ho)
        have d2 : listed.getD 2 false = true := hdep ⟨2, .data⟩ (by simp) rfl
        have d6 : listed.getD 6 false = true := hdep ⟨6, .data⟩ (by simp) rfl
        obtain ⟨A, c, hA, hc, hd⟩ := hS.n d2
        obtain ⟨X, hX, hlb, hr⟩ := hS.x d6
        (try dsimp only at hr)
        rw [h0', if_neg (by decide)] at hr
        have e1 : a.eval (.tmp 3) = .pointer (some ⟨X, 0, none⟩) := by rw [← hX]; exact act_tmp' a 3
        have e2 : a.eval (.tmp 17) = .agg #[.bool u, .slice A k c] := by rw [← hA]; exact act_tmp' a 17
        refine wp_store_mid _ _ _ rfl X 0 #[.bool u, .slice A k c] e1 e2 (hr.there 0 2 (Nat.le_refl _)) agg_big.2 (by simp [Value.oneCell']) ?_
        exact hK' undef _ (fun u hu => absurd (show (none : Option Value) = some u from hu) (by simp)) (hS.putN h0' hls d2 d6 hX hA rfl _)
      · obtain rfl := Option.some.inj (show some _ = some o from ho)
        have d5 : listed.getD 5 false = true := hdep ⟨5, .data⟩ (by simp) rfl
        have d7 : listed.getD 7 false = true := hdep ⟨7, .data⟩ (by simp) rfl
        obtain ⟨A, c, hA, hc, hd⟩ := hS.d d5
        obtain ⟨X, hX, hlb, hr⟩ := hS.y d7
        (try dsimp only at hr)
        rw [h0', if_neg (by decide)] at hr
        have e1 : a.eval (.tmp 4) = .pointer (some ⟨X, 0, none⟩) := by rw [← hX]; exact act_tmp' a 4
        have e2 : a.eval (.tmp 20) = .agg #[.bool false, .slice A j c] := by rw [← hA]; exact act_tmp' a 20
        refine wp_store_mid _ _ _ rfl X 0 #[.bool false, .slice A j c] e1 e2 (hr.there 0 2 (Nat.le_refl _)) agg_big.2 (by simp [Value.oneCell']) ?_
        exact hK' undef _ (fun u hu => absurd (show (none : Option Value) = some u from hu) (by simp)) (hS.putD h0' hls d5 d7 hX hA rfl _)
    · intro listed a W hI hall
      obtain ⟨X, hX, _, hrX⟩ := hI.world.x (hall 6 (by decide))
      obtain ⟨Y, hY, _, hrY⟩ := hI.world.y (hall 7 (by decide))
      obtain ⟨A, c, hA, hc, hdA⟩ := hI.world.n (hall 2 (by decide))
      obtain ⟨B, d, hB, hd, hdB⟩ := hI.world.d (hall 5 (by decide))
      (try dsimp only at hrX hrY)
      rw [hall 8 (by decide), if_pos rfl, hA] at hrX
      rw [hall 9 (by decide), if_pos rfl, hB] at hrY
      have hbase := hI.world.base.2
      obtain ⟨f, hf⟩ : ∃ f : Nat → Value, ∀ t, slotOf a t = f t := ⟨_, fun _ => rfl⟩
      have ha := hI.frame [15, 16, 17, 18, 19, 20, 3, 4] (by kernel_rfl) f hf
      have e3 : f 3 = .pointer (some ⟨X, 0, none⟩) := (hf 3).symm.trans hX
      have e4 : f 4 = .pointer (some ⟨Y, 0, none⟩) := (hf 4).symm.trans hY
      clear hf hI hX hY hA hB hall
      subst ha
      simp only [setAll, List.foldl_cons, List.foldl_nil, List.setIfInBounds_toArray, List.set_cons_zero, List.set_cons_succ, e3, e4]
      go_wp2_with fail
      go_meet
      exact ⟨_, _, A, c, B, d, rfl, rfl, Lib.hid ⟨hbase, hrX, hrY, ⟨hc, hd⟩, hdA, hdB⟩⟩
  case rest =>
    obtain ⟨X, Y, A, c, B, d, rfl, rfl, HF⟩ := hcut
    clear hK HL HY
    have hB0 := HF.out.1
    have rX := HF.out.2.1
    have rY := HF.out.2.2.1
    have HC := Lib.hid HF.out.2.2.2.1
    have dA := HF.out.2.2.2.2.1
    have dB := HF.out.2.2.2.2.2
    have y0 := rY.c 0 rfl
    have y1 := rY.c 1 rfl
    have HD := Lib.hid (And.intro dA dB)
    have HR := Lib.hid (And.intro rX (And.intro rY hB0))
    clear HF dA dB rX rY hB0
    go_wp2_with fail
    refine (H_hS.out _ _ _ HD.out.2).mono ?_
    rintro e w3 ⟨rfl, hb⟩
    have HR3 := Lib.hid (And.intro (HR.out.1.after hb) (And.intro (HR.out.2.1.after hb) (HR.out.2.2.trans (hb.mono HR.out.2.2.size))))
    have HD3 := Lib.hid (And.intro (HD.out.1.below hb) (HD.out.2.below hb))
    clear hb HR HD y0 y1
    have x0 := HR3.out.1.c 0 rfl
    have x1 := HR3.out.1.c 1 rfl
    have y0 := HR3.out.2.1.c 0 rfl
    have y1 := HR3.out.2.1.c 1 rfl
    go_wp2_with fail
    refine (H_hG.out _ _ _ _ _ HD3.out.1 HD3.out.2 HC.out.1 HC.out.2).mono ?_
    rintro e w4 ⟨G, g, rfl, hg, dG, hb⟩
    have HB4 := Lib.hid (HR3.out.2.2.trans (hb.mono HR3.out.2.2.size))
    have HG4 := Lib.hid dG
    clear hb HR3 HD3 x0 x1 y0 y1 hg dG
    go_wp2_with fail
    refine (H_hN.out _).mono ?_
    rintro e w5 ⟨E, h, rfl, hh, dE, hb⟩
    have HB5 := Lib.hid (HB4.out.trans (hb.mono HB4.out.size))
    have HG5 := Lib.hid (And.intro (HG4.out.below hb) dE)
    clear hb HB4 HG4 hh dE
    go_wp2_with fail
    refine (H_hC.out _ _ _ _ _ HG5.out.1 HG5.out.2).mono ?_
    rintro e w6 ⟨rfl, hb⟩
    have HB6 := Lib.hid (HB5.out.trans (hb.mono HB5.out.size))
    clear hb HB5 HG5
    go_wp2_with fail
    go_ret
    exact ⟨rfl, HB6.out⟩
end Go.Proofs.YthmobcpdbgmbeaaGreatDoor
