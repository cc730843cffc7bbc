/- The region walk of RF, where the last two operations may write what lay there, one after the other. -/
import Derived.Test.YtdfmmkidknginaaGreatDoorZKkZG
namespace Go.Proofs.YtdfmmkidknginaaGreatDoor
open Go.RowKit
section
variable {P : Program} {ops : Array Oper} {Q : Exit → Act → World → Prop}
def awaits (ops : Array Oper) (k i : Nat) : Bool := match ops[k]? with
  | some o => o.after.any fun e => e.on == i && Region.binds .any e
  | none => false
def finOk2 (ops : Array Oper) (f : Nat) : Bool := f + 2 == ops.size && ((List.range f).all fun i => (List.range (f + 1)).any fun k => decide (i < k) && awaits ops k i) && awaits ops (f + 1) f
theorem awaits_shut {ls : Nat → Bool} {k i : Nat} (h : awaits ops k i = true) (hs : Shut ops ls) (hk : ls k = true) : ls i = true := by
  unfold awaits at h
  cases ho : ops[k]? with
  | none => rw [ho] at h; cases h
  | some o =>
    rw [ho] at h
    obtain ⟨j, hj, h7⟩ := Array.any_eq_true.1 h
    obtain ⟨h8, h9⟩ := Bool.and_eq_true_iff.1 h7
    have h8 : o.after[j].on = i := by simpa using h8
    rw [← h8]
    exact hs k o ho hk _ (Array.getElem_mem hj) h9
theorem shut_all2 {ls : Nat → Bool} {f : Nat} (h : finOk2 ops f = true) (hs : Shut ops ls) (hf : ls f = true) : ∀ (d i : Nat), f - i = d → i ≤ f → ls i = true := by
  unfold finOk2 at h
  obtain ⟨h, _⟩ := Bool.and_eq_true_iff.1 h
  obtain ⟨_, h2⟩ := Bool.and_eq_true_iff.1 h
  intro d
  induction d using Nat.strongRecOn with
  | ind d ih =>
    intro i hd hi
    by_cases he : i = f
    · rw [he]; exact hf
    · have h3 := List.all_eq_true.1 h2 i (List.mem_range.2 (by omega))
      obtain ⟨k, hk, h4⟩ := List.any_eq_true.1 h3
      have hk := List.mem_range.1 hk
      obtain ⟨h5, h6⟩ := Bool.and_eq_true_iff.1 h4
      have h5 : i < k := by simpa using h5
      exact awaits_shut h6 hs (ih (f - k) (by omega) k rfl (by omega))
/-- What the region's walk carries. -/
def FctS2 (ops : Array Oper) (f : Nat) (w : World) (F : List Fct) (i1 s1 i2 s2 : Nat) (One Fin : (Nat → Value) → World → Prop) (ls : Nat → Bool) (sl : Nat → Value) (W : World) : Prop :=
  Shut ops ls ∧ (ls f = false → Below w.heap.size w W ∧ (∀ p ∈ F, ls p.idx = true → p.holds (sl p.slot) W) ∧ (ls i1 = true → ls i2 = true → sl s1 ≠ sl s2)) ∧ (ls f = true → ls (f + 1) = false → One sl W) ∧ (ls (f + 1) = true → Fin sl W)
theorem wp_region_fct2 {id : Nat} {a : Act} {w : World} (hm : P.follows .mixedOrders = true) (gs : List Nat) (vs : Nat → Option Value) (hgs : ∀ j, j ∈ gs → vs j = some (.bool true)) (f : Nat) (F : List Fct) (i1 s1 i2 s2 : Nat) (One Fin : (Nat → Value) → World → Prop)
    (hok : midOkG ops a.tmps.size gs = true) (hfin : finOk2 ops f = true) (hF : (F.all fun p => dstOf ops p.idx == some p.slot) = true) (h12 : (dstOf ops i1 == some s1 && dstOf ops i2 == some s2 && i1 != i2) = true)
    (run : ∀ (listed : Array Bool) (a' : Act) (w' : World) (i : Nat) (o : Oper), Mid ops a vs (FctS2 ops f w F i1 s1 i2 s2 One Fin) listed a' w' → ops[i]? = some o → i < f + 1 → (∀ e ∈ o.after, Region.binds .any e = true → listed.getD e.on false = true) →
      Below w.heap.size w w' → (∀ p ∈ F, listed.getD p.idx false = true → p.holds (slotOf a' p.slot) w') → (listed.getD i1 false = true → listed.getD i2 false = true → slotOf a' s1 ≠ slotOf a' s2) →
      ∀ K : Act → World → Prop, (i ≠ f → ∀ v w'', (∀ u, vs i = some u → v = u) → Below w'.heap.size w' w'' → (∀ p ∈ F, p.idx = i → p.holds v w'') → ((i = i1 → listed.getD i2 false = true → v ≠ slotOf a' s2) ∧ (i = i2 → listed.getD i1 false = true → slotOf a' s1 ≠ v)) → K (a'.put o.dst v) w'') →
        (i = f → ∀ v w'', (∀ u, vs i = some u → v = u) → One (slotOf (a'.put o.dst v)) w'' → K (a'.put o.dst v) w'') → o.wp P a' w' K Q)
    (last : ∀ (listed : Array Bool) (a' : Act) (w' : World) (o : Oper), Mid ops a vs (FctS2 ops f w F i1 s1 i2 s2 One Fin) listed a' w' → ops[f + 1]? = some o → (∀ i, i ≤ f → listed.getD i false = true) → One (slotOf a') w' →
      ∀ K : Act → World → Prop, (∀ v w'', (∀ u, vs (f + 1) = some u → v = u) → Fin (slotOf (a'.put o.dst v)) w'' → K (a'.put o.dst v) w'') → o.wp P a' w' K Q)
    (done : ∀ (listed : Array Bool) (a' : Act) (w' : World), Mid ops a vs (FctS2 ops f w F i1 s1 i2 s2 One Fin) listed a' w' → (∀ i, i < ops.size → listed.getD i false = true) → Fin (slotOf a') w' → Q .normal a' w') : (Code.region id ops true).wp P Q a w := by
  have hdst := midOkG_dst hok
  have hsz : f + 2 = ops.size := by
    unfold finOk2 at hfin
    simpa using (Bool.and_eq_true_iff.1 (Bool.and_eq_true_iff.1 hfin).1).1
  have hlast : awaits ops (f + 1) f = true := (Bool.and_eq_true_iff.1 hfin).2
  have hdF : ∀ p ∈ F, dstOf ops p.idx = some p.slot := fun p hp => by simpa using List.all_eq_true.1 hF p hp
  obtain ⟨h12, hne12⟩ := Bool.and_eq_true_iff.1 h12
  obtain ⟨hd1, hd2⟩ := Bool.and_eq_true_iff.1 h12
  have hd1 : dstOf ops i1 = some s1 := by simpa using hd1
  have hd2 : dstOf ops i2 = some s2 := by simpa using hd2
  have hne12 : i1 ≠ i2 := by simpa using hne12
  refine wp_region_midG hm gs vs hgs (FctS2 ops f w F i1 s1 i2 s2 One Fin) hok ⟨fun _ _ _ h => absurd h Bool.false_ne_true, fun _ => ⟨(Below.refl _ _).drew, fun _ _ h => absurd h Bool.false_ne_true, fun h => absurd h Bool.false_ne_true⟩, fun h => absurd h Bool.false_ne_true, fun h => absurd h Bool.false_ne_true⟩ ?_ ?_
  · intro listed a' w' i o hI ho h0 hdep K hK
    obtain ⟨hsh, hpre, hone, _⟩ := hI.world
    have hi : i < ops.size := (Array.getElem?_eq_some_iff.1 ho).1
    have hil : i < listed.size := by rw [hI.lsize]; exact hi
    have hS1 : Shut ops (fun j => (listed.setIfInBounds i true).getD j false) := by
      intro k o' hk hl e he hb
      by_cases hki : i = k
      · subst hki
        obtain rfl : o' = o := by rw [ho] at hk; exact (Option.some.inj hk).symm
        exact fct_up (hdep e he hb)
      · have hl' : listed.getD k false = true := by
          have h := hl
          simp only [] at h
          rw [getD_set_ne false hki] at h; exact h
        exact fct_up (hsh k o' hk hl' e he hb)
    have hi1 : (listed.setIfInBounds i true).getD i false = true := by simp [hil]
    by_cases hif : i = f + 1
    · subst hif
      have hf : listed.getD f false = true := by
        unfold awaits at hlast
        rw [ho] at hlast
        obtain ⟨j, hj, h7⟩ := Array.any_eq_true.1 hlast
        obtain ⟨h8, h9⟩ := Bool.and_eq_true_iff.1 h7
        have h8 : o.after[j].on = f := by simpa using h8
        rw [← h8]
        exact hdep _ (Array.getElem_mem hj) h9
      refine last listed a' w' o hI ho (fun i hi => shut_all2 hfin hsh hf _ i rfl hi) (hone hf (fct_no h0)) K (fun v w'' hv hfw => hK v w'' hv ⟨hS1, fun h => ?_, fun _ h => ?_, fun _ => hfw⟩)
      · have h' := h
        simp only [] at h'
        rw [getD_set_ne false (by omega), hf] at h'; cases h'
      · have h' := h
        simp only [] at h'
        rw [hi1] at h'; cases h'
    · have hnf : listed.getD f false = false := by
        cases hl : listed.getD f false with
        | false => rfl
        | true =>
          exfalso
          have := shut_all2 hfin hsh hl _ i rfl (by omega)
          rw [fct_no h0] at this
          cases this
      have hnl : listed.getD (f + 1) false = false := by
        cases hl : listed.getD (f + 1) false with
        | false => rfl
        | true =>
          exfalso
          have := awaits_shut hlast hsh hl
          rw [hnf] at this
          cases this
      obtain ⟨hB, hFs, hD⟩ := hpre hnf
      have keepS : ∀ (j s : Nat) (v : Value), j ≠ i → dstOf ops j = some s → slotOf (a'.put o.dst v) s = slotOf a' s := by
        intro j s v hji hd
        cases hod : o.dst with
        | none => rfl
        | some s' =>
          refine slot_put_other v (fun e => ?_)
          unfold dstOf at hd
          cases hop : ops[j]? with
          | none => rw [hop] at hd; cases hd
          | some o' =>
            rw [hop] at hd
            exact hji (hdst j i o' o s hop ho hd (by rw [hod, e]))
      have sameS : ∀ (s : Nat) (v : Value), dstOf ops i = some s → slotOf (a'.put o.dst v) s = v := by
        intro s v hd
        have hod : o.dst = some s := by
          unfold dstOf at hd
          rw [ho] at hd
          exact hd
        rw [hod, slot_put_same v (by rw [hI.size]; exact (midOkG_one hok i o ho).1 _ hod)]
      have hnl1 : (listed.setIfInBounds i true).getD (f + 1) false = false := by rw [getD_set_ne false hif]; exact hnl
      refine run listed a' w' i o hI ho (by omega) hdep hB hFs hD K (fun hne v w'' hv hb hnew hdf => hK v w'' hv ⟨hS1, fun _ => ⟨hB.trans (hb.mono hB.size), fun p hp hl => ?_, fun l1 l2 => ?_⟩, fun h => ?_, fun h => ?_⟩) (fun he v w'' hv hfw => hK v w'' hv ⟨hS1, fun h => ?_, fun _ _ => hfw, fun h => ?_⟩)
      · have hd := hdF p hp
        by_cases hpi : p.idx = i
        · rw [sameS p.slot v (by rw [← hpi]; exact hd)]
          exact hnew p hp hpi
        · have hl' : listed.getD p.idx false = true := by
            have h := hl
            simp only [] at h
            rw [getD_set_ne false (fun e => hpi e.symm)] at h; exact h
          have h1 := p.keep _ _ _ (hFs p hp hl') hb
          rw [keepS p.idx p.slot v hpi hd]
          exact h1
      · have l1' := l1
        have l2' := l2
        simp only [] at l1' l2'
        by_cases e1 : i1 = i
        · rw [getD_set_ne false (by omega)] at l2'
          rw [sameS s1 v (by rw [← e1]; exact hd1), keepS i2 s2 v (by omega) hd2]
          exact hdf.1 e1.symm l2'
        · rw [getD_set_ne false (by omega)] at l1'
          by_cases e2 : i2 = i
          · rw [sameS s2 v (by rw [← e2]; exact hd2), keepS i1 s1 v e1 hd1]
            exact hdf.2 e2.symm l1'
          · rw [getD_set_ne false (by omega)] at l2'
            rw [keepS i1 s1 v e1 hd1, keepS i2 s2 v e2 hd2]
            exact hD l1' l2'
      · have h' := h
        simp only [] at h'
        rw [getD_set_ne false hne, hnf] at h'; cases h'
      · have h' := h
        simp only [] at h'
        rw [hnl1] at h'; cases h'
      · subst he
        have h' := h
        simp only [] at h'
        rw [hi1] at h'; cases h'
      · have h' := h
        simp only [] at h'
        rw [hnl1] at h'; cases h'
  · intro listed a' w' hI hall
    obtain ⟨_, _, _, hfi⟩ := hI.world
    exact done listed a' w' hI hall (hfi (hall (f + 1) (by omega)))
end
end Go.Proofs.YtdfmmkidknginaaGreatDoor
namespace Go.Proofs.YtdfmmkidknginaaGreatDoor
open Go.RowKit
theorem Marks.lt {B : Nat} {X : World} : ∀ {l : List Nat}, Marks B l X → ∀ D ∈ l, D < X.heap.size
  | [], _, D, hD => by cases hD
  | E :: _, ⟨_, h2, _, h4⟩, D, hD => by
    rcases List.mem_cons.1 hD with rfl | h
    · exact (Array.getElem?_eq_some_iff.1 h2).1
    · exact h4.lt D h
end Go.Proofs.YtdfmmkidknginaaGreatDoor
