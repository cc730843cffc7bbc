import Derived.Test.YtongeeggaigepaaGreatDoorZKkRI
import Derived.Below
namespace Go.Proofs.YtongeeggaigepaaGreatDoor
open Go.RowKit
structure Fct where
 idx : Nat
 slot : Nat
 holds : Value → World → Prop
 keep : ∀ v X Y, holds v X → Below X.heap.size X Y → holds v Y
section
variable {P : Program} {ops : Array Oper} {Q : Exit → Act → World → Prop}
def Shut (ops : Array Oper) (ls : Nat → Bool) : Prop := ∀ (i : Nat) (o : Oper), ops[i]? = some o → ls i = true → ∀ e ∈ o.after, Region.binds .any e = true → ls e.on = true
def finOk (ops : Array Oper) (fin : Nat) : Bool := fin == ops.size || (fin + 1 == ops.size && (List.range fin).all fun i => (List.range ops.size).any fun k => decide (i < k) && match ops[k]? with
 | some o => o.after.any fun e => e.on == i && Region.binds .any e
 | none => false)
theorem shut_all {ls : Nat → Bool} {fin : Nat} (h : finOk ops fin = true) (hn : fin ≠ ops.size) (hs : Shut ops ls) (hf : ls fin = true) : ∀ (d i : Nat), fin - i = d → i ≤ fin → ls i = true := by
 unfold finOk at h
 rcases Bool.or_eq_true_iff.1 h with h | h
 ·exact absurd (by simpa using h) hn
 obtain ⟨h1, h2⟩ := Bool.and_eq_true_iff.1 h
 have h1 : fin + 1 = ops.size := by simpa using h1
 intro d
 induction d using Nat.strongRecOn with
 | ind d ih =>
   intro i hd hi
   by_cases he : i = fin
   ·rw [he]; exact hf
   ·have h3 := List.all_eq_true.1 h2 i (List.mem_range.2 (by omega))
    obtain ⟨k, hk, h4⟩ := List.any_eq_true.1 h3
    have hk := List.mem_range.1 hk
    obtain ⟨h5, h6⟩ := Bool.and_eq_true_iff.1 h4
    have h5 : i < k := by simpa using h5
    cases ho : ops[k]? with
    | none => rw [ho] at h6; cases h6
    | some o =>
      rw [ho] at h6
      obtain ⟨j, hj, h7⟩ := Array.any_eq_true.1 h6
      obtain ⟨h8, h9⟩ := Bool.and_eq_true_iff.1 h7
      have h8 : o.after[j].on = i := by simpa using h8
      rw [← h8]
      exact hs k o ho (ih (fin - k) (by omega) k rfl (by omega)) _ (Array.getElem_mem hj) h9
theorem fct_no {listed : Array Bool} {i : Nat} (h : listed.getD i true = false) : listed.getD i false = false := by
 by_cases hi : i < listed.size
 ·simp [hi] at h ⊢; exact h
 ·simp [hi] at h
theorem fct_up {listed : Array Bool} {j k : Nat} (h : listed.getD k false = true) : (listed.setIfInBounds j true).getD k false = true := by
 by_cases e : j = k
 ·subst e
  by_cases hk : j < listed.size
  ·simp [hk]
  ·simp [hk] at h
 ·rw [getD_set_ne false e]; exact h
theorem fct_none {F : List Fct} {i : Nat} (h : (F.all fun p => p.idx != i) = true) {C : Fct → Prop} : ∀ p ∈ F, p.idx = i → C p := fun p hp e => by
 have := List.all_eq_true.1 h p hp
 rw [e] at this
 simp at this
theorem fct_ne {p : Fct} {i j : Nat} (h : (p.idx, i != j) = (i, true)) : p.idx ≠ j := by
 obtain ⟨h1, h2⟩ := Prod.mk.inj h
 rw [h1]; simpa using h2
def FctS (ops : Array Oper) (fin : Nat) (w : World) (F : List Fct) (Fin : (Nat → Value) → World → Prop) (ls : Nat → Bool) (sl : Nat → Value) (W : World) : Prop :=
 Shut ops ls ∧ (ls fin = false → Below w.heap.size w W ∧ ∀ p ∈ F, ls p.idx = true → p.holds (sl p.slot) W) ∧ (ls fin = true → Fin sl W)
theorem wp_region_fct {id : Nat} {a : Act} {w : World} (hm : P.follows .mixedOrders = true) (gs : List Nat) (vs : Nat → Option Value) (hgs : ∀ j, j ∈ gs → vs j = some (.bool true)) (fin : Nat) (F : List Fct) (Fin : (Nat → Value) → World → Prop)
 (hok : midOkG ops a.tmps.size gs = true) (hfin : finOk ops fin = true) (hF : (F.all fun p => dstOf ops p.idx == some p.slot) = true)
 (run : ∀ (listed : Array Bool) (a' : Act) (w' : World) (i : Nat) (o : Oper), Mid ops a vs (FctS ops fin w F Fin) listed a' w' → ops[i]? = some o → (∀ e ∈ o.after, Region.binds .any e = true → listed.getD e.on false = true) →
   Below w.heap.size w w' → (∀ p ∈ F, listed.getD p.idx false = true → p.holds (slotOf a' p.slot) w') →
   ∀ K : Act → World → Prop, (i ≠ fin → ∀ v w'', (∀ u, vs i = some u → v = u) → Below w'.heap.size w' w'' → (∀ p ∈ F, p.idx = i → p.holds v w'') → K (a'.put o.dst v) w'') →
    (i = fin → ∀ v w'', (∀ u, vs i = some u → v = u) → Fin (slotOf (a'.put o.dst v)) w'' → K (a'.put o.dst v) w'') → o.wp P a' w' K Q)
 (done : ∀ (listed : Array Bool) (a' : Act) (w' : World), Mid ops a vs (FctS ops fin w F Fin) listed a' w' → (∀ i, i < ops.size → listed.getD i false = true) → (fin < ops.size → Fin (slotOf a') w') →
   (fin = ops.size → Below w.heap.size w w' ∧ ∀ p ∈ F, p.holds (slotOf a' p.slot) w') → Q .normal a' w') : (Code.region id ops true).wp P Q a w := by
 have hdst := midOkG_dst hok
 have hdF : ∀ p ∈ F, dstOf ops p.idx = some p.slot := fun p hp => by simpa using List.all_eq_true.1 hF p hp
 refine wp_region_midG hm gs vs hgs (FctS ops fin w F Fin) hok ⟨fun _ _ _ h => absurd h Bool.false_ne_true, fun _ => ⟨(Below.refl _ _).drew, fun _ _ h => absurd h Bool.false_ne_true⟩, fun h => absurd h Bool.false_ne_true⟩ ?_ ?_
 ·intro listed a' w' i o hI ho h0 hdep K hK
  obtain ⟨hsh, hpre, _⟩ := hI.world
  have hi : i < ops.size := (Array.getElem?_eq_some_iff.1 ho).1
  have hnf : listed.getD fin false = false := by
   cases hl : listed.getD fin false with
   | false => rfl
   | true =>
     exfalso
     by_cases hn : fin = ops.size
     ·rw [hn, ← hI.lsize] at hl
      simp at hl
     ·have hle : i ≤ fin := by
       unfold finOk at hfin
       rcases Bool.or_eq_true_iff.1 hfin with h | h
       ·exact absurd (by simpa using h) hn
       ·have h1 : fin + 1 = ops.size := by simpa using (Bool.and_eq_true_iff.1 h).1
        omega
      have := shut_all hfin hn hsh hl _ i rfl hle
      rw [fct_no h0] at this
      cases this
  obtain ⟨hB, hFs⟩ := hpre hnf
  have hS1 : Shut ops (fun j => (listed.setIfInBounds i true).getD j false) := by
   intro k o' hk hl e he hb
   by_cases hki : i = k
   ·subst hki
    obtain rfl : o' = o := by rw [ho] at hk; exact (Option.some.inj hk).symm
    exact fct_up (hdep e he hb)
   ·have hl' : listed.getD k false = true := by
     have h := hl
     simp only [] at h
     rw [getD_set_ne false hki] at h; exact h
    exact fct_up (hsh k o' hk hl' e he hb)
  refine run listed a' w' i o hI ho hdep hB hFs K (fun hne v w'' hv hb hnew => hK v w'' hv ⟨hS1, fun _ => ⟨hB.trans (hb.mono hB.size), fun p hp hl => ?_⟩, fun h => ?_⟩) (fun he v w'' hv hfw => hK v w'' hv ⟨hS1, fun h => ?_, fun _ => hfw⟩)
  ·have hd := hdF p hp
   by_cases hpi : p.idx = i
   ·have hod : o.dst = some p.slot := by
     rw [hpi] at hd
     unfold dstOf at hd
     rw [ho] at hd
     exact hd
    rw [hod, slot_put_same v (by rw [hI.size]; exact (midOkG_one hok i o ho).1 _ hod)]
    exact hnew p hp hpi
   ·have hl' : listed.getD p.idx false = true := by
     have h := hl
     simp only [] at h
     rw [getD_set_ne false (fun e => hpi e.symm)] at h; exact h
    have h1 := p.keep _ _ _ (hFs p hp hl') hb
    cases hod : o.dst with
    | none => exact h1
    | some s =>
      rw [slot_put_other v (fun e => ?_)]
      ·exact h1
      ·unfold dstOf at hd
       cases hop : ops[p.idx]? with
       | none => rw [hop] at hd; cases hd
       | some o' =>
         rw [hop] at hd
         exact hpi (hdst p.idx i o' o s hop ho (by rw [e]; exact hd) hod)
  ·have h' := h
   simp only [] at h'
   rw [getD_set_ne false hne, hnf] at h'; cases h'
  ·subst he
   have h' := h
   simp only [] at h'
   have : i < listed.size := by rw [hI.lsize]; exact hi
   simp [this] at h'
 ·intro listed a' w' hI hall
  obtain ⟨_, hpre, hfi⟩ := hI.world
  refine done listed a' w' hI hall (fun h => hfi (hall fin h)) (fun h => ?_)
  have hnf : listed.getD fin false = false := by
   rw [h, ← hI.lsize]
   simp
  obtain ⟨h1, h2⟩ := hpre hnf
  refine ⟨h1, fun p hp => h2 p hp (hall _ ?_)⟩
  have hd := hdF p hp
  unfold dstOf at hd
  cases hop : ops[p.idx]? with
  | none => rw [hop] at hd; cases hd
  | some o' => exact (Array.getElem?_eq_some_iff.1 hop).1
end
end Go.Proofs.YtongeeggaigepaaGreatDoor
