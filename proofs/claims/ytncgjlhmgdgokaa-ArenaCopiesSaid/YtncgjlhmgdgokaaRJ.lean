/- A region that draws its order and whose guards all say yes, walked with two operations told apart: a call that turns the world (c), and a store that waits for all operations ahead of it (f): one step for each operation, whatever the order; no condition. -/
import Derived.Test.YtncgjlhmgdgokaaRI
namespace Go.Proofs.Ytncgjlhmgdgokaa
open Go

section
variable {P : Program} {ops : Array Oper} {Q : Exit → Act → World → Prop}
/-- Operation f waits for all of these, or for one of them that does. -/
def waitsAll (ops : Array Oper) (gl : List Nat) (f : Nat) : Bool := gl.all fun i => (List.range ops.size).any fun k => decide (i < k) && (gl.contains k || k == f) && match ops[k]? with
  | some o => o.after.any fun e => e.on == i && Region.binds .any e
  | none => false
theorem waits_all {ls : Nat → Bool} {gl : List Nat} {f : Nat} (h : waitsAll ops gl f = true) (hs : Shut ops ls) (hf : ls f = true) : ∀ (d i : Nat), ops.size - i = d → i ∈ gl → ls i = true := by
  intro d
  induction d using Nat.strongRecOn with
  | ind d ih =>
    intro i hd hi
    have h3 := List.all_eq_true.1 h i hi
    obtain ⟨k, hk, h4⟩ := List.any_eq_true.1 h3
    have hk := List.mem_range.1 hk
    obtain ⟨h5, h6⟩ := Bool.and_eq_true_iff.1 h4
    obtain ⟨h5, h7⟩ := Bool.and_eq_true_iff.1 h5
    have h5 : i < k := by simpa using h5
    have hlk : ls k = true := by
      rcases Bool.or_eq_true_iff.1 h7 with h | h
      · exact ih (ops.size - k) (by omega) k rfl (by simpa using h)
      · have h : k = f := by simpa using h
        rw [h]; exact hf
    cases ho : ops[k]? with
    | none => rw [ho] at h6; cases h6
    | some o =>
      rw [ho] at h6
      obtain ⟨j, hj, h8⟩ := Array.any_eq_true.1 h6
      obtain ⟨h9, h10⟩ := Bool.and_eq_true_iff.1 h8
      have h9 : o.after[j].on = i := by simpa using h9
      rw [← h9]
      exact hs k o ho hlk _ (Array.getElem_mem hj) h10
def TwoS (ops : Array Oper) (c f : Nat) (R : Bool → Bool → World → Prop) (ls : Nat → Bool) (_ : Nat → Value) (W : World) : Prop := Shut ops ls ∧ R (ls c) (ls f) W
theorem wp_region_two {id : Nat} {a : Act} {w : World} (hm : P.follows .mixedOrders = true) (gs : List Nat) (vs : Nat → Option Value) (hgs : ∀ j, j ∈ gs → vs j = some (.bool true)) (c : Nat) (gl : List Nat) (f : Nat) (R : Bool → Bool → World → Prop)
    (hok : midOkG ops a.tmps.size gs = true) (hw : waitsAll ops gl f = true) (hc : c < ops.size) (hf : f < ops.size) (h0 : R false false w.drew)
    (run : ∀ (listed : Array Bool) (a' : Act) (w' : World) (i : Nat) (o : Oper), Mid ops a vs (TwoS ops c f R) listed a' w' → ops[i]? = some o → listed.getD i false = false → (∀ e ∈ o.after, Region.binds .any e = true → listed.getD e.on false = true) →
      (i ∈ gl ∨ i = f → listed.getD f false = false) → R (listed.getD c false) (listed.getD f false) w' →
      ∀ K : Act → World → Prop, (∀ v w'', (∀ u, vs i = some u → v = u) → R (if i = c then true else listed.getD c false) (if i = f then true else listed.getD f false) w'' → K (a'.put o.dst v) w'') → o.wp P a' w' K Q)
    (done : ∀ (listed : Array Bool) (a' : Act) (w' : World), Mid ops a vs (TwoS ops c f R) listed a' w' → (∀ i, i < ops.size → listed.getD i false = true) → R true true w' → Q .normal a' w') : (Code.region id ops true).wp P Q a w := by
  refine wp_region_midG hm gs vs hgs (TwoS ops c f R) hok ⟨fun _ _ _ h => absurd h Bool.false_ne_true, h0⟩ ?_ ?_
  · intro listed a' w' i o hI ho h1 hdep K hK
    obtain ⟨hsh, hR⟩ := hI.world
    have hi : i < ops.size := (Array.getElem?_eq_some_iff.1 ho).1
    have hset : ∀ k, k < ops.size → (listed.setIfInBounds i true).getD k false = if i = k then true else listed.getD k false := fun k hk => by
      by_cases e : i = k
      · subst e
        rw [if_pos rfl]
        have : i < listed.size := by rw [hI.lsize]; exact hi
        simp [this]
      · rw [if_neg e, getD_set_ne false e]
    refine run listed a' w' i o hI ho (fct_no h1) hdep (fun hle => ?_) hR K (fun v w'' hv hR' => hK v w'' hv ⟨?_, ?_⟩)
    · by_cases e : i = f
      · subst e; exact fct_no h1
      · cases hl : listed.getD f false with
        | false => rfl
        | true =>
          exfalso
          have hig : i ∈ gl := by
            rcases hle with h | h
            · exact h
            · exact absurd h e
          have := waits_all hw hsh hl _ i rfl hig
          rw [fct_no h1] at this
          cases this
    · intro k o' hk hl e he hb
      by_cases hki : i = k
      · subst hki
        obtain rfl : o' = o := by rw [ho] at hk; exact (Option.some.inj hk).symm
        exact fct_up (hdep e he hb)
      · have hl' : listed.getD k false = true := by
          have h := hl
          simp only [] at h
          rw [getD_set_ne false hki] at h; exact h
        exact fct_up (hsh k o' hk hl' e he hb)
    · show R ((listed.setIfInBounds i true).getD c false) ((listed.setIfInBounds i true).getD f false) w''
      rw [hset c hc, hset f hf]
      exact hR'
  · intro listed a' w' hI hall
    have hR := hI.world.2
    simp only [hall c hc, hall f hf] at hR
    exact done listed a' w' hI hall hR
end
end Go.Proofs.Ytncgjlhmgdgokaa
