/- A region that draws its order, walked by an invariant: one step for each operation, whatever the order; no condition. A region that draws its order and whose guards all say yes, walked by an invariant: one step for each operation, whatever the order; no condition. A region that draws its order and whose guards all say yes, walked with facts of slots that stay while memory grows; the last operation may write what lay there: one step for each operation, whatever the order; no condition. A region that draws its order, in a round of a range over a function, walked by an invariant: one step for each operation, whatever the order; no condition. -/
import Derived.Orders
import Derived.Deep.RegionHeld
import Derived.Below
import Derived.OrdersIn
import Derived.ControlIn
import Derived.Sort.QuietTacIn
namespace Go.Proofs.Ytncgjlhmgdgokaa
open Go

section
variable {P : Program} {ops : Array Oper} {Q : Exit → Act → World → Prop} {md : Region.Mode}
/-- How many have not come up. -/
def unlisted (listed : Array Bool) : Nat := listed.toList.countP (fun b => !b)
theorem unlisted_set {listed : Array Bool} {i : Nat} (h : listed.getD i true = false) : unlisted (listed.setIfInBounds i true) + 1 = unlisted listed := by
  obtain ⟨l⟩ := listed
  have hi : l[i]? = some false := by
    cases hl : l[i]? with
    | none => simp [hl] at h
    | some b => simp [hl] at h; rw [h]
  unfold unlisted
  simp only [List.setIfInBounds_toArray]
  clear h
  induction l generalizing i with
  | nil => simp at hi
  | cons b r ih =>
    cases i with
    | zero => simp at hi; subst hi; simp
    | succ i =>
      have := ih (i := i) (by simpa using hi)
      simp only [List.set_cons_succ, List.countP_cons]
      omega
theorem ready_none {listed : Array Bool} (h : unlisted listed = 0) : Region.ready md ops listed = [] := by
  cases hr : Region.ready md ops listed with
  | nil => rfl
  | cons j r =>
    exfalso
    have hj : j ∈ Region.ready md ops listed := by rw [hr]; simp
    have h0 := (mem_ready.1 hj).1
    obtain ⟨l⟩ := listed
    unfold unlisted at h
    rw [List.countP_eq_zero] at h
    cases hl : l[j]? with
    | none => simp [hl] at h0
    | some b =>
      have := h b (List.mem_of_getElem? hl)
      simp [hl] at h0
      simp [h0] at this
/-- If what is asked of an operation stands ahead of it, and none may come up, all have. -/
theorem all_listed (hb : ∀ (i : Nat) (o : Oper), ops[i]? = some o → ∀ e ∈ o.after, e.on < i) {listed : Array Bool} (hs : listed.size = ops.size) (h : Region.ready md ops listed = []) : ∀ i, i < ops.size → listed.getD i false = true := by
  intro i
  induction i using Nat.strongRecOn with
  | ind i ih =>
    intro hi
    cases hl : listed.getD i true with
    | false =>
      exfalso
      have : i ∈ Region.ready md ops listed := mem_ready.2 ⟨hl, ops[i], by simp [hi], fun e he _ => ih e.on (hb i _ (by simp [hi]) e he) (Nat.lt_trans (hb i _ (by simp [hi]) e he) hi)⟩
      rw [h] at this
      cases this
    | true =>
      have hi' : i < listed.size := by omega
      simp [hi'] at hl ⊢
      exact hl
/-- Whatever order is picked: an invariant that each operation keeps, where what it waits for has come up. -/
theorem wpAny_inv (Inv : Array Bool → Act → World → Prop)
    (step : ∀ (listed : Array Bool) (a : Act) (w : World) (i : Nat) (o : Oper), Inv listed a w → ops[i]? = some o → listed.getD i true = false → (∀ e ∈ o.after, Region.binds md e = true → listed.getD e.on false = true) →
      wpOp P ops Q i (Inv (listed.setIfInBounds i true)) a w)
    (fin : ∀ listed a w, Inv listed a w → Region.ready md ops listed = [] → Q .normal a w) :
    ∀ (fuel : Nat) (listed : Array Bool) (a : Act) (w : World), unlisted listed ≤ fuel → Inv listed a w → wpAny P md ops Q fuel listed a w
  | 0, listed, a, w, hf, hi => ⟨ready_none (by omega), fin listed a w hi (ready_none (by omega))⟩
  | fuel + 1, listed, a, w, hf, hi => ⟨fin listed a w hi, fun i hr => by
    obtain ⟨h0, o, ho, hall⟩ := mem_ready.1 hr
    refine wpOp_mono (fun a' w' h => wpAny_inv Inv step fin fuel _ a' w' ?_ h) (step listed a w i o hi ho h0 hall)
    have := unlisted_set h0
    omega⟩
/-- A region that asks the tape, by such an invariant. -/
theorem wp_region_inv {id : Nat} {a : Act} {w : World} (hm : P.follows .mixedOrders = true) (Inv : Array Bool → Act → World → Prop) (h0 : Inv (Array.replicate ops.size false) a w.drew)
    (step : ∀ (listed : Array Bool) (a : Act) (w : World) (i : Nat) (o : Oper), Inv listed a w → ops[i]? = some o → listed.getD i true = false → (∀ e ∈ o.after, Region.binds .any e = true → listed.getD e.on false = true) →
      wpOp P ops Q i (Inv (listed.setIfInBounds i true)) a w)
    (fin : ∀ listed a w, Inv listed a w → Region.ready .any ops listed = [] → Q .normal a w) : (Code.region id ops true).wp P Q a w :=
  wp_region_any hm (wpAny_inv Inv step fin _ _ _ _ (by
    unfold unlisted
    refine Nat.le_trans (List.countP_le_length) ?_
    simp) h0)
/-- A slot of a frame. -/
abbrev slotOf (a : Act) (t : Nat) : Value := a.tmps[t]?.getD undef
theorem slot_put_same {a : Act} {t : Nat} (v : Value) (h : t < a.tmps.size) : slotOf (a.put (some t) v) t = v := by
  simp [slotOf, Act.put, h]
theorem slot_put_other {a : Act} {t u : Nat} (v : Value) (h : t ≠ u) : slotOf (a.put (some t) v) u = slotOf a u := by
  simp [slotOf, Act.put, Array.getElem?_setIfInBounds_ne h]
/-- What is known in the midst of a region: the slots of what has come up hold what they must (vs), others are as they were (f0), and of the world what is laid down (S), which may look at slots. -/
structure Mid (ops : Array Oper) (a0 : Act) (vs : Nat → Option Value) (S : (Nat → Bool) → (Nat → Value) → World → Prop) (listed : Array Bool) (a : Act) (w : World) : Prop where
  defers : a.defers = a0.defers
  size : a.tmps.size = a0.tmps.size
  lsize : listed.size = ops.size
  old : ∀ t, (∀ (i : Nat) (o : Oper), ops[i]? = some o → o.dst ≠ some t) → slotOf a t = slotOf a0 t
  val : ∀ (i : Nat) (o : Oper) (t : Nat) (v : Value), ops[i]? = some o → o.dst = some t → vs i = some v → listed.getD i false = true → slotOf a t = v
  world : S (fun i => listed.getD i false) (slotOf a) w
/-- One operation's step. -/
theorem Mid.step {a0 : Act} {vs : Nat → Option Value} {S : (Nat → Bool) → (Nat → Value) → World → Prop} {listed : Array Bool} {a : Act} {w : World} {i : Nat} {o : Oper}
    (hd : ∀ (i j : Nat) (o o' : Oper) (t : Nat), ops[i]? = some o → ops[j]? = some o' → o.dst = some t → o'.dst = some t → i = j) (hn : ∀ (i : Nat) (o : Oper) (t : Nat), ops[i]? = some o → o.dst = some t → t < a0.tmps.size)
    (h : Mid ops a0 vs S listed a w) (ho : ops[i]? = some o) (hg : o.guard = none)
    (hrun : ∀ K : Act → World → Prop, (∀ v w', (∀ u, vs i = some u → v = u) → S (fun j => (listed.setIfInBounds i true).getD j false) (slotOf (a.put o.dst v)) w' → K (a.put o.dst v) w') → o.wp P a w K Q) :
    wpOp P ops Q i (Mid ops a0 vs S (listed.setIfInBounds i true)) a w := by
  unfold wpOp
  simp only [ho, Region.wanted, hg, if_true]
  refine .inl (hrun _ (fun v w' hv hS => ?_))
  have hdef : (a.put o.dst v).defers = a.defers := by cases o.dst <;> rfl
  have hsz : (a.put o.dst v).tmps.size = a.tmps.size := by cases o.dst <;> simp [Act.put]
  refine ⟨hdef.trans h.defers, hsz.trans h.size, by simpa using h.lsize, fun t ht => ?_, fun j o' t u hj ht hu hl => ?_, hS⟩
  · have hne := ht i o ho
    cases hdst : o.dst with
    | none => exact h.old t ht
    | some s => rw [slot_put_other v (fun e => hne (by rw [hdst, e]))]; exact h.old t ht
  · by_cases hij : i = j
    · subst hij
      obtain rfl : o' = o := by rw [ho] at hj; exact (Option.some.inj hj).symm
      rw [ht, slot_put_same v (by rw [h.size]; exact hn i _ t ho ht)]
      exact hv u hu
    · have hl' : listed.getD j false = true := by
        rw [getD_set_ne false hij] at hl; exact hl
      have := h.val j o' t u hj ht hu hl'
      cases hdst : o.dst with
      | none => exact this
      | some s => rw [slot_put_other v (fun e => hij (hd i j o o' t ho hj (by rw [hdst, e]) ht))]; exact this
/-- The number of operation i's slot. -/
def dstOf (ops : Array Oper) (i : Nat) : Option Nat := ops[i]?.bind (·.dst)
/-- No two operations write one slot, each slot is there, no operation is guarded, and what one waits for stands ahead of it. -/
def midOk (ops : Array Oper) (n : Nat) : Bool :=
  (List.range ops.size).all fun i => ((List.range ops.size).all fun j => match dstOf ops i, dstOf ops j with
    | some s, some t => s != t || i == j
    | _, _ => true) && (match ops[i]? with
    | some o => (match o.dst with | some t => decide (t < n) | none => true) && o.guard.isNone && o.after.all fun e => decide (e.on < i)
    | none => true)
theorem midOk_dst {n : Nat} (h : midOk ops n = true) (i j : Nat) (o o' : Oper) (t : Nat) (hi : ops[i]? = some o) (hj : ops[j]? = some o') (ht : o.dst = some t) (ht' : o'.dst = some t) : i = j := by
  have h1 := List.all_eq_true.1 h i (List.mem_range.2 (Array.getElem?_eq_some_iff.1 hi).1)
  have h2 := List.all_eq_true.1 (Bool.and_eq_true_iff.1 h1).1 j (List.mem_range.2 (Array.getElem?_eq_some_iff.1 hj).1)
  simp [dstOf, hi, hj, ht, ht'] at h2
  exact h2
theorem midOk_one {n : Nat} (h : midOk ops n = true) (i : Nat) (o : Oper) (hi : ops[i]? = some o) : (∀ t, o.dst = some t → t < n) ∧ o.guard = none ∧ ∀ e ∈ o.after, e.on < i := by
  have h1 := List.all_eq_true.1 h i (List.mem_range.2 (Array.getElem?_eq_some_iff.1 hi).1)
  have h2 := (Bool.and_eq_true_iff.1 h1).2
  simp only [hi, Bool.and_eq_true] at h2
  obtain ⟨⟨ha, hb⟩, hc⟩ := h2
  refine ⟨fun t ht => ?_, by simpa using hb, fun e he => ?_⟩
  · rw [ht] at ha; simpa using ha
  · have := Array.all_eq_true_iff_forall_mem.1 hc e he
    simpa using this
/-- **A region that asks the tape, one step for each operation.** -/
theorem wp_region_mid {id : Nat} {a : Act} {w : World} (hm : P.follows .mixedOrders = true) (vs : Nat → Option Value) (S : (Nat → Bool) → (Nat → Value) → World → Prop)
    (hok : midOk ops a.tmps.size = true) (h0 : S (fun _ => false) (slotOf a) w.drew)
    (run : ∀ (listed : Array Bool) (a' : Act) (w' : World) (i : Nat) (o : Oper), Mid ops a vs S listed a' w' → ops[i]? = some o → listed.getD i true = false → (∀ e ∈ o.after, Region.binds .any e = true → listed.getD e.on false = true) →
      ∀ K : Act → World → Prop, (∀ v w'', (∀ u, vs i = some u → v = u) → S (fun j => (listed.setIfInBounds i true).getD j false) (slotOf (a'.put o.dst v)) w'' → K (a'.put o.dst v) w'') → o.wp P a' w' K Q)
    (fin : ∀ (listed : Array Bool) (a' : Act) (w' : World), Mid ops a vs S listed a' w' → (∀ i, i < ops.size → listed.getD i false = true) → Q .normal a' w') : (Code.region id ops true).wp P Q a w := by
  refine wp_region_inv hm (Mid ops a vs S) ⟨rfl, rfl, by simp, fun _ _ => rfl, fun i o t v hi ht hv hl => ?_, ?_⟩ (fun listed a' w' i o hI hi h1 h2 => ?_) (fun listed a' w' hI hr => ?_)
  · exfalso
    have : i < ops.size := (Array.getElem?_eq_some_iff.1 hi).1
    simp [this] at hl
  · have e : (fun i => (Array.replicate ops.size false).getD i false) = fun _ => false := by
      funext i
      by_cases hi : i < ops.size <;> simp [hi]
    rw [e]; exact h0
  · exact Mid.step (midOk_dst hok) (fun i o t hi ht => (midOk_one hok i o hi).1 t ht) hI hi (midOk_one hok i o hi).2.1 (run listed a' w' i o hI hi h1 h2)
  · exact fin listed a' w' hI (all_listed (fun i o hi => (midOk_one hok i o hi).2.2) hI.lsize hr)
end
end Go.Proofs.Ytncgjlhmgdgokaa
namespace Go.Proofs.Ytncgjlhmgdgokaa
open Go

section
variable {P : Program} {ops : Array Oper} {Q : Exit → Act → World → Prop}
/-- If what binds an operation stands ahead of it, and none may come up, all have. -/
theorem all_listedB {md : Region.Mode} (hb : ∀ (i : Nat) (o : Oper), ops[i]? = some o → ∀ e ∈ o.after, Region.binds md e = true → e.on < i) {listed : Array Bool} (hs : listed.size = ops.size) (h : Region.ready md ops listed = []) : ∀ i, i < ops.size → listed.getD i false = true := by
  intro i
  induction i using Nat.strongRecOn with
  | ind i ih =>
    intro hi
    cases hl : listed.getD i true with
    | false =>
      exfalso
      have : i ∈ Region.ready md ops listed := mem_ready.2 ⟨hl, ops[i], by simp [hi], fun e he hbd => ih e.on (hb i _ (by simp [hi]) e he hbd) (Nat.lt_trans (hb i _ (by simp [hi]) e he hbd) hi)⟩
      rw [h] at this
      cases this
    | true =>
      have hi' : i < listed.size := by omega
      simp [hi'] at hl ⊢
      exact hl
/-- Does it bind, whatever the mode? -/
def asks (e : Edge) : Bool := match e.ground with
  | .textOnly _ => false
  | .gcOnly _ => false
  | _ => true
theorem asks_of {e : Edge} (h : Region.binds .any e = true) : asks e = true := by
  unfold Region.binds at h
  unfold asks
  split at h <;> first | (exfalso; revert h; decide) | rfl | (split <;> first | rfl | (exfalso; simp_all))
/-- What stands in a slot that is known to hold a Bool is what a guard sees. -/
theorem yielded_slot {a : Act} {j t : Nat} {o : Oper} {b : Bool} (hj : ops[j]? = some o) (ht : o.dst = some t) (hv : slotOf a t = .bool b) : yielded ops a.tmps j = some b := by
  have h : a.tmps[t]? = some (.bool b) := by
    unfold slotOf at hv
    cases hq : a.tmps[t]? with
    | none => rw [hq] at hv; cases hv
    | some v => rw [hq] at hv; exact congrArg some hv
  unfold yielded
  simp only [hj, Option.bind_some, ht, h]
/-- One operation's step, where its guard, if it has one, says yes. -/
theorem Mid.stepG {a0 : Act} {vs : Nat → Option Value} {S : (Nat → Bool) → (Nat → Value) → World → Prop} {listed : Array Bool} {a : Act} {w : World} {i : Nat} {o : Oper}
    (hd : ∀ (i j : Nat) (o o' : Oper) (t : Nat), ops[i]? = some o → ops[j]? = some o' → o.dst = some t → o'.dst = some t → i = j) (hn : ∀ (i : Nat) (o : Oper) (t : Nat), ops[i]? = some o → o.dst = some t → t < a0.tmps.size)
    (h : Mid ops a0 vs S listed a w) (ho : ops[i]? = some o) (hg : ∀ j b, o.guard = some (j, b) → vs j = some (.bool b) ∧ listed.getD j false = true ∧ ∃ oj t, ops[j]? = some oj ∧ oj.dst = some t)
    (hrun : ∀ K : Act → World → Prop, (∀ v w', (∀ u, vs i = some u → v = u) → S (fun j => (listed.setIfInBounds i true).getD j false) (slotOf (a.put o.dst v)) w' → K (a.put o.dst v) w') → o.wp P a w K Q) :
    wpOp P ops Q i (Mid ops a0 vs S (listed.setIfInBounds i true)) a w := by
  have hw : Region.wanted o (yielded ops a.tmps) = true := by
    unfold Region.wanted
    cases hgd : o.guard with
    | none => rfl
    | some p =>
      obtain ⟨j, b⟩ := p
      obtain ⟨h1, h2, oj, t, h3, h4⟩ := hg j b hgd
      have := yielded_slot h3 h4 (h.val j oj t _ h3 h4 h1 h2)
      simp only [this, beq_self_eq_true]
  unfold wpOp
  simp only [ho, hw, if_true]
  refine .inl (hrun _ (fun v w' hv hS => ?_))
  have hdef : (a.put o.dst v).defers = a.defers := by cases o.dst <;> rfl
  have hsz : (a.put o.dst v).tmps.size = a.tmps.size := by cases o.dst <;> simp [Act.put]
  refine ⟨hdef.trans h.defers, hsz.trans h.size, by simpa using h.lsize, fun t ht => ?_, fun j o' t u hj ht hu hl => ?_, hS⟩
  · have hne := ht i o ho
    cases hdst : o.dst with
    | none => exact h.old t ht
    | some s => rw [slot_put_other v (fun e => hne (by rw [hdst, e]))]; exact h.old t ht
  · by_cases hij : i = j
    · subst hij
      obtain rfl : o' = o := by rw [ho] at hj; exact (Option.some.inj hj).symm
      rw [ht, slot_put_same v (by rw [h.size]; exact hn i _ t ho ht)]
      exact hv u hu
    · have hl' : listed.getD j false = true := by
        rw [getD_set_ne false hij] at hl; exact hl
      have := h.val j o' t u hj ht hu hl'
      cases hdst : o.dst with
      | none => exact this
      | some s => rw [slot_put_other v (fun e => hij (hd i j o o' t ho hj (by rw [hdst, e]) ht))]; exact this
/-- As midOk, but that operations may be guarded by those of a list, each of which is asked to say yes and is waited for. -/
def midOkG (ops : Array Oper) (n : Nat) (gs : List Nat) : Bool :=
  (List.range ops.size).all fun i => ((List.range ops.size).all fun j => match dstOf ops i, dstOf ops j with
    | some s, some t => s != t || i == j
    | _, _ => true) && (match ops[i]? with
    | some o => (match o.dst with | some t => decide (t < n) | none => true) && (match o.guard with
      | none => true
      | some (j, b) => b && gs.contains j && (dstOf ops j).isSome && o.after.any fun e => e.on == j && Region.binds .any e) && o.after.all fun e => !asks e || decide (e.on < i)
    | none => true)
theorem midOkG_dst {n : Nat} {gs : List Nat} (h : midOkG ops n gs = true) (i j : Nat) (o o' : Oper) (t : Nat) (hi : ops[i]? = some o) (hj : ops[j]? = some o') (ht : o.dst = some t) (ht' : o'.dst = some t) : i = j := by
  have h1 := List.all_eq_true.1 h i (List.mem_range.2 (Array.getElem?_eq_some_iff.1 hi).1)
  have h2 := List.all_eq_true.1 (Bool.and_eq_true_iff.1 h1).1 j (List.mem_range.2 (Array.getElem?_eq_some_iff.1 hj).1)
  simp [dstOf, hi, hj, ht, ht'] at h2
  exact h2
theorem midOkG_one {n : Nat} {gs : List Nat} (h : midOkG ops n gs = true) (i : Nat) (o : Oper) (hi : ops[i]? = some o) :
    (∀ t, o.dst = some t → t < n) ∧ (∀ j b, o.guard = some (j, b) → b = true ∧ j ∈ gs ∧ (∃ oj t, ops[j]? = some oj ∧ oj.dst = some t) ∧ ∃ e ∈ o.after, e.on = j ∧ Region.binds .any e = true) ∧ ∀ e ∈ o.after, Region.binds .any e = true → e.on < i := by
  have h1 := List.all_eq_true.1 h i (List.mem_range.2 (Array.getElem?_eq_some_iff.1 hi).1)
  have h2 := (Bool.and_eq_true_iff.1 h1).2
  simp only [hi, Bool.and_eq_true] at h2
  obtain ⟨⟨ha, hb⟩, hc⟩ := h2
  refine ⟨fun t ht => ?_, fun j b hg => ?_, fun e he hbd => ?_⟩
  · rw [ht] at ha; simpa using ha
  · rw [hg] at hb
    simp only [Bool.and_eq_true] at hb
    obtain ⟨⟨⟨h3, h4⟩, h5⟩, h6⟩ := hb
    refine ⟨h3, by simpa using h4, ?_, ?_⟩
    · obtain ⟨t, ht⟩ := Option.isSome_iff_exists.1 h5
      unfold dstOf at ht
      cases hq : ops[j]? with
      | none => rw [hq] at ht; cases ht
      | some oj => rw [hq] at ht; exact ⟨oj, t, rfl, ht⟩
    · obtain ⟨k, hk, he⟩ := Array.any_eq_true.1 h6
      rw [Bool.and_eq_true] at he
      exact ⟨_, Array.getElem_mem hk, by simpa using he.1, he.2⟩
  · have := Array.all_eq_true_iff_forall_mem.1 hc e he
    rw [asks_of hbd] at this
    simpa using this
/-- **A region that asks the tape and whose guards all say yes, one step for each operation.** -/
theorem wp_region_midG {id : Nat} {a : Act} {w : World} (hm : P.follows .mixedOrders = true) (gs : List Nat) (vs : Nat → Option Value) (hgs : ∀ j, j ∈ gs → vs j = some (.bool true)) (S : (Nat → Bool) → (Nat → Value) → World → Prop)
    (hok : midOkG ops a.tmps.size gs = true) (h0 : S (fun _ => false) (slotOf a) w.drew)
    (run : ∀ (listed : Array Bool) (a' : Act) (w' : World) (i : Nat) (o : Oper), Mid ops a vs S listed a' w' → ops[i]? = some o → listed.getD i true = false → (∀ e ∈ o.after, Region.binds .any e = true → listed.getD e.on false = true) →
      ∀ K : Act → World → Prop, (∀ v w'', (∀ u, vs i = some u → v = u) → S (fun j => (listed.setIfInBounds i true).getD j false) (slotOf (a'.put o.dst v)) w'' → K (a'.put o.dst v) w'') → o.wp P a' w' K Q)
    (fin : ∀ (listed : Array Bool) (a' : Act) (w' : World), Mid ops a vs S listed a' w' → (∀ i, i < ops.size → listed.getD i false = true) → Q .normal a' w') : (Code.region id ops true).wp P Q a w := by
  refine wp_region_inv hm (Mid ops a vs S) ⟨rfl, rfl, by simp, fun _ _ => rfl, fun i o t v hi ht hv hl => ?_, ?_⟩ (fun listed a' w' i o hI hi h1 h2 => ?_) (fun listed a' w' hI hr => ?_)
  · exfalso
    have : i < ops.size := (Array.getElem?_eq_some_iff.1 hi).1
    simp [this] at hl
  · have e : (fun i => (Array.replicate ops.size false).getD i false) = fun _ => false := by
      funext i
      by_cases hi : i < ops.size <;> simp [hi]
    rw [e]; exact h0
  · refine Mid.stepG (midOkG_dst hok) (fun i o t hi ht => (midOkG_one hok i o hi).1 t ht) hI hi (fun j b hg => ?_) (run listed a' w' i o hI hi h1 h2)
    obtain ⟨rfl, h3, h4, e, he, rfl, hb⟩ := (midOkG_one hok i o hi).2.1 j b hg
    exact ⟨hgs _ h3, h2 e he hb, h4⟩
  · exact fin listed a' w' hI (all_listedB (fun i o hi => (midOkG_one hok i o hi).2.2) hI.lsize hr)
end
end Go.Proofs.Ytncgjlhmgdgokaa
namespace Go.Proofs.Ytncgjlhmgdgokaa
open Go.RowKit

/-- What is known of an operation's slot once it has come up. -/
structure Fct where
  idx : Nat
  slot : Nat
  holds : Value → World → Prop
  keep : ∀ v X Y, holds v X → Below X.heap.size X Y → holds v Y
section
variable {P : Program} {ops : Array Oper} {Q : Exit → Act → World → Prop}
/-- What an operation that has come up waits for has come up. -/
def Shut (ops : Array Oper) (ls : Nat → Bool) : Prop := ∀ (i : Nat) (o : Oper), ops[i]? = some o → ls i = true → ∀ e ∈ o.after, Region.binds .any e = true → ls e.on = true
/-- All operations are waited for, by the last one in the end; or there is no last one. -/
def finOk (ops : Array Oper) (fin : Nat) : Bool := fin == ops.size || (fin + 1 == ops.size && (List.range fin).all fun i => (List.range ops.size).any fun k => decide (i < k) && match ops[k]? with
  | some o => o.after.any fun e => e.on == i && Region.binds .any e
  | none => false)
theorem shut_all {ls : Nat → Bool} {fin : Nat} (h : finOk ops fin = true) (hn : fin ≠ ops.size) (hs : Shut ops ls) (hf : ls fin = true) : ∀ (d i : Nat), fin - i = d → i ≤ fin → ls i = true := by
  unfold finOk at h
  rcases Bool.or_eq_true_iff.1 h with h | h
  · exact absurd (by simpa using h) hn
  obtain ⟨h1, h2⟩ := Bool.and_eq_true_iff.1 h
  have h1 : fin + 1 = ops.size := by simpa using h1
  intro d
  induction d using Nat.strongRecOn with
  | ind d ih =>
    intro i hd hi
    by_cases he : i = fin
    · rw [he]; exact hf
    · have h3 := List.all_eq_true.1 h2 i (List.mem_range.2 (by omega))
      obtain ⟨k, hk, h4⟩ := List.any_eq_true.1 h3
      have hk := List.mem_range.1 hk
      obtain ⟨h5, h6⟩ := Bool.and_eq_true_iff.1 h4
      have h5 : i < k := by simpa using h5
      cases ho : ops[k]? with
      | none => rw [ho] at h6; cases h6
      | some o =>
        rw [ho] at h6
        obtain ⟨j, hj, h7⟩ := Array.any_eq_true.1 h6
        obtain ⟨h8, h9⟩ := Bool.and_eq_true_iff.1 h7
        have h8 : o.after[j].on = i := by simpa using h8
        rw [← h8]
        exact hs k o ho (ih (fin - k) (by omega) k rfl (by omega)) _ (Array.getElem_mem hj) h9
theorem fct_no {listed : Array Bool} {i : Nat} (h : listed.getD i true = false) : listed.getD i false = false := by
  by_cases hi : i < listed.size
  · simp [hi] at h ⊢; exact h
  · simp [hi] at h
theorem fct_up {listed : Array Bool} {j k : Nat} (h : listed.getD k false = true) : (listed.setIfInBounds j true).getD k false = true := by
  by_cases e : j = k
  · subst e
    by_cases hk : j < listed.size
    · simp [hk]
    · simp [hk] at h
  · rw [getD_set_ne false e]; exact h
theorem fct_none {F : List Fct} {i : Nat} (h : (F.all fun p => p.idx != i) = true) {C : Fct → Prop} : ∀ p ∈ F, p.idx = i → C p := fun p hp e => by
  have := List.all_eq_true.1 h p hp
  rw [e] at this
  simp at this
theorem fct_ne {p : Fct} {i j : Nat} (h : (p.idx, i != j) = (i, true)) : p.idx ≠ j := by
  obtain ⟨h1, h2⟩ := Prod.mk.inj h
  rw [h1]; simpa using h2
/-- What the region's walk carries. -/
def FctS (ops : Array Oper) (fin : Nat) (w : World) (F : List Fct) (Fin : World → Prop) (ls : Nat → Bool) (sl : Nat → Value) (W : World) : Prop :=
  Shut ops ls ∧ (ls fin = false → Below w.heap.size w W ∧ ∀ p ∈ F, ls p.idx = true → p.holds (sl p.slot) W) ∧ (ls fin = true → Fin W)
theorem wp_region_fct {id : Nat} {a : Act} {w : World} (hm : P.follows .mixedOrders = true) (gs : List Nat) (vs : Nat → Option Value) (hgs : ∀ j, j ∈ gs → vs j = some (.bool true)) (fin : Nat) (F : List Fct) (Fin : World → Prop)
    (hok : midOkG ops a.tmps.size gs = true) (hfin : finOk ops fin = true) (hF : (F.all fun p => dstOf ops p.idx == some p.slot) = true)
    (run : ∀ (listed : Array Bool) (a' : Act) (w' : World) (i : Nat) (o : Oper), Mid ops a vs (FctS ops fin w F Fin) listed a' w' → ops[i]? = some o → (∀ e ∈ o.after, Region.binds .any e = true → listed.getD e.on false = true) →
      Below w.heap.size w w' → (∀ p ∈ F, listed.getD p.idx false = true → p.holds (slotOf a' p.slot) w') →
      ∀ K : Act → World → Prop, (i ≠ fin → ∀ v w'', (∀ u, vs i = some u → v = u) → Below w'.heap.size w' w'' → (∀ p ∈ F, p.idx = i → p.holds v w'') → K (a'.put o.dst v) w'') →
        (i = fin → ∀ v w'', (∀ u, vs i = some u → v = u) → Fin w'' → K (a'.put o.dst v) w'') → o.wp P a' w' K Q)
    (done : ∀ (listed : Array Bool) (a' : Act) (w' : World), Mid ops a vs (FctS ops fin w F Fin) listed a' w' → (∀ i, i < ops.size → listed.getD i false = true) → (fin < ops.size → Fin w') →
      (fin = ops.size → Below w.heap.size w w' ∧ ∀ p ∈ F, p.holds (slotOf a' p.slot) w') → Q .normal a' w') : (Code.region id ops true).wp P Q a w := by
  have hdst := midOkG_dst hok
  have hdF : ∀ p ∈ F, dstOf ops p.idx = some p.slot := fun p hp => by simpa using List.all_eq_true.1 hF p hp
  refine wp_region_midG hm gs vs hgs (FctS ops fin w F Fin) hok ⟨fun _ _ _ h => absurd h Bool.false_ne_true, fun _ => ⟨(Below.refl _ _).drew, fun _ _ h => absurd h Bool.false_ne_true⟩, fun h => absurd h Bool.false_ne_true⟩ ?_ ?_
  · intro listed a' w' i o hI ho h0 hdep K hK
    obtain ⟨hsh, hpre, _⟩ := hI.world
    have hi : i < ops.size := (Array.getElem?_eq_some_iff.1 ho).1
    have hnf : listed.getD fin false = false := by
      cases hl : listed.getD fin false with
      | false => rfl
      | true =>
        exfalso
        by_cases hn : fin = ops.size
        · rw [hn, ← hI.lsize] at hl
          simp at hl
        · have hle : i ≤ fin := by
            unfold finOk at hfin
            rcases Bool.or_eq_true_iff.1 hfin with h | h
            · exact absurd (by simpa using h) hn
            · have h1 : fin + 1 = ops.size := by simpa using (Bool.and_eq_true_iff.1 h).1
              omega
          have := shut_all hfin hn hsh hl _ i rfl hle
          rw [fct_no h0] at this
          cases this
    obtain ⟨hB, hFs⟩ := hpre hnf
    have hS1 : Shut ops (fun j => (listed.setIfInBounds i true).getD j false) := by
      intro k o' hk hl e he hb
      by_cases hki : i = k
      · subst hki
        obtain rfl : o' = o := by rw [ho] at hk; exact (Option.some.inj hk).symm
        exact fct_up (hdep e he hb)
      · have hl' : listed.getD k false = true := by
          have h := hl
          simp only [] at h
          rw [getD_set_ne false hki] at h; exact h
        exact fct_up (hsh k o' hk hl' e he hb)
    refine run listed a' w' i o hI ho hdep hB hFs K (fun hne v w'' hv hb hnew => hK v w'' hv ⟨hS1, fun _ => ⟨hB.trans (hb.mono hB.size), fun p hp hl => ?_⟩, fun h => ?_⟩) (fun he v w'' hv hfw => hK v w'' hv ⟨hS1, fun h => ?_, fun _ => hfw⟩)
    · have hd := hdF p hp
      by_cases hpi : p.idx = i
      · have hod : o.dst = some p.slot := by
          rw [hpi] at hd
          unfold dstOf at hd
          rw [ho] at hd
          exact hd
        rw [hod, slot_put_same v (by rw [hI.size]; exact (midOkG_one hok i o ho).1 _ hod)]
        exact hnew p hp hpi
      · have hl' : listed.getD p.idx false = true := by
          have h := hl
          simp only [] at h
          rw [getD_set_ne false (fun e => hpi e.symm)] at h; exact h
        have h1 := p.keep _ _ _ (hFs p hp hl') hb
        cases hod : o.dst with
        | none => exact h1
        | some s =>
          rw [slot_put_other v (fun e => ?_)]
          · exact h1
          · unfold dstOf at hd
            cases hop : ops[p.idx]? with
            | none => rw [hop] at hd; cases hd
            | some o' =>
              rw [hop] at hd
              exact hpi (hdst p.idx i o' o s hop ho (by rw [e]; exact hd) hod)
    · have h' := h
      simp only [] at h'
      rw [getD_set_ne false hne, hnf] at h'; cases h'
    · subst he
      have h' := h
      simp only [] at h'
      have : i < listed.size := by rw [hI.lsize]; exact hi
      simp [this] at h'
  · intro listed a' w' hI hall
    obtain ⟨_, hpre, hfi⟩ := hI.world
    refine done listed a' w' hI hall (fun h => hfi (hall fin h)) (fun h => ?_)
    have hnf : listed.getD fin false = false := by
      rw [h, ← hI.lsize]
      simp
    obtain ⟨h1, h2⟩ := hpre hnf
    refine ⟨h1, fun p hp => h2 p hp (hall _ ?_)⟩
    have hd := hdF p hp
    unfold dstOf at hd
    cases hop : ops[p.idx]? with
    | none => rw [hop] at hd; cases hd
    | some o' => exact (Array.getElem?_eq_some_iff.1 hop).1
end
end Go.Proofs.Ytncgjlhmgdgokaa
namespace Go.Proofs.Ytncgjlhmgdgokaa
open Go

section
variable {P : Program} {ops : Array Oper} {Q : Exit → Act → World → Prop} {l n : Nat} {md : Region.Mode}
theorem rows_wide {n : Nat} {P : Program} {row : String} {args : Array Value} {w : World} {R : Value → World → Prop} (h : Rows P row args w R) : RowsIn (Fence.wide.inRound l) n P row args w R :=
  fun c cs _ => let ⟨v, w', r, s⟩ := h c cs; ⟨v, w', r, stepsIn_wide.2 s⟩
/-- An operation that defers nothing does in a round what it does outside. -/
theorem oper_round {o : Oper} {a : Act} {w : World} {K : Act → World → Prop} (hnd : ∀ c, o.op ≠ .defer c) (h : o.wp P a w K Q) : o.wpIn (Fence.wide.inRound l) n P a w K Q := by
  refine ⟨fun _ _ => trivial, ?_⟩
  have e : o.semAt (Fence.wide.inRound l).round a.eval = execOp a.eval o := Oper.semAt_some l _ _ hnd
  rw [e]
  unfold Oper.wp at h
  generalize (execOp a.eval o).run P w = r at h ⊢
  cases r with
  | halt x w' => cases x <;> first | exact h | exact h.elim
  | ok x w' =>
    cases x with
    | value v => exact h
    | skip => exact h
    | defer d => exact h
    | enter f args => exact ⟨fun hd => by simp [Fence.wide] at hd, callsIn_wide.2 h⟩
    | row row args => exact ⟨fun hd => by simp [Fence.wide] at hd, rows_wide h⟩
    | _ => exact h.elim
theorem wpAnyIn_inv (Inv : Array Bool → Act → World → Prop)
    (step : ∀ (listed : Array Bool) (a : Act) (w : World) (i : Nat) (o : Oper), Inv listed a w → ops[i]? = some o → listed.getD i true = false → (∀ e ∈ o.after, Region.binds md e = true → listed.getD e.on false = true) →
      wpOpIn (Fence.wide.inRound l) n P ops Q i (Inv (listed.setIfInBounds i true)) a w)
    (fin : ∀ listed a w, Inv listed a w → Region.ready md ops listed = [] → Q .normal a w) :
    ∀ (fuel : Nat) (listed : Array Bool) (a : Act) (w : World), unlisted listed ≤ fuel → Inv listed a w → wpAnyIn (Fence.wide.inRound l) n P md ops Q fuel listed a w
  | 0, listed, a, w, hf, hi => ⟨ready_none (by omega), fin listed a w hi (ready_none (by omega))⟩
  | fuel + 1, listed, a, w, hf, hi => ⟨fin listed a w hi, fun i hr => by
    obtain ⟨h0, o, ho, hall⟩ := mem_ready.1 hr
    refine wpOpIn_mono (fun a' w' h => wpAnyIn_inv Inv step fin fuel _ a' w' ?_ h) (step listed a w i o hi ho h0 hall)
    have := unlisted_set h0
    omega⟩
/-- No operation defers. -/
def noDefer (ops : Array Oper) : Bool := ops.all fun o => match o.op with
  | .defer _ => false
  | _ => true
theorem noDefer_of (h : noDefer ops = true) (i : Nat) (o : Oper) (ho : ops[i]? = some o) : ∀ c, o.op ≠ .defer c := fun c he => by
  obtain ⟨hi, rfl⟩ := Array.getElem?_eq_some_iff.1 ho
  have := Array.all_eq_true.1 h i hi
  rw [he] at this
  cases this
theorem Mid.onward {a0 : Act} {vs : Nat → Option Value} {S : (Nat → Bool) → (Nat → Value) → World → Prop} {listed : Array Bool} {a : Act} {w w' : World} {i : Nat} {o : Oper} {v : Value}
    (hd : ∀ (i j : Nat) (o o' : Oper) (t : Nat), ops[i]? = some o → ops[j]? = some o' → o.dst = some t → o'.dst = some t → i = j) (hn : ∀ (i : Nat) (o : Oper) (t : Nat), ops[i]? = some o → o.dst = some t → t < a0.tmps.size)
    (h : Mid ops a0 vs S listed a w) (ho : ops[i]? = some o) (hv : ∀ u, vs i = some u → v = u) (hS : S (fun j => (listed.setIfInBounds i true).getD j false) (slotOf (a.put o.dst v)) w') :
    Mid ops a0 vs S (listed.setIfInBounds i true) (a.put o.dst v) w' := by
  have hdef : (a.put o.dst v).defers = a.defers := by cases o.dst <;> rfl
  have hsz : (a.put o.dst v).tmps.size = a.tmps.size := by cases o.dst <;> simp [Act.put]
  refine ⟨hdef.trans h.defers, hsz.trans h.size, by simpa using h.lsize, fun t ht => ?_, fun j o' t u hj ht hu hl => ?_, hS⟩
  · have hne := ht i o ho
    cases hdst : o.dst with
    | none => exact h.old t ht
    | some s => rw [slot_put_other v (fun e => hne (by rw [hdst, e]))]; exact h.old t ht
  · by_cases hij : i = j
    · subst hij
      obtain rfl : o' = o := by rw [ho] at hj; exact (Option.some.inj hj).symm
      rw [ht, slot_put_same v (by rw [h.size]; exact hn i _ t ho ht)]
      exact hv u hu
    · have hl' : listed.getD j false = true := by
        rw [getD_set_ne false hij] at hl; exact hl
      have := h.val j o' t u hj ht hu hl'
      cases hdst : o.dst with
      | none => exact this
      | some s => rw [slot_put_other v (fun e => hij (hd i j o o' t ho hj (by rw [hdst, e]) ht))]; exact this
/-- **The region, in a round.** -/
theorem wpIn_region_mid {id : Nat} {a : Act} {w : World} (hm : P.follows .mixedOrders = true) (hnd : noDefer ops = true) (vs : Nat → Option Value) (S : (Nat → Bool) → (Nat → Value) → World → Prop)
    (hok : midOk ops a.tmps.size = true) (h0 : S (fun _ => false) (slotOf a) w.drew)
    (run : ∀ (listed : Array Bool) (a' : Act) (w' : World) (i : Nat) (o : Oper), Mid ops a vs S listed a' w' → ops[i]? = some o → listed.getD i true = false → (∀ e ∈ o.after, Region.binds .any e = true → listed.getD e.on false = true) →
      ∀ K : Act → World → Prop, (∀ v w'', (∀ u, vs i = some u → v = u) → S (fun j => (listed.setIfInBounds i true).getD j false) (slotOf (a'.put o.dst v)) w'' → K (a'.put o.dst v) w'') → o.wp P a' w' K Q)
    (fin : ∀ (listed : Array Bool) (a' : Act) (w' : World), Mid ops a vs S listed a' w' → (∀ i, i < ops.size → listed.getD i false = true) → Q .normal a' w') : (Code.region id ops true).wpIn (Fence.wide.inRound l) n P Q a w := by
  refine wpIn_region_any hm (wpAnyIn_inv (Mid ops a vs S) (fun listed a' w' i o hI hi h1 h2 => ?_) (fun listed a' w' hI hr => ?_) _ _ _ _ ?_ ?_)
  · unfold wpOpIn
    simp only [hi, Region.wanted, (midOk_one hok i o hi).2.1, if_true]
    exact oper_round (noDefer_of hnd i o hi) (run listed a' w' i o hI hi h1 h2 _ (fun v w'' hv hS => Mid.onward (midOk_dst hok) (fun i o t hi ht => (midOk_one hok i o hi).1 t ht) hI hi hv hS))
  · exact fin listed a' w' hI (all_listed (fun i o hi => (midOk_one hok i o hi).2.2) hI.lsize hr)
  · unfold unlisted
    exact Nat.le_trans (List.countP_le_length) (by simp)
  · refine ⟨rfl, rfl, by simp, fun _ _ => rfl, fun i o t v hi ht hv hl => ?_, ?_⟩
    · exfalso
      have : i < ops.size := (Array.getElem?_eq_some_iff.1 hi).1
      simp [this] at hl
    · have e : (fun i => (Array.replicate ops.size false).getD i false) = fun _ => false := by
        funext i
        by_cases hi : i < ops.size <;> simp [hi]
      rw [e]; exact h0
end
end Go.Proofs.Ytncgjlhmgdgokaa
