/- A region that draws its order, walked by an invariant: one step for each operation, whatever the order; no condition. A region that draws its order and whose guards all say yes, walked by an invariant: one step for each operation, whatever the order; no condition. A region that draws its order and whose guards all say yes, walked with facts of slots that stay while memory grows; the last operation may write what lay there: one step for each operation, whatever the order; no condition. A region that draws its order, in a round of a range over a function, walked by an invariant: one step for each operation, whatever the order; no condition. -/
import Derived.Orders
import Derived.Deep.RegionHeld
import Derived.Below
import Derived.OrdersIn
import Derived.ControlIn
import Derived.Sort.QuietTacIn
namespace Go.Proofs.YtjhcddlhhfjnaaaDoor
open Go
section
variable {P : Program} {ops : Array Oper} {Q : Exit → Act → World → Prop} {md : Region.Mode}
/-- How many have not come up. -/
def unlisted (listed : Array Bool) : Nat := listed.toList.countP (fun b => !b)
theorem unlisted_set {listed : Array Bool} {i : Nat} (h : listed.getD i true = false) : unlisted (listed.setIfInBounds i true) + 1 = unlisted listed := by
  obtain ⟨l⟩ := listed
  have hi : l[i]? = some false := by
    cases hl : l[i]? with
    | none => simp [hl] at h
    | some b => simp [hl] at h; rw [h]
  unfold unlisted
  simp only [List.setIfInBounds_toArray]
  clear h
  induction l generalizing i with
  | nil => simp at hi
  | cons b r ih =>
    cases i with
    | zero => simp at hi; subst hi; simp
    | succ i =>
      have := ih (i := i) (by simpa using hi)
      simp only [List.set_cons_succ, List.countP_cons]
      omega
theorem ready_none {listed : Array Bool} (h : unlisted listed = 0) : Region.ready md ops listed = [] := by
  cases hr : Region.ready md ops listed with
  | nil => rfl
  | cons j r =>
    exfalso
    have hj : j ∈ Region.ready md ops listed := by rw [hr]; simp
    have h0 := (mem_ready.1 hj).1
    obtain ⟨l⟩ := listed
    unfold unlisted at h
    rw [List.countP_eq_zero] at h
    cases hl : l[j]? with
    | none => simp [hl] at h0
    | some b =>
      have := h b (List.mem_of_getElem? hl)
      simp [hl] at h0
      simp [h0] at this
/-- If what is asked of an operation stands ahead of it, and none may come up, all have. -/
theorem all_listed (hb : ∀ (i : Nat) (o : Oper), ops[i]? = some o → ∀ e ∈ o.after, e.on < i) {listed : Array Bool} (hs : listed.size = ops.size) (h : Region.ready md ops listed = []) : ∀ i, i < ops.size → listed.getD i false = true := by
  intro i
  induction i using Nat.strongRecOn with
  | ind i ih =>
    intro hi
    cases hl : listed.getD i true with
    | false =>
      exfalso
      have : i ∈ Region.ready md ops listed := mem_ready.2 ⟨hl, ops[i], by simp [hi], fun e he _ => ih e.on (hb i _ (by simp [hi]) e he) (Nat.lt_trans (hb i _ (by simp [hi]) e he) hi)⟩
      rw [h] at this
      cases this
    | true =>
      have hi' : i < listed.size := by omega
      simp [hi'] at hl ⊢
      exact hl
/-- A slot of a frame. -/
abbrev slotOf (a : Act) (t : Nat) : Value := a.tmps[t]?.getD undef
theorem slot_put_same {a : Act} {t : Nat} (v : Value) (h : t < a.tmps.size) : slotOf (a.put (some t) v) t = v := by
  simp [slotOf, Act.put, h]
theorem slot_put_other {a : Act} {t u : Nat} (v : Value) (h : t ≠ u) : slotOf (a.put (some t) v) u = slotOf a u := by
  simp [slotOf, Act.put, Array.getElem?_setIfInBounds_ne h]
/-- What is known in the midst of a region: the slots of what has come up hold what they must (vs), others are as they were (f0), and of the world what is laid down (S), which may look at slots. -/
structure Mid (ops : Array Oper) (a0 : Act) (vs : Nat → Option Value) (S : (Nat → Bool) → (Nat → Value) → World → Prop) (listed : Array Bool) (a : Act) (w : World) : Prop where
  defers : a.defers = a0.defers
  size : a.tmps.size = a0.tmps.size
  lsize : listed.size = ops.size
  old : ∀ t, (∀ (i : Nat) (o : Oper), ops[i]? = some o → o.dst ≠ some t) → slotOf a t = slotOf a0 t
  val : ∀ (i : Nat) (o : Oper) (t : Nat) (v : Value), ops[i]? = some o → o.dst = some t → vs i = some v → listed.getD i false = true → slotOf a t = v
  world : S (fun i => listed.getD i false) (slotOf a) w
/-- The number of operation i's slot. -/
def dstOf (ops : Array Oper) (i : Nat) : Option Nat := ops[i]?.bind (·.dst)
/-- No two operations write one slot, each slot is there, no operation is guarded, and what one waits for stands ahead of it. -/
def midOk (ops : Array Oper) (n : Nat) : Bool :=
  (List.range ops.size).all fun i => ((List.range ops.size).all fun j => match dstOf ops i, dstOf ops j with
    | some s, some t => s != t || i == j
    | _, _ => true) && (match ops[i]? with
    | some o => (match o.dst with | some t => decide (t < n) | none => true) && o.guard.isNone && o.after.all fun e => decide (e.on < i)
    | none => true)
theorem midOk_dst {n : Nat} (h : midOk ops n = true) (i j : Nat) (o o' : Oper) (t : Nat) (hi : ops[i]? = some o) (hj : ops[j]? = some o') (ht : o.dst = some t) (ht' : o'.dst = some t) : i = j := by
  have h1 := List.all_eq_true.1 h i (List.mem_range.2 (Array.getElem?_eq_some_iff.1 hi).1)
  have h2 := List.all_eq_true.1 (Bool.and_eq_true_iff.1 h1).1 j (List.mem_range.2 (Array.getElem?_eq_some_iff.1 hj).1)
  simp [dstOf, hi, hj, ht, ht'] at h2
  exact h2
theorem midOk_one {n : Nat} (h : midOk ops n = true) (i : Nat) (o : Oper) (hi : ops[i]? = some o) : (∀ t, o.dst = some t → t < n) ∧ o.guard = none ∧ ∀ e ∈ o.after, e.on < i := by
  have h1 := List.all_eq_true.1 h i (List.mem_range.2 (Array.getElem?_eq_some_iff.1 hi).1)
  have h2 := (Bool.and_eq_true_iff.1 h1).2
  simp only [hi, Bool.and_eq_true] at h2
  obtain ⟨⟨ha, hb⟩, hc⟩ := h2
  refine ⟨fun t ht => ?_, by simpa using hb, fun e he => ?_⟩
  · rw [ht] at ha; simpa using ha
  · have := Array.all_eq_true_iff_forall_mem.1 hc e he
    simpa using this
end
end Go.Proofs.YtjhcddlhhfjnaaaDoor
namespace Go.Proofs.YtjhcddlhhfjnaaaDoor
open Go
section
variable {P : Program} {ops : Array Oper} {Q : Exit → Act → World → Prop}
end
end Go.Proofs.YtjhcddlhhfjnaaaDoor
namespace Go.Proofs.YtjhcddlhhfjnaaaDoor
open Go.RowKit
section
variable {P : Program} {ops : Array Oper} {Q : Exit → Act → World → Prop}
end
end Go.Proofs.YtjhcddlhhfjnaaaDoor
namespace Go.Proofs.YtjhcddlhhfjnaaaDoor
open Go
section
variable {P : Program} {ops : Array Oper} {Q : Exit → Act → World → Prop} {l n : Nat} {md : Region.Mode}
theorem rows_wide {n : Nat} {P : Program} {row : String} {args : Array Value} {w : World} {R : Value → World → Prop} (h : Rows P row args w R) : RowsIn (Fence.wide.inRound l) n P row args w R :=
  fun c cs _ => let ⟨v, w', r, s⟩ := h c cs; ⟨v, w', r, stepsIn_wide.2 s⟩
/-- An operation that defers nothing does in a round what it does outside. -/
theorem oper_round {o : Oper} {a : Act} {w : World} {K : Act → World → Prop} (hnd : ∀ c, o.op ≠ .defer c) (h : o.wp P a w K Q) : o.wpIn (Fence.wide.inRound l) n P a w K Q := by
  refine ⟨fun _ _ => trivial, ?_⟩
  have e : o.semAt (Fence.wide.inRound l).round a.eval = execOp a.eval o := Oper.semAt_some l _ _ hnd
  rw [e]
  unfold Oper.wp at h
  generalize (execOp a.eval o).run P w = r at h ⊢
  cases r with
  | halt x w' => cases x <;> first | exact h | exact h.elim
  | ok x w' =>
    cases x with
    | value v => exact h
    | skip => exact h
    | defer d => exact h
    | enter f args => exact ⟨fun hd => by simp [Fence.wide] at hd, callsIn_wide.2 h⟩
    | row row args => exact ⟨fun hd => by simp [Fence.wide] at hd, rows_wide h⟩
    | _ => exact h.elim
theorem wpAnyIn_inv (Inv : Array Bool → Act → World → Prop)
    (step : ∀ (listed : Array Bool) (a : Act) (w : World) (i : Nat) (o : Oper), Inv listed a w → ops[i]? = some o → listed.getD i true = false → (∀ e ∈ o.after, Region.binds md e = true → listed.getD e.on false = true) →
      wpOpIn (Fence.wide.inRound l) n P ops Q i (Inv (listed.setIfInBounds i true)) a w)
    (fin : ∀ listed a w, Inv listed a w → Region.ready md ops listed = [] → Q .normal a w) :
    ∀ (fuel : Nat) (listed : Array Bool) (a : Act) (w : World), unlisted listed ≤ fuel → Inv listed a w → wpAnyIn (Fence.wide.inRound l) n P md ops Q fuel listed a w
  | 0, listed, a, w, hf, hi => ⟨ready_none (by omega), fin listed a w hi (ready_none (by omega))⟩
  | fuel + 1, listed, a, w, hf, hi => ⟨fin listed a w hi, fun i hr => by
    obtain ⟨h0, o, ho, hall⟩ := mem_ready.1 hr
    refine wpOpIn_mono (fun a' w' h => wpAnyIn_inv Inv step fin fuel _ a' w' ?_ h) (step listed a w i o hi ho h0 hall)
    have := unlisted_set h0
    omega⟩
/-- No operation defers. -/
def noDefer (ops : Array Oper) : Bool := ops.all fun o => match o.op with
  | .defer _ => false
  | _ => true
theorem noDefer_of (h : noDefer ops = true) (i : Nat) (o : Oper) (ho : ops[i]? = some o) : ∀ c, o.op ≠ .defer c := fun c he => by
  obtain ⟨hi, rfl⟩ := Array.getElem?_eq_some_iff.1 ho
  have := Array.all_eq_true.1 h i hi
  rw [he] at this
  cases this
theorem Mid.onward {a0 : Act} {vs : Nat → Option Value} {S : (Nat → Bool) → (Nat → Value) → World → Prop} {listed : Array Bool} {a : Act} {w w' : World} {i : Nat} {o : Oper} {v : Value}
    (hd : ∀ (i j : Nat) (o o' : Oper) (t : Nat), ops[i]? = some o → ops[j]? = some o' → o.dst = some t → o'.dst = some t → i = j) (hn : ∀ (i : Nat) (o : Oper) (t : Nat), ops[i]? = some o → o.dst = some t → t < a0.tmps.size)
    (h : Mid ops a0 vs S listed a w) (ho : ops[i]? = some o) (hv : ∀ u, vs i = some u → v = u) (hS : S (fun j => (listed.setIfInBounds i true).getD j false) (slotOf (a.put o.dst v)) w') :
    Mid ops a0 vs S (listed.setIfInBounds i true) (a.put o.dst v) w' := by
  have hdef : (a.put o.dst v).defers = a.defers := by cases o.dst <;> rfl
  have hsz : (a.put o.dst v).tmps.size = a.tmps.size := by cases o.dst <;> simp [Act.put]
  refine ⟨hdef.trans h.defers, hsz.trans h.size, by simpa using h.lsize, fun t ht => ?_, fun j o' t u hj ht hu hl => ?_, hS⟩
  · have hne := ht i o ho
    cases hdst : o.dst with
    | none => exact h.old t ht
    | some s => rw [slot_put_other v (fun e => hne (by rw [hdst, e]))]; exact h.old t ht
  · by_cases hij : i = j
    · subst hij
      obtain rfl : o' = o := by rw [ho] at hj; exact (Option.some.inj hj).symm
      rw [ht, slot_put_same v (by rw [h.size]; exact hn i _ t ho ht)]
      exact hv u hu
    · have hl' : listed.getD j false = true := by
        rw [getD_set_ne false hij] at hl; exact hl
      have := h.val j o' t u hj ht hu hl'
      cases hdst : o.dst with
      | none => exact this
      | some s => rw [slot_put_other v (fun e => hij (hd i j o o' t ho hj (by rw [hdst, e]) ht))]; exact this
/-- **The region, in a round.** -/
theorem wpIn_region_mid {id : Nat} {a : Act} {w : World} (hm : P.follows .mixedOrders = true) (hnd : noDefer ops = true) (vs : Nat → Option Value) (S : (Nat → Bool) → (Nat → Value) → World → Prop)
    (hok : midOk ops a.tmps.size = true) (h0 : S (fun _ => false) (slotOf a) w.drew)
    (run : ∀ (listed : Array Bool) (a' : Act) (w' : World) (i : Nat) (o : Oper), Mid ops a vs S listed a' w' → ops[i]? = some o → listed.getD i true = false → (∀ e ∈ o.after, Region.binds .any e = true → listed.getD e.on false = true) →
      ∀ K : Act → World → Prop, (∀ v w'', (∀ u, vs i = some u → v = u) → S (fun j => (listed.setIfInBounds i true).getD j false) (slotOf (a'.put o.dst v)) w'' → K (a'.put o.dst v) w'') → o.wp P a' w' K Q)
    (fin : ∀ (listed : Array Bool) (a' : Act) (w' : World), Mid ops a vs S listed a' w' → (∀ i, i < ops.size → listed.getD i false = true) → Q .normal a' w') : (Code.region id ops true).wpIn (Fence.wide.inRound l) n P Q a w := by
  refine wpIn_region_any hm (wpAnyIn_inv (Mid ops a vs S) (fun listed a' w' i o hI hi h1 h2 => ?_) (fun listed a' w' hI hr => ?_) _ _ _ _ ?_ ?_)
  · unfold wpOpIn
    simp only [hi, Region.wanted, (midOk_one hok i o hi).2.1, if_true]
    exact oper_round (noDefer_of hnd i o hi) (run listed a' w' i o hI hi h1 h2 _ (fun v w'' hv hS => Mid.onward (midOk_dst hok) (fun i o t hi ht => (midOk_one hok i o hi).1 t ht) hI hi hv hS))
  · exact fin listed a' w' hI (all_listed (fun i o hi => (midOk_one hok i o hi).2.2) hI.lsize hr)
  · unfold unlisted
    exact Nat.le_trans (List.countP_le_length) (by simp)
  · refine ⟨rfl, rfl, by simp, fun _ _ => rfl, fun i o t v hi ht hv hl => ?_, ?_⟩
    · exfalso
      have : i < ops.size := (Array.getElem?_eq_some_iff.1 hi).1
      simp [this] at hl
    · have e : (fun i => (Array.replicate ops.size false).getD i false) = fun _ => false := by
        funext i
        by_cases hi : i < ops.size <;> simp [hi]
      rw [e]; exact h0
end
end Go.Proofs.YtjhcddlhhfjnaaaDoor
