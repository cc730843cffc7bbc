import Derived.Orders
import Derived.Deep.RegionHeld
namespace Go.Proofs.YtongeeggaigepaaGreatDoor
theorem oI {a b : Oper} (h : some a = some b) : a = b := Option.some.inj h
theorem oV {a b : Value} (h : some a = some b) : a = b := Option.some.inj h
theorem nV {a b : Value} (h : (none : Option Value) = some b) : a = b := by cases h
open Go
section
variable {P : Program} {ops : Array Oper} {Q : Exit → Act → World → Prop} {md : Region.Mode}
def unlisted (listed : Array Bool) : Nat := listed.toList.countP (fun b => !b)
theorem unlisted_set {listed : Array Bool} {i : Nat} (h : listed.getD i true = false) : unlisted (listed.setIfInBounds i true) + 1 = unlisted listed := by
 obtain ⟨l⟩ := listed
 have hi : l[i]? = some false := by
  cases hl : l[i]? with
  | none => simp [hl] at h
  | some b => simp [hl] at h; rw [h]
 unfold unlisted
 simp only [List.setIfInBounds_toArray]
 clear h
 induction l generalizing i with
 | nil => simp at hi
 | cons b r ih =>
   cases i with
   | zero => simp at hi; subst hi; simp
   | succ i =>
     have := ih (i := i) (by simpa using hi)
     simp only [List.set_cons_succ, List.countP_cons]
     omega
theorem ready_none {listed : Array Bool} (h : unlisted listed = 0) : Region.ready md ops listed = [] := by
 cases hr : Region.ready md ops listed with
 | nil => rfl
 | cons j r =>
   exfalso
   have hj : j ∈ Region.ready md ops listed := by rw [hr]; simp
   have h0 := (mem_ready.1 hj).1
   obtain ⟨l⟩ := listed
   unfold unlisted at h
   rw [List.countP_eq_zero] at h
   cases hl : l[j]? with
   | none => simp [hl] at h0
   | some b =>
     have := h b (List.mem_of_getElem? hl)
     simp [hl] at h0
     simp [h0] at this
theorem all_listed (hb : ∀ (i : Nat) (o : Oper), ops[i]? = some o → ∀ e ∈ o.after, e.on < i) {listed : Array Bool} (hs : listed.size = ops.size) (h : Region.ready md ops listed = []) : ∀ i, i < ops.size → listed.getD i false = true := by
 intro i
 induction i using Nat.strongRecOn with
 | ind i ih =>
   intro hi
   cases hl : listed.getD i true with
   | false =>
     exfalso
     have : i ∈ Region.ready md ops listed := mem_ready.2 ⟨hl, ops[i], by simp [hi], fun e he _ => ih e.on (hb i _ (by simp [hi]) e he) (Nat.lt_trans (hb i _ (by simp [hi]) e he) hi)⟩
     rw [h] at this
     cases this
   | true =>
     have hi' : i < listed.size := by omega
     simp [hi'] at hl ⊢
     exact hl
theorem wpAny_inv (Inv : Array Bool → Act → World → Prop)
 (step : ∀ (listed : Array Bool) (a : Act) (w : World) (i : Nat) (o : Oper), Inv listed a w → ops[i]? = some o → listed.getD i true = false → (∀ e ∈ o.after, Region.binds md e = true → listed.getD e.on false = true) →
   wpOp P ops Q i (Inv (listed.setIfInBounds i true)) a w)
 (fin : ∀ listed a w, Inv listed a w → Region.ready md ops listed = [] → Q .normal a w) :
 ∀ (fuel : Nat) (listed : Array Bool) (a : Act) (w : World), unlisted listed ≤ fuel → Inv listed a w → wpAny P md ops Q fuel listed a w
 | 0, listed, a, w, hf, hi => ⟨ready_none (by omega), fin listed a w hi (ready_none (by omega))⟩
 | fuel + 1, listed, a, w, hf, hi => ⟨fin listed a w hi, fun i hr => by
   obtain ⟨h0, o, ho, hall⟩ := mem_ready.1 hr
   refine wpOp_mono (fun a' w' h => wpAny_inv Inv step fin fuel _ a' w' ?_ h) (step listed a w i o hi ho h0 hall)
   have := unlisted_set h0
   omega⟩
theorem wp_region_inv {id : Nat} {a : Act} {w : World} (hm : P.follows .mixedOrders = true) (Inv : Array Bool → Act → World → Prop) (h0 : Inv (Array.replicate ops.size false) a w.drew)
 (step : ∀ (listed : Array Bool) (a : Act) (w : World) (i : Nat) (o : Oper), Inv listed a w → ops[i]? = some o → listed.getD i true = false → (∀ e ∈ o.after, Region.binds .any e = true → listed.getD e.on false = true) →
   wpOp P ops Q i (Inv (listed.setIfInBounds i true)) a w)
 (fin : ∀ listed a w, Inv listed a w → Region.ready .any ops listed = [] → Q .normal a w) : (Code.region id ops true).wp P Q a w :=
 wp_region_any hm (wpAny_inv Inv step fin _ _ _ _ (by
  unfold unlisted
  refine Nat.le_trans (List.countP_le_length) ?_
  simp) h0)
abbrev slotOf (a : Act) (t : Nat) : Value := a.tmps[t]?.getD undef
theorem slot_put_same {a : Act} {t : Nat} (v : Value) (h : t < a.tmps.size) : slotOf (a.put (some t) v) t = v := by
 simp [slotOf, Act.put, h]
theorem slot_put_other {a : Act} {t u : Nat} (v : Value) (h : t ≠ u) : slotOf (a.put (some t) v) u = slotOf a u := by
 simp [slotOf, Act.put, Array.getElem?_setIfInBounds_ne h]
structure Mid (ops : Array Oper) (a0 : Act) (vs : Nat → Option Value) (S : (Nat → Bool) → (Nat → Value) → World → Prop) (listed : Array Bool) (a : Act) (w : World) : Prop where
 defers : a.defers = a0.defers
 size : a.tmps.size = a0.tmps.size
 lsize : listed.size = ops.size
 old : ∀ t, (∀ (i : Nat) (o : Oper), ops[i]? = some o → o.dst ≠ some t) → slotOf a t = slotOf a0 t
 val : ∀ (i : Nat) (o : Oper) (t : Nat) (v : Value), ops[i]? = some o → o.dst = some t → vs i = some v → listed.getD i false = true → slotOf a t = v
 world : S (fun i => listed.getD i false) (slotOf a) w
theorem Mid.step {a0 : Act} {vs : Nat → Option Value} {S : (Nat → Bool) → (Nat → Value) → World → Prop} {listed : Array Bool} {a : Act} {w : World} {i : Nat} {o : Oper}
 (hd : ∀ (i j : Nat) (o o' : Oper) (t : Nat), ops[i]? = some o → ops[j]? = some o' → o.dst = some t → o'.dst = some t → i = j) (hn : ∀ (i : Nat) (o : Oper) (t : Nat), ops[i]? = some o → o.dst = some t → t < a0.tmps.size)
 (h : Mid ops a0 vs S listed a w) (ho : ops[i]? = some o) (hg : o.guard = none)
 (hrun : ∀ K : Act → World → Prop, (∀ v w', (∀ u, vs i = some u → v = u) → S (fun j => (listed.setIfInBounds i true).getD j false) (slotOf (a.put o.dst v)) w' → K (a.put o.dst v) w') → o.wp P a w K Q) :
 wpOp P ops Q i (Mid ops a0 vs S (listed.setIfInBounds i true)) a w := by
 unfold wpOp
 simp only [ho, Region.wanted, hg, if_true]
 refine .inl (hrun _ (fun v w' hv hS => ?_))
 have hdef : (a.put o.dst v).defers = a.defers := by cases o.dst <;> rfl
 have hsz : (a.put o.dst v).tmps.size = a.tmps.size := by cases o.dst <;> simp [Act.put]
 refine ⟨hdef.trans h.defers, hsz.trans h.size, by simpa using h.lsize, fun t ht => ?_, fun j o' t u hj ht hu hl => ?_, hS⟩
 ·have hne := ht i o ho
  cases hdst : o.dst with
  | none => exact h.old t ht
  | some s => rw [slot_put_other v (fun e => hne (by rw [hdst, e]))]; exact h.old t ht
 ·by_cases hij : i = j
  ·subst hij
   obtain rfl : o' = o := by rw [ho] at hj; exact (Option.some.inj hj).symm
   rw [ht, slot_put_same v (by rw [h.size]; exact hn i _ t ho ht)]
   exact hv u hu
  ·have hl' : listed.getD j false = true := by
    rw [getD_set_ne false hij] at hl; exact hl
   have := h.val j o' t u hj ht hu hl'
   cases hdst : o.dst with
   | none => exact this
   | some s => rw [slot_put_other v (fun e => hij (hd i j o o' t ho hj (by rw [hdst, e]) ht))]; exact this
def dstOf (ops : Array Oper) (i : Nat) : Option Nat := ops[i]?.bind (·.dst)
def midOk (ops : Array Oper) (n : Nat) : Bool :=
 (List.range ops.size).all fun i => ((List.range ops.size).all fun j => match dstOf ops i, dstOf ops j with
   | some s, some t => s != t || i == j
   | _, _ => true) && (match ops[i]? with
   | some o => (match o.dst with | some t => decide (t < n) | none => true) && o.guard.isNone && o.after.all fun e => decide (e.on < i)
   | none => true)
theorem midOk_dst {n : Nat} (h : midOk ops n = true) (i j : Nat) (o o' : Oper) (t : Nat) (hi : ops[i]? = some o) (hj : ops[j]? = some o') (ht : o.dst = some t) (ht' : o'.dst = some t) : i = j := by
 have h1 := List.all_eq_true.1 h i (List.mem_range.2 (Array.getElem?_eq_some_iff.1 hi).1)
 have h2 := List.all_eq_true.1 (Bool.and_eq_true_iff.1 h1).1 j (List.mem_range.2 (Array.getElem?_eq_some_iff.1 hj).1)
 simp [dstOf, hi, hj, ht, ht'] at h2
 exact h2
theorem midOk_one {n : Nat} (h : midOk ops n = true) (i : Nat) (o : Oper) (hi : ops[i]? = some o) : (∀ t, o.dst = some t → t < n) ∧ o.guard = none ∧ ∀ e ∈ o.after, e.on < i := by
 have h1 := List.all_eq_true.1 h i (List.mem_range.2 (Array.getElem?_eq_some_iff.1 hi).1)
 have h2 := (Bool.and_eq_true_iff.1 h1).2
 simp only [hi, Bool.and_eq_true] at h2
 obtain ⟨⟨ha, hb⟩, hc⟩ := h2
 refine ⟨fun t ht => ?_, by simpa using hb, fun e he => ?_⟩
 ·rw [ht] at ha; simpa using ha
 ·have := Array.all_eq_true_iff_forall_mem.1 hc e he
  simpa using this
theorem wp_region_mid {id : Nat} {a : Act} {w : World} (hm : P.follows .mixedOrders = true) (vs : Nat → Option Value) (S : (Nat → Bool) → (Nat → Value) → World → Prop)
 (hok : midOk ops a.tmps.size = true) (h0 : S (fun _ => false) (slotOf a) w.drew)
 (run : ∀ (listed : Array Bool) (a' : Act) (w' : World) (i : Nat) (o : Oper), Mid ops a vs S listed a' w' → ops[i]? = some o → listed.getD i true = false → (∀ e ∈ o.after, Region.binds .any e = true → listed.getD e.on false = true) →
   ∀ K : Act → World → Prop, (∀ v w'', (∀ u, vs i = some u → v = u) → S (fun j => (listed.setIfInBounds i true).getD j false) (slotOf (a'.put o.dst v)) w'' → K (a'.put o.dst v) w'') → o.wp P a' w' K Q)
 (fin : ∀ (listed : Array Bool) (a' : Act) (w' : World), Mid ops a vs S listed a' w' → (∀ i, i < ops.size → listed.getD i false = true) → Q .normal a' w') : (Code.region id ops true).wp P Q a w := by
 refine wp_region_inv hm (Mid ops a vs S) ⟨rfl, rfl, by simp, fun _ _ => rfl, fun i o t v hi ht hv hl => ?_, ?_⟩ (fun listed a' w' i o hI hi h1 h2 => ?_) (fun listed a' w' hI hr => ?_)
 ·exfalso
  have : i < ops.size := (Array.getElem?_eq_some_iff.1 hi).1
  simp [this] at hl
 ·have e : (fun i => (Array.replicate ops.size false).getD i false) = fun _ => false := by
   funext i
   by_cases hi : i < ops.size <;> simp [hi]
  rw [e]; exact h0
 ·exact Mid.step (midOk_dst hok) (fun i o t hi ht => (midOk_one hok i o hi).1 t ht) hI hi (midOk_one hok i o hi).2.1 (run listed a' w' i o hI hi h1 h2)
 ·exact fin listed a' w' hI (all_listed (fun i o hi => (midOk_one hok i o hi).2.2) hI.lsize hr)
end
end Go.Proofs.YtongeeggaigepaaGreatDoor

namespace Go.Proofs.YtongeeggaigepaaGreatDoor
open Go
section
variable {P : Program} {ops : Array Oper} {Q : Exit → Act → World → Prop}
theorem all_listedB {md : Region.Mode} (hb : ∀ (i : Nat) (o : Oper), ops[i]? = some o → ∀ e ∈ o.after, Region.binds md e = true → e.on < i) {listed : Array Bool} (hs : listed.size = ops.size) (h : Region.ready md ops listed = []) : ∀ i, i < ops.size → listed.getD i false = true := by
 intro i
 induction i using Nat.strongRecOn with
 | ind i ih =>
   intro hi
   cases hl : listed.getD i true with
   | false =>
     exfalso
     have : i ∈ Region.ready md ops listed := mem_ready.2 ⟨hl, ops[i], by simp [hi], fun e he hbd => ih e.on (hb i _ (by simp [hi]) e he hbd) (Nat.lt_trans (hb i _ (by simp [hi]) e he hbd) hi)⟩
     rw [h] at this
     cases this
   | true =>
     have hi' : i < listed.size := by omega
     simp [hi'] at hl ⊢
     exact hl
def asks (e : Edge) : Bool := match e.ground with
 | .textOnly _ => false
 | .gcOnly _ => false
 | _ => true
theorem asks_of {e : Edge} (h : Region.binds .any e = true) : asks e = true := by
 unfold Region.binds at h
 unfold asks
 split at h <;> first | (exfalso; revert h; decide) | rfl | (split <;> first | rfl | (exfalso; simp_all))
theorem yielded_slot {a : Act} {j t : Nat} {o : Oper} {b : Bool} (hj : ops[j]? = some o) (ht : o.dst = some t) (hv : slotOf a t = .bool b) : yielded ops a.tmps j = some b := by
 have h : a.tmps[t]? = some (.bool b) := by
  unfold slotOf at hv
  cases hq : a.tmps[t]? with
  | none => rw [hq] at hv; cases hv
  | some v => rw [hq] at hv; exact congrArg some hv
 unfold yielded
 simp only [hj, Option.bind_some, ht, h]
theorem Mid.stepG {a0 : Act} {vs : Nat → Option Value} {S : (Nat → Bool) → (Nat → Value) → World → Prop} {listed : Array Bool} {a : Act} {w : World} {i : Nat} {o : Oper}
 (hd : ∀ (i j : Nat) (o o' : Oper) (t : Nat), ops[i]? = some o → ops[j]? = some o' → o.dst = some t → o'.dst = some t → i = j) (hn : ∀ (i : Nat) (o : Oper) (t : Nat), ops[i]? = some o → o.dst = some t → t < a0.tmps.size)
 (h : Mid ops a0 vs S listed a w) (ho : ops[i]? = some o) (hg : ∀ j b, o.guard = some (j, b) → vs j = some (.bool b) ∧ listed.getD j false = true ∧ ∃ oj t, ops[j]? = some oj ∧ oj.dst = some t)
 (hrun : ∀ K : Act → World → Prop, (∀ v w', (∀ u, vs i = some u → v = u) → S (fun j => (listed.setIfInBounds i true).getD j false) (slotOf (a.put o.dst v)) w' → K (a.put o.dst v) w') → o.wp P a w K Q) :
 wpOp P ops Q i (Mid ops a0 vs S (listed.setIfInBounds i true)) a w := by
 have hw : Region.wanted o (yielded ops a.tmps) = true := by
  unfold Region.wanted
  cases hgd : o.guard with
  | none => rfl
  | some p =>
    obtain ⟨j, b⟩ := p
    obtain ⟨h1, h2, oj, t, h3, h4⟩ := hg j b hgd
    have := yielded_slot h3 h4 (h.val j oj t _ h3 h4 h1 h2)
    simp only [this, beq_self_eq_true]
 unfold wpOp
 simp only [ho, hw, if_true]
 refine .inl (hrun _ (fun v w' hv hS => ?_))
 have hdef : (a.put o.dst v).defers = a.defers := by cases o.dst <;> rfl
 have hsz : (a.put o.dst v).tmps.size = a.tmps.size := by cases o.dst <;> simp [Act.put]
 refine ⟨hdef.trans h.defers, hsz.trans h.size, by simpa using h.lsize, fun t ht => ?_, fun j o' t u hj ht hu hl => ?_, hS⟩
 ·have hne := ht i o ho
  cases hdst : o.dst with
  | none => exact h.old t ht
  | some s => rw [slot_put_other v (fun e => hne (by rw [hdst, e]))]; exact h.old t ht
 ·by_cases hij : i = j
  ·subst hij
   obtain rfl : o' = o := by rw [ho] at hj; exact (Option.some.inj hj).symm
   rw [ht, slot_put_same v (by rw [h.size]; exact hn i _ t ho ht)]
   exact hv u hu
  ·have hl' : listed.getD j false = true := by
    rw [getD_set_ne false hij] at hl; exact hl
   have := h.val j o' t u hj ht hu hl'
   cases hdst : o.dst with
   | none => exact this
   | some s => rw [slot_put_other v (fun e => hij (hd i j o o' t ho hj (by rw [hdst, e]) ht))]; exact this
def midOkG (ops : Array Oper) (n : Nat) (gs : List Nat) : Bool :=
 (List.range ops.size).all fun i => ((List.range ops.size).all fun j => match dstOf ops i, dstOf ops j with
   | some s, some t => s != t || i == j
   | _, _ => true) && (match ops[i]? with
   | some o => (match o.dst with | some t => decide (t < n) | none => true) && (match o.guard with
     | none => true
     | some (j, b) => b && gs.contains j && (dstOf ops j).isSome && o.after.any fun e => e.on == j && Region.binds .any e) && o.after.all fun e => !asks e || decide (e.on < i)
   | none => true)
theorem midOkG_dst {n : Nat} {gs : List Nat} (h : midOkG ops n gs = true) (i j : Nat) (o o' : Oper) (t : Nat) (hi : ops[i]? = some o) (hj : ops[j]? = some o') (ht : o.dst = some t) (ht' : o'.dst = some t) : i = j := by
 have h1 := List.all_eq_true.1 h i (List.mem_range.2 (Array.getElem?_eq_some_iff.1 hi).1)
 have h2 := List.all_eq_true.1 (Bool.and_eq_true_iff.1 h1).1 j (List.mem_range.2 (Array.getElem?_eq_some_iff.1 hj).1)
 simp [dstOf, hi, hj, ht, ht'] at h2
 exact h2
theorem midOkG_one {n : Nat} {gs : List Nat} (h : midOkG ops n gs = true) (i : Nat) (o : Oper) (hi : ops[i]? = some o) :
 (∀ t, o.dst = some t → t < n) ∧ (∀ j b, o.guard = some (j, b) → b = true ∧ j ∈ gs ∧ (∃ oj t, ops[j]? = some oj ∧ oj.dst = some t) ∧ ∃ e ∈ o.after, e.on = j ∧ Region.binds .any e = true) ∧ ∀ e ∈ o.after, Region.binds .any e = true → e.on < i := by
 have h1 := List.all_eq_true.1 h i (List.mem_range.2 (Array.getElem?_eq_some_iff.1 hi).1)
 have h2 := (Bool.and_eq_true_iff.1 h1).2
 simp only [hi, Bool.and_eq_true] at h2
 obtain ⟨⟨ha, hb⟩, hc⟩ := h2
 refine ⟨fun t ht => ?_, fun j b hg => ?_, fun e he hbd => ?_⟩
 ·rw [ht] at ha; simpa using ha
 ·rw [hg] at hb
  simp only [Bool.and_eq_true] at hb
  obtain ⟨⟨⟨h3, h4⟩, h5⟩, h6⟩ := hb
  refine ⟨h3, by simpa using h4, ?_, ?_⟩
  ·obtain ⟨t, ht⟩ := Option.isSome_iff_exists.1 h5
   unfold dstOf at ht
   cases hq : ops[j]? with
   | none => rw [hq] at ht; cases ht
   | some oj => rw [hq] at ht; exact ⟨oj, t, rfl, ht⟩
  ·obtain ⟨k, hk, he⟩ := Array.any_eq_true.1 h6
   rw [Bool.and_eq_true] at he
   exact ⟨_, Array.getElem_mem hk, by simpa using he.1, he.2⟩
 ·have := Array.all_eq_true_iff_forall_mem.1 hc e he
  rw [asks_of hbd] at this
  simpa using this
theorem wp_region_midG {id : Nat} {a : Act} {w : World} (hm : P.follows .mixedOrders = true) (gs : List Nat) (vs : Nat → Option Value) (hgs : ∀ j, j ∈ gs → vs j = some (.bool true)) (S : (Nat → Bool) → (Nat → Value) → World → Prop)
 (hok : midOkG ops a.tmps.size gs = true) (h0 : S (fun _ => false) (slotOf a) w.drew)
 (run : ∀ (listed : Array Bool) (a' : Act) (w' : World) (i : Nat) (o : Oper), Mid ops a vs S listed a' w' → ops[i]? = some o → listed.getD i true = false → (∀ e ∈ o.after, Region.binds .any e = true → listed.getD e.on false = true) →
   ∀ K : Act → World → Prop, (∀ v w'', (∀ u, vs i = some u → v = u) → S (fun j => (listed.setIfInBounds i true).getD j false) (slotOf (a'.put o.dst v)) w'' → K (a'.put o.dst v) w'') → o.wp P a' w' K Q)
 (fin : ∀ (listed : Array Bool) (a' : Act) (w' : World), Mid ops a vs S listed a' w' → (∀ i, i < ops.size → listed.getD i false = true) → Q .normal a' w') : (Code.region id ops true).wp P Q a w := by
 refine wp_region_inv hm (Mid ops a vs S) ⟨rfl, rfl, by simp, fun _ _ => rfl, fun i o t v hi ht hv hl => ?_, ?_⟩ (fun listed a' w' i o hI hi h1 h2 => ?_) (fun listed a' w' hI hr => ?_)
 ·exfalso
  have : i < ops.size := (Array.getElem?_eq_some_iff.1 hi).1
  simp [this] at hl
 ·have e : (fun i => (Array.replicate ops.size false).getD i false) = fun _ => false := by
   funext i
   by_cases hi : i < ops.size <;> simp [hi]
  rw [e]; exact h0
 ·refine Mid.stepG (midOkG_dst hok) (fun i o t hi ht => (midOkG_one hok i o hi).1 t ht) hI hi (fun j b hg => ?_) (run listed a' w' i o hI hi h1 h2)
  obtain ⟨rfl, h3, h4, e, he, rfl, hb⟩ := (midOkG_one hok i o hi).2.1 j b hg
  exact ⟨hgs _ h3, h2 e he hb, h4⟩
 ·exact fin listed a' w' hI (all_listedB (fun i o hi => (midOkG_one hok i o hi).2.2) hI.lsize hr)
end
end Go.Proofs.YtongeeggaigepaaGreatDoor

namespace Go.Proofs.YtongeeggaigepaaGreatDoor
open Go
section
variable {P : Program} {ops : Array Oper} {Q : Exit → Act → World → Prop}
theorem yielded_undef {a : Act} {j t : Nat} {o : Oper} (hj : ops[j]? = some o) (ht : o.dst = some t) (hv : slotOf a t = undef) : yielded ops a.tmps j = none := by
 unfold yielded
 simp only [hj, Option.bind_some, ht]
 unfold slotOf at hv
 cases hq : a.tmps[t]? with
 | none => rfl
 | some v =>
   rw [hq] at hv
   obtain rfl : v = undef := hv
   rfl
def wantedB (gv : Nat → Option Bool) (o : Oper) : Bool := match o.guard with
 | none => true
 | some (j, b) => gv j == some b
def midOkT (ops : Array Oper) (n : Nat) (gv : Nat → Option Bool) (un us : List Nat) : Bool :=
 (List.range ops.size).all fun i => ((List.range ops.size).all fun j => match dstOf ops i, dstOf ops j with
   | some s, some t => s != t || i == j
   | _, _ => true) && (match ops[i]? with
   | some o => (wantedB gv o == !us.contains i) && (match o.dst with | some t => decide (t < n) | none => true) && (match o.guard with
     | none => true
     | some (j, _) => decide (j < i) && ((gv j).isSome || un.contains j) && (dstOf ops j).isSome)
   | none => true)
theorem midOkT_dst {n : Nat} {gv : Nat → Option Bool} {un us : List Nat} (h : midOkT ops n gv un us = true) (i j : Nat) (o o' : Oper) (t : Nat) (hi : ops[i]? = some o) (hj : ops[j]? = some o') (ht : o.dst = some t) (ht' : o'.dst = some t) : i = j := by
 have h1 := List.all_eq_true.1 h i (List.mem_range.2 (Array.getElem?_eq_some_iff.1 hi).1)
 have h2 := List.all_eq_true.1 (Bool.and_eq_true_iff.1 h1).1 j (List.mem_range.2 (Array.getElem?_eq_some_iff.1 hj).1)
 simp [dstOf, hi, hj, ht, ht'] at h2
 exact h2
theorem midOkT_one {n : Nat} {gv : Nat → Option Bool} {un us : List Nat} (h : midOkT ops n gv un us = true) (i : Nat) (o : Oper) (hi : ops[i]? = some o) :
 (∀ t, o.dst = some t → t < n) ∧ (wantedB gv o = !us.contains i) ∧ ∀ j b, o.guard = some (j, b) → j < i ∧ ((gv j).isSome = true ∨ j ∈ un) ∧ ∃ oj t, ops[j]? = some oj ∧ oj.dst = some t := by
 have h1 := List.all_eq_true.1 h i (List.mem_range.2 (Array.getElem?_eq_some_iff.1 hi).1)
 have h2 := (Bool.and_eq_true_iff.1 h1).2
 simp only [hi, Bool.and_eq_true] at h2
 obtain ⟨⟨hc, ha⟩, hb⟩ := h2
 refine ⟨fun t ht => ?_, by simpa using hc, fun j b hg => ?_⟩
 ·rw [ht] at ha; simpa using ha
 ·rw [hg] at hb
  simp only [Bool.and_eq_true] at hb
  obtain ⟨⟨h3, h4⟩, h5⟩ := hb
  refine ⟨by simpa using h3, by simpa using h4, ?_⟩
  obtain ⟨t, ht⟩ := Option.isSome_iff_exists.1 h5
  unfold dstOf at ht
  cases hq : ops[j]? with
  | none => rw [hq] at ht; cases ht
  | some oj => rw [hq] at ht; exact ⟨oj, t, rfl, ht⟩
structure MidT (ops : Array Oper) (a0 : Act) (vs : Nat → Option Value) (S : World → Prop) (k : Nat) (a : Act) (w : World) : Prop where
 defers : a.defers = a0.defers
 size : a.tmps.size = a0.tmps.size
 old : ∀ t, (∀ (i : Nat) (o : Oper), ops[i]? = some o → o.dst ≠ some t) → slotOf a t = slotOf a0 t
 val : ∀ (i : Nat) (o : Oper) (t : Nat) (v : Value), i < k → ops[i]? = some o → o.dst = some t → vs i = some v → slotOf a t = v
 world : S w
theorem MidT.put {a0 : Act} {vs : Nat → Option Value} {S : World → Prop} {k : Nat} {a : Act} {w w' : World} {o : Oper} {v : Value}
 (hd : ∀ (i j : Nat) (o o' : Oper) (t : Nat), ops[i]? = some o → ops[j]? = some o' → o.dst = some t → o'.dst = some t → i = j) (hn : ∀ (i : Nat) (o : Oper) (t : Nat), ops[i]? = some o → o.dst = some t → t < a0.tmps.size)
 (h : MidT ops a0 vs S k a w) (ho : ops[k]? = some o) (hv : ∀ u, vs k = some u → v = u) (hS : S w') : MidT ops a0 vs S (k + 1) (a.put o.dst v) w' := by
 have hdef : (a.put o.dst v).defers = a.defers := by cases o.dst <;> rfl
 have hsz : (a.put o.dst v).tmps.size = a.tmps.size := by cases o.dst <;> simp [Act.put]
 refine ⟨hdef.trans h.defers, hsz.trans h.size, fun t ht => ?_, fun j o' t u hjk hj ht hu => ?_, hS⟩
 ·have hne := ht k o ho
  cases hdst : o.dst with
  | none => exact h.old t ht
  | some s => rw [slot_put_other v (fun e => hne (by rw [hdst, e]))]; exact h.old t ht
 ·by_cases hij : k = j
  ·subst hij
   obtain rfl : o' = o := by rw [ho] at hj; exact (Option.some.inj hj).symm
   rw [ht, slot_put_same v (by rw [h.size]; exact hn k _ t ho ht)]
   exact hv u hu
  ·have := h.val j o' t u (by omega) hj ht hu
   cases hdst : o.dst with
   | none => exact this
   | some s => rw [slot_put_other v (fun e => hij (hd k j o o' t ho hj (by rw [hdst, e]) ht))]; exact this
theorem wp_region_txt {id : Nat} {a : Act} {w : World} (gv : Nat → Option Bool) (vs : Nat → Option Value) (un us : List Nat) (hgv : ∀ j b, gv j = some b → vs j = some (.bool b)) (hun : ∀ j, j ∈ un → gv j = none ∧ vs j = some undef) (S : World → Prop)
 (hok : midOkT ops a.tmps.size gv un us = true) (hus : ∀ i, i ∈ us → vs i = some undef) (h0 : S w)
 (run : ∀ (a' : Act) (w' : World) (i : Nat) (o : Oper), MidT ops a vs S i a' w' → ops[i]? = some o → us.contains i = false →
   ∀ K : Act → World → Prop, (∀ v w'', (∀ u, vs i = some u → v = u) → S w'' → K (a'.put o.dst v) w'') → o.wp P a' w' K Q)
 (fin : ∀ (a' : Act) (w' : World), MidT ops a vs S ops.size a' w' → Q .normal a' w') : (Code.region id ops false).wp P Q a w := by
 apply wp_region_list
 have main : ∀ (l : List Oper) (k : Nat) (a' : Act) (w' : World), (∀ j, l[j]? = ops[k + j]?) → MidT ops a vs S k a' w' → wpList P ops Q l a' w' := by
  intro l
  induction l with
  | nil =>
    intro k a' w' hl hI
    have hk : ops.size ≤ k := by
     have := hl 0
     simp only [List.getElem?_nil, Nat.add_zero] at this
     exact Array.getElem?_eq_none_iff.1 this.symm
    exact fin a' w' ⟨hI.defers, hI.size, hI.old, fun i o t v hi => hI.val i o t v (by omega), hI.world⟩
  | cons o rest ih =>
    intro k a' w' hl hI
    have ho : ops[k]? = some o := by have := hl 0; simpa using this.symm
    have hr : ∀ j, rest[j]? = ops[k + 1 + j]? := fun j => by
     have := hl (j + 1)
     rw [List.getElem?_cons_succ] at this
     rw [this]; congr 1; omega
    have hd := midOkT_dst hok
    have hn := fun i o t (hi : ops[i]? = some o) ht => (midOkT_one hok i o hi).1 t ht
    have hwe : Region.wanted o (yielded ops a'.tmps) = wantedB gv o := by
     unfold Region.wanted wantedB
     cases hgd : o.guard with
     | none => rfl
     | some p =>
       obtain ⟨j, b⟩ := p
       obtain ⟨h1, h2, oj, t, h3, h4⟩ := (midOkT_one hok k o ho).2.2 j b hgd
       rcases h2 with h2 | h2
       ·obtain ⟨c, hc⟩ := Option.isSome_iff_exists.1 h2
        have := yielded_slot h3 h4 (hI.val j oj t _ h1 h3 h4 (hgv j c hc))
        simp only [this, hc]
       ·have := yielded_undef h3 h4 (hI.val j oj t _ h1 h3 h4 (hun j h2).2)
        simp only [this, (hun j h2).1]
    show (if Region.wanted o (yielded ops a'.tmps) = true then _ else _)
    have hwu := (midOkT_one hok k o ho).2.1
    cases hw : us.contains k with
    | false =>
      rw [hwe, hwu, hw, Bool.not_false, if_pos rfl]
      exact .inl (run a' w' k o hI ho hw _ (fun v w'' hv hS => ih (k + 1) _ w'' hr (hI.put hd hn ho hv hS)))
    | true =>
      rw [hwe, hwu, hw, Bool.not_true, if_neg (by decide)]
      exact ih (k + 1) _ w' hr (hI.put hd hn ho (fun u hu => Option.some.inj ((hus k (by simpa using hw)).symm.trans hu)) hI.world)
 exact main ops.toList 0 a w (fun j => by simp) ⟨rfl, rfl, fun _ _ => rfl, fun i _ _ _ hi => absurd hi (by omega), h0⟩
def setAll (f : Nat → Value) (D : List Nat) (xs : Array Value) : Array Value := D.foldl (fun arr t => arr.setIfInBounds t (f t)) xs
theorem setAll_size (f : Nat → Value) : ∀ (D : List Nat) (xs : Array Value), (setAll f D xs).size = xs.size
 | [], _ => rfl
 | t :: D, xs => by
   show (setAll f D (xs.setIfInBounds t (f t))).size = xs.size
   rw [setAll_size f D]; simp
theorem setAll_get (f : Nat → Value) : ∀ (D : List Nat) (xs : Array Value) (i : Nat), (setAll f D xs)[i]? = if i ∈ D ∧ i < xs.size then some (f i) else xs[i]?
 | [], xs, i => by simp [setAll]
 | t :: D, xs, i => by
   show (setAll f D (xs.setIfInBounds t (f t)))[i]? = _
   rw [setAll_get f D]
   by_cases h : i = t
   ·subst h
    by_cases hi : i < xs.size
    ·by_cases hd : i ∈ D <;> simp [hd, hi]
    ·simp [hi]
   ·have h' : t ≠ i := fun e => h e.symm
    simp [h, Array.getElem?_setIfInBounds_ne h']
theorem frame_of {a a0 : Act} (hdef : a.defers = a0.defers) (hs : a.tmps.size = a0.tmps.size) (D : List Nat) (hD : (ops.all fun o => match o.dst with | none => true | some t => D.contains t) = true)
 (old : ∀ t, (∀ (i : Nat) (o : Oper), ops[i]? = some o → o.dst ≠ some t) → slotOf a t = slotOf a0 t) (f : Nat → Value) (hf : ∀ t, slotOf a t = f t) : a = ⟨setAll f D a0.tmps, a0.defers⟩ := by
 obtain ⟨xs, ds⟩ := a
 obtain ⟨ys, es⟩ := a0
 simp only at hdef hs
 subst hdef
 congr 1
 refine Array.ext (by rw [setAll_size]; exact hs) (fun i h1 h2 => ?_)
 have hy : i < ys.size := by omega
 have e1 : xs[i]? = some xs[i] := Array.getElem?_eq_getElem h1
 have e2 : (setAll f D ys)[i]? = some (setAll f D ys)[i] := Array.getElem?_eq_getElem h2
 have hx : xs[i] = f i := by
  have := hf i
  rw [slotOf, e1] at this
  exact this
 refine Option.some.inj (e2 ▸ ?_)
 rw [setAll_get]
 by_cases hi : i ∈ D
 ·rw [if_pos ⟨hi, hy⟩, hx]
 ·rw [if_neg (fun h => hi h.1)]
  have := old i (fun k o hk hd => by
   have hc := Array.all_eq_true_iff_forall_mem.1 hD o (Array.mem_of_getElem? hk)
   rw [hd] at hc
   exact hi (by simpa using hc))
  rw [slotOf, slotOf, e1] at this
  rw [Array.getElem?_eq_getElem hy] at this ⊢
  exact congrArg some this
theorem Mid.frame {a0 : Act} {vs : Nat → Option Value} {S : (Nat → Bool) → (Nat → Value) → World → Prop} {listed : Array Bool} {a : Act} {w : World} (h : Mid ops a0 vs S listed a w) (D : List Nat) (hD : (ops.all fun o => match o.dst with | none => true | some t => D.contains t) = true)
 (f : Nat → Value) (hf : ∀ t, slotOf a t = f t) : a = ⟨setAll f D a0.tmps, a0.defers⟩ := frame_of h.defers h.size D hD h.old f hf
theorem MidT.frame {a0 : Act} {vs : Nat → Option Value} {S : World → Prop} {k : Nat} {a : Act} {w : World} (h : MidT ops a0 vs S k a w) (D : List Nat) (hD : (ops.all fun o => match o.dst with | none => true | some t => D.contains t) = true)
 (f : Nat → Value) (hf : ∀ t, slotOf a t = f t) : a = ⟨setAll f D a0.tmps, a0.defers⟩ := frame_of h.defers h.size D hD h.old f hf
end
end Go.Proofs.YtongeeggaigepaaGreatDoor
