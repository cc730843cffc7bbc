/- Pure: how an arena's heap, map, mark and top stand to the rising list of the places that are taken. No seat's word. -/
import Derived.Test.YtncgjlhmgdgokaaAB
namespace ArenaMath

structure AInv (many : Nat) (mark top : Int) (hs : List Int) (tk : Int → Option Bool) (L : List Int) : Prop where
  ris : Ris L
  mem : ∀ x, x ∈ L ↔ tk x ≠ none
  rng : ∀ x ∈ L, 0 ≤ x ∧ x < mark
  mkb : 0 ≤ mark ∧ mark ≤ many
  top : top = topL L
  heap : Heap hs
  nodup : hs.Nodup
  hmem : ∀ x, x ∈ hs ↔ 0 ≤ x ∧ x < mark ∧ tk x ≠ some false
def upd (tk : Int → Option Bool) (x : Int) (v : Option Bool) : Int → Option Bool := fun y => if y = x then v else tk y
theorem upd_same (tk : Int → Option Bool) (x : Int) (v : Option Bool) : upd tk x v x = v := by unfold upd; rw [if_pos rfl]
theorem upd_other {tk : Int → Option Bool} {x y : Int} (v : Option Bool) (h : y ≠ x) : upd tk x v y = tk y := by unfold upd; rw [if_neg h]
/-- An arena of no place taken. -/
theorem inv_new (many : Nat) : AInv many 0 0 [] (fun _ => none) [] :=
  ⟨List.Pairwise.nil, fun x => by simp, fun x h => by simp at h, ⟨Int.le_refl _, by omega⟩, rfl, fun j _ h => by simp at h, List.nodup_nil, fun x => by simp⟩
section
variable {many : Nat} {mark top : Int} {hs l' : List Int} {tk : Int → Option Bool} {L : List Int} {x : Int}
theorem AInv.len (h : AInv many mark top hs tk L) : L.length ≤ many := by
  have := ris_len h.ris h.mkb.1 (fun x hx => h.rng x hx)
  have := h.mkb.2
  omega
theorem AInv.hlen (h : AInv many mark top hs tk L) (hm : many ≤ 65536) : hs.length ≤ 65536 := by
  -- the heap's things are different numbers below the mark
  have hsub : ∀ y ∈ hs, 0 ≤ y ∧ y < mark := fun y hy => ⟨((h.hmem y).1 hy).1, ((h.hmem y).1 hy).2.1⟩
  have key : ∀ (n : Nat) (l : List Int), l.Nodup → (∀ y ∈ l, 0 ≤ y ∧ y < (n : Int)) → l.length ≤ n := by
    intro n
    induction n with
    | zero =>
      intro l _ hb
      cases l with
      | nil => simp
      | cons y r => have := hb y (by simp); omega
    | succ n ih =>
      intro l hn hb
      have h1 := ih (l.filter (· != (n : Int))) (hn.filter _) (fun y hy => by
        have h2 := List.mem_filter.1 hy
        have := hb y h2.1
        have : y ≠ (n : Int) := by simpa using h2.2
        omega)
      have h2 : l.length ≤ (l.filter (· != (n : Int))).length + 1 := by
        have h3 : ∀ (l : List Int), l.Nodup → l.length ≤ (l.filter (· != (n : Int))).length + 1 := by
          intro l
          induction l with
          | nil => simp
          | cons a r ihr =>
            intro hn
            rw [List.nodup_cons] at hn
            by_cases e : a = (n : Int)
            · subst e
              have h5 : ∀ z ∈ r, (z != (n : Int)) = true := fun z hz => by
                have : z ≠ (n : Int) := fun q => hn.1 (by rw [← q]; exact hz)
                simpa using this
              have h4 : r.filter (· != (n : Int)) = r := List.filter_eq_self.2 h5
              rw [List.filter_cons]
              simp [h4]
            · rw [List.filter_cons, if_pos (by simpa using e)]
              have := ihr hn.2
              simp only [List.length_cons]; omega
        exact h3 l hn
      omega
  have := key mark.toNat hs h.nodup (fun y hy => by have := hsub y hy; omega)
  have := h.mkb
  omega
/-- The mark goes on by one: that place is free. -/
theorem AInv.reach (h : AInv many mark top hs tk L) (hm : mark < many) (hp : l'.Perm (mark :: hs)) (hh : Heap l') : AInv many (mark + 1) top l' tk L := by
  have hn : mark ∉ L := fun q => by have := (h.rng mark q).2; omega
  have ht : tk mark = none := by
    cases e : tk mark with
    | none => rfl
    | some v => exact absurd ((h.mem mark).2 (by rw [e]; simp)) hn
  refine ⟨h.ris, h.mem, fun x hx => by have := h.rng x hx; omega, ⟨by have := h.mkb.1; omega, by omega⟩, h.top, hh, ?_, fun x => ?_⟩
  · rw [hp.nodup_iff, List.nodup_cons]
    exact ⟨fun q => by have := ((h.hmem mark).1 q).2.1; omega, h.nodup⟩
  · rw [hp.mem_iff, List.mem_cons, h.hmem x]
    constructor
    · rintro (rfl | ⟨h1, h2, h3⟩)
      · exact ⟨h.mkb.1, by omega, by rw [ht]; simp⟩
      · exact ⟨h1, by omega, h3⟩
    · rintro ⟨h1, h2, h3⟩
      by_cases e : x = mark
      · exact .inl e
      · exact .inr ⟨h1, by omega, h3⟩
/-- The least one of the heap is taken: it no longer waits. -/
theorem AInv.drop (h : AInv many mark top hs tk L) (hp : hs.Perm (x :: l')) (hh : Heap l') (hx : x ∈ L) : AInv many mark top l' (upd tk x (some false)) L := by
  have hnd : x ∉ l' ∧ l'.Nodup := by have := hp.nodup_iff.1 h.nodup; rwa [List.nodup_cons] at this
  refine ⟨h.ris, fun y => ?_, h.rng, h.mkb, h.top, hh, hnd.2, fun y => ?_⟩
  · by_cases e : y = x
    · subst e; rw [upd_same]; simp [hx]
    · rw [upd_other _ e]; exact h.mem y
  · by_cases e : y = x
    · subst e; rw [upd_same]; simp [hnd.1]
    · rw [upd_other _ e, ← h.hmem y, hp.mem_iff, List.mem_cons]
      exact ⟨.inr, fun q => q.resolve_left e⟩
/-- The least free place. -/
def LeastFree (many : Nat) (L : List Int) (x : Int) : Prop := 0 ≤ x ∧ x < many ∧ x ∉ L ∧ ∀ y, 0 ≤ y → y < x → y ∈ L
/-- As AInv, but that the free place x stands in the heap no longer. -/
structure InvBut (many : Nat) (mark top : Int) (hs : List Int) (tk : Int → Option Bool) (L : List Int) (x : Int) : Prop where
  ris : Ris L
  mem : ∀ y, y ∈ L ↔ tk y ≠ none
  rng : ∀ y ∈ L, 0 ≤ y ∧ y < mark
  mkb : 0 ≤ mark ∧ mark ≤ many
  top : top = topL L
  heap : Heap hs
  nodup : hs.Nodup
  hmem : ∀ y, y ∈ hs ↔ (0 ≤ y ∧ y < mark ∧ tk y ≠ some false) ∧ y ≠ x
  free : 0 ≤ x ∧ x < mark ∧ x ∉ L
theorem AInv.found (h : AInv many mark top hs tk L) (hx : gt hs 0 = x) (hp : hs.Perm (x :: l')) (hh : Heap l') (hf : x ∉ L) : InvBut many mark top l' tk L x ∧ LeastFree many L x := by
  have hnd : x ∉ l' ∧ l'.Nodup := by have := hp.nodup_iff.1 h.nodup; rwa [List.nodup_cons] at this
  have hxm : x ∈ hs := hp.mem_iff.2 (by simp)
  have hxr := (h.hmem x).1 hxm
  refine ⟨⟨h.ris, h.mem, h.rng, h.mkb, h.top, hh, hnd.2, fun y => ?_, hxr.1, hxr.2.1, hf⟩, hxr.1, by have := h.mkb.2; omega, hf, fun y y0 hy => ?_⟩
  · rw [← h.hmem y, hp.mem_iff, List.mem_cons]
    constructor
    · intro q; exact ⟨.inr q, fun e => hnd.1 (by rw [← e]; exact q)⟩
    · rintro ⟨q, e⟩; exact q.resolve_left e
  · refine Decidable.byContradiction fun hn => ?_
    have ht : tk y = none := Decidable.byContradiction fun q => hn ((h.mem y).2 q)
    have hym : y ∈ hs := (h.hmem y).2 ⟨y0, by omega, by rw [ht]; simp⟩
    obtain ⟨i, hi, e⟩ := List.getElem_of_mem hym
    have := heap_min h.heap i hi
    have e2 : gt hs i = y := by unfold gt; rw [List.getD_eq_getElem?_getD, List.getElem?_eq_getElem hi, e]; rfl
    omega
/-- No thing in the heap: all below the mark are taken. -/
theorem AInv.none_left (h : AInv many mark top [] tk L) (hl : L.length < many) : mark < many ∧ ∀ y, 0 ≤ y → y < mark → y ∈ L := by
  have hall : ∀ y, 0 ≤ y → y < mark → y ∈ L := fun y y0 hy => by
    have := (not_congr (h.hmem y)).1 (by simp)
    refine (h.mem y).2 fun e => this ⟨y0, hy, by rw [e]; simp⟩
  refine ⟨?_, hall⟩
  have := ris_full (L := L) (k := 0) mark.toNat h.ris (fun x hx => (h.rng x hx).1) (fun y y0 hy => hall y y0 (by omega))
  have := h.mkb.1
  omega
/-- The place that was found is taken. -/
theorem InvBut.hold (h : InvBut many mark top hs tk L x) : AInv many mark (max top (x + 1)) hs (upd tk x (some false)) (insR x L) := by
  obtain ⟨x0, x1, hx⟩ := h.free
  refine ⟨ins_ris h.ris hx, fun y => ?_, fun y hy => ?_, h.mkb, ?_, h.heap, h.nodup, fun y => ?_⟩
  · by_cases e : y = x
    · subst e; rw [upd_same]; simp [mem_ins]
    · rw [upd_other _ e, ← h.mem y, mem_ins]; simp [e]
  · rcases mem_ins.1 hy with rfl | hy
    · exact ⟨x0, x1⟩
    · exact h.rng y hy
  · rw [top_ins h.ris hx (fun z hz => (h.rng z hz).1) x0, ← h.top]
  · rw [h.hmem y]
    by_cases e : y = x
    · subst e; rw [upd_same]; simp
    · rw [upd_other _ e]; simp [e]
/-- A free place below the mark is taken, and waits in the heap. -/
theorem AInv.claim (h : AInv many mark top hs tk L) (x0 : 0 ≤ x) (x1 : x < mark) (hx : x ∉ L) : AInv many mark (max top (x + 1)) hs (upd tk x (some true)) (insR x L) := by
  have ht : tk x = none := Decidable.byContradiction fun q => hx ((h.mem x).2 q)
  refine ⟨ins_ris h.ris hx, fun y => ?_, fun y hy => ?_, h.mkb, ?_, h.heap, h.nodup, fun y => ?_⟩
  · by_cases e : y = x
    · subst e; rw [upd_same]; simp [mem_ins]
    · rw [upd_other _ e, ← h.mem y, mem_ins]; simp [e]
  · rcases mem_ins.1 hy with rfl | hy
    · exact ⟨x0, x1⟩
    · exact h.rng y hy
  · rw [top_ins h.ris hx (fun z hz => (h.rng z hz).1) x0, ← h.top]
  · rw [h.hmem y]
    by_cases e : y = x
    · subst e; rw [upd_same, ht]; simp
    · rw [upd_other _ e]
/-- A place that waits is given back: the top aside, all is as it should be. -/
structure InvTop (many : Nat) (mark : Int) (hs : List Int) (tk : Int → Option Bool) (L : List Int) : Prop where
  ris : Ris L
  mem : ∀ y, y ∈ L ↔ tk y ≠ none
  rng : ∀ y ∈ L, 0 ≤ y ∧ y < mark
  mkb : 0 ≤ mark ∧ mark ≤ many
  heap : Heap hs
  nodup : hs.Nodup
  hmem : ∀ y, y ∈ hs ↔ 0 ≤ y ∧ y < mark ∧ tk y ≠ some false
theorem InvTop.all {t : Int} (h : InvTop many mark hs tk L) (ht : t = topL L) : AInv many mark t hs tk L := ⟨h.ris, h.mem, h.rng, h.mkb, ht, h.heap, h.nodup, h.hmem⟩
theorem AInv.give_waits (h : AInv many mark top hs tk L) (ht : tk x = some true) : InvTop many mark hs (upd tk x none) (delR x L) := by
  refine ⟨del_ris h.ris, fun y => ?_, fun y hy => h.rng y (mem_del.1 hy).1, h.mkb, h.heap, h.nodup, fun y => ?_⟩
  · by_cases e : y = x
    · subst e; rw [upd_same, mem_del]; simp
    · rw [upd_other _ e, ← h.mem y, mem_del]; simp [e]
  · rw [h.hmem y]
    by_cases e : y = x
    · subst e; rw [upd_same, ht]; simp
    · rw [upd_other _ e]
theorem AInv.give_put (h : AInv many mark top hs tk L) (ht : tk x = some false) (hp : l'.Perm (x :: hs)) (hh : Heap l') : InvTop many mark l' (upd tk x none) (delR x L) := by
  have hxL : x ∈ L := (h.mem x).2 (by rw [ht]; simp)
  have hxr := h.rng x hxL
  refine ⟨del_ris h.ris, fun y => ?_, fun y hy => h.rng y (mem_del.1 hy).1, h.mkb, hh, ?_, fun y => ?_⟩
  · by_cases e : y = x
    · subst e; rw [upd_same, mem_del]; simp
    · rw [upd_other _ e, ← h.mem y, mem_del]; simp [e]
  · rw [hp.nodup_iff, List.nodup_cons]
    exact ⟨fun q => ((h.hmem x).1 q).2.2 ht, h.nodup⟩
  · rw [hp.mem_iff, List.mem_cons, h.hmem y]
    by_cases e : y = x
    · subst e; rw [upd_same]; simp; exact hxr
    · rw [upd_other _ e]; simp [e]
end
end ArenaMath
