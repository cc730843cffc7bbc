/- Lists sorted by insertion, each behind those that are one with it: the mathematics of AngleSorts; no program. -/
import Derived.Test.YtfdofajknnocfaaNM
import Derived.Sort.Defs
import Derived.Sort.WalkA
namespace Go.Proofs.Ytfdofajknnocfaa
open Go
namespace Ins

section
variable {α : Type}
/-- Put ahead of the first one that it is ahead of. -/
def ins (lt : α → α → Bool) (x : α) : List α → List α
  | [] => [x]
  | y :: r => if lt x y = true then x :: y :: r else y :: ins lt x r
def srt (lt : α → α → Bool) (l : List α) : List α := l.foldl (fun out x => ins lt x out) []
/-- What is asked of an order. -/
structure Ord (lt : α → α → Bool) : Prop where
  asym : ∀ x y, lt x y = true → lt y x = false
  neg : ∀ x y z, lt x z = true → lt x y = true ∨ lt y z = true
variable {lt : α → α → Bool}
/-- No one is ahead of one that stands ahead of it. -/
def Srt (lt : α → α → Bool) (l : List α) : Prop := l.Pairwise fun a b => lt b a = false
theorem ins_mem {x z : α} {l : List α} : z ∈ ins lt x l ↔ z = x ∨ z ∈ l := by
  induction l with
  | nil => simp [ins]
  | cons y r ih =>
    unfold ins
    split
    · simp
    · simp only [List.mem_cons, ih]
      constructor
      · rintro (h | h | h)
        · exact Or.inr (Or.inl h)
        · exact Or.inl h
        · exact Or.inr (Or.inr h)
      · rintro (h | h | h)
        · exact Or.inr (Or.inl h)
        · exact Or.inl h
        · exact Or.inr (Or.inr h)
theorem Srt.ins (h : Ord lt) {x : α} {l : List α} (hs : Srt lt l) : Srt lt (ins lt x l) := by
  induction l with
  | nil => exact List.pairwise_singleton _ _
  | cons y r ih =>
    obtain ⟨h1, h2⟩ := List.pairwise_cons.1 hs
    unfold Ins.ins
    split
    · rename_i hxy
      refine List.pairwise_cons.2 ⟨fun z hz => ?_, hs⟩
      rcases List.mem_cons.1 hz with rfl | hz
      · exact h.asym _ _ hxy
      · cases hzx : lt z x with
        | false => rfl
        | true =>
          rcases h.neg z y x hzx with k | k
          · rw [h1 z hz] at k; cases k
          · rw [h.asym _ _ hxy] at k; cases k
    · rename_i hxy
      refine List.pairwise_cons.2 ⟨fun z hz => ?_, ih h2⟩
      rcases ins_mem.1 hz with rfl | hz
      · simpa using hxy
      · exact h1 z hz
theorem ins_skip {x : α} {S T : List α} (h : ∀ z, z ∈ S → lt x z = false) : ins lt x (S ++ T) = S ++ ins lt x T := by
  induction S with
  | nil => rfl
  | cons y r ih =>
    rw [List.cons_append, ins, if_neg (by rw [h y (by simp)]; decide), ih fun z hz => h z (by simp [hz])]; rfl
theorem ins_hit {x : α} {S T : List α} (h : ∃ z, z ∈ S ∧ lt x z = true) : ins lt x (S ++ T) = ins lt x S ++ T := by
  induction S with
  | nil => obtain ⟨z, hz, _⟩ := h; cases hz
  | cons y r ih =>
    rw [List.cons_append, ins, ins]
    by_cases hy : lt x y = true
    · rw [if_pos hy, if_pos hy]; rfl
    · rw [if_neg hy, if_neg hy, ih]
      · rfl
      · obtain ⟨z, hz, hl⟩ := h
        rcases List.mem_cons.1 hz with rfl | hz
        · exact absurd hl hy
        · exact ⟨z, hz, hl⟩
theorem ins_last (h : Ord lt) {x y : α} {S : List α} (hs : Srt lt (S ++ [y])) : ins lt x (S ++ [y]) = if lt x y = true then ins lt x S ++ [y] else S ++ [y] ++ [x] := by
  by_cases hxy : lt x y = true
  · rw [if_pos hxy]
    by_cases hz : ∃ z, z ∈ S ∧ lt x z = true
    · exact ins_hit hz
    · have hn : ∀ z, z ∈ S → lt x z = false := fun z hz' => by
        cases k : lt x z with
        | false => rfl
        | true => exact absurd ⟨z, hz', k⟩ hz
      have e := ins_skip (T := []) hn
      rw [List.append_nil] at e
      rw [ins_skip hn, e]
      simp [ins, hxy]
  · rw [if_neg hxy]
    have hn : ∀ z, z ∈ S → lt x z = false := fun z hz => by
      have hzy := (List.pairwise_append.1 hs).2.2 z hz y (by simp)
      cases k : lt x z with
      | false => rfl
      | true =>
        rcases h.neg x y z k with q | q
        · exact absurd q hxy
        · rw [hzy] at q; cases q
    rw [ins_skip hn, ins, if_neg hxy]
    simp [ins]
theorem ins_head {x : α} {L : List α} (h : ∀ z, z ∈ L → lt x z = true) : ins lt x L = x :: L := by
  cases L with
  | nil => rfl
  | cons y r => rw [ins, if_pos (h y (by simp))]
theorem filter_ins (h : Ord lt) (p : α → Bool) {x : α} {l : List α} (hs : Srt lt l) : (ins lt x l).filter p = if p x = true then ins lt x (l.filter p) else l.filter p := by
  induction l with
  | nil => by_cases hp : p x = true <;> simp [ins, hp]
  | cons y r ih =>
    obtain ⟨h1, h2⟩ := List.pairwise_cons.1 hs
    have ih := ih h2
    by_cases hxy : lt x y = true
    · have hall : ∀ z, z ∈ (y :: r).filter p → lt x z = true := fun z hz => by
        rcases List.mem_cons.1 (List.mem_filter.1 hz).1 with rfl | hz'
        · exact hxy
        · rcases h.neg x z y hxy with k | k
          · exact k
          · rw [h1 z hz'] at k; cases k
      rw [ins, if_pos hxy, ins_head hall]
      by_cases hp : p x = true
      · rw [if_pos hp, List.filter_cons_of_pos hp]
      · rw [if_neg hp, List.filter_cons_of_neg hp]
    · rw [ins, if_neg hxy]
      by_cases hy : p y = true
      · rw [List.filter_cons_of_pos hy, List.filter_cons_of_pos hy, ih]
        by_cases hp : p x = true
        · rw [if_pos hp, if_pos hp, ins, if_neg hxy]
        · rw [if_neg hp, if_neg hp]
      · rw [List.filter_cons_of_neg hy, List.filter_cons_of_neg hy, ih]
theorem srt_from (h : Ord lt) (p : α → Bool) : ∀ (l out : List α), Srt lt out → (l.foldl (fun out x => ins lt x out) out).filter p = (l.filter p).foldl (fun out x => ins lt x out) (out.filter p) ∧ Srt lt (l.foldl (fun out x => ins lt x out) out)
  | [], out, hs => ⟨rfl, hs⟩
  | x :: r, out, hs => by
    obtain ⟨e, hs'⟩ := srt_from h p r (ins lt x out) (hs.ins h)
    refine ⟨?_, hs'⟩
    rw [List.foldl_cons, e, filter_ins h p hs]
    by_cases hp : p x = true
    · rw [if_pos hp, List.filter_cons_of_pos hp, List.foldl_cons]
    · rw [if_neg hp, List.filter_cons_of_neg hp]
theorem srt_filter (h : Ord lt) (p : α → Bool) (l : List α) : (srt lt l).filter p = srt lt (l.filter p) := (srt_from h p l [] List.Pairwise.nil).1
theorem srt_srt (h : Ord lt) (l : List α) : Srt lt (srt lt l) := (srt_from h (fun _ => true) l [] List.Pairwise.nil).2
/-- What is sorted stands by its class. -/
theorem by_class (key : α → Nat) (hk : ∀ x y, key x < key y → lt x y = true) {l : List α} (hs : Srt lt l) (h4 : ∀ x, x ∈ l → key x < 4) :
    l = l.filter (fun x => key x == 0) ++ l.filter (fun x => key x == 1) ++ l.filter (fun x => key x == 2) ++ l.filter (fun x => key x == 3) := by
  induction l with
  | nil => rfl
  | cons y r ih =>
    obtain ⟨h1, h2⟩ := List.pairwise_cons.1 hs
    have ih := ih h2 fun x hx => h4 x (by simp [hx])
    have hge : ∀ z, z ∈ r → key y ≤ key z := fun z hz => by
      refine Nat.le_of_not_lt fun hlt => ?_
      have := hk z y hlt
      rw [h1 z hz] at this; cases this
    have he : ∀ k, k < key y → r.filter (fun x => key x == k) = [] := fun k hk => by
      rw [List.filter_eq_nil_iff]
      intro z hz
      have := hge z hz
      simp; omega
    have hy := h4 y (by simp)
    have hc : key y = 0 ∨ key y = 1 ∨ key y = 2 ∨ key y = 3 := by omega
    rcases hc with e | e | e | e
    · simp only [List.filter_cons, e]
      conv => lhs; rw [ih]
      simp
    · have a0 := he 0 (by omega)
      simp only [List.filter_cons, e, a0]
      conv => lhs; rw [ih, a0]
      simp
    · have a0 := he 0 (by omega)
      have a1 := he 1 (by omega)
      simp only [List.filter_cons, e, a0, a1]
      conv => lhs; rw [ih, a0, a1]
      simp
    · have a0 := he 0 (by omega)
      have a1 := he 1 (by omega)
      have a2 := he 2 (by omega)
      simp only [List.filter_cons, e, a0, a1, a2]
      conv => lhs; rw [ih, a0, a1, a2]
      simp
theorem ins_congr {lt' : α → α → Bool} {x : α} {l : List α} (h : ∀ z, z ∈ l → lt x z = lt' x z) : ins lt x l = ins lt' x l := by
  induction l with
  | nil => rfl
  | cons y r ih =>
    rw [ins, ins, h y (by simp), ih fun z hz => h z (by simp [hz])]
theorem srt_congr {lt' : α → α → Bool} (P : α → Prop) (h : ∀ x y, P x → P y → lt x y = lt' x y) : ∀ (l out : List α), (∀ x, x ∈ l → P x) → (∀ x, x ∈ out → P x) →
    l.foldl (fun out x => ins lt x out) out = l.foldl (fun out x => ins lt' x out) out
  | [], _, _, _ => rfl
  | x :: r, out, hl, ho => by
    have hx := hl x (by simp)
    rw [List.foldl_cons, List.foldl_cons, ins_congr fun z hz => h x z hx (ho z hz)]
    exact srt_congr P h r _ (fun z hz => hl z (by simp [hz])) fun z hz => by
      rcases ins_mem.1 hz with rfl | hz
      · exact hx
      · exact ho z hz
/-- **Sorted, as those of each class sorted.** -/
theorem srt_class (h : Ord lt) (key : α → Nat) (hk : ∀ x y, key x < key y → lt x y = true) (l : List α) (h4 : ∀ x, key x < 4) :
    srt lt l = srt lt (l.filter (fun x => key x == 0)) ++ srt lt (l.filter (fun x => key x == 1)) ++ srt lt (l.filter (fun x => key x == 2)) ++ srt lt (l.filter (fun x => key x == 3)) := by
  rw [← srt_filter h, ← srt_filter h, ← srt_filter h, ← srt_filter h]
  exact by_class key hk (srt_srt h l) fun x _ => h4 x
theorem srt_snoc (l : List α) (x : α) : srt lt (l ++ [x]) = ins lt x (srt lt l) := by
  unfold srt; rw [List.foldl_append]; rfl
end
section
variable {α : Type} [Inhabited α] {lt : α → α → Bool}
theorem get_mid {d : Array α} {S R : List α} {x : α} (h : d.toList = S ++ x :: R) : d[S.length]! = x := by
  have : S.length < d.size := by rw [← Array.length_toList, h]; simp
  rw [getElem!_pos d _ this, ← Array.getElem_toList]
  simp [h]
/-- One goes to where it belongs, swap by swap. -/
theorem inner_ins (h : Ord lt) : ∀ (i : Nat) (d : Array α) (S R : List α) (x : α), S.length = i → d.toList = S ++ x :: R → Srt lt S → (Sort.insInner lt 0 i d).toList = ins lt x S ++ R
  | 0, d, S, R, x, hl, hd, hs => by
    obtain rfl := List.length_eq_zero_iff.1 hl
    rw [Sort.insInner, hd]; rfl
  | i + 1, d, S, R, x, hl, hd, hs => by
    obtain ⟨S', y, rfl⟩ : ∃ S' y, S = S' ++ [y] := by
      cases hS : S.reverse with
      | nil => simp at hS; subst hS; simp at hl
      | cons y r => exact ⟨r.reverse, y, by have := congrArg List.reverse hS; simpa using this⟩
    have hl' : S'.length = i := by simpa using hl
    have hy : d[i]! = y := by
      have := get_mid (d := d) (S := S') (R := x :: R) (x := y) (by rw [hd]; simp)
      rwa [hl'] at this
    have hx : d[i + 1]! = x := by
      have := get_mid (d := d) (S := S' ++ [y]) (R := R) (x := x) hd
      rwa [hl] at this
    rw [Sort.insInner, hx, hy, ins_last h hs]
    by_cases hxy : lt x y = true
    · rw [if_pos (by simp [hxy]), if_pos hxy]
      have hsw : (Sort.swp d (i + 1) i).toList = S' ++ x :: y :: R := by
        unfold Sort.swp
        rw [hx, hy, Array.toList_setIfInBounds, Array.toList_setIfInBounds, hd, ← hl']
        simp
      rw [inner_ins h i _ S' (y :: R) x hl' hsw (List.pairwise_append.1 hs).1]
      simp
    · rw [if_neg (by simp [hxy]), if_neg hxy, hd]
      simp
theorem outer_srt (h : Ord lt) (n : Nat) (l : List α) (hn : l.length = n) : ∀ (k i : Nat) (d : Array α), n - i = k → i ≤ n → d.toList = srt lt (l.take i) ++ l.drop i → (Sort.insOuter lt 0 n i d).toList = srt lt l
  | 0, i, d, hk, hi, hd => by
    rw [Sort.insOuter, if_neg (by omega), hd, List.take_of_length_le (by omega), List.drop_eq_nil_of_le (by omega), List.append_nil]
  | k + 1, i, d, hk, hi, hd => by
    have hlt : i < l.length := by omega
    have hlen : ∀ m : List α, (srt lt m).length = m.length := fun m => by
      have : ∀ (m out : List α), (m.foldl (fun out x => ins lt x out) out).length = out.length + m.length := by
        intro m
        induction m with
        | nil => intro out; rfl
        | cons x r ih =>
          intro out
          have hi : ∀ o : List α, (ins lt x o).length = o.length + 1 := by
            intro o
            induction o with
            | nil => rfl
            | cons y o ih2 => unfold ins; split <;> simp [ih2]
          rw [List.foldl_cons, ih, hi, List.length_cons]; omega
      simpa [srt] using this m []
    have hd' : d.toList = srt lt (l.take i) ++ l[i] :: l.drop (i + 1) := by rw [hd, List.drop_eq_getElem_cons hlt]
    rw [Sort.insOuter, if_pos (by omega)]
    refine outer_srt h n l hn k (i + 1) _ (by omega) (by omega) ?_
    rw [inner_ins h i d _ _ _ (by rw [hlen, List.length_take]; omega) hd' (srt_srt h _), List.take_succ_eq_append_getElem hlt, srt_snoc]
/-- The library's insertion sort, as a list. -/
theorem sort_srt (h : Ord lt) (d : Array α) : (Sort.insertionSort lt d 0 d.size).toList = srt lt d.toList := by
  unfold Sort.insertionSort
  by_cases h0 : d.size = 0
  · rw [Sort.insOuter, if_neg (by omega)]
    have : d.toList = [] := List.length_eq_zero_iff.1 (by simpa using h0)
    rw [this]; rfl
  · refine outer_srt h d.size d.toList (by simp) (d.size - 1) 1 d rfl (by omega) ?_
    cases hd : d.toList with
    | nil => rw [← Array.length_toList, hd] at h0; exact absurd rfl h0
    | cons x r => simp [srt, ins]
end
end Ins
end Go.Proofs.Ytfdofajknnocfaa
