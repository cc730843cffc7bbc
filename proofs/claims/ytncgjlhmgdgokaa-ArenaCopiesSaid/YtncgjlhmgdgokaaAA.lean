/- Pure: heaps of whole numbers in a list, as swaps keep them; places that are taken, as a rising list. No seat's word. -/
import Derived.KernelRfl
namespace ArenaMath

def par (i : Nat) : Nat := (i - 1) / 2
def gt (l : List Int) (i : Nat) : Int := l.getD i 0
def Heap (l : List Int) : Prop := ∀ j, 0 < j → j < l.length → gt l (par j) ≤ gt l j
/-- Two things change places. -/
def sw (l : List Int) (i j : Nat) : List Int := (l.set i (gt l j)).set j (gt l i)
theorem par_lt {i : Nat} (h : 0 < i) : par i < i := by unfold par; omega
theorem sw_len (l : List Int) (i j : Nat) : (sw l i j).length = l.length := by simp [sw]
theorem gt_sw {l : List Int} {i j : Nat} (hi : i < l.length) (hj : j < l.length) (k : Nat) : gt (sw l i j) k = if k = j then gt l i else if k = i then gt l j else gt l k := by
  unfold sw gt
  simp only [List.getD_eq_getElem?_getD, List.getElem?_set, List.length_set]
  by_cases h1 : k = j
  · subst h1; simp [hj]
  · rw [if_neg (Ne.symm h1), if_neg h1]
    by_cases h2 : k = i
    · subst h2; simp [hi]
    · rw [if_neg (Ne.symm h2), if_neg h2]
theorem gt_get {l : List Int} {i : Nat} (h : i < l.length) : l[i]? = some (gt l i) := by
  unfold gt; simp [List.getElem?_eq_getElem h]
theorem sw_perm {l : List Int} {i j : Nat} (hi : i < l.length) (hj : j < l.length) : (sw l i j).Perm l := by
  have h := Array.swap_perm (xs := l.toArray) (i := i) (j := j) (by simpa using hi) (by simpa using hj)
  have e : (l.toArray.swap i j (by simpa using hi) (by simpa using hj)).toList = sw l i j := by
    simp [Array.swap, sw, gt, hi, hj]
  have := h.toList
  rw [e] at this
  simpa using this
/-- A heap, but that the thing at i may be less than its parent. -/
def UpOk (l : List Int) (i : Nat) : Prop := (∀ j, 0 < j → j < l.length → j ≠ i → gt l (par j) ≤ gt l j) ∧ (0 < i → ∀ j, 0 < j → j < l.length → par j = i → gt l (par i) ≤ gt l j)
theorem gt_app {l : List Int} {x : Int} {k : Nat} (h : k < l.length) : gt (l ++ [x]) k = gt l k := by
  unfold gt; simp [List.getD_eq_getElem?_getD, List.getElem?_append_left h]
theorem up_start {l : List Int} (x : Int) (h : Heap l) : UpOk (l ++ [x]) l.length := by
  constructor
  · intro j h0 hj hne
    have hj' : j < l.length := by simp at hj; omega
    have := par_lt h0
    rw [gt_app hj', gt_app (by omega)]
    exact h j h0 hj'
  · intro _ j h0 hj hp
    have := par_lt h0
    simp at hj; omega
theorem up_step {l : List Int} {i : Nat} (h : UpOk l i) (h0 : 0 < i) (hi : i < l.length) (hl : gt l i < gt l (par i)) : UpOk (sw l i (par i)) (par i) := by
  have hp := par_lt h0
  have hpl : par i < l.length := by omega
  obtain ⟨h1, h2⟩ := h
  constructor
  · intro j j0 hj hne
    rw [sw_len] at hj
    have hpj := par_lt j0
    rw [gt_sw hi hpl, gt_sw hi hpl, if_neg hne]
    by_cases e : j = i
    · subst e
      rw [if_pos rfl, if_pos rfl]; omega
    · rw [if_neg e]
      by_cases e1 : par j = par i
      · rw [if_pos e1]
        have := h1 j j0 hj e
        rw [e1] at this; omega
      · rw [if_neg e1]
        by_cases e2 : par j = i
        · rw [if_pos e2]; exact h2 h0 j j0 hj e2
        · rw [if_neg e2]; exact h1 j j0 hj e
  · intro hp0 j j0 hj hpar
    rw [sw_len] at hj
    have hpp := par_lt hp0
    have hup := h1 (par i) hp0 hpl (by omega)
    rw [gt_sw hi hpl, gt_sw hi hpl, if_neg (by omega), if_neg (by omega)]
    have hjp := par_lt j0
    rw [if_neg (by omega)]
    by_cases e : j = i
    · rw [if_pos e]; exact hup
    · rw [if_neg e]
      have := h1 j j0 hj e
      rw [hpar] at this; omega
theorem up_done {l : List Int} {i : Nat} (h : UpOk l i) (hd : i = 0 ∨ gt l (par i) ≤ gt l i) : Heap l := by
  intro j j0 hj
  by_cases e : j = i
  · subst e
    rcases hd with h | h
    · omega
    · exact h
  · exact h.1 j j0 hj e
/-- A heap, but that the thing at i may be greater than those whose parent it is. -/
def DownOk (l : List Int) (i : Nat) : Prop := (∀ j, 0 < j → j < l.length → par j ≠ i → gt l (par j) ≤ gt l j) ∧ (0 < i → ∀ j, 0 < j → j < l.length → par j = i → gt l (par i) ≤ gt l j)
theorem down_step {l : List Int} {i m : Nat} (h : DownOk l i) (m0 : 0 < m) (hm : m < l.length) (hpm : par m = i) (_hl : gt l m < gt l i) (hle : ∀ j, 0 < j → j < l.length → par j = i → gt l m ≤ gt l j) : DownOk (sw l i m) m := by
  have hp := par_lt m0
  have hil : i < l.length := by omega
  obtain ⟨h1, h2⟩ := h
  constructor
  · intro j j0 hj hne
    rw [sw_len] at hj
    have hpj := par_lt j0
    rw [gt_sw hil hm, gt_sw hil hm, if_neg hne]
    by_cases e : j = m
    · subst e
      rw [if_pos rfl, if_pos hpm]; omega
    · rw [if_neg e]
      by_cases e1 : par j = i
      · rw [if_pos e1, if_neg (by omega)]
        exact hle j j0 hj e1
      · rw [if_neg e1]
        by_cases e2 : j = i
        · subst e2
          rw [if_pos rfl]
          exact h2 j0 m m0 hm hpm
        · rw [if_neg e2]; exact h1 j j0 hj e1
  · intro _ j j0 hj hpar
    rw [sw_len] at hj
    have hpj := par_lt j0
    rw [gt_sw hil hm, gt_sw hil hm, hpm, if_neg (by omega), if_pos rfl, if_neg (by omega), if_neg (by omega)]
    have := h1 j j0 hj (by omega)
    rw [hpar] at this; exact this
theorem down_done {l : List Int} {i : Nat} (h : DownOk l i) (hd : ∀ j, 0 < j → j < l.length → par j = i → gt l i ≤ gt l j) : Heap l := by
  intro j j0 hj
  by_cases e : par j = i
  · rw [e]; exact hd j j0 hj e
  · exact h.1 j j0 hj e
theorem heap_min {l : List Int} (h : Heap l) : ∀ i, i < l.length → gt l 0 ≤ gt l i := by
  intro i
  induction i using Nat.strongRecOn with
  | ind i ih =>
    intro hi
    by_cases e : i = 0
    · subst e; exact Int.le_refl _
    · have hp := par_lt (Nat.pos_of_ne_zero e)
      exact Int.le_trans (ih _ hp (by omega)) (h i (Nat.pos_of_ne_zero e) hi)
/-- What is left where the first one is swapped behind and cut off. -/
def cutL (l : List Int) : List Int := (sw l 0 (l.length - 1)).take (l.length - 1)
theorem cut_len (l : List Int) : (cutL l).length = l.length - 1 := by simp [cutL, sw_len]
theorem cut_perm {l : List Int} (h : 0 < l.length) : l.Perm (gt l 0 :: cutL l) := by
  have h1 := sw_perm (l := l) (i := 0) (j := l.length - 1) h (by omega)
  have e : sw l 0 (l.length - 1) = cutL l ++ [gt l 0] := by
    have hl : (sw l 0 (l.length - 1)).length = l.length := sw_len _ _ _
    have h2 := List.take_append_drop (l.length - 1) (sw l 0 (l.length - 1))
    have h3 : (sw l 0 (l.length - 1)).drop (l.length - 1) = [gt l 0] := by
      rw [List.drop_eq_getElem_cons (by omega)]
      have h4 : (sw l 0 (l.length - 1))[l.length - 1]? = some (gt (sw l 0 (l.length - 1)) (l.length - 1)) := gt_get (by omega)
      rw [gt_sw h (by omega), if_pos rfl, List.getElem?_eq_getElem (by omega)] at h4
      rw [Option.some.inj h4, List.drop_eq_nil_of_le (by omega)]
    rw [h3] at h2
    exact h2.symm
  rw [e] at h1
  exact h1.symm.trans List.perm_append_comm
theorem gt_cut {l : List Int} {k : Nat} (h : 0 < l.length) (hk : k < l.length - 1) : gt (cutL l) k = if k = 0 then gt l (l.length - 1) else gt l k := by
  have e : gt (cutL l) k = gt (sw l 0 (l.length - 1)) k := by
    unfold cutL gt
    simp [List.getD_eq_getElem?_getD, hk]
  rw [e, gt_sw h (by omega), if_neg (by omega)]
theorem cut_down {l : List Int} (h : Heap l) (h0 : 0 < l.length) : DownOk (cutL l) 0 := by
  constructor
  · intro j j0 hj hp
    rw [cut_len] at hj
    have := par_lt j0
    rw [gt_cut h0 (by omega), gt_cut h0 (by omega), if_neg hp, if_neg (by omega)]
    exact h j j0 (by omega)
  · intro h; omega
end ArenaMath
