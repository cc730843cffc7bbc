/- Pure: places that are taken, as a rising list; the least free one; the top. No seat's word. -/
import Derived.Test.YtncgjlhmgdgokaaAA
namespace ArenaMath

def Ris (L : List Int) : Prop := L.Pairwise (· < ·)
/-- A rising list with one more. -/
def insR (x : Int) : List Int → List Int
  | [] => [x]
  | y :: r => if x < y then x :: y :: r else y :: insR x r
def delR (x : Int) (L : List Int) : List Int := L.filter (· != x)
theorem mem_ins {x z : Int} : ∀ {L : List Int}, z ∈ insR x L ↔ z = x ∨ z ∈ L
  | [] => by simp [insR]
  | y :: r => by
    unfold insR
    split
    · simp
    · simp only [List.mem_cons, mem_ins (L := r)]
      constructor
      · rintro (h | h | h)
        · exact .inr (.inl h)
        · exact .inl h
        · exact .inr (.inr h)
      · rintro (h | h | h)
        · exact .inr (.inl h)
        · exact .inl h
        · exact .inr (.inr h)
theorem ins_len (x : Int) : ∀ L : List Int, (insR x L).length = L.length + 1
  | [] => rfl
  | y :: r => by
    unfold insR
    split
    · simp
    · simp [ins_len x r]
theorem ins_ris {x : Int} : ∀ {L : List Int}, Ris L → x ∉ L → Ris (insR x L)
  | [], _, _ => by simp [insR, Ris]
  | y :: r, h, hx => by
    unfold Ris at h
    rw [List.pairwise_cons] at h
    have hxy : x ≠ y := fun e => hx (by simp [e])
    have hxr : x ∉ r := fun e => hx (by simp [e])
    unfold insR
    split
    · rename_i hlt
      unfold Ris
      rw [List.pairwise_cons, List.pairwise_cons]
      refine ⟨fun z hz => ?_, h⟩
      rcases List.mem_cons.1 hz with rfl | hz
      · exact hlt
      · have := h.1 z hz; omega
    · rename_i hlt
      unfold Ris
      rw [List.pairwise_cons]
      refine ⟨fun z hz => ?_, ins_ris h.2 hxr⟩
      rcases mem_ins.1 hz with rfl | hz
      · omega
      · exact h.1 z hz
theorem mem_del {x z : Int} {L : List Int} : z ∈ delR x L ↔ z ∈ L ∧ z ≠ x := by unfold delR; simp
theorem del_ris {x : Int} {L : List Int} (h : Ris L) : Ris (delR x L) := List.Pairwise.filter _ h
theorem ris_nodup {L : List Int} (h : Ris L) : L.Nodup := List.Pairwise.imp (fun h => by intro e; omega) h
/-- A rising list hangs on what is in it alone. -/
theorem ris_ext : ∀ {L M : List Int}, Ris L → Ris M → (∀ x, x ∈ L ↔ x ∈ M) → L = M
  | [], [], _, _, _ => rfl
  | [], y :: r, _, _, h => by have := (h y).2 (by simp); simp at this
  | y :: r, [], _, _, h => by have := (h y).1 (by simp); simp at this
  | x :: r, y :: s, h1, h2, h => by
    unfold Ris at h1 h2
    rw [List.pairwise_cons] at h1 h2
    have e : x = y := by
      have a := (h x).1 (by simp)
      have b := (h y).2 (by simp)
      rcases List.mem_cons.1 a with rfl | a
      · rfl
      · rcases List.mem_cons.1 b with rfl | b
        · rfl
        · have := h2.1 x a; have := h1.1 y b; omega
    subst e
    congr 1
    refine ris_ext h1.2 h2.2 fun z => ?_
    constructor
    · intro hz
      rcases List.mem_cons.1 ((h z).1 (List.mem_cons_of_mem _ hz)) with rfl | hz'
      · have := h1.1 z hz; omega
      · exact hz'
    · intro hz
      rcases List.mem_cons.1 ((h z).2 (List.mem_cons_of_mem _ hz)) with rfl | hz'
      · have := h2.1 z hz; omega
      · exact hz'
/-- A rising list between bounds is no longer than what is between them. -/
theorem ris_len : ∀ {L : List Int} {k m : Int}, Ris L → k ≤ m → (∀ x ∈ L, k ≤ x ∧ x < m) → (L.length : Int) ≤ m - k
  | [], k, m, _, hk, _ => by simp; omega
  | x :: r, k, m, h, hk, hb => by
    unfold Ris at h
    rw [List.pairwise_cons] at h
    have hx := hb x (by simp)
    have := ris_len (L := r) (k := x + 1) (m := m) h.2 (by omega) (fun z hz => by have := h.1 z hz; have := hb z (by simp [hz]); omega)
    simp only [List.length_cons]; omega
/-- One that has all of a range is no shorter. -/
theorem ris_full : ∀ {L : List Int} {k : Int} (n : Nat), Ris L → (∀ x ∈ L, k ≤ x) → (∀ x, k ≤ x → x < k + n → x ∈ L) → n ≤ L.length
  | _, _, 0, _, _, _ => Nat.zero_le _
  | [], k, n + 1, _, _, h => by have := h k (by omega) (by omega); simp at this
  | x :: r, k, n + 1, hr, hb, h => by
    unfold Ris at hr
    rw [List.pairwise_cons] at hr
    have hk : x = k := by
      rcases List.mem_cons.1 (h k (by omega) (by omega)) with rfl | hz
      · rfl
      · have := hr.1 k hz; have := hb x (by simp); omega
    subst hk
    have := ris_full (L := r) (k := x + 1) n hr.2 (fun z hz => by have := hr.1 z hz; omega) (fun z h1 h2 => by
      rcases List.mem_cons.1 (h z (by omega) (by omega)) with rfl | hz
      · omega
      · exact hz)
    simp only [List.length_cons]; omega
/-- One more than the greatest. -/
def topL (L : List Int) : Int := match L.getLast? with
  | none => 0
  | some x => x + 1
theorem top_nil : topL [] = 0 := rfl
theorem ris_last {L : List Int} (h : Ris L) {x : Int} (hx : L.getLast? = some x) : ∀ y ∈ L, y ≤ x := by
  intro y hy
  obtain ⟨M, rfl⟩ : ∃ M, L = M ++ [x] := by
    rw [List.getLast?_eq_some_iff] at hx; exact hx
  unfold Ris at h
  rw [List.pairwise_append] at h
  rcases List.mem_append.1 hy with hy | hy
  · have := h.2.2 y hy x (by simp); omega
  · simp at hy; omega
/-- The top is told by what is in the list. -/
theorem top_of {L : List Int} {t : Int} (h : Ris L) (h1 : ∀ x ∈ L, x < t) (h2 : t = 0 ∧ L = [] ∨ t - 1 ∈ L) : topL L = t := by
  unfold topL
  cases e : L.getLast? with
  | none =>
    have : L = [] := by simpa using e
    subst this
    rcases h2 with ⟨h2, _⟩ | h2
    · simp [h2]
    · simp at h2
  | some x =>
    have hx := ris_last h e
    have hm : x ∈ L := List.mem_of_getLast? e
    rcases h2 with ⟨_, h2⟩ | h2
    · subst h2; simp at hm
    · have := hx _ h2; have := h1 x hm
      show x + 1 = t
      omega
theorem top_lt {L : List Int} (h : Ris L) : ∀ x ∈ L, x < topL L := by
  intro x hx
  unfold topL
  cases e : L.getLast? with
  | none => have : L = [] := by simpa using e
            subst this; simp at hx
  | some y => have := ris_last h e x hx; show x < y + 1; omega
theorem top_mem {L : List Int} (hne : L ≠ []) : topL L - 1 ∈ L := by
  unfold topL
  cases e : L.getLast? with
  | none => exact absurd (by simpa using e) hne
  | some y => have := List.mem_of_getLast? e
              show y + 1 - 1 ∈ L
              rw [Int.add_sub_cancel]; exact this
theorem top_nonneg {L : List Int} (h0 : ∀ x ∈ L, 0 ≤ x) : 0 ≤ topL L := by
  by_cases h : L = []
  · subst h; decide
  · have := h0 _ (top_mem h); omega
theorem top_ins {x : Int} {L : List Int} (h : Ris L) (hx : x ∉ L) (h0 : ∀ z ∈ L, 0 ≤ z) (x0 : 0 ≤ x) : topL (insR x L) = max (topL L) (x + 1) := by
  refine top_of (ins_ris h hx) (fun z hz => ?_) (.inr ?_)
  · rcases mem_ins.1 hz with rfl | hz
    · omega
    · have := top_lt h z hz; omega
  · by_cases hl : L = []
    · subst hl
      rw [top_nil, show max 0 (x + 1) = x + 1 by omega]
      exact mem_ins.2 (.inl (by omega))
    · by_cases hm : topL L ≤ x + 1
      · rw [show max (topL L) (x + 1) = x + 1 by omega]
        exact mem_ins.2 (.inl (by omega))
      · rw [show max (topL L) (x + 1) = topL L by omega]
        exact mem_ins.2 (.inr (top_mem hl))
/-- Where the top comes to rest once a place is given back: below it all is free, at it one is taken. -/
theorem top_rest {L : List Int} {t : Int} (h : Ris L) (h0 : ∀ z ∈ L, 0 ≤ z) (ht : 0 ≤ t) (hup : ∀ z ∈ L, z < t) (hst : t = 0 ∨ t - 1 ∈ L) : topL L = t := by
  refine top_of h hup ?_
  rcases hst with rfl | hst
  · refine .inl ⟨rfl, ?_⟩
    cases L with
    | nil => rfl
    | cons y r => have := hup y (by simp); have := h0 y (by simp); omega
  · exact .inr hst
end ArenaMath
