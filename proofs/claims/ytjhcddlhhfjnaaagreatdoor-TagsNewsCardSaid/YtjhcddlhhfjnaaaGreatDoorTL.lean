/- Tags as lists of counts: which may be, what their functions make of them (pure). -/
import Derived.Test.YtjhcddlhhfjnaaaGreatDoorTK
namespace Go.Proofs.YtjhcddlhhfjnaaaGreatDoor

def Rise (cs : List (Int × Int)) : Prop := cs.Pairwise fun p q => p.1 < q.1
/-- Counts that may stand in tags. -/
structure Good (cs : List (Int × Int)) : Prop where
  len : cs.length ≤ 64
  rise : Rise cs
  num : ∀ p ∈ cs, 1 ≤ p.1 ∧ p.1 ≤ 2147483647
  times : ∀ p ∈ cs, 1 ≤ p.2 ∧ p.2 ≤ 255
theorem Good.nil : Good [] := ⟨by simp, List.Pairwise.nil, fun p h => (List.not_mem_nil h).elim, fun p h => (List.not_mem_nil h).elim⟩
theorem Good.work {cs : List (Int × Int)} (h : Good cs) : Times cs := fun p hp => by have := h.times p hp; omega
/-- Whose numbers are told. -/
theorem mrg_mem {a b : List (Int × Int)} : ∀ p ∈ mrg a b, (p ∈ a ∨ p ∈ b ∨ ∃ q ∈ a, ∃ r ∈ b, p.1 = q.1 ∧ q.1 = r.1 ∧ p.2 = q.2 + r.2 ∧ 0 < p.2) := by
  fun_induction mrg a b with
  | case1 b => intro p hp; exact .inr (.inl hp)
  | case2 p a => intro q hq; exact .inl hq
  | case3 p a q b h ih =>
    intro r hr
    rcases List.mem_cons.1 hr with rfl | hr
    · exact .inl (by simp)
    · rcases ih r hr with h1 | h1 | ⟨x, hx, y, hy, h1⟩
      · exact .inl (List.mem_cons_of_mem _ h1)
      · exact .inr (.inl h1)
      · exact .inr (.inr ⟨x, List.mem_cons_of_mem _ hx, y, hy, h1⟩)
  | case4 p a q b h h' ih =>
    intro r hr
    rcases List.mem_cons.1 hr with rfl | hr
    · exact .inr (.inl (by simp))
    · rcases ih r hr with h1 | h1 | ⟨x, hx, y, hy, h1⟩
      · exact .inl h1
      · exact .inr (.inl (List.mem_cons_of_mem _ h1))
      · exact .inr (.inr ⟨x, hx, y, List.mem_cons_of_mem _ hy, h1⟩)
  | case5 p a q b h h' h0 ih =>
    intro r hr
    rcases List.mem_cons.1 hr with rfl | hr
    · exact .inr (.inr ⟨p, by simp, q, by simp, rfl, by omega, rfl, h0⟩)
    · rcases ih r hr with h1 | h1 | ⟨x, hx, y, hy, h1⟩
      · exact .inl (List.mem_cons_of_mem _ h1)
      · exact .inr (.inl (List.mem_cons_of_mem _ h1))
      · exact .inr (.inr ⟨x, List.mem_cons_of_mem _ hx, y, List.mem_cons_of_mem _ hy, h1⟩)
  | case6 p a q b h h' h0 ih =>
    intro r hr
    rcases ih r hr with h1 | h1 | ⟨x, hx, y, hy, h1⟩
    · exact .inl (List.mem_cons_of_mem _ h1)
    · exact .inr (.inl (List.mem_cons_of_mem _ h1))
    · exact .inr (.inr ⟨x, List.mem_cons_of_mem _ hx, y, List.mem_cons_of_mem _ hy, h1⟩)
theorem mrg_lo {a b : List (Int × Int)} {n : Int} (ha : ∀ p ∈ a, n < p.1) (hb : ∀ p ∈ b, n < p.1) : ∀ p ∈ mrg a b, n < p.1 := fun p hp => by
  rcases mrg_mem p hp with h | h | ⟨q, hq, r, hr, h1, _⟩
  · exact ha p h
  · exact hb p h
  · rw [h1]; exact ha q hq
theorem mrg_rise {a b : List (Int × Int)} : Rise a → Rise b → Rise (mrg a b) := by
  fun_induction mrg a b with
  | case1 b => intro _ h; exact h
  | case2 p a => intro h _; exact h
  | case3 p a q b h ih =>
    intro ha hb
    have ha' := List.pairwise_cons.1 ha
    have hb' := List.pairwise_cons.1 hb
    refine List.pairwise_cons.2 ⟨mrg_lo ha'.1 (fun r hr => ?_), ih ha'.2 hb⟩
    rcases List.mem_cons.1 hr with rfl | hr
    · exact h
    · have := hb'.1 r hr; omega
  | case4 p a q b h h' ih =>
    intro ha hb
    have ha' := List.pairwise_cons.1 ha
    have hb' := List.pairwise_cons.1 hb
    refine List.pairwise_cons.2 ⟨mrg_lo (fun r hr => ?_) hb'.1, ih ha hb'.2⟩
    rcases List.mem_cons.1 hr with rfl | hr
    · exact h'
    · have := ha'.1 r hr; omega
  | case5 p a q b h h' h0 ih =>
    intro ha hb
    have ha' := List.pairwise_cons.1 ha
    have hb' := List.pairwise_cons.1 hb
    have e : p.1 = q.1 := by omega
    exact List.pairwise_cons.2 ⟨mrg_lo ha'.1 (fun r hr => by have := hb'.1 r hr; show p.1 < r.1; omega), ih ha'.2 hb'.2⟩
  | case6 p a q b h h' h0 ih =>
    intro ha hb
    exact ih (List.pairwise_cons.1 ha).2 (List.pairwise_cons.1 hb).2
theorem many_lo {cs : List (Int × Int)} {n : Int} (h : ∀ p ∈ cs, n < p.1) : manyI cs n = 0 := by
  cases cs with
  | nil => rfl
  | cons p r => have := h p (by simp); rw [manyI, if_neg (by omega), if_pos this]
/-- The numbers, each as often as it is there. -/
def expand : List (Int × Int) → List Int
  | [] => []
  | p :: r => List.replicate p.2.toNat p.1 ++ expand r
theorem expand_mem : ∀ {cs : List (Int × Int)} {x : Int}, x ∈ expand cs → ∃ p ∈ cs, x = p.1
  | [], x, h => (List.not_mem_nil h).elim
  | p :: r, x, h => by
    rcases List.mem_append.1 h with h | h
    · exact ⟨p, by simp, List.eq_of_mem_replicate h⟩
    · obtain ⟨q, hq, e⟩ := expand_mem h
      exact ⟨q, List.mem_cons_of_mem _ hq, e⟩
/-- A number put into a rising list, behind all that are the same. -/
def insL (n : Int) : List Int → List Int
  | [] => [n]
  | x :: r => if n < x then n :: x :: r else x :: insL n r
theorem insL_app {n : Int} : ∀ {a b : List Int}, (∀ x ∈ a, x ≤ n) → insL n (a ++ b) = a ++ insL n b
  | [], _, _ => rfl
  | x :: r, b, h => by
    have h0 := h x (by simp)
    rw [List.cons_append, insL, if_neg (by omega), insL_app (fun y hy => h y (List.mem_cons_of_mem _ hy)), List.cons_append]
theorem insL_lo {n : Int} {b : List Int} (h : ∀ x ∈ b, n < x) : insL n b = n :: b := by
  cases b with
  | nil => rfl
  | cons x r => rw [insL, if_pos (h x (by simp))]
/-- A list without one of a number. -/
def remL (n : Int) : List Int → List Int
  | [] => []
  | x :: r => if x = n then r else x :: remL n r
theorem remL_app {n : Int} : ∀ {a b : List Int}, (∀ x ∈ a, x ≠ n) → remL n (a ++ b) = a ++ remL n b
  | [], _, _ => rfl
  | x :: r, b, h => by
    rw [List.cons_append, remL, if_neg (h x (by simp)), remL_app (fun y hy => h y (List.mem_cons_of_mem _ hy)), List.cons_append]
def Pos (cs : List (Int × Int)) : Prop := ∀ p ∈ cs, 1 ≤ p.2
theorem Good.pos {cs : List (Int × Int)} (h : Good cs) : Pos cs := fun p hp => (h.times p hp).1
theorem rep_succ (p : Int) {k : Int} (h : 1 ≤ k) : List.replicate k.toNat p = p :: List.replicate (k - 1).toNat p := by
  obtain ⟨m, rfl⟩ : ∃ m : Nat, k = m + 1 := ⟨(k - 1).toNat, by omega⟩
  rw [show ((m : Int) + 1).toNat = m + 1 by omega, show ((m : Int) + 1 - 1).toNat = m by omega]; rfl
theorem rep_snoc (p : Int) {k : Int} (h : 0 ≤ k) : List.replicate (k + 1).toNat p = List.replicate k.toNat p ++ [p] := by
  rw [show (k + 1).toNat = k.toNat + 1 by omega, List.replicate_succ']
section
variable {cs : List (Int × Int)} {n : Int}
theorem rise_tail {p : Int × Int} {r : List (Int × Int)} (h : Rise (p :: r)) : (∀ q ∈ r, p.1 < q.1) ∧ Rise r := List.pairwise_cons.1 h
theorem pos_tail {p : Int × Int} {r : List (Int × Int)} (h : Pos (p :: r)) : 1 ≤ p.2 ∧ Pos r := ⟨h p (by simp), fun q hq => h q (List.mem_cons_of_mem _ hq)⟩
theorem expand_lo {r : List (Int × Int)} (h : ∀ q ∈ r, n < q.1) : ∀ x ∈ expand r, n < x := fun x hx => by
  obtain ⟨q, hq, rfl⟩ := expand_mem hx
  exact h q hq
theorem expand_put (hr : Rise cs) (hp : Pos cs) : expand (mrg cs [(n, 1)]) = insL n (expand cs) := by
  induction cs with
  | nil => rw [mrg_nil_l]; rfl
  | cons p a ih =>
    obtain ⟨h1, h2⟩ := rise_tail hr
    obtain ⟨h3, h4⟩ := pos_tail hp
    rcases Int.lt_trichotomy p.1 n with h | h | h
    · rw [mrg_lt (q := (n, 1)) h, expand, ih h2 h4, expand, insL_app (fun x hx => by rw [List.eq_of_mem_replicate hx]; omega)]
    · rw [mrg_put (q := (n, 1)) h (by show 0 < p.2 + 1; omega), mrg_nil_r, expand, expand]
      rw [insL_app (fun x hx => by rw [List.eq_of_mem_replicate hx]; omega), insL_lo (expand_lo (by rw [← h]; exact h1))]
      show List.replicate (p.2 + 1).toNat p.1 ++ expand a = _
      rw [rep_snoc _ (by omega), ← h, List.append_assoc]; rfl
    · rw [mrg_gt (q := (n, 1)) h, mrg_nil_r, insL_lo (expand_lo (fun q hq => ?_))]
      · rfl
      · rcases List.mem_cons.1 hq with rfl | hq
        · exact h
        · have := h1 q hq; omega
theorem many_at {p : Int × Int} {a : List (Int × Int)} (h : p.1 = n) : manyI (p :: a) n = p.2 := by rw [manyI, if_pos h]
theorem many_gt {p : Int × Int} {a : List (Int × Int)} (h : n < p.1) : manyI (p :: a) n = 0 := by rw [manyI, if_neg (by omega), if_pos h]
theorem many_lt {p : Int × Int} {a : List (Int × Int)} (h : p.1 < n) : manyI (p :: a) n = manyI a n := by rw [manyI, if_neg (by omega), if_neg (by omega)]
theorem many_nonneg (hp : Pos cs) : 0 ≤ manyI cs n := by
  induction cs with
  | nil => exact Int.le_refl _
  | cons p a ih =>
    have h3 := pos_tail hp
    rw [manyI]
    split
    · omega
    · split
      · omega
      · exact ih h3.2
theorem expand_less (hr : Rise cs) (hp : Pos cs) (h0 : manyI cs n ≠ 0) : expand (mrg cs [(n, -1)]) = remL n (expand cs) := by
  induction cs with
  | nil => exact absurd rfl h0
  | cons p a ih =>
    obtain ⟨h1, h2⟩ := rise_tail hr
    obtain ⟨h3, h4⟩ := pos_tail hp
    rcases Int.lt_trichotomy p.1 n with h | h | h
    · rw [many_lt h] at h0
      rw [mrg_lt (q := (n, -1)) h, expand, ih h2 h4 h0, expand, remL_app (fun x hx => by rw [List.eq_of_mem_replicate hx]; omega)]
    · have e : remL n (expand (p :: a)) = List.replicate (p.2 - 1).toNat p.1 ++ expand a := by
        rw [expand, rep_succ _ h3, List.cons_append, remL, if_pos h]
      rw [e]
      by_cases hz : 0 < p.2 + -1
      · rw [mrg_put (q := (n, -1)) h hz, mrg_nil_r, expand]; rfl
      · rw [mrg_drop (q := (n, -1)) h hz, mrg_nil_r, show (p.2 - 1).toNat = 0 by omega]; rfl
    · exact absurd (many_gt h) h0
theorem count_expand (hr : Rise cs) (hp : Pos cs) : ((expand cs).count n : Int) = manyI cs n := by
  induction cs with
  | nil => rfl
  | cons p a ih =>
    obtain ⟨h1, h2⟩ := rise_tail hr
    obtain ⟨h3, h4⟩ := pos_tail hp
    rw [expand, List.count_append, List.count_replicate]
    rcases Int.lt_trichotomy p.1 n with h | h | h
    · rw [if_neg (by simpa using (by omega : ¬ p.1 = n)), many_lt h, ← ih h2 h4]; omega
    · rw [if_pos (by simpa using h), many_at h, List.count_eq_zero_of_not_mem (fun hm => by have := expand_lo h1 n hm; omega)]; omega
    · rw [if_neg (by simpa using (by omega : ¬ p.1 = n)), many_gt h, List.count_eq_zero_of_not_mem (fun hm => by
        obtain ⟨q, hq, e⟩ := expand_mem hm
        have := h1 q hq; omega)]; rfl
theorem put_len (hr : Rise cs) (hp : Pos cs) : (mrg cs [(n, 1)]).length = if manyI cs n = 0 then cs.length + 1 else cs.length := by
  induction cs with
  | nil => rw [mrg_nil_l]; rfl
  | cons p a ih =>
    obtain ⟨h1, h2⟩ := rise_tail hr
    obtain ⟨h3, h4⟩ := pos_tail hp
    rcases Int.lt_trichotomy p.1 n with h | h | h
    · rw [mrg_lt (q := (n, 1)) h, List.length_cons, ih h2 h4, many_lt h, List.length_cons]; split <;> rfl
    · rw [mrg_put (q := (n, 1)) h (by show 0 < p.2 + 1; omega), mrg_nil_r, many_at h, if_neg (by omega)]; rfl
    · rw [mrg_gt (q := (n, 1)) h, mrg_nil_r, many_gt h, if_pos rfl]; rfl
theorem put_any (hr : Rise cs) (hp : Pos cs) : anyLong (mrg cs [(n, 1)]) = (anyLong cs || decide (255 < manyI cs n + 1)) := by
  induction cs with
  | nil => rw [mrg_nil_l]; rfl
  | cons p a ih =>
    obtain ⟨h1, h2⟩ := rise_tail hr
    obtain ⟨h3, h4⟩ := pos_tail hp
    have c : ∀ (p : Int × Int) r, anyLong (p :: r) = (decide (255 < p.2) || anyLong r) := fun _ _ => rfl
    rcases Int.lt_trichotomy p.1 n with h | h | h
    · rw [mrg_lt (q := (n, 1)) h, c, ih h2 h4, many_lt h, c, Bool.or_assoc]
    · rw [mrg_put (q := (n, 1)) h (by show 0 < p.2 + 1; omega), mrg_nil_r, many_at h, c, c]
      show (decide (255 < p.2 + 1) || anyLong a) = _
      by_cases q1 : 255 < p.2 <;> by_cases q2 : 255 < p.2 + 1 <;> simp [q1, q2]
      omega
    · rw [mrg_gt (q := (n, 1)) h, mrg_nil_r, many_gt h, c]; simp
theorem less_len (h0 : manyI cs n ≠ 0) : (mrg cs [(n, -1)]).length ≤ cs.length := by
  induction cs with
  | nil => exact absurd rfl h0
  | cons p a ih =>
    rcases Int.lt_trichotomy p.1 n with h | h | h
    · rw [many_lt h] at h0
      rw [mrg_lt (q := (n, -1)) h, List.length_cons, List.length_cons]
      have := ih h0; omega
    · by_cases hz : 0 < p.2 + -1
      · rw [mrg_put (q := (n, -1)) h hz, mrg_nil_r]; exact Nat.le_refl _
      · rw [mrg_drop (q := (n, -1)) h hz, mrg_nil_r]; exact Nat.le_succ _
    · exact absurd (many_gt h) h0
theorem good_from {xs : List (Int × Int)} (h1 : Rise xs) (h2 : ∀ p ∈ xs, 1 ≤ p.1 ∧ p.1 ≤ 2147483647) (h3 : Pos xs) : Good (fromL xs) := by
  unfold fromL
  cases hl : longB xs with
  | true => exact Good.nil
  | false =>
    simp [longB] at hl
    refine ⟨hl.1, h1, h2, fun p hp => ⟨h3 p hp, ?_⟩⟩
    have := hl.2
    simp [anyLong] at this
    exact this p.1 p.2 hp
theorem may_iff : mayN n = true ↔ 1 ≤ n ∧ n ≤ 2147483647 := by simp [mayN]
theorem put_good (h : Good cs) (hn : mayN n = true) : Rise (mrg cs [(n, 1)]) ∧ (∀ p ∈ mrg cs [(n, 1)], 1 ≤ p.1 ∧ p.1 ≤ 2147483647) ∧ Pos (mrg cs [(n, 1)]) := by
  have hn := may_iff.1 hn
  refine ⟨mrg_rise h.rise (List.pairwise_singleton _ _), fun p hp => ?_, fun p hp => ?_⟩
  · rcases mrg_mem p hp with h' | h' | ⟨q, hq', r, hr, h1, _⟩
    · exact h.num p h'
    · obtain rfl := List.mem_singleton.1 h'; exact hn
    · rw [h1]; exact h.num q hq'
  · rcases mrg_mem p hp with h' | h' | ⟨q, hq', r, hr, h1, h2, h3, h4⟩
    · exact h.pos p h'
    · obtain rfl := List.mem_singleton.1 h'; exact Int.le_refl _
    · exact h4
theorem good_more (h : Good cs) : Good (moreL cs n) := by
  unfold moreL
  cases hn : mayN n with
  | false => exact Good.nil
  | true => obtain ⟨h1, h2, h3⟩ := put_good h hn; exact good_from h1 h2 h3
theorem cut_good (h : Good cs) (hn : mayN n = true) (h0 : manyI cs n ≠ 0) : Rise (mrg cs [(n, -1)]) ∧ (∀ p ∈ mrg cs [(n, -1)], 1 ≤ p.1 ∧ p.1 ≤ 2147483647) ∧ Pos (mrg cs [(n, -1)]) := by
  have hn := may_iff.1 hn
  refine ⟨mrg_rise h.rise (List.pairwise_singleton _ _), fun p hp => ?_, ?_⟩
  · rcases mrg_mem p hp with h' | h' | ⟨q, hq', r, hr, h1, _⟩
    · exact h.num p h'
    · obtain rfl := List.mem_singleton.1 h'; exact hn
    · rw [h1]; exact h.num q hq'
  · have hp := h.pos
    clear h hn
    induction cs with
    | nil => exact absurd rfl h0
    | cons p a ih =>
      obtain ⟨h3, h4⟩ := pos_tail hp
      rcases Int.lt_trichotomy p.1 n with h | h | h
      · rw [many_lt h] at h0
        rw [mrg_lt (q := (n, -1)) h]
        intro q hq
        rcases List.mem_cons.1 hq with rfl | hq
        · exact h3
        · exact ih h0 h4 q hq
      · by_cases hz : 0 < p.2 + -1
        · rw [mrg_put (q := (n, -1)) h hz, mrg_nil_r]
          intro q hq
          rcases List.mem_cons.1 hq with rfl | hq
          · exact hz
          · exact h4 q hq
        · rw [mrg_drop (q := (n, -1)) h hz, mrg_nil_r]; exact h4
      · exact absurd (many_gt h) h0
theorem cut_long (h : Good cs) (h0 : manyI cs n ≠ 0) : longB (mrg cs [(n, -1)]) = false := by
  have hl := less_len h0
  have := h.len
  simp [longB]
  refine ⟨by omega, ?_⟩
  simp [anyLong]
  intro a b hab
  rcases mrg_mem (a, b) hab with h' | h' | ⟨q, hq', r, hr, h1, h2, h3, h4⟩
  · exact (h.times _ h').2
  · obtain h' := List.mem_singleton.1 h'; injection h' with h1 h2; omega
  · have := (h.times q hq').2
    obtain rfl := List.mem_singleton.1 hr
    have h3 : b = q.2 + -1 := h3
    omega
theorem good_less (h : Good cs) : Good (lessL cs n) := by
  unfold lessL
  cases hn : mayN n with
  | false => exact Good.nil
  | true =>
    by_cases h0 : manyI cs n = 0
    · simp only [if_true, if_pos h0]; exact Good.nil
    · simp only [if_true, if_neg h0]
      obtain ⟨h1, h2, h3⟩ := cut_good h hn h0
      exact good_from h1 h2 h3
end
/-- The different numbers. -/
def kindsL : List Int → List Int
  | [] => []
  | [x] => [x]
  | x :: y :: r => if x = y then kindsL (y :: r) else x :: kindsL (y :: r)
end Go.Proofs.YtjhcddlhhfjnaaaGreatDoor
