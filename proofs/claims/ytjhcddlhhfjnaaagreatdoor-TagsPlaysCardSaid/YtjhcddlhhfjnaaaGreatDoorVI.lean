/- The program's answers and the document's, of counts and of their plain lists: pure. Both together: adding one by one is merging. Pure. Same of both sides; law10.num. -/
import Derived.Test.YtjhcddlhhfjnaaaGreatDoorVH
namespace Go.Proofs.YtjhcddlhhfjnaaaGreatDoor
open Go.RowKit Go.Sort Go.Shelf

theorem kinds_rep (x : Int) (b : List Int) (hb : ∀ y ∈ b, x < y) : ∀ k : Nat, kindsL (List.replicate (k + 1) x ++ b) = x :: kindsL b
  | 0 => by
    cases b with
    | nil => rfl
    | cons y r =>
      show kindsL (x :: y :: r) = _
      rw [kindsL, if_neg (by have := hb y (by simp); omega)]
  | k + 1 => by
    rw [List.replicate_succ, List.cons_append, List.replicate_succ, List.cons_append, kindsL, if_pos rfl]
    have := kinds_rep x b hb k
    rw [List.replicate_succ, List.cons_append] at this
    exact this
theorem kinds_expand : ∀ {cs : List (Int × Int)}, Rise cs → Pos cs → kindsL (expand cs) = cs.map (·.1)
  | [], _, _ => rfl
  | p :: r, hr, hp => by
    obtain ⟨h1, h2⟩ := rise_tail hr
    obtain ⟨h3, h4⟩ := pos_tail hp
    obtain ⟨k, hk⟩ : ∃ k : Nat, p.2.toNat = k + 1 := ⟨p.2.toNat - 1, by omega⟩
    rw [expand, hk, kinds_rep _ _ (expand_lo h1), kinds_expand h2 h4]; rfl
theorem bad_may (n : Int) : badN n = !mayN n := by
  unfold badN mayN
  by_cases h1 : n < 1 <;> by_cases h2 : 2147483647 < n <;> simp [h1, h2] <;> omega
theorem any_good {cs : List (Int × Int)} (h : Good cs) : anyLong cs = false := by
  simp [anyLong]
  intro a b hab
  exact (h.times _ hab).2
theorem full_long {cs : List (Int × Int)} {n : Int} (h : Good cs) : fullN (expand cs) n = longB (mrg cs [(n, 1)]) := by
  have hc := count_expand (n := n) h.rise h.pos
  have hk := congrArg List.length (kinds_expand h.rise h.pos)
  rw [List.length_map] at hk
  have hl := h.len
  unfold fullN longB
  rw [put_len h.rise h.pos, put_any h.rise h.pos, any_good h, hk]
  generalize (expand cs).count n = m at *
  rw [← hc]
  by_cases hm : m = 0
  · subst hm
    by_cases h64 : 64 ≤ cs.length
    · simp [h64]; omega
    · simp [h64]; omega
  · have hm' : ¬ ((m : Int) = 0) := by omega
    rw [if_neg hm']
    by_cases h255 : 255 ≤ m
    · simp [h255, hm]; omega
    · simp [h255, hm]; omega
/-- More: the errors. -/
theorem more_err {cs : List (Int × Int)} {n : Int} (h : Good cs) : rmoreE (expand cs) n = moreE cs n := by
  unfold rmoreE moreE fromE
  rw [bad_may, full_long h]
  cases mayN n <;> rfl
/-- More: the lists. -/
theorem more_list {cs : List (Int × Int)} {n : Int} (h : Good cs) (he : moreE cs n = 0) : rmoreL (expand cs) n = expand (moreL cs n) := by
  unfold moreE fromE at he
  unfold rmoreL moreL fromL
  rw [bad_may, full_long h]
  cases hm : mayN n with
  | false => rw [hm] at he; cases he
  | true =>
    rw [hm] at he
    cases hl : longB (mrg cs [(n, 1)]) with
    | true => rw [hl] at he; cases he
    | false => simp [expand_put h.rise h.pos]
theorem more_none {cs : List (Int × Int)} {n : Int} (he : moreE cs n ≠ 0) : moreL cs n = [] := by
  unfold moreE fromE at he
  unfold moreL fromL
  cases hm : mayN n with
  | false => rfl
  | true =>
    rw [hm] at he
    cases hl : longB (mrg cs [(n, 1)]) with
    | true => rfl
    | false => rw [hl] at he; exact absurd rfl he
theorem less_err {cs : List (Int × Int)} {n : Int} (h : Good cs) : rlessE (expand cs) n = lessE cs n := by
  have hc := count_expand (n := n) h.rise h.pos
  unfold rlessE lessE fromE
  rw [bad_may]
  cases hm : mayN n with
  | false => rfl
  | true =>
    by_cases h0 : manyI cs n = 0
    · have : (expand cs).count n = 0 := by omega
      simp [h0, this]
    · have : ¬ (expand cs).count n = 0 := by omega
      rw [cut_long h h0]
      simp [h0, this]
theorem less_list {cs : List (Int × Int)} {n : Int} (h : Good cs) (he : lessE cs n = 0) : rlessL (expand cs) n = expand (lessL cs n) := by
  have hc := count_expand (n := n) h.rise h.pos
  unfold lessE at he
  unfold rlessL lessL fromL
  rw [bad_may]
  cases hm : mayN n with
  | false => rw [hm] at he; cases he
  | true =>
    rw [hm] at he
    by_cases h0 : manyI cs n = 0
    · rw [if_pos rfl, if_pos h0] at he; cases he
    · have : ¬ (expand cs).count n = 0 := by omega
      rw [cut_long h h0]
      simp [h0, this, expand_less h.rise h.pos h0]
theorem less_none {cs : List (Int × Int)} {n : Int} (h : Good cs) (he : lessE cs n ≠ 0) : lessL cs n = [] := by
  unfold lessE fromE at he
  unfold lessL fromL
  cases hm : mayN n with
  | false => rfl
  | true =>
    rw [hm] at he
    by_cases h0 : manyI cs n = 0
    · simp [h0]
    · rw [if_pos rfl, if_neg h0, cut_long h h0] at he; exact absurd rfl he
/-- Numbers added one by one. -/
theorem add_all : ∀ {l : List Int} {cs : List (Int × Int)}, Good cs → raddAll (expand cs) l = ((addAll cs l).1, expand (addAll cs l).2)
  | [], _, _ => rfl
  | n :: r, cs, h => by
    rw [raddAll, addAll, more_err h]
    by_cases he : moreE cs n = 0
    · rw [if_pos he, if_pos he, more_list h he, add_all (good_more h)]
    · rw [if_neg he, if_neg he]; rfl
/-- Odd. -/
theorem odd_same {cs : List (Int × Int)} (h : Good cs) : roddL (expand cs) = oddL cs := by
  unfold roddL oddL
  rw [kinds_expand h.rise h.pos, List.filter_map]
  congr 1
  apply List.filter_congr
  intro p hp
  have hc := count_expand (n := p.1) h.rise h.pos
  have hm : manyI cs p.1 = p.2 := by
    clear hc
    have hr := h.rise
    clear h
    induction cs with
    | nil => cases hp
    | cons q r ih =>
      obtain ⟨h1, h2⟩ := rise_tail hr
      rcases List.mem_cons.1 hp with rfl | hp
      · exact many_at rfl
      · rw [many_lt (h1 p hp)]; exact ih hp h2
  rw [hm] at hc
  show ((expand cs).count p.1 % 2 == 1) = (p.2 % 2 == 1)
  by_cases ho : p.2 % 2 = 1
  · have : (expand cs).count p.1 % 2 = 1 := by omega
    simp [ho, this]
  · have : ¬ (expand cs).count p.1 % 2 = 1 := by omega
    rw [beq_eq_false_iff_ne.2 this, beq_eq_false_iff_ne.2 ho]
end Go.Proofs.YtjhcddlhhfjnaaaGreatDoor
namespace Go.Proofs.YtjhcddlhhfjnaaaGreatDoor
open Go.RowKit Go.Sort Go.Shelf

theorem many_ext : ∀ {a b : List (Int × Int)}, Rise a → Rise b → Pos a → Pos b → (∀ n, manyI a n = manyI b n) → a = b
  | [], [], _, _, _, _, _ => rfl
  | [], q :: s, _, _, _, hp, h => by
    have h1 := h q.1
    rw [many_at rfl] at h1
    have h2 := (pos_tail hp).1
    have h3 : manyI [] q.1 = 0 := rfl
    omega
  | p :: r, [], _, _, hp, _, h => by
    have h1 := h p.1
    rw [many_at rfl] at h1
    have h2 := (pos_tail hp).1
    have h3 : manyI [] p.1 = 0 := rfl
    omega
  | p :: r, q :: s, hr, hs, hp, hq, h => by
    obtain ⟨r1, r2⟩ := rise_tail hr
    obtain ⟨s1, s2⟩ := rise_tail hs
    obtain ⟨p1, p2⟩ := pos_tail hp
    obtain ⟨q1, q2⟩ := pos_tail hq
    rcases Int.lt_trichotomy p.1 q.1 with h0 | h0 | h0
    · have h1 := h p.1
      rw [many_at rfl, many_gt h0] at h1
      omega
    · have h1 := h p.1
      rw [many_at rfl, many_at h0.symm] at h1
      have e : p = q := Prod.ext h0 h1
      subst e
      congr 1
      refine many_ext r2 s2 p2 q2 (fun n => ?_)
      rcases Int.lt_trichotomy p.1 n with h2 | h2 | h2
      · have h3 := h n
        rw [many_lt h2, many_lt h2] at h3
        exact h3
      · rw [many_lo (fun x hx => by rw [← h2]; exact r1 x hx), many_lo (fun x hx => by rw [← h2]; exact s1 x hx)]
      · rw [many_lo (fun x hx => by have := r1 x hx; omega), many_lo (fun x hx => by have := s1 x hx; omega)]
    · have h1 := h q.1
      rw [many_at (p := q) rfl, many_gt h0] at h1
      omega
theorem many_cons {p : Int × Int} {r : List (Int × Int)} (h : ∀ q ∈ r, p.1 < q.1) (n : Int) : manyI (p :: r) n = (if p.1 = n then p.2 else 0) + manyI r n := by
  rcases Int.lt_trichotomy p.1 n with h2 | h2 | h2
  · rw [many_lt h2, if_neg (by omega)]; omega
  · rw [many_at h2, if_pos h2, many_lo (fun x hx => by rw [← h2]; exact h x hx)]; omega
  · rw [many_gt h2, if_neg (by omega), many_lo (fun x hx => by have := h x hx; omega)]; rfl
theorem many_mrg {a b : List (Int × Int)} (n : Int) : Rise a → Rise b → Pos a → Pos b → manyI (mrg a b) n = manyI a n + manyI b n := by
  fun_induction mrg a b with
  | case1 b => intro _ _ _ _; show manyI b n = 0 + manyI b n; omega
  | case2 p a => intro _ _ _ _; show _ = _ + (0 : Int); omega
  | case3 p a q b h ih =>
    intro hr hs hp hq
    obtain ⟨r1, r2⟩ := rise_tail hr
    obtain ⟨s1, s2⟩ := rise_tail hs
    obtain ⟨p1, p2⟩ := pos_tail hp
    rw [many_cons (mrg_lo r1 (fun x hx => by
      rcases List.mem_cons.1 hx with rfl | hx
      · exact h
      · have := s1 x hx; omega)), ih r2 hs p2 hq, many_cons r1]
    omega
  | case4 p a q b h h' ih =>
    intro hr hs hp hq
    obtain ⟨r1, r2⟩ := rise_tail hr
    obtain ⟨s1, s2⟩ := rise_tail hs
    obtain ⟨q1, q2⟩ := pos_tail hq
    rw [many_cons (mrg_lo (fun x hx => by
      rcases List.mem_cons.1 hx with rfl | hx
      · exact h'
      · have := r1 x hx; omega) s1), ih hr s2 hp q2, many_cons s1]
    omega
  | case5 p a q b h h' hz ih =>
    intro hr hs hp hq
    obtain ⟨r1, r2⟩ := rise_tail hr
    obtain ⟨s1, s2⟩ := rise_tail hs
    obtain ⟨p1, p2⟩ := pos_tail hp
    obtain ⟨q1, q2⟩ := pos_tail hq
    have e : p.1 = q.1 := by omega
    rw [many_cons (p := (p.1, p.2 + q.2)) (mrg_lo (n := p.1) r1 (fun x hx => by have := s1 x hx; show p.1 < x.1; omega)), ih r2 s2 p2 q2, many_cons r1, many_cons s1]
    show (if p.1 = n then p.2 + q.2 else 0) + _ = _
    rw [← e]
    split <;> omega
  | case6 p a q b h h' hz ih =>
    intro hr hs hp hq
    have := (pos_tail hp).1
    have := (pos_tail hq).1
    omega
theorem mrg_pos {a b : List (Int × Int)} (ha : Pos a) (hb : Pos b) : Pos (mrg a b) := fun p hp => by
  rcases mrg_mem p hp with h | h | ⟨q, _, r, _, _, _, _, h4⟩
  · exact ha p h
  · exact hb p h
  · exact h4
/-- Numbers merged one by one, with no look at how many. -/
def foldM (cs : List (Int × Int)) : List Int → List (Int × Int)
  | [] => cs
  | n :: r => foldM (mrg cs [(n, 1)]) r
theorem one_rise (n : Int) : Rise [(n, 1)] ∧ Pos [(n, 1)] := ⟨List.pairwise_singleton _ _, fun p hp => by obtain rfl := List.mem_singleton.1 hp; exact Int.le_refl _⟩
theorem fold_ok : ∀ {l : List Int} {cs : List (Int × Int)}, Rise cs → Pos cs → Rise (foldM cs l) ∧ Pos (foldM cs l) ∧ ∀ n, manyI (foldM cs l) n = manyI cs n + (l.count n : Int)
  | [], cs, hr, hp => ⟨hr, hp, fun n => by show manyI cs n = manyI cs n + ((0 : Nat) : Int); omega⟩
  | x :: r, cs, hr, hp => by
    obtain ⟨h1, h2⟩ := one_rise x
    obtain ⟨h3, h4, h5⟩ := fold_ok (l := r) (mrg_rise hr h1) (mrg_pos hp h2)
    refine ⟨h3, h4, fun n => ?_⟩
    show manyI (foldM (mrg cs [(x, 1)]) r) n = _
    rw [h5 n, many_mrg n hr h1 hp h2, List.count_cons, many_cons (fun q hq => by cases hq)]
    show manyI cs n + ((if x = n then 1 else 0) + 0) + _ = _
    by_cases hx : x = n
    · simp [hx]; omega
    · simp [hx]
theorem fold_expand {cs ds : List (Int × Int)} (hr : Rise cs) (hs : Rise ds) (hp : Pos cs) (hq : Pos ds) : foldM cs (expand ds) = mrg cs ds := by
  obtain ⟨h1, h2, h3⟩ := fold_ok (l := expand ds) hr hp
  exact many_ext h1 (mrg_rise hr hs) h2 (mrg_pos hp hq) (fun n => by rw [h3 n, many_mrg n hr hs hp hq, count_expand hs hq])
theorem long_up {xs : List (Int × Int)} {n : Int} (hr : Rise xs) (hp : Pos xs) (h : longB xs = true) : longB (mrg xs [(n, 1)]) = true := by
  unfold longB at *
  rw [put_len hr hp, put_any hr hp]
  rcases Bool.or_eq_true_iff.1 h with h | h
  · have := of_decide_eq_true h
    rw [Bool.or_eq_true_iff]
    left
    apply decide_eq_true
    split <;> omega
  · rw [h]; simp
theorem fold_long : ∀ {l : List Int} {xs : List (Int × Int)}, Rise xs → Pos xs → longB xs = true → longB (foldM xs l) = true
  | [], _, _, _, h => h
  | n :: r, _, hr, hp, h => fold_long (l := r) (mrg_rise hr (one_rise n).1) (mrg_pos hp (one_rise n).2) (long_up hr hp h)
theorem good_not {cs : List (Int × Int)} (h : Good cs) : longB cs = false := by
  unfold longB
  rw [any_good h]
  have := h.len
  simp; omega
theorem add_fold : ∀ {l : List Int} {cs : List (Int × Int)}, Good cs → (∀ n ∈ l, mayN n = true) → addAll cs l = (fromE (foldM cs l), fromL (foldM cs l))
  | [], cs, h, _ => by
    show (0, cs) = (fromE cs, fromL cs)
    unfold fromE fromL
    rw [good_not h]; rfl
  | n :: r, cs, h, hm => by
    have hn := hm n (by simp)
    obtain ⟨h1, h2, h3⟩ := put_good h hn
    show _ = (fromE (foldM (mrg cs [(n, 1)]) r), fromL (foldM (mrg cs [(n, 1)]) r))
    rw [addAll]
    unfold moreE moreL
    rw [hn]
    cases hl : longB (mrg cs [(n, 1)]) with
    | true =>
      have hf := fold_long (l := r) h1 h3 hl
      unfold fromE fromL
      rw [hl, hf]; rfl
    | false =>
      have e1 : fromE (mrg cs [(n, 1)]) = 0 := by unfold fromE; rw [hl]; rfl
      have e2 : fromL (mrg cs [(n, 1)]) = mrg cs [(n, 1)] := by unfold fromL; rw [hl]; rfl
      have hg := good_from h1 h2 h3
      rw [e2] at hg
      rw [if_pos rfl, if_pos (by simpa using e1), if_pos rfl, e2]
      exact add_fold hg (fun x hx => hm x (List.mem_cons_of_mem _ hx))
/-- With: the document's one by one is the program's merge. -/
theorem with_same {cs ds : List (Int × Int)} (h : Good cs) (k : Good ds) : raddAll (expand cs) (expand ds) = (fromE (mrg cs ds), expand (fromL (mrg cs ds))) := by
  rw [add_all h, add_fold h (fun n hn => by
    obtain ⟨p, hp, rfl⟩ := expand_mem hn
    exact may_iff.2 (k.num p hp)), fold_expand h.rise k.rise h.pos k.pos]
end Go.Proofs.YtjhcddlhhfjnaaaGreatDoor
namespace Go.Proofs.YtjhcddlhhfjnaaaGreatDoor
open Go.RowKit Go.Sort Go.Shelf

theorem expand_inj {cs ds : List (Int × Int)} (h : Good cs) (k : Good ds) (e : expand cs = expand ds) : cs = ds :=
  many_ext h.rise k.rise h.pos k.pos (fun n => by rw [← count_expand h.rise h.pos, ← count_expand k.rise k.pos, e])
theorem same_same {cs ds : List (Int × Int)} (h : Good cs) (k : Good ds) : decide (cs = ds) = decide (expand cs = expand ds) := by
  by_cases e : cs = ds
  · subst e; simp
  · rw [decide_eq_false e, decide_eq_false (fun f => e (expand_inj h k f))]
theorem expand_nil {cs : List (Int × Int)} (h : Good cs) : expand cs = [] ↔ cs = [] :=
  ⟨fun e => expand_inj h Good.nil e, fun e => by rw [e]; rfl⟩
/-- A plain list's bound. -/
theorem expand_bound {cs : List (Int × Int)} (h : Good cs) : (expand cs).length ≤ 20000 ∧ ∀ x ∈ expand cs, 1 ≤ x ∧ x ≤ 2147483647 := by
  refine ⟨?_, fun x hx => by
    obtain ⟨p, hp, rfl⟩ := expand_mem hx
    exact h.num p hp⟩
  have h1 := words_len cs (fun p hp => (h.times p hp).2)
  unfold wordsL at h1
  rw [List.length_map] at h1
  have := h.len
  omega
theorem num_any (k : Int) (w : World) : Calls Tryz.prog 10 #[.int .i64 k] w fun e w' => e = .returned (.int .i64 k) ∧ w = w' := by
  go_enter Tryz.func10, Tryz.ntmps10
  go_wp2
  go_ret
  exact ⟨rfl, rfl⟩
/-- The document's reading of a text, byte by byte. -/
def rclose (l : List Int) (n : Int) (d : Nat) : Option (List Int) :=
  if d = 0 then none else if n < 1 then none else if 2147483647 < n then none else match l.getLast? with
    | none => some (l ++ [n])
    | some m => if n < m then none else some (l ++ [n])
def rscan : List UInt8 → List Int → Int → Nat → Option (List Int)
  | [], l, n, d => rclose l n d
  | c :: r, l, n, d => if c = 32 then (match rclose l n d with
      | none => none
      | some l' => rscan r l' 0 0)
    else if c < 48 then none else if 57 < c then none else if c = 48 ∧ d = 0 then none else if 10 < d then none else rscan r l (10 * n + (c.toNat - 48 : Nat)) (d + 1)
/-- The document's Parse. -/
def rparse (s : List UInt8) : Int × List Int := if s = [] then (0, []) else match rscan s [] 0 0 with
  | none => (200, [])
  | some l => rnew l
end Go.Proofs.YtjhcddlhhfjnaaaGreatDoor
