/- The program's answers and the document's, of counts and of their plain lists: pure. Both together: adding one by one is merging. Pure. Same of both sides; law10.num. -/
import Derived.Test.YtjhcddlhhfjnaaaDoorVF
import Derived.Test.YtjhcddlhhfjnaaaDoorTQ
namespace Go.Proofs.YtjhcddlhhfjnaaaDoor
open Go.RowKit Go.Sort Go.Shelf
theorem kinds_rep (x : Int) (b : List Int) (hb : ∀ y ∈ b, x < y) : ∀ k : Nat, kindsL (List.replicate (k + 1) x ++ b) = x :: kindsL b
  | 0 => by
    cases b with
    | nil => rfl
    | cons y r =>
      show kindsL (x :: y :: r) = _
      rw [kindsL, if_neg (by have := hb y (by simp); omega)]
  | k + 1 => by
    rw [List.replicate_succ, List.cons_append, List.replicate_succ, List.cons_append, kindsL, if_pos rfl]
    have := kinds_rep x b hb k
    rw [List.replicate_succ, List.cons_append] at this
    exact this
theorem kinds_expand : ∀ {cs : List (Int × Int)}, Rise cs → Pos cs → kindsL (expand cs) = cs.map (·.1)
  | [], _, _ => rfl
  | p :: r, hr, hp => by
    obtain ⟨h1, h2⟩ := rise_tail hr
    obtain ⟨h3, h4⟩ := pos_tail hp
    obtain ⟨k, hk⟩ : ∃ k : Nat, p.2.toNat = k + 1 := ⟨p.2.toNat - 1, by omega⟩
    rw [expand, hk, kinds_rep _ _ (expand_lo h1), kinds_expand h2 h4]; rfl
theorem bad_may (n : Int) : badN n = !mayN n := by
  unfold badN mayN
  by_cases h1 : n < 1 <;> by_cases h2 : 2147483647 < n <;> simp [h1, h2] <;> omega
theorem any_good {cs : List (Int × Int)} (h : Good cs) : anyLong cs = false := by
  simp [anyLong]
  intro a b hab
  exact (h.times _ hab).2
theorem full_long {cs : List (Int × Int)} {n : Int} (h : Good cs) : fullN (expand cs) n = longB (mrg cs [(n, 1)]) := by
  have hc := count_expand (n := n) h.rise h.pos
  have hk := congrArg List.length (kinds_expand h.rise h.pos)
  rw [List.length_map] at hk
  have hl := h.len
  unfold fullN longB
  rw [put_len h.rise h.pos, put_any h.rise h.pos, any_good h, hk]
  generalize (expand cs).count n = m at *
  rw [← hc]
  by_cases hm : m = 0
  · subst hm
    by_cases h64 : 64 ≤ cs.length
    · simp [h64]; omega
    · simp [h64]; omega
  · have hm' : ¬ ((m : Int) = 0) := by omega
    rw [if_neg hm']
    by_cases h255 : 255 ≤ m
    · simp [h255, hm]; omega
    · simp [h255, hm]; omega
/-- More: the errors. -/
theorem more_err {cs : List (Int × Int)} {n : Int} (h : Good cs) : rmoreE (expand cs) n = moreE cs n := by
  unfold rmoreE moreE fromE
  rw [bad_may, full_long h]
  cases mayN n <;> rfl
/-- More: the lists. -/
theorem more_list {cs : List (Int × Int)} {n : Int} (h : Good cs) (he : moreE cs n = 0) : rmoreL (expand cs) n = expand (moreL cs n) := by
  unfold moreE fromE at he
  unfold rmoreL moreL fromL
  rw [bad_may, full_long h]
  cases hm : mayN n with
  | false => rw [hm] at he; cases he
  | true =>
    rw [hm] at he
    cases hl : longB (mrg cs [(n, 1)]) with
    | true => rw [hl] at he; cases he
    | false => simp [expand_put h.rise h.pos]
theorem more_none {cs : List (Int × Int)} {n : Int} (he : moreE cs n ≠ 0) : moreL cs n = [] := by
  unfold moreE fromE at he
  unfold moreL fromL
  cases hm : mayN n with
  | false => rfl
  | true =>
    rw [hm] at he
    cases hl : longB (mrg cs [(n, 1)]) with
    | true => rfl
    | false => rw [hl] at he; exact absurd rfl he
/-- Numbers added one by one. -/
theorem add_all : ∀ {l : List Int} {cs : List (Int × Int)}, Good cs → raddAll (expand cs) l = ((addAll cs l).1, expand (addAll cs l).2)
  | [], _, _ => rfl
  | n :: r, cs, h => by
    rw [raddAll, addAll, more_err h]
    by_cases he : moreE cs n = 0
    · rw [if_pos he, if_pos he, more_list h he, add_all (good_more h)]
    · rw [if_neg he, if_neg he]; rfl
end Go.Proofs.YtjhcddlhhfjnaaaDoor
namespace Go.Proofs.YtjhcddlhhfjnaaaDoor
open Go.RowKit Go.Sort Go.Shelf
theorem many_ext : ∀ {a b : List (Int × Int)}, Rise a → Rise b → Pos a → Pos b → (∀ n, manyI a n = manyI b n) → a = b
  | [], [], _, _, _, _, _ => rfl
  | [], q :: s, _, _, _, hp, h => by
    have h1 := h q.1
    rw [many_at rfl] at h1
    have h2 := (pos_tail hp).1
    have h3 : manyI [] q.1 = 0 := rfl
    omega
  | p :: r, [], _, _, hp, _, h => by
    have h1 := h p.1
    rw [many_at rfl] at h1
    have h2 := (pos_tail hp).1
    have h3 : manyI [] p.1 = 0 := rfl
    omega
  | p :: r, q :: s, hr, hs, hp, hq, h => by
    obtain ⟨r1, r2⟩ := rise_tail hr
    obtain ⟨s1, s2⟩ := rise_tail hs
    obtain ⟨p1, p2⟩ := pos_tail hp
    obtain ⟨q1, q2⟩ := pos_tail hq
    rcases Int.lt_trichotomy p.1 q.1 with h0 | h0 | h0
    · have h1 := h p.1
      rw [many_at rfl, many_gt h0] at h1
      omega
    · have h1 := h p.1
      rw [many_at rfl, many_at h0.symm] at h1
      have e : p = q := Prod.ext h0 h1
      subst e
      congr 1
      refine many_ext r2 s2 p2 q2 (fun n => ?_)
      rcases Int.lt_trichotomy p.1 n with h2 | h2 | h2
      · have h3 := h n
        rw [many_lt h2, many_lt h2] at h3
        exact h3
      · rw [many_lo (fun x hx => by rw [← h2]; exact r1 x hx), many_lo (fun x hx => by rw [← h2]; exact s1 x hx)]
      · rw [many_lo (fun x hx => by have := r1 x hx; omega), many_lo (fun x hx => by have := s1 x hx; omega)]
    · have h1 := h q.1
      rw [many_at (p := q) rfl, many_gt h0] at h1
      omega
end Go.Proofs.YtjhcddlhhfjnaaaDoor
namespace Go.Proofs.YtjhcddlhhfjnaaaDoor
open Go.RowKit Go.Sort Go.Shelf
theorem expand_inj {cs ds : List (Int × Int)} (h : Good cs) (k : Good ds) (e : expand cs = expand ds) : cs = ds :=
  many_ext h.rise k.rise h.pos k.pos (fun n => by rw [← count_expand h.rise h.pos, ← count_expand k.rise k.pos, e])
/-- A plain list's bound. -/
theorem expand_bound {cs : List (Int × Int)} (h : Good cs) : (expand cs).length ≤ 20000 ∧ ∀ x ∈ expand cs, 1 ≤ x ∧ x ≤ 2147483647 := by
  refine ⟨?_, fun x hx => by
    obtain ⟨p, hp, rfl⟩ := expand_mem hx
    exact h.num p hp⟩
  have h1 := words_len cs (fun p hp => (h.times p hp).2)
  unfold wordsL at h1
  rw [List.length_map] at h1
  have := h.len
  omega
theorem num_any (k : Int) (w : World) : Calls Tryd.prog 16 #[.int .i64 k] w fun e w' => e = .returned (.int .i64 k) ∧ w = w' := by
  go_enter Tryd.func16, Tryd.ntmps16
  go_wp2
  go_ret
  exact ⟨rfl, rfl⟩
/-- The document's reading of a text, byte by byte. -/
def rclose (l : List Int) (n : Int) (d : Nat) : Option (List Int) :=
  if d = 0 then none else if n < 1 then none else if 2147483647 < n then none else match l.getLast? with
    | none => some (l ++ [n])
    | some m => if n < m then none else some (l ++ [n])
def rscan : List UInt8 → List Int → Int → Nat → Option (List Int)
  | [], l, n, d => rclose l n d
  | c :: r, l, n, d => if c = 32 then (match rclose l n d with
      | none => none
      | some l' => rscan r l' 0 0)
    else if c < 48 then none else if 57 < c then none else if c = 48 ∧ d = 0 then none else if 10 < d then none else rscan r l (10 * n + (c.toNat - 48 : Nat)) (d + 1)
/-- The document's Parse. -/
def rparse (s : List UInt8) : Int × List Int := if s = [] then (0, []) else match rscan s [] 0 0 with
  | none => (200, [])
  | some l => rnew l
end Go.Proofs.YtjhcddlhhfjnaaaDoor
