/- The document's reading, word by word: pure. A word's digits: the document's reading and strconv's. Pure. A good word, as both sides tell it. Pure. Parse: both sides agree. Pure. -/
import Derived.Test.YtjhcddlhhfjnaaaGreatDoorVL
import Derived.Test.YtjhcddlhhfjnaaaGreatDoorUD
import Derived.Lib.ItoaMem
namespace Go.Proofs.YtjhcddlhhfjnaaaGreatDoor
open Go.RowKit Go.Sort Go.Shelf

/-- The digits of a word. -/
def rdig : List UInt8 → Int → Nat → Option (Int × Nat)
  | [], n, d => some (n, d)
  | c :: r, n, d => if c < 48 then none else if 57 < c then none else if c = 48 ∧ d = 0 then none else if 10 < d then none else rdig r (10 * n + (c.toNat - 48 : Nat)) (d + 1)
def rword (l : List Int) (n : Int) (d : Nat) (u : List UInt8) : Option (List Int) := match rdig u n d with
  | none => none
  | some p => rclose l p.1 p.2
def rwords : List (List UInt8) → List Int → Option (List Int)
  | [], l => some l
  | u :: us, l => match rword l 0 0 u with
    | none => none
    | some l' => rwords us l'
def rfrom (l : List Int) (n : Int) (d : Nat) : List (List UInt8) → Option (List Int)
  | [] => none
  | u :: us => match rword l n d u with
    | none => none
    | some l' => rwords us l'
theorem rfrom_words (l : List Int) {us : List (List UInt8)} (h : us ≠ []) : rfrom l 0 0 us = rwords us l := by
  cases us with
  | nil => exact absurd rfl h
  | cons u us => rfl
theorem rword_cons (l : List Int) (n : Int) (d : Nat) (c : UInt8) (u : List UInt8) : rword l n d (c :: u) =
    if c < 48 then none else if 57 < c then none else if c = 48 ∧ d = 0 then none else if 10 < d then none else rword l (10 * n + (c.toNat - 48 : Nat)) (d + 1) u := by
  unfold rword
  rw [rdig]
  by_cases h1 : c < 48
  · rw [if_pos h1, if_pos h1]
  · rw [if_neg h1, if_neg h1]
    by_cases h2 : 57 < c
    · rw [if_pos h2, if_pos h2]
    · rw [if_neg h2, if_neg h2]
      by_cases h3 : c = 48 ∧ d = 0
      · rw [if_pos h3, if_pos h3]
      · rw [if_neg h3, if_neg h3]
        by_cases h4 : 10 < d
        · rw [if_pos h4, if_pos h4]
        · rw [if_neg h4, if_neg h4]
theorem rscan_from : ∀ (s : List UInt8) (l : List Int) (n : Int) (d : Nat), rscan s l n d = rfrom l n d (splitB s)
  | [], l, n, d => by
    show rclose l n d = match rclose l n d with | none => none | some l' => some l'
    cases rclose l n d <;> rfl
  | c :: r, l, n, d => by
    rw [rscan, splitB]
    by_cases h : c = 32
    · rw [if_pos h, if_pos h]
      show _ = match rclose l n d with | none => none | some l' => rwords (splitB r) l'
      cases rclose l n d with
      | none => rfl
      | some l' =>
        show rscan r l' 0 0 = _
        rw [rscan_from r l' 0 0, rfrom_words _ (splitB_ne r)]
    · rw [if_neg h, if_neg h, rscan_from r l]
      cases hs : splitB r with
      | nil => exact absurd hs (splitB_ne r)
      | cons u us =>
        show _ = match rword l n d (c :: u) with | none => none | some l' => rwords us l'
        rw [rword_cons]
        by_cases h1 : c < 48
        · rw [if_pos h1, if_pos h1]
        · rw [if_neg h1, if_neg h1]
          by_cases h2 : 57 < c
          · rw [if_pos h2, if_pos h2]
          · rw [if_neg h2, if_neg h2]
            by_cases h3 : c = 48 ∧ d = 0
            · rw [if_pos h3, if_pos h3]
            · rw [if_neg h3, if_neg h3]
              by_cases h4 : 10 < d
              · rw [if_pos h4, if_pos h4]
              · rw [if_neg h4, if_neg h4]; rfl
theorem rscan_words (s : List UInt8) : rscan s [] 0 0 = rwords (splitB s) [] := by
  rw [rscan_from, rfrom_words _ (splitB_ne s)]
end Go.Proofs.YtjhcddlhhfjnaaaGreatDoor
namespace Go.Proofs.YtjhcddlhhfjnaaaGreatDoor
open Go.RowKit Go.Sort Go.Shelf

theorem dec_small {m : Nat} (h : m < 10) : Lib.decDigits m = [UInt8.ofNat (48 + m)] := by rw [Lib.decDigits, dif_pos h]
theorem dec_more {m x : Nat} (h : 1 ≤ m) (hx : x < 10) : Lib.decDigits (10 * m + x) = Lib.decDigits m ++ [UInt8.ofNat (48 + x)] := by
  rw [Lib.decDigits, dif_neg (by omega), show (10 * m + x) / 10 = m by omega, show (10 * m + x) % 10 = x by omega]
theorem dig_byte {c : UInt8} (h1 : ¬ c < 48) (h2 : ¬ 57 < c) : c.toNat - 48 < 10 ∧ UInt8.ofNat (48 + (c.toNat - 48)) = c := by
  have a : ¬ c.toNat < 48 := fun h => h1 (UInt8.lt_iff_toNat_lt.2 h)
  have b : ¬ 57 < c.toNat := fun h => h2 (UInt8.lt_iff_toNat_lt.2 h)
  refine ⟨by omega, ?_⟩
  rw [show 48 + (c.toNat - 48) = c.toNat by omega]
  exact UInt8.ofNat_toNat
theorem rdig_go : ∀ {u : List UInt8} {m d : Nat} {v : Int} {d' : Nat}, 1 ≤ m → rdig u m d = some (v, d') → ∃ m' : Nat, v = m' ∧ 1 ≤ m' ∧ Lib.decDigits m' = Lib.decDigits m ++ u
  | [], m, d, v, d', hm, h => by
    rw [rdig] at h
    cases h
    exact ⟨m, rfl, hm, by simp⟩
  | c :: r, m, d, v, d', hm, h => by
    rw [rdig] at h
    split at h
    · cases h
    · split at h
      · cases h
      · split at h
        · cases h
        · split at h
          · cases h
          · rename_i h1 h2 _ _
            obtain ⟨hx, hc⟩ := dig_byte h1 h2
            rw [show 10 * (m : Int) + ((c.toNat - 48 : Nat) : Int) = ((10 * m + (c.toNat - 48) : Nat) : Int) by omega] at h
            obtain ⟨m', e1, e2, e3⟩ := rdig_go (by omega) h
            refine ⟨m', e1, e2, ?_⟩
            rw [e3, dec_more hm hx, hc]; simp
/-- What the document reads is a number's text. -/
theorem rdig_text {u : List UInt8} {v : Int} {d : Nat} (h : rdig u 0 0 = some (v, d)) (hd : d ≠ 0) : ∃ m : Nat, v = m ∧ 1 ≤ m ∧ u = Lib.decDigits m := by
  cases u with
  | nil => rw [rdig] at h; cases h; exact absurd rfl hd
  | cons c r =>
    rw [rdig] at h
    split at h
    · cases h
    · split at h
      · cases h
      · split at h
        · cases h
        · split at h
          · cases h
          · rename_i h1 h2 h3 _
            obtain ⟨hx, hc⟩ := dig_byte h1 h2
            have hn : ¬ c.toNat = 48 := fun e => h3 ⟨UInt8.toNat_inj.1 (by rw [e]; rfl), rfl⟩
            have a : ¬ c.toNat < 48 := fun h => h1 (UInt8.lt_iff_toNat_lt.2 h)
            rw [show 10 * (0 : Int) + ((c.toNat - 48 : Nat) : Int) = ((c.toNat - 48 : Nat) : Int) by omega] at h
            obtain ⟨m', e1, e2, e3⟩ := rdig_go (by omega) h
            refine ⟨m', e1, e2, ?_⟩
            rw [e3, dec_small hx, hc]; rfl
theorem byte_of {x : Nat} (h : x < 10) : ¬ UInt8.ofNat (48 + x) < 48 ∧ ¬ 57 < UInt8.ofNat (48 + x) ∧ (UInt8.ofNat (48 + x)).toNat = 48 + x := by
  have : x = 0 ∨ x = 1 ∨ x = 2 ∨ x = 3 ∨ x = 4 ∨ x = 5 ∨ x = 6 ∨ x = 7 ∨ x = 8 ∨ x = 9 := by omega
  rcases this with rfl | rfl | rfl | rfl | rfl | rfl | rfl | rfl | rfl | rfl <;> decide
/-- A number's text is what the document reads. -/
theorem rdig_dec : ∀ (m : Nat) (u : List UInt8), 1 ≤ m → Lib.nDigits m ≤ 11 → rdig (Lib.decDigits m ++ u) 0 0 = rdig u m (Lib.nDigits m) := by
  intro m
  induction m using Nat.strongRecOn with
  | _ m ih =>
    intro u hm hd
    by_cases h : m < 10
    · obtain ⟨b1, b2, b3⟩ := byte_of h
      rw [dec_small h, Lib.nDigits_small h, List.cons_append, List.nil_append, rdig, if_neg b1, if_neg b2, if_neg (fun e => by
        have := congrArg UInt8.toNat e.1
        rw [b3] at this
        have e2 : (48 : UInt8).toNat = 48 := rfl
        omega), if_neg (by omega), b3]
      congr 1
      omega
    · obtain ⟨b1, b2, b3⟩ := byte_of (x := m % 10) (by omega)
      rw [Lib.nDigits_big h] at hd ⊢
      have hp := Lib.nDigits_pos (m / 10)
      rw [Lib.decDigits, dif_neg h, List.append_assoc, ih (m / 10) (by omega) _ (by omega) (by omega), List.cons_append, List.nil_append, rdig, if_neg b1, if_neg b2, if_neg (fun e => by omega), if_neg (by omega), b3]
      congr 1
      omega
end Go.Proofs.YtjhcddlhhfjnaaaGreatDoor
namespace Go.Proofs.YtjhcddlhhfjnaaaGreatDoor
open Go.RowKit Go.Sort Go.Shelf

theorem parse_dec : ∀ (m : Nat) (u : List UInt8), m ≤ 4294967296 → Lib.parseUintM (2 ^ 64 - 1) 0 (Lib.decDigits m ++ u) = Lib.parseUintM (2 ^ 64 - 1) m u := by
  intro m
  induction m using Nat.strongRecOn with
  | _ m ih =>
    intro u hm
    by_cases h : m < 10
    · obtain ⟨b1, b2, b3⟩ := byte_of h
      rw [dec_small h, List.cons_append, List.nil_append, Lib.parseUintM, b3, if_pos (by omega), if_neg (by omega), if_neg (by omega)]
      congr 1
      omega
    · obtain ⟨b1, b2, b3⟩ := byte_of (x := m % 10) (by omega)
      rw [Lib.decDigits, dif_neg h, List.append_assoc, ih (m / 10) (by omega) _ (by omega), List.cons_append, List.nil_append, Lib.parseUintM, b3, if_pos (by omega), if_neg (by omega), if_neg (by omega)]
      congr 1
      omega
theorem dec_head : ∀ m : Nat, ∃ c r, Lib.decDigits m = c :: r ∧ 48 ≤ c.toNat := by
  intro m
  induction m using Nat.strongRecOn with
  | _ m ih =>
    by_cases h : m < 10
    · obtain ⟨b1, b2, b3⟩ := byte_of h
      exact ⟨_, _, dec_small h, by omega⟩
    · obtain ⟨c, r, e, hc⟩ := ih (m / 10) (by omega)
      refine ⟨c, r ++ [UInt8.ofNat (48 + m % 10)], ?_, hc⟩
      rw [Lib.decDigits, dif_neg h, e]; rfl
theorem parse_text {m : Nat} (h : m ≤ 4294967296) : Lib.parseIntB 64 (Lib.decDigits m) = .ok (m : Int) := by
  obtain ⟨c, r, e, hc⟩ := dec_head m
  have hp := parse_dec m [] h
  rw [List.append_nil] at hp
  have hu : Lib.parseUintB 64 (Lib.decDigits m) = .ok m := by
    unfold Lib.parseUintB
    rw [if_neg (by rw [e]; simp), hp, Lib.parseUintM]
  rw [e] at hu ⊢
  unfold Lib.parseIntB
  simp only []
  rw [if_neg (by omega), hu]
  simp only []
  rw [if_neg (by omega), if_neg (by omega), if_neg (by omega)]
theorem digits_few {m : Nat} (h : m ≤ 2147483647) : Lib.nDigits m ≤ 11 := by
  have := Lib.itoa_length_le (m : Int) (by omega) (by omega)
  by_cases hk : Lib.nDigits m ≤ 11
  · exact hk
  · exfalso
    have h1 : 10 ^ 11 ≤ m := by
      have key : ∀ (k : Nat) (x : Nat), k + 1 ≤ Lib.nDigits x → 10 ^ k ≤ x ∨ x = 0 := by
        intro k
        induction k with
        | zero => intro x _; omega
        | succ k ih =>
          intro x hx
          by_cases hs : x < 10
          · rw [Lib.nDigits_small hs] at hx; omega
          · rw [Lib.nDigits_big hs] at hx
            rcases ih (x / 10) (by omega) with h2 | h2
            · left; rw [Nat.pow_succ]; omega
            · omega
      rcases key 11 m (by omega) with h2 | h2
      · exact h2
      · rw [h2, Lib.nDigits_small (by omega)] at hk; omega
    omega
theorem itoaB_nat (m : Nat) : (itoaB (m : Int)).data.toList = Lib.decDigits m := by
  show (Lib.itoa (m : Int)).toArray.toList = _
  rw [Lib.itoa_nonneg]
/-- What the document makes of a word. -/
def goodR (u : List UInt8) (least : Int) : Option Int := match rdig u 0 0 with
  | none => none
  | some p => if p.2 ≠ 0 ∧ 1 ≤ p.1 ∧ p.1 ≤ 2147483647 ∧ least ≤ p.1 then some p.1 else none
theorem good_word (u : List UInt8) (least : Int) : goodWord u least = goodR u least := by
  unfold goodR
  cases hr : rdig u 0 0 with
  | some p =>
    obtain ⟨v, d⟩ := p
    by_cases hd : d ≠ 0 ∧ 1 ≤ v ∧ v ≤ 2147483647 ∧ least ≤ v
    · obtain ⟨m, rfl, hm, rfl⟩ := rdig_text hr hd.1
      show goodWord _ _ = if _ then some (m : Int) else none
      rw [if_pos hd]
      unfold goodWord
      rw [parse_text (by omega)]
      simp only []
      rw [if_pos ⟨itoaB_nat m, may_iff.2 ⟨hd.2.1, hd.2.2.1⟩, hd.2.2.2⟩]
    · show goodWord u least = if d ≠ 0 ∧ 1 ≤ v ∧ v ≤ 2147483647 ∧ least ≤ v then some v else none
      rw [if_neg hd]
      unfold goodWord
      split
      · rename_i v' hp
        rw [if_neg (fun h => ?_)]
        obtain ⟨h1, h2, h3⟩ := h
        have h4 := may_iff.1 h2
        obtain ⟨m, rfl⟩ : ∃ m : Nat, v' = m := ⟨v'.toNat, by omega⟩
        rw [itoaB_nat] at h1
        have hq := rdig_dec m [] (by omega) (digits_few (by omega))
        rw [List.append_nil, h1, hr, rdig] at hq
        cases hq
        exact hd ⟨by have := Lib.nDigits_pos m; omega, h4.1, h4.2, h3⟩
      · rfl
  | none =>
    show goodWord u least = none
    unfold goodWord
    split
    · rename_i v' hp
      rw [if_neg (fun h => ?_)]
      obtain ⟨h1, h2, h3⟩ := h
      have h4 := may_iff.1 h2
      obtain ⟨m, rfl⟩ : ∃ m : Nat, v' = m := ⟨v'.toNat, by omega⟩
      rw [itoaB_nat] at h1
      have hq := rdig_dec m [] (by omega) (digits_few (by omega))
      rw [List.append_nil, h1, hr, rdig] at hq
      cases hq
    · rfl
end Go.Proofs.YtjhcddlhhfjnaaaGreatDoor
namespace Go.Proofs.YtjhcddlhhfjnaaaGreatDoor
open Go.RowKit Go.Sort Go.Shelf

def leastOf (l : List Int) : Int := match l.getLast? with
  | none => 1
  | some m => m
theorem least_snoc (l : List Int) (v : Int) : leastOf (l ++ [v]) = v := by
  unfold leastOf
  rw [List.getLast?_concat]
theorem close_least (l : List Int) (v : Int) (d : Nat) : rclose l v d = if d ≠ 0 ∧ 1 ≤ v ∧ v ≤ 2147483647 ∧ leastOf l ≤ v then some (l ++ [v]) else none := by
  unfold rclose leastOf
  by_cases h0 : d = 0
  · rw [if_pos h0, if_neg (fun h => h.1 h0)]
  · rw [if_neg h0]
    by_cases h1 : v < 1
    · rw [if_pos h1, if_neg (fun h => by omega)]
    · rw [if_neg h1]
      by_cases h2 : 2147483647 < v
      · rw [if_pos h2, if_neg (fun h => by omega)]
      · rw [if_neg h2]
        cases l.getLast? with
        | none =>
          show some (l ++ [v]) = if d ≠ 0 ∧ 1 ≤ v ∧ v ≤ 2147483647 ∧ (1 : Int) ≤ v then some (l ++ [v]) else none
          rw [if_pos ⟨h0, by omega, by omega, by omega⟩]
        | some m =>
          show (if v < m then none else some (l ++ [v])) = if d ≠ 0 ∧ 1 ≤ v ∧ v ≤ 2147483647 ∧ m ≤ v then some (l ++ [v]) else none
          by_cases h3 : v < m
          · rw [if_pos h3, if_neg (fun h => by omega)]
          · rw [if_neg h3, if_pos ⟨h0, by omega, by omega, by omega⟩]
theorem word_good (l : List Int) (u : List UInt8) : rword l 0 0 u = (goodWord u (leastOf l)).map (fun v => l ++ [v]) := by
  rw [good_word]
  unfold rword goodR
  cases rdig u 0 0 with
  | none => rfl
  | some p =>
    show rclose l p.1 p.2 = (if p.2 ≠ 0 ∧ 1 ≤ p.1 ∧ p.1 ≤ 2147483647 ∧ leastOf l ≤ p.1 then some p.1 else none).map _
    rw [close_least]
    split <;> rfl
theorem add_snoc (v : Int) : ∀ (l : List Int) (cs : List (Int × Int)), addAll cs (l ++ [v]) = if (addAll cs l).1 = 0 then (moreE (addAll cs l).2 v, moreL (addAll cs l).2 v) else addAll cs l
  | [], cs => by
    show (if moreE cs v = 0 then ((0 : Int), moreL cs v) else (moreE cs v, [])) = (moreE cs v, moreL cs v)
    by_cases h : moreE cs v = 0
    · rw [if_pos h, h]
    · rw [if_neg h, more_none h]
  | n :: r, cs => by
    rw [List.cons_append, addAll, addAll]
    by_cases h : moreE cs n = 0
    · rw [if_pos h, if_pos h]; exact add_snoc v r _
    · rw [if_neg h, if_neg h]
      show (moreE cs n, []) = if moreE cs n = 0 then _ else _
      rw [if_neg h]
def stOf (l : List Int) : RdT := (leastOf l, (addAll [] l).2, (addAll [] l).1)
theorem step_st (l : List Int) (x : ByteArray) : rdStep (stOf l) x = (goodWord x.data.toList (leastOf l)).map (fun v => stOf (l ++ [v])) := by
  unfold rdStep
  show (match goodWord x.data.toList (leastOf l) with | none => none | some v => if (addAll [] l).1 = 0 then some (v, moreL (addAll [] l).2 v, moreE (addAll [] l).2 v) else some (v, (addAll [] l).2, (addAll [] l).1)) = _
  cases goodWord x.data.toList (leastOf l) with
  | none => rfl
  | some v =>
    show (if (addAll [] l).1 = 0 then some (v, moreL (addAll [] l).2 v, moreE (addAll [] l).2 v) else some (v, (addAll [] l).2, (addAll [] l).1)) = some (stOf (l ++ [v]))
    unfold stOf
    rw [least_snoc, add_snoc]
    split <;> rfl
theorem all_words : ∀ (us : List ByteArray) (l : List Int), rdAll (stOf l) us = (rwords (us.map (fun x : ByteArray => x.data.toList)) l).map stOf
  | [], l => rfl
  | x :: us, l => by
    show (match rdStep (stOf l) x with | none => none | some st2 => rdAll st2 us) = (match rword l 0 0 x.data.toList with | none => none | some l' => rwords (us.map (fun x : ByteArray => x.data.toList)) l').map stOf
    rw [step_st, word_good]
    cases goodWord x.data.toList (leastOf l) with
    | none => rfl
    | some v => exact all_words us (l ++ [v])
theorem words_bytes (s : ByteArray) : (wordsB s).map (fun x : ByteArray => x.data.toList) = splitB s.data.toList := by
  unfold wordsB
  rw [List.map_map]
  conv => rhs; rw [← List.map_id (splitB s.data.toList)]
  apply List.map_congr_left
  intro u _
  simp
theorem words_may : ∀ (us : List (List UInt8)) (l m : List Int), (∀ x ∈ l, mayN x = true) → rwords us l = some m → ∀ x ∈ m, mayN x = true
  | [], l, m, hl, h => by cases h; exact hl
  | u :: us, l, m, hl, h => by
    have h' : (match rword l 0 0 u with | none => none | some l' => rwords us l') = some m := h
    rw [word_good, good_word] at h'
    cases hg : goodR u (leastOf l) with
    | none => rw [hg] at h'; cases h'
    | some v =>
      rw [hg] at h'
      refine words_may us (l ++ [v]) m (fun x hx => ?_) h'
      rcases List.mem_append.1 hx with hx | hx
      · exact hl x hx
      · obtain rfl := List.mem_singleton.1 hx
        unfold goodR at hg
        cases hr : rdig u 0 0 with
        | none => rw [hr] at hg; cases hg
        | some p =>
          rw [hr] at hg
          have hg' : (if p.2 ≠ 0 ∧ 1 ≤ p.1 ∧ p.1 ≤ 2147483647 ∧ leastOf l ≤ p.1 then some p.1 else none) = some x := hg
          split at hg'
          · rename_i hc
            cases hg'
            exact may_iff.2 ⟨hc.2.1, hc.2.2.1⟩
          · cases hg'
theorem add_none : ∀ (l : List Int) (cs : List (Int × Int)), (addAll cs l).1 ≠ 0 → (addAll cs l).2 = []
  | [], _, h => absurd rfl h
  | n :: r, cs, h => by
    rw [addAll] at h ⊢
    split at h
    · rename_i he; rw [if_pos he]; exact add_none r _ h
    · rename_i he; rw [if_neg he]
/-- Parse: the document's and the program's. -/
theorem parse_same (s : ByteArray) : rparse s.data.toList = (parseE s, expand (parseL s)) ∧ Good (parseL s) := by
  unfold rparse parseE parseL
  by_cases h0 : s = ⟨#[]⟩
  · subst h0
    exact ⟨rfl, Good.nil⟩
  · have hne : s.data.toList ≠ [] := fun h => h0 (Go.WideShapes.bytes_inj h)
    rw [if_neg hne, if_neg h0, if_neg h0, rscan_words]
    have ha := all_words (wordsB s) []
    rw [words_bytes] at ha
    have hs : stOf [] = (1, [], 0) := rfl
    rw [hs] at ha
    unfold readE readL
    rw [ha]
    cases hw : rwords (splitB s.data.toList) [] with
    | none => exact ⟨rfl, Good.nil⟩
    | some l =>
      have hm := words_may _ _ _ (fun x hx => (List.not_mem_nil hx).elim) hw
      have hb : l.any badN = false := by
        rw [List.any_eq_false]
        intro x hx
        rw [bad_may, hm x hx]; simp
      have hr : rnew l = ((addAll [] l).1, expand (addAll [] l).2) := by
        unfold rnew
        rw [if_neg (by rw [hb]; simp)]
        exact add_all (cs := []) Good.nil
      have hl : (if (addAll [] l).1 = 0 then (addAll [] l).2 else []) = (addAll [] l).2 := by
        by_cases he : (addAll [] l).1 = 0
        · rw [if_pos he]
        · rw [if_neg he, add_none _ _ he]
      show rnew l = ((addAll [] l).1, expand (if (addAll [] l).1 = 0 then (addAll [] l).2 else [])) ∧ Good (if (addAll [] l).1 = 0 then (addAll [] l).2 else [])
      rw [hl]
      exact ⟨hr, addAll_good Good.nil⟩
end Go.Proofs.YtjhcddlhhfjnaaaGreatDoor
