/- The order of all ways as a whole, sorted arms of one quarter: the mathematics of circleOf and of the document's Sort; no program. -/
import Derived.Test.YtfdofajknnocfaaNW
import Derived.Test.YtfdofajknnocfaaNX
namespace Go.Proofs.Ytfdofajknnocfaa
open Go
namespace Ins

/-- A way that may be: itself; another one: the way to the right. -/
noncomputable def nrm (p : Int × Int) : Int × Int := open Classical in if Rnd.Ok p.1 p.2 then p else (1, 0)
theorem nrm_ok (p : Int × Int) : Rnd.Ok (nrm p).1 (nrm p).2 := by
  unfold nrm
  by_cases h : Rnd.Ok p.1 p.2
  · rw [if_pos h]; exact h
  · rw [if_neg h]
    exact ⟨Or.inl (by decide), ⟨by decide, by decide⟩, ⟨by decide, by decide⟩⟩
theorem nrm_id {p : Int × Int} (h : Rnd.Ok p.1 p.2) : nrm p = p := by unfold nrm; rw [if_pos h]
/-- Ahead, by the order of ways. -/
noncomputable def ltT (p q : Int × Int) : Bool := decide (ordA (nrm p).1 (nrm p).2 (nrm q).1 (nrm q).2 < 0)
theorem ltT_ord : Ord ltT := by
  refine ⟨fun x y h => ?_, fun x y z h => ?_⟩
  · unfold ltT at h ⊢
    rw [decide_eq_true_iff] at h
    rw [decide_eq_false_iff_not, Rnd.ord_flip (nrm_ok x) (nrm_ok y)]
    omega
  · unfold ltT at h ⊢
    rw [decide_eq_true_iff] at h ⊢
    rw [decide_eq_true_iff]
    have t := (Rnd.ord_trans (nrm_ok x) (nrm_ok y) (nrm_ok z)).2
    rcases Int.lt_or_le (ordA (nrm x).1 (nrm x).2 (nrm y).1 (nrm y).2) 0 with k | k
    · exact Or.inl k
    · rcases Int.lt_or_le (ordA (nrm y).1 (nrm y).2 (nrm z).1 (nrm z).2) 0 with k' | k'
      · exact Or.inr k'
      · have := t k k'; omega
def OkP (p : Int × Int) : Prop := Rnd.Ok p.1 p.2
theorem ltR_ltT {p q : Int × Int} (hp : OkP p) (hq : OkP q) : ltR p q = ltT p q := by
  unfold ltR ltT
  rw [nrm_id hp, nrm_id hq, Rnd.ord_ref hp hq]
theorem ltA_ltT {p q : Int × Int} (hp : OkP p) (hq : OkP q) (h : quart p.1 p.2 = quart q.1 q.2) : Go.Proofs.ltOf cfA p q = ltT p q := by
  unfold Go.Proofs.ltOf ltT cfA
  rw [nrm_id hp, nrm_id hq, ordA, ordW, if_pos (by rw [h]; simp [cmpI])]
noncomputable def keyT (p : Int × Int) : Nat := (quart (nrm p).1 (nrm p).2).toNat
theorem keyT_lt (p : Int × Int) : keyT p < 4 := by
  have := Rnd.quart_bd (nrm_ok p).1
  unfold keyT; omega
theorem key_lt (p q : Int × Int) (h : keyT p < keyT q) : ltT p q = true := by
  have h1 := Rnd.quart_bd (nrm_ok p).1
  have h2 := Rnd.quart_bd (nrm_ok q).1
  have ho := Rnd.ord_cases (nrm_ok p).1 (nrm_ok q).1 (nrm_ok p).2.1 (nrm_ok p).2.2 (nrm_ok q).2.1 (nrm_ok q).2.2
  unfold keyT at h
  unfold ltT
  rw [decide_eq_true_iff]
  omega
/-- **The document's Sort, by quarters.** -/
theorem sort_parts (ws : List (Int × Int)) (h : ∀ p, p ∈ ws → OkP p) (key : (Int × Int) → Nat) (hk : ∀ p, OkP p → key p = keyT p) :
    srt ltR ws = srt ltT (ws.filter fun p => key p == 0) ++ srt ltT (ws.filter fun p => key p == 1) ++ srt ltT (ws.filter fun p => key p == 2) ++ srt ltT (ws.filter fun p => key p == 3) := by
  have e : srt ltR ws = srt ltT ws := srt_congr OkP (fun x y hx hy => ltR_ltT hx hy) ws [] h (fun x hx => by cases hx)
  have f : ∀ k, ws.filter (fun p => key p == k) = ws.filter (fun p => keyT p == k) := fun k => List.filter_congr fun p hp => by rw [hk p (h p hp)]
  rw [e, f 0, f 1, f 2, f 3]
  exact srt_class ltT_ord keyT key_lt ws keyT_lt
section
variable {α : Type} [Inhabited α] {lt lt' : α → α → Bool}
theorem get_mem {d : Array α} {i : Nat} (h : i < d.size) : d[i]! ∈ d.toList := by
  rw [getElem!_pos d i h]; simp
theorem swp_mem {d : Array α} {i j : Nat} (hi : i < d.size) (hj : j < d.size) {x : α} (h : x ∈ (Sort.swp d i j).toList) : x ∈ d.toList := by
  unfold Sort.swp at h
  rw [Array.toList_setIfInBounds, Array.toList_setIfInBounds] at h
  rcases List.mem_or_eq_of_mem_set h with h | rfl
  · rcases List.mem_or_eq_of_mem_set h with h | rfl
    · exact h
    · exact get_mem hj
  · exact get_mem hi
theorem swp_size (d : Array α) (i j : Nat) : (Sort.swp d i j).size = d.size := by simp [Sort.swp]
theorem inner_congr : ∀ (i : Nat) (d : Array α), i < d.size → (∀ x y, x ∈ d.toList → y ∈ d.toList → lt x y = lt' x y) → Sort.insInner lt 0 i d = Sort.insInner lt' 0 i d ∧ ((Sort.insInner lt 0 i d).size = d.size ∧ ∀ x, x ∈ (Sort.insInner lt 0 i d).toList → x ∈ d.toList)
  | 0, d, _, _ => ⟨rfl, rfl, fun _ h => h⟩
  | i + 1, d, hi, h => by
    rw [Sort.insInner, Sort.insInner, h _ _ (get_mem hi) (get_mem (by omega))]
    split
    · have hm : ∀ x, x ∈ (Sort.swp d (i + 1) i).toList → x ∈ d.toList := fun x hx => swp_mem hi (by omega) hx
      obtain ⟨e, e1, e2⟩ := inner_congr i (Sort.swp d (i + 1) i) (by rw [swp_size]; omega) fun x y hx hy => h x y (hm x hx) (hm y hy)
      exact ⟨e, by rw [e1, swp_size], fun x hx => hm x (e2 x hx)⟩
    · exact ⟨rfl, rfl, fun _ h => h⟩
theorem outer_congr (n : Nat) : ∀ (k i : Nat) (d : Array α), n - i = k → n ≤ d.size → (∀ x y, x ∈ d.toList → y ∈ d.toList → lt x y = lt' x y) → Sort.insOuter lt 0 n i d = Sort.insOuter lt' 0 n i d
  | 0, i, d, hk, _, _ => by
    conv => lhs; rw [Sort.insOuter, if_neg (by omega)]
    conv => rhs; rw [Sort.insOuter, if_neg (by omega)]
  | k + 1, i, d, hk, hn, h => by
    conv => lhs; rw [Sort.insOuter, if_pos (by omega)]
    conv => rhs; rw [Sort.insOuter, if_pos (by omega)]
    obtain ⟨e, e1, e2⟩ := inner_congr i d (by omega) h
    rw [← e]
    exact outer_congr n k (i + 1) _ (by omega) (by omega) fun x y hx hy => h x y (e2 x hx) (e2 y hy)
theorem sort_congr (d : Array α) (h : ∀ x y, x ∈ d.toList → y ∈ d.toList → lt x y = lt' x y) : Sort.insertionSort lt d 0 d.size = Sort.insertionSort lt' d 0 d.size := outer_congr d.size _ _ d rfl (Nat.le_refl _) h
end
/-- **Arms of one quarter, sorted by the library.** -/
theorem sort_quarter (l : List (Int × Int)) (q : Int) (h : ∀ p, p ∈ l → OkP p ∧ quart p.1 p.2 = q) : (Sort.insertionSort (Go.Proofs.ltOf cfA) l.toArray 0 l.length).toList = srt ltT l := by
  have e := sort_congr (lt := Go.Proofs.ltOf cfA) (lt' := ltT) l.toArray fun x y hx hy => ltA_ltT (h x (by simpa using hx)).1 (h y (by simpa using hy)).1 ((h x (by simpa using hx)).2.trans (h y (by simpa using hy)).2.symm)
  have s := sort_srt ltT_ord l.toArray
  rw [← e] at s
  simpa using s
end Ins
end Go.Proofs.Ytfdofajknnocfaa
