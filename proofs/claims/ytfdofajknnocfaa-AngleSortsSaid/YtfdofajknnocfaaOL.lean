/- The pairs that Round goes over: quarter by quarter they are the whole's; pairs hands back its iterator. -/
import Derived.Test.YtfdofajknnocfaaOK
import Derived.RangeFuncNested
import Derived.RangeFuncLeaves
namespace Go.Proofs.Ytfdofajknnocfaa
open Go.RowKit Go.Sort

/-- Each way of a list with the one behind it, the last one with f. -/
def prs (f : Int × Int) : List (Int × Int) → List ((Int × Int) × (Int × Int))
  | [] => []
  | p :: r => (p, r.headD f) :: prs f r
theorem prs_len (f : Int × Int) : ∀ l, (prs f l).length = l.length
  | [] => rfl
  | _ :: r => by rw [prs, List.length_cons, List.length_cons, prs_len f r]
theorem headD_append (f : Int × Int) (l m : List (Int × Int)) : (l ++ m).headD f = l.headD (m.headD f) := by cases l <;> rfl
theorem prs_append (f : Int × Int) : ∀ l m, prs f (l ++ m) = prs (m.headD f) l ++ prs f m
  | [], _ => rfl
  | p :: r, m => by rw [List.cons_append, prs, prs, List.cons_append, headD_append, prs_append f r m]
theorem prs_get (f : Int × Int) : ∀ (l : List (Int × Int)) (i : Nat) (p : Int × Int), l[i]? = some p → (prs f l)[i]? = some (p, (l[i + 1]?).getD f)
  | [], i, p, h => by simp at h
  | q :: r, 0, p, h => by
    obtain rfl := Option.some.inj h
    cases r <;> rfl
  | q :: r, i + 1, p, h => by
    have := prs_get f r i p (by simpa using h)
    rw [prs]
    simpa using this
/-- The quarters' pairs behind each other are the whole's. -/
theorem prs_quarters (l0 l1 l2 l3 : List (Int × Int)) (f : Int × Int) :
    prs (l1.headD (l2.headD (l3.headD f))) l0 ++ prs (l2.headD (l3.headD f)) l1 ++ prs (l3.headD f) l2 ++ prs f l3 = prs f (l0 ++ l1 ++ l2 ++ l3) := by
  rw [prs_append, prs_append, prs_append]
/-- The whole's pairs at a place. -/
theorem prs_round (d : Int × Int) (S : List (Int × Int)) (i : Nat) (hi : i < S.length) : (prs (S.headD d) S)[i]? = some (S[i], S[(i + 1) % S.length]'(Nat.mod_lt _ (by omega))) := by
  rw [prs_get _ S i _ (List.getElem?_eq_getElem hi)]
  congr 2
  by_cases h : i + 1 < S.length
  · rw [List.getElem?_eq_getElem h, Option.getD_some]
    congr 1
    exact (Nat.mod_eq_of_lt h).symm
  · rw [List.getElem?_eq_none (by omega), Option.getD_none]
    have e : (i + 1) % S.length = 0 := by rw [show i + 1 = S.length by omega]; exact Nat.mod_self _
    match S, hi with
    | p :: r, _ => simp only [e]; rfl
set_option maxHeartbeats 6400000 in
set_option maxRecDepth 100000 in
/-- pairs hands back its iterator over a copy of the circle. -/
theorem pairs_any (A : Nat → Option Addr) (N cap : Nat → Nat) (q : Int) (w : World) :
    Calls Try.prog 55 #[circV A N cap, .int .i64 q] w fun e w' => ∃ C Q, e = .returned (.func (.func 59) #[] #[.pointer (some ⟨C, 0, none⟩), .pointer (some ⟨Q, 0, none⟩)]) ∧
      Row w' C [.slice (A 0) (N 0) (cap 0), .slice (A 1) (N 1) (cap 1), .slice (A 2) (N 2) (cap 2), .slice (A 3) (N 3) (cap 3)] ∧ Row w' Q [.int .i64 q] ∧ C ≠ Q ∧ w.heap.size ≤ C ∧ w.heap.size ≤ Q ∧ Below w.heap.size w w' := by
  have hmf : ∀ (fn : Fn) (first cap : Array Value) (w : World), (Instr.makeFunc fn first cap).run Try.prog w = .ok (.func fn first cap) w := fun _ _ _ _ => rfl
  unfold circV
  go_enter Try.func55, Try.ntmps55
  go_wp2
  go_ret
  exact ⟨_, _, rfl, (Row.new w _ _).alloc _, by simpa using Row.new (w.alloc _) _ _, by omega, Nat.le_refl _, by omega, ((Below.refl _ _).alloc (Nat.le_refl _) _).alloc (by simp) _⟩
end Go.Proofs.Ytfdofajknnocfaa
