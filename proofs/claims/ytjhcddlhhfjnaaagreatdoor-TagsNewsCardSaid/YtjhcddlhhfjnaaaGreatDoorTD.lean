/- Two rising lists of counts made one (pure). -/
import Derived.Test.YtjhcddlhhfjnaaaGreatDoorTC
namespace Go.Proofs.YtjhcddlhhfjnaaaGreatDoor

/-- What two rising lists of counts have together. -/
def mrg : List (Int × Int) → List (Int × Int) → List (Int × Int)
  | [], b => b
  | p :: a, [] => p :: a
  | p :: a, q :: b => if p.1 < q.1 then p :: mrg a (q :: b) else if q.1 < p.1 then q :: mrg (p :: a) b else if 0 < p.2 + q.2 then (p.1, p.2 + q.2) :: mrg a b else mrg a b
  termination_by a b => a.length + b.length
theorem mrg_nil_l (b : List (Int × Int)) : mrg [] b = b := by rw [mrg]
theorem mrg_nil_r (a : List (Int × Int)) : mrg a [] = a := by
  cases a <;> rw [mrg]
theorem mrg_lt {p q : Int × Int} {a b : List (Int × Int)} (h : p.1 < q.1) : mrg (p :: a) (q :: b) = p :: mrg a (q :: b) := by
  rw [mrg, if_pos h]
theorem mrg_gt {p q : Int × Int} {a b : List (Int × Int)} (h : q.1 < p.1) : mrg (p :: a) (q :: b) = q :: mrg (p :: a) b := by
  rw [mrg, if_neg (by omega), if_pos h]
theorem mrg_put {p q : Int × Int} {a b : List (Int × Int)} (h : p.1 = q.1) (h0 : 0 < p.2 + q.2) : mrg (p :: a) (q :: b) = (p.1, p.2 + q.2) :: mrg a b := by
  rw [mrg, if_neg (by omega), if_neg (by omega), if_pos h0]
theorem mrg_drop {p q : Int × Int} {a b : List (Int × Int)} (h : p.1 = q.1) (h0 : ¬ 0 < p.2 + q.2) : mrg (p :: a) (q :: b) = mrg a b := by
  rw [mrg, if_neg (by omega), if_neg (by omega), if_neg h0]
theorem mrg_end {a b : List (Int × Int)} (h : a = [] ∨ b = []) : mrg a b = a ++ b := by
  rcases h with rfl | rfl
  · rw [mrg_nil_l]; rfl
  · rw [mrg_nil_r, List.append_nil]
theorem mrg_len (a b : List (Int × Int)) : (mrg a b).length ≤ a.length + b.length := by
  fun_induction mrg a b <;> simp_all <;> omega
end Go.Proofs.YtjhcddlhhfjnaaaGreatDoor
