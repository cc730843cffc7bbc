import Derived.Test.YtongeeggaigepaaGreatDoorZKkZD
import Derived.Test.YtongeeggaigepaaGreatDoorZKkSC
import Derived.ScopeJumps
namespace Go.Proofs.YtongeeggaigepaaGreatDoor
open Go.RowKit Go.Sort
attribute [local go_sem] Oper.semAt_some

theorem KB.ofBelow' {B N : Nat} {a w : World} (h : Below B a w) : KB B N a w := ⟨h.os, h.tape, h.output, h.size, fun k hk _ => h.block k hk⟩
theorem one_round {α : Type} {pre : List α} {x y : α} (h : (pre ++ [x]) <+: [y]) : pre = [] ∧ x = y := by
 have hl := h.length_le
 have hp : pre = [] := List.eq_nil_of_length_eq_zero (by simpa using hl)
 subst hp
 have := h.eq_of_length rfl
 exact ⟨rfl, by simpa using this⟩
end Go.Proofs.YtongeeggaigepaaGreatDoor
