/- Contract of package limb's Small and Of by the number's value; no condition but that words are words. -/
import Derived.Test.YthmobcpdbgmbeaaGreatDoorMY
import Derived.Test.YthmobcpdbgmbeaaGreatDoorBase
import Derived.Laws.StructEq
import Derived.Deep.RegionHeld3
import Derived.IntWalk
namespace Go.Proofs.YthmobcpdbgmbeaaGreatDoor
open Go.RowKit
theorem ofW_abs (n : Int) (h1 : -9223372036854775808 ≤ n) (h2 : n ≤ 9223372036854775807) : ofW n = (n.natAbs : Int) := by
  unfold ofW
  simp only [IntKind.wrap_u64]
  split <;> omega
theorem W64_small (m : Nat) (h : m < 18446744073709551616) : W64 m 0 = m ∧ W64 m 1 = 0 ∧ W64 m 2 = 0 ∧ W64 m 3 = 0 := by
  refine ⟨by unfold W64; simp; omega, ?_, ?_, ?_⟩
  · unfold W64; rw [Nat.div_eq_of_lt (by simpa using h)]
  · unfold W64; rw [Nat.div_eq_of_lt (Nat.lt_of_lt_of_le h (by decide))]
  · unfold W64; rw [Nat.div_eq_of_lt (Nat.lt_of_lt_of_le h (by decide))]
theorem ivz_small (n : Int) (h1 : -9223372036854775808 ≤ n) (h2 : n ≤ 9223372036854775807) : ivz n = iv (decide (n < 0)) (ofW n) 0 0 0 := by
  obtain ⟨e0, e1, e2, e3⟩ := W64_small n.natAbs (by omega)
  unfold ivz
  rw [e0, e1, e2, e3, ofW_abs n h1 h2]
  rfl
/-- The first new block holds a row, and the old blocks are as they were. -/
def RB (w : World) (vs : List Value) (W : World) : Prop := Row W w.heap.size vs ∧ Below w.heap.size w W
theorem RB.after {w W W1 : World} {vs : List Value} (h : RB w vs W) (hb : Below W.heap.size W W1) : RB w vs W1 := ⟨h.1.after hb, h.2.trans (hb.mono h.2.size)⟩
theorem RB.drew {w W : World} {vs : List Value} (h : RB w vs W) : RB w vs W.drew := ⟨h.1.drew, h.2.drew⟩
theorem RB.new (w : World) (vs : List Value) (t : TypeId) : RB w vs (w.alloc (.cells vs.toArray t)) := ⟨Row.new w vs t, (Below.refl _ _).alloc (Nat.le_refl _) _⟩
theorem RB.c {w W : World} {vs : List Value} (h : RB w vs W) (i : Nat) {v : Value} (hv : vs[i]? = some v) : W.cell? ⟨w.heap.size, i, none⟩ = some v := h.1.c i hv
end Go.Proofs.YthmobcpdbgmbeaaGreatDoor
