import Derived.Test.YtongeeggaigepaaGreatDoorZKkSD
import Derived.Deep.CutBlock
import Derived.Test.YtongeeggaigepaaGreatDoorZKkRI
namespace Go.Proofs.YtongeeggaigepaaGreatDoor
open Go.RowKit
section
variable {w W W1 : World} {L F : List (Nat × Array Value)}
end
def KR (w : World) (X : Nat) (L : List (Nat × Nat × Array Value)) (o n : Nat) (W : World) : Prop :=
 (∀ p, p ∈ L → p.1 < W.heap.size ∧ W.rangeAt p.1 p.2.1 p.2.2.toList ∧ (p.1 ≠ X ∨ p.2.1 + p.2.2.size ≤ o ∨ o + n ≤ p.2.1)) ∧ (X < W.heap.size ∧ W.there X 0 10 ∧ o + n ≤ 10) ∧ KB w.heap.size X w W
section
variable {w W W1 : World} {X o n : Nat} {L : List (Nat × Nat × Array Value)}
end
section
variable {w0 W W1 : World} {L : List (Nat × Array Value)} {ga gb : Int} {listed : Array Bool} {a : Act}
end
theorem noDst_spec {ops : Array Oper} {t : Nat} (h : (ops.all fun o => o.dst != some t) = true) (i : Nat) (o : Oper) (hi : ops[i]? = some o) : o.dst ≠ some t := by
 have := Array.all_eq_true_iff_forall_mem.1 h o (Array.mem_of_getElem? hi)
 simpa using this
section
variable {V W W1 : World} {X o S : Nat} {L : List (Nat × Nat × Array Value)} {old new : Int} {cs : List Value} {listed : Array Bool} {a : Act}
end
end Go.Proofs.YtongeeggaigepaaGreatDoor

namespace Go.Proofs.YtongeeggaigepaaGreatDoor
open Go.RowKit
section
variable {w0 W W1 : World} {B : Nat} {o1 n1 o2 n2 : Int} {listed : Array Bool}
end
end Go.Proofs.YtongeeggaigepaaGreatDoor

namespace Go.Proofs.YtongeeggaigepaaGreatDoor
open Go.RowKit
section
variable {w0 W W1 : World} {L : List (Nat × Array Value)} {i s p i' s' p' : Nat} {z r z' r' : Array Value} {listed : Array Bool} {a : Act}
end
end Go.Proofs.YtongeeggaigepaaGreatDoor
