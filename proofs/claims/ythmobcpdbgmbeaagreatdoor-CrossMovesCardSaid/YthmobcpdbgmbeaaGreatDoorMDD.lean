/- The decimal text of a number in parts of nineteen digits; LeadingZeros64 of ten to the nineteenth; contract of what digits puts ahead. -/
import Derived.Test.YthmobcpdbgmbeaaGreatDoorMDA
import Derived.Test.YthmobcpdbgmbeaaGreatDoorBase
import Derived.Test.YthmobcpdbgmbeaaGreatDoorShelf
import Derived.Lib.AppendIntMem
import Derived.Lib.QuietBelow
import Derived.Test.YthmobcpdbgmbeaaGreatDoorI
import Derived.Deep.LoopGhost
namespace Go.Proofs.YthmobcpdbgmbeaaGreatDoor
open Go.RowKit Go.Sort Go.Lib
end Go.Proofs.YthmobcpdbgmbeaaGreatDoor
namespace Go.Proofs.YthmobcpdbgmbeaaGreatDoor
open Go.RowKit Go.Sort Go.Lib
theorem words_nought {m : Nat} (h : m < T256) : (((W64 m 0 : Nat) : Int) == 0 && (((W64 m 1 : Nat) : Int) == 0 && (((W64 m 2 : Nat) : Int) == 0 && ((W64 m 3 : Nat) : Int) == 0))) = decide (m = 0) := by
  have e : valW (nat4 (W64 m 0) (W64 m 1) (W64 m 2) (W64 m 3)) 4 = m := by
    have e : valW (nat4 (W64 m 0) (W64 m 1) (W64 m 2) (W64 m 3)) 4 = valW (W64 m) 4 := rfl
    rw [e, valW_W64, ← T256_w, Nat.mod_eq_of_lt h]
  have hz := zeroB_val (W64 m 0) (W64 m 1) (W64 m 2) (W64 m 3)
  rw [e] at hz
  rw [Bool.eq_iff_iff, decide_eq_true_iff, ← hz]
  simp [zeroB]
/-- What stands while digits are gathered: what is left of the number, the text so far. -/
def GS (w : World) (q : Nat) (X : List UInt8) (W : World) : Prop :=
  Row W w.heap.size [.int .u64 (W64 q 0 : Nat), .int .u64 (W64 q 1 : Nat), .int .u64 (W64 q 2 : Nat), .int .u64 (W64 q 3 : Nat)] ∧ Row W (w.heap.size + 1) [.string ⟨X.toArray⟩] ∧ Below w.heap.size w W
theorem GS.after {w W W1 : World} {q : Nat} {X : List UInt8} (h : GS w q X W) (hb : Below W.heap.size W W1) : GS w q X W1 := ⟨h.1.after hb, h.2.1.after hb, h.2.2.trans (hb.mono h.2.2.size)⟩
theorem GS.alloc {w W : World} {q : Nat} {X : List UInt8} (h : GS w q X W) (o : Obj) : GS w q X (W.alloc o) := h.after ((Below.refl _ _).alloc (Nat.le_refl _) _)
end Go.Proofs.YthmobcpdbgmbeaaGreatDoor
namespace Go.Proofs.YthmobcpdbgmbeaaGreatDoor
open Go.RowKit Go.Sort Go.Lib
end Go.Proofs.YthmobcpdbgmbeaaGreatDoor
