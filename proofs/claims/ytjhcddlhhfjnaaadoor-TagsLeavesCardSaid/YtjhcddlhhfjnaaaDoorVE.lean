/- The document's With over plain lists. -/
import Derived.Test.YtjhcddlhhfjnaaaDoorVC
import Derived.Deep.RegionHeld3
namespace Go.Proofs.YtjhcddlhhfjnaaaDoor
open Go.RowKit Go.Sort
/-- Numbers added one by one to a list: the first error, or the list. -/
def raddAll (t : List Int) : List Int → Int × List Int
  | [] => (0, t)
  | n :: r => if rmoreE t n = 0 then raddAll (rmoreL t n) r else (rmoreE t n, [])
theorem insL_len (n : Int) : ∀ l : List Int, (insL n l).length = l.length + 1
  | [] => rfl
  | x :: r => by
    rw [insL]
    split
    · rfl
    · simp [insL_len n r]
theorem rmoreL_len (l : List Int) (n : Int) : (rmoreL l n).length ≤ l.length + 1 := by
  unfold rmoreL
  split
  · omega
  · split
    · omega
    · rw [insL_len]; omega
def KW (W0 W : World) : Prop := Below W0.heap.size W0 W
theorem KW.drew {W0 W : World} (h : KW W0 W) : KW W0 W.drew := Below.drew h
theorem KW.alloc {W0 W : World} (h : KW W0 W) (o : Obj) : KW W0 (W.alloc o) := Below.alloc h h.size o
theorem KW.size {W0 W : World} (h : KW W0 W) : W0.heap.size ≤ W.heap.size := Below.size h
theorem KW.put {W0 W : World} {b : Nat} (h : KW W0 W) (hb : W0.heap.size ≤ b) (v : Value) : KW W0 (W.setCell ⟨b, 0, none⟩ v) := below_put1 h hb 0 v
theorem KW.after {W0 W W1 : World} (h : KW W0 W) (hb : Below W.heap.size W W1) : KW W0 W1 := Below.trans h (hb.mono h.size)
end Go.Proofs.YtjhcddlhhfjnaaaDoor
