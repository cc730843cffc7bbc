/- Rows of blocks known together, as one closed predicate. -/
import Derived.Test.YtpbdhhdmnnelhaaDoorCI
namespace Go.Proofs.YtpbdhhdmnnelhaaDoor
open Go.RowKit

/-- The blocks of a list are known (closed). -/
def SL (w : World) (L : List (Nat × List Value)) (W : World) : Prop := RS w L W
/-- A block behind all of a list's. -/
def LB (w : World) (L : List (Nat × List Value)) (C : Nat) : Prop := w.heap.size ≤ C ∧ ∀ p, p ∈ L → p.1 < C
section
variable {w W W1 : World} {L : List (Nat × List Value)}
theorem SL.drew (h : SL w L W) : SL w L W.drew := RS.drew h
theorem SL.after (h : SL w L W) (hb : Below W.heap.size W W1) : SL w L W1 := RS.after h hb
theorem SL.alloc (h : SL w L W) (o : Obj) : SL w L (W.alloc o) := RS.after h ((Below.refl _ _).alloc (Nat.le_refl _) _)
theorem SL.c (h : SL w L W) (k : Nat) {b : Nat} {vs : List Value} (hk : L[k]? = some (b, vs)) (i : Nat) {v : Value} (hv : vs[i]? = some v) : W.cell? ⟨b, i, none⟩ = some v := RS.c h k hk i hv
theorem SL.lb (h : SL w L W) : LB w L W.heap.size := ⟨h.2.size, fun p hp => (h.1 p hp).lt⟩
theorem LB.more (h : LB w L W.heap.size) (hb : Below W.heap.size W W1) : LB w L W1.heap.size := ⟨Nat.le_trans h.1 hb.size, fun p hp => Nat.lt_of_lt_of_le (h.2 p hp) hb.size⟩
theorem LB.up {C D : Nat} (h : LB w L C) (hd : C ≤ D) : LB w L D := ⟨Nat.le_trans h.1 hd, fun p hp => Nat.lt_of_lt_of_le (h.2 p hp) hd⟩
theorem SL.put1 (h : SL w L W) {C : Nat} (hC : LB w L C) (i : Nat) (y : Value) : SL w L (W.setCell ⟨C, i, none⟩ y) :=
  ⟨fun p hp => (h.1 p hp).other (by have := hC.2 p hp; show C ≠ p.1; omega) _, below_put1 h.2 hC.1 _ _⟩
theorem SL.put5 (h : SL w L W) {C : Nat} (hC : LB w L C) (y0 y1 y2 y3 y4 : Value) :
    SL w L (((((W.setCell ⟨C, 0, none⟩ y0).setCell ⟨C, 1, none⟩ y1).setCell ⟨C, 2, none⟩ y2).setCell ⟨C, 3, none⟩ y3).setCell ⟨C, 4, none⟩ y4) :=
  ((((h.put1 hC 0 y0).put1 hC 1 y1).put1 hC 2 y2).put1 hC 3 y3).put1 hC 4 y4
theorem SL.put2 (h : SL w L W) {C : Nat} (hC : LB w L C) (y0 y1 : Value) : SL w L ((W.setCell ⟨C, 0, none⟩ y0).setCell ⟨C, 1, none⟩ y1) := (h.put1 hC 0 y0).put1 hC 1 y1
theorem SL.more (h : SL w L W) {C : Nat} {vs : List Value} (hr : Row W C vs) : SL w (L ++ [(C, vs)]) W :=
  ⟨fun p hp => by
    rcases List.mem_append.1 hp with h1 | h1
    · exact h.1 p h1
    · obtain rfl := List.mem_singleton.1 h1
      exact hr, h.2⟩
theorem SL.made (h : SL w L W) (us : List Value) (t : TypeId) : Hid (SL w (L ++ [(W.heap.size, us)]) (W.alloc (.cells us.toArray t))) := Lib.hid ((h.alloc _).more (Row.at rfl _ _))
theorem SL.laid (h : SL w L W) {C : Nat} {x0 x1 x2 x3 x4 : Value} (hr : Row W C [x0, x1, x2, x3, x4]) (hC : LB w L C) (y0 y1 y2 y3 y4 : Value) :
    Hid (SL w (L ++ [(C, [y0, y1, y2, y3, y4])]) (((((W.setCell ⟨C, 0, none⟩ y0).setCell ⟨C, 1, none⟩ y1).setCell ⟨C, 2, none⟩ y2).setCell ⟨C, 3, none⟩ y3).setCell ⟨C, 4, none⟩ y4)) :=
  Lib.hid ((h.put5 hC _ _ _ _ _).more (hr.put5 _ _ _ _ _))
end
end Go.Proofs.YtpbdhhdmnnelhaaDoor
