/- Contract of the document's Quo where both numbers are of few digits. -/
import Derived.Test.YthmobcpdbgmbeaaGreatDoorBG
import Derived.Test.YthmobcpdbgmbeaaGreatDoorE
import Derived.Test.YthmobcpdbgmbeaaGreatDoorCD
import Derived.Deep.RegionHeld3
import Derived.Deep.CutBlock
namespace Go.Proofs.YthmobcpdbgmbeaaGreatDoor
open Go.RowKit
theorem tdiv_sign (x y : Int) : x.tdiv y = (if (!(decide (x < 0) == decide (y < 0))) = true then -((x.natAbs / y.natAbs : Nat) : Int) else ((x.natAbs / y.natAbs : Nat) : Int)) := by
  rcases Int.natAbs_eq x with h | h <;> rcases Int.natAbs_eq y with k | k <;> generalize x.natAbs = m at * <;> generalize y.natAbs = n at * <;> subst h <;> subst k
  · simp [Int.not_lt.2 (Int.natCast_nonneg _)]
  · rcases Nat.eq_zero_or_pos n with rfl | hn
    · simp
    · have h1 : decide (-(n : Int) < 0) = true := decide_eq_true (by omega)
      have h2 : decide ((m : Int) < 0) = false := decide_eq_false (by omega)
      rw [h1, h2, Int.tdiv_neg]; rfl
  · rcases Nat.eq_zero_or_pos m with rfl | hm
    · simp
    · have h1 : decide (-(m : Int) < 0) = true := decide_eq_true (by omega)
      have h2 : decide ((n : Int) < 0) = false := decide_eq_false (by omega)
      rw [h1, h2, Int.neg_tdiv]; rfl
  · rcases Nat.eq_zero_or_pos m with rfl | hm
    · simp
    · rcases Nat.eq_zero_or_pos n with rfl | hn
      · simp
      · have h1 : decide (-(m : Int) < 0) = true := decide_eq_true (by omega)
        have h2 : decide (-(n : Int) < 0) = true := decide_eq_true (by omega)
        rw [h1, h2, Int.neg_tdiv, Int.tdiv_neg, Int.neg_neg]; rfl
theorem tmod_sign (x y : Int) : x.tmod y = (if decide (x < 0) = true then -((x.natAbs % y.natAbs : Nat) : Int) else ((x.natAbs % y.natAbs : Nat) : Int)) := by
  rcases Int.natAbs_eq x with h | h <;> rcases Int.natAbs_eq y with k | k <;> generalize x.natAbs = m at * <;> generalize y.natAbs = n at * <;> subst h <;> subst k
  · rw [if_neg (by simp)]; rfl
  · rw [if_neg (by simp), Int.tmod_neg]; rfl
  · rcases Nat.eq_zero_or_pos m with rfl | hm
    · simp
    · rw [if_pos (by simp; omega), Int.neg_tmod]; rfl
  · rcases Nat.eq_zero_or_pos m with rfl | hm
    · simp
    · rw [if_pos (by simp; omega), Int.neg_tmod, Int.tmod_neg]; rfl
theorem tdiv_abs (x y : Int) : (x.tdiv y).natAbs = x.natAbs / y.natAbs := by rw [tdiv_sign]; generalize x.natAbs / y.natAbs = q; split <;> omega
theorem tmod_abs (x y : Int) : (x.tmod y).natAbs = x.natAbs % y.natAbs := by rw [tmod_sign]; generalize x.natAbs % y.natAbs = q; split <;> omega
/-- What stands while Quo runs: the two boxes, the answers' places. -/
def QB (w : World) (xs ys us vs : List Value) (W : World) : Prop := Row W w.heap.size xs ∧ Row W (w.heap.size + 1) ys ∧ Row W (w.heap.size + 1 + 1) us ∧ Row W (w.heap.size + 1 + 1 + 1) vs ∧ Below w.heap.size w W
section
variable {w W W1 : World} {xs ys us vs : List Value}
theorem QB.after (h : QB w xs ys us vs W) (hb : Below W.heap.size W W1) : QB w xs ys us vs W1 :=
  ⟨h.1.after hb, h.2.1.after hb, h.2.2.1.after hb, h.2.2.2.1.after hb, h.2.2.2.2.trans (hb.mono h.2.2.2.2.size)⟩
theorem QB.drew (h : QB w xs ys us vs W) : QB w xs ys us vs W.drew := h.after (Below.refl _ _).drew
theorem QB.drewN (h : QB w xs ys us vs W) (k : Nat) : QB w xs ys us vs (W.drewN k) := h.after (below_drewN (Below.refl _ _) k)
theorem QB.alloc (h : QB w xs ys us vs W) (o : Obj) : QB w xs ys us vs (W.alloc o) := h.after ((Below.refl _ _).alloc (Nat.le_refl _) _)
theorem QB.first (w : World) (s t : Bool) (A B : Option Addr) (n m c d : Nat) (ta tb tc td : TypeId) :
    QB w [.bool s, .slice A n c] [.bool t, .slice B m d] [.bool false, .slice none 0 0] [.bool false, .slice none 0 0] ((((w.alloc (.cells #[.bool s, .slice A n c] ta)).alloc (.cells #[.bool t, .slice B m d] tb)).alloc (.cells #[.bool false, .slice none 0 0] tc)).alloc (.cells #[.bool false, .slice none 0 0] td)) :=
  ⟨(((Row.at rfl _ _).alloc _).alloc _).alloc _, ((Row.at (by simp) _ _).alloc _).alloc _, (Row.at (by simp) _ _).alloc _, Row.at (by simp) _ _, ((((Below.refl w.heap.size w).alloc (Nat.le_refl _) _).alloc (by simp) _).alloc (by simp; omega) _).alloc (by simp; omega) _⟩
theorem QB.put2 (h : QB w xs ys us vs W) {u0 u1 : Value} (hl : us.length = 2) : QB w xs ys [u0, u1] vs ((W.setCell ⟨w.heap.size + 1 + 1, 0, none⟩ u0).setCell ⟨w.heap.size + 1 + 1, 1, none⟩ u1) := by
  match us, hl with
  | [a, b], _ =>
    exact ⟨(h.1.other (p := ⟨w.heap.size + 1 + 1, 0, none⟩) (by show w.heap.size + 1 + 1 ≠ w.heap.size; omega) _).other (p := ⟨w.heap.size + 1 + 1, 1, none⟩) (by show w.heap.size + 1 + 1 ≠ w.heap.size; omega) _, (h.2.1.other (p := ⟨w.heap.size + 1 + 1, 0, none⟩) (by show w.heap.size + 1 + 1 ≠ w.heap.size + 1; omega) _).other (p := ⟨w.heap.size + 1 + 1, 1, none⟩) (by show w.heap.size + 1 + 1 ≠ w.heap.size + 1; omega) _,
      (h.2.2.1.set 0 (by simp) _).set 1 (by simp) _, (h.2.2.2.1.other (p := ⟨w.heap.size + 1 + 1, 0, none⟩) (by show w.heap.size + 1 + 1 ≠ w.heap.size + 1 + 1 + 1; omega) _).other (p := ⟨w.heap.size + 1 + 1, 1, none⟩) (by show w.heap.size + 1 + 1 ≠ w.heap.size + 1 + 1 + 1; omega) _, below_put1 (below_put1 h.2.2.2.2 (by omega) _ _) (by omega) _ _⟩
end
/-- The same, where the answers' places hold whatever. -/
def QS (w : World) (xs ys : List Value) (W : World) : Prop := ∃ us vs, us.length = 2 ∧ vs.length = 2 ∧ QB w xs ys us vs W
section
variable {w W W1 : World} {xs ys us vs : List Value}
theorem QS.after (h : QS w xs ys W) (hb : Below W.heap.size W W1) : QS w xs ys W1 := by
  obtain ⟨us, vs, h1, h2, h⟩ := h
  exact ⟨us, vs, h1, h2, h.after hb⟩
theorem QS.drew (h : QS w xs ys W) : QS w xs ys W.drew := h.after (Below.refl _ _).drew
theorem QS.drewN (h : QS w xs ys W) (k : Nat) : QS w xs ys (W.drewN k) := h.after (below_drewN (Below.refl _ _) k)
theorem QS.put2 (h : QS w xs ys W) (u0 u1 : Value) : QS w xs ys ((W.setCell ⟨w.heap.size + 1 + 1, 0, none⟩ u0).setCell ⟨w.heap.size + 1 + 1, 1, none⟩ u1) := by
  obtain ⟨us, vs, h1, h2, h⟩ := h
  exact ⟨_, vs, rfl, h2, h.put2 h1⟩
theorem Row.two {b : Nat} {us : List Value} (h : Row W b us) (hl : us.length = 2) (i : Nat) (hi : i < 2) : (W.cell? ⟨b, i, none⟩).isSome = true ∧ W.frozen? ⟨b, i, none⟩ = false := by
  match us, hl with
  | [x, y], _ =>
    match i, hi with
    | 0, _ => exact ⟨by rw [h.c 0 rfl]; rfl, h.f 0 rfl⟩
    | 1, _ => exact ⟨by rw [h.c 1 rfl]; rfl, h.f 1 rfl⟩
theorem QS.two (h : QS w xs ys W) (i : Nat) (hi : i < 2) : ((W.cell? ⟨w.heap.size + 1 + 1, i, none⟩).isSome = true ∧ W.frozen? ⟨w.heap.size + 1 + 1, i, none⟩ = false) ∧ ((W.cell? ⟨w.heap.size + 1 + 1 + 1, i, none⟩).isSome = true ∧ W.frozen? ⟨w.heap.size + 1 + 1 + 1, i, none⟩ = false) := by
  obtain ⟨us, vs, h1, h2, h⟩ := h
  exact ⟨h.2.2.1.two h1 i hi, h.2.2.2.1.two h2 i hi⟩
theorem QS.at (h : QS w xs ys W) : Row W w.heap.size xs ∧ Row W (w.heap.size + 1) ys := by
  obtain ⟨us, vs, h1, h2, h⟩ := h
  exact ⟨h.1, h.2.1⟩
end
theorem DS.put4 {w W : World} {xs ys : List Value} {a : Bool} {a' : Value} {b : Bool} {b' : Value} {m : Nat} {A : Option Addr} (h : QB w xs ys [.bool a, a'] [.bool b, b'] W) (hd : DS W m A) {u0 v0 : Bool} {u1 v1 : Value} :
    DS ((((W.setCell ⟨w.heap.size + 1 + 1, 0, none⟩ (.bool u0)).setCell ⟨w.heap.size + 1 + 1, 1, none⟩ u1).setCell ⟨w.heap.size + 1 + 1 + 1, 0, none⟩ (.bool v0)).setCell ⟨w.heap.size + 1 + 1 + 1, 1, none⟩ v1) m A := by
  have r2 := h.2.2.1
  have h2 := h.put2 (u0 := .bool u0) (u1 := u1) rfl
  have r3 := h2.2.2.2.1
  refine DS.set_bool (X := w.heap.size + 1 + 1 + 1) (s := v0) ?_ (by rw [World.cell?_setCell_same' _ _ _ (by rw [r3.c 0 rfl]; rfl)]) 1 _
  refine DS.set_bool (X := w.heap.size + 1 + 1 + 1) (s := b) ?_ (r3.c 0 rfl) 0 _
  refine DS.set_bool (X := w.heap.size + 1 + 1) (s := u0) ?_ (by rw [World.cell?_setCell_same' _ _ _ (by rw [r2.c 0 rfl]; rfl)]) 1 _
  exact DS.set_bool (X := w.heap.size + 1 + 1) (s := a) hd (r2.c 0 rfl) 0 _
end Go.Proofs.YthmobcpdbgmbeaaGreatDoor
