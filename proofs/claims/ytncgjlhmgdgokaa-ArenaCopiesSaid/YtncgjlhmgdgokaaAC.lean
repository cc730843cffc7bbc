/- Slices whose cells lie in memory, as lists; slices that own their row; append; no condition. -/
import Derived.Test.YtncgjlhmgdgokaaTA
import Derived.IntWalk
import Derived.Deep.MidRow
import Derived.Deep.RegionHeld3
import Derived.Lib.QuietBelow
import Derived.Maps.AppendAt
import Derived.OwnWalk
import Derived.Deep.RegionHeldLaw
namespace Go.Proofs.Ytncgjlhmgdgokaa
open Go.RowKit Go.Sort

/-- These cells lie there. -/
def CellsL (w : World) (b o : Nat) (xs : List Value) : Prop := b < w.heap.size ∧ ∀ j v, xs[j]? = some v → w.cell? ⟨b, o + j, none⟩ = some v
/-- A slice whose cells these are. -/
def CellsS (w : World) (A : Option Addr) (xs : List Value) : Prop := 0 < xs.length → ∃ b o, A = some ⟨b, o, none⟩ ∧ CellsL w b o xs
section
variable {w w1 : World} {b o : Nat} {A : Option Addr} {xs : List Value}
theorem CellsL.below {B : Nat} (h : CellsL w b o xs) (hb : Below B w w1) (hB : b < B) : CellsL w1 b o xs :=
  ⟨Nat.lt_of_lt_of_le h.1 hb.size, fun j v hv => (hb.cell (p := ⟨b, o + j, none⟩) hB).trans (h.2 j v hv)⟩
theorem CellsL.after (h : CellsL w b o xs) (hb : Below w.heap.size w w1) : CellsL w1 b o xs := h.below hb h.1
theorem CellsS.after (h : CellsS w A xs) (hb : Below w.heap.size w w1) : CellsS w1 A xs := fun h0 => by
  obtain ⟨b, o, hA, hw⟩ := h h0
  exact ⟨b, o, hA, hw.after hb⟩
theorem CellsS.nil (w : World) (A : Option Addr) : CellsS w A [] := fun h => absurd h (by simp)
theorem CellsS.tail {k : Nat} {ys zs : List Value} {n c : Nat} (h : CellsS w A (ys ++ zs)) (hy : ys.length = k) (hc : c = n → zs = []) : CellsS w (if c = n then A else A.map (·.add k)) zs := fun h0 => by
  by_cases e : c = n
  · rw [hc e] at h0; exact absurd h0 (by simp)
  · obtain ⟨b, o, rfl, hl⟩ := h (by simp; omega)
    refine ⟨b, o + k, by rw [if_neg e]; simp [Addr.add], hl.1, fun j v hv => ?_⟩
    rw [show o + k + j = o + (k + j) by omega]
    exact hl.2 (k + j) v (by rw [List.getElem?_append_right (by omega), show k + j - ys.length = j by omega]; exact hv)
theorem CellsS.head {b o : Nat} {ys zs : List Value} (h : CellsS w A (ys ++ zs)) (hA : A = some ⟨b, o, none⟩) (j : Nat) (v : Value) (hv : ys[j]? = some v) : w.cell? ⟨b, o + j, none⟩ = some v := by
  have hj := (List.getElem?_eq_some_iff.1 hv).1
  obtain ⟨b', o', e, hl⟩ := h (by simp; omega)
  rw [hA] at e; cases e
  exact hl.2 j v (by rw [List.getElem?_append_left hj]; exact hv)
end
/-- A slice that owns its row. -/
def Own (e : TypeId) (k : Nat) (w : World) (base : Nat) (A : Option Addr) (N cap : Nat) (xs : List Value) : Prop := w.ownsRow base e k (.slice A N cap) N xs
/-- Its block, if it has one. -/
def ownB (A : Option Addr) : Option Nat := A.map (·.block)
section
variable {e : TypeId} {k : Nat} {w w1 : World} {base N cap : Nat} {A : Option Addr} {xs : List Value}
theorem ownB_eq (A : Option Addr) (N cap : Nat) : (Value.slice A N cap).ownBlock = ownB A := by cases A <;> rfl
theorem Own.nil (e : TypeId) (k : Nat) (w : World) (base : Nat) : Own e k w base none 0 0 [] := World.ownsRow_nil w base e k
theorem Own.len (h : Own e k w base A N cap xs) : xs.length = N * k := h.1
theorem Own.le_cap (h : Own e k w base A N cap xs) : N ≤ cap := by
  obtain ⟨_, h | ⟨g, cap', cur, hv, _, _, hc, _⟩⟩ := h
  · cases h.1; exact Nat.le_refl _
  · cases hv; exact hc
theorem Own.form (h : Own e k w base A N cap xs) : A = none ∧ N = 0 ∧ cap = 0 ∨ ∃ g, A = some ⟨g, 0, none⟩ ∧ base ≤ g ∧ g < w.heap.size := by
  obtain ⟨_, h | ⟨g, cap', cur, hv, hb, hg, _⟩⟩ := h
  · cases h.1; exact .inl ⟨rfl, rfl, rfl⟩
  · cases hv; exact .inr ⟨g, rfl, hb, (Array.getElem?_eq_some_iff.1 hg).1⟩
theorem Own.fresh (h : Own e k w base A N cap xs) : ∀ a, A = some a → base ≤ a.block := fun a ha => by
  rcases h.form with ⟨h', _⟩ | ⟨g, h', hb, _⟩
  · rw [h'] at ha; cases ha
  · rw [h'] at ha; cases ha; exact hb
theorem CellsS.put {p : Addr} {v : Value} (h : CellsS w A xs) (hp : 0 < xs.length → ∀ a, A = some a → a.block ≠ p.block) : CellsS (w.setCell p v) A xs := fun h0 => by
  obtain ⟨b, o, hA, hl⟩ := h h0
  have hne : b ≠ p.block := hp h0 _ hA
  exact ⟨b, o, hA, by have := hl.1; simpa [World.setCell] using this, fun j u hj => by rw [World.cell?_setCell_other _ _ _ _ (fun e' => hne (congrArg Addr.block e').symm)]; exact hl.2 j u hj⟩
theorem Own.cells (h : Own e k w base A N cap xs) : CellsS w A xs := fun h0 => by
  rcases h.form with ⟨rfl, rfl, _⟩ | ⟨g, rfl, _, hg⟩
  · have := h.len; omega
  · refine ⟨g, 0, rfl, hg, fun j v hv => ?_⟩
    have hj := (List.getElem?_eq_some_iff.1 hv).1
    rw [Nat.zero_add, World.ownsRow.cellAt h j (by have := h.len; omega)]
    exact hv
theorem ownsRow_below {v : Value} {n : Nat} (h : w.ownsRow base e k v n xs) (hb : Below w.heap.size w w1) : w1.ownsRow base e k v n xs := by
  obtain ⟨h1, h2⟩ := h
  refine ⟨h1, ?_⟩
  rcases h2 with h2 | ⟨g, cap, cur, hv, hg, hh, r⟩
  · exact Or.inl h2
  · exact Or.inr ⟨g, cap, cur, hv, hg, (hb.block g (Array.getElem?_eq_some_iff.mp hh).1).trans hh, r⟩
theorem Own.after (h : Own e k w base A N cap xs) (hb : Below w.heap.size w w1) : Own e k w1 base A N cap xs := ownsRow_below h hb
theorem Own.toBase {base' : Nat} (h : Own e k w base A N cap xs) (hb : base' ≤ base) : Own e k w base' A N cap xs := by
  obtain ⟨h1, h2⟩ := h
  refine ⟨h1, ?_⟩
  rcases h2 with h2 | ⟨g, cap', cur, hv, hg, hh, r⟩
  · exact Or.inl h2
  · exact Or.inr ⟨g, cap', cur, hv, Nat.le_trans hb hg, hh, r⟩
theorem Own.drew (h : Own e k w base A N cap xs) : Own e k w.drew base A N cap xs := h
theorem Own.drewN (h : Own e k w base A N cap xs) (n : Nat) : Own e k (w.drewN n) base A N cap xs := h
theorem Own.alloc (h : Own e k w base A N cap xs) (o : Obj) : Own e k (w.alloc o) base A N cap xs := World.ownsRow.alloc h o
theorem Own.put (h : Own e k w base A N cap xs) {p : Addr} (hp : ∀ g, ownB A = some g → g ≠ p.block) (v : Value) : Own e k (w.setCell p v) base A N cap xs := by
  refine ownsRow_setCell_other h (fun e' => ?_) v
  rw [ownB_eq] at e'
  exact hp _ e' rfl
theorem own_slice {v : Value} {n : Nat} (h : w.ownsRow base e k v n xs) : ∃ A cap, v = .slice A n cap := by
  obtain ⟨_, ⟨rfl, rfl⟩ | ⟨g, cap', cur, rfl, hb, _⟩⟩ := h
  · exact ⟨none, 0, rfl⟩
  · exact ⟨_, _, rfl⟩
end
/-- An element type's facts, for append. -/
structure ElemTy (P : Program) (T e : TypeId) (k bytes : Nat) : Prop where
  ty : P.underlying T = some (.slice e)
  info : ∃ i z, P.info? e = some i ∧ i.zero = some z ∧ i.size = k ∧ i.bytes = bytes ∧ z.cells.size = k
  pos : 0 < k
  small : bytes ≤ 16
theorem below_grown {w w' : World} {A : Option Addr} {base : Nat} (hg : w.grownBy w' (ownB A)) (hb : base ≤ w.heap.size) (hA : ∀ g, ownB A = some g → base ≤ g) : Below base w w' := (Below.refl base w).grown hg hb hA
theorem run_app {P : Program} {w : World} {T e : TypeId} {k bytes : Nat} (hE : ElemTy P T e k bytes) (ty : TypeId) (base : Nat) (A : Option Addr) (N cap : Nat) (xs : List Value) (E : Option Addr) (m c : Nat) (ys : List Value)
    (hown : Own e k w base A N cap xs) (hr : CellsS w E ys) (hys : ys.length = m * k) (hone : ∀ u ∈ ys, u.oneCell' = true) (hN : N + m ≤ 1000000000) (hb : base ≤ w.heap.size) :
    ∃ (A' : Option Addr) (cap' : Nat) (w' : World), (Builtin.append_ #[T, T] ty #[.slice A N cap, .slice E m c]).run P w = .ok (.slice A' (N + m) cap') w' ∧ Own e k w' base A' (N + m) cap' (xs ++ ys) ∧ w.grownBy w' (ownB A) ∧ (ownB A' = ownB A ∨ ownB A' = some w.heap.size) := by
  obtain ⟨i0, z, hi, hz, hz1, hz2, hz3⟩ := hE.info
  have hsm := hE.small
  cases E with
  | none =>
    have hy : ys = [] := by
      cases ys with
      | nil => rfl
      | cons p r => obtain ⟨b, o', h, _⟩ := hr (by simp); cases h
    subst hy
    obtain rfl : m = 0 := by
      have hk := hE.pos
      cases m with
      | zero => rfl
      | succ m => exfalso; have h0 := Nat.mul_pos (Nat.succ_pos m) hk; rw [← hys] at h0; simp at h0
    have hcap := hown.le_cap
    have hrun : (Builtin.append_ #[T, T] ty #[.slice A N cap, .slice none 0 c]).run P w = .ok (.slice A N cap) w := by
      cases A <;> simp [Builtin.append_, run_underlying hE.ty, sizeOf, typeInfo, hi, hcap, storeCells, Builtin.firstCells, Builtin.lenOf]
    exact ⟨A, cap, w, hrun, by rw [List.append_nil]; exact hown, World.grownBy.refl _ _, .inl rfl⟩
  | some ad =>
    obtain ⟨v', w', hrun, hown', hgr, _, hloc⟩ := run_append_own_at w base T ty e i0 z k bytes hE.ty hi hz hz1 hz2 hz3 hE.pos _ N xs hown ad m c ys hys (fun j u hj => by
      obtain ⟨b, o', hA, hw⟩ := hr (by have := (List.getElem?_eq_some_iff.1 hj).1; omega)
      cases hA
      have e : (⟨b, o', none⟩ : Addr).add j = ⟨b, o' + j, none⟩ := by simp [Addr.add]
      rw [e]
      exact hw.2 j u hj) hone (by unfold maxLen; omega) (Nat.le_trans (Nat.mul_le_mul hN hsm) (by decide)) hb
    obtain ⟨A', cap', rfl⟩ := own_slice hown'
    rw [ownB_eq] at hgr
    rw [ownB_eq, ownB_eq] at hloc
    exact ⟨A', cap', w', hrun, hown', hgr, hloc⟩
/-- append of a slice to one that owns its row: at Oper.wp. -/
theorem wp_app {P : Program} {w : World} {o : Oper} {a : Act} {K : Act → World → Prop} {Q : Exit → Act → World → Prop} (s x : Operand) {T e : TypeId} {k bytes : Nat}
    (hE : ElemTy P T e k bytes) (ho : o.op = Op.call { callee := Callee.builtin Builtin.append, args := #[s, x], argTypes := #[T, T] }) (base : Nat) (A : Option Addr) (N cap : Nat) (xs : List Value) (E : Option Addr) (m c : Nat) (ys : List Value)
    (hs : a.eval s = .slice A N cap) (hx : a.eval x = .slice E m c) (hown : Own e k w base A N cap xs) (hr : CellsS w E ys) (hys : ys.length = m * k) (hone : ∀ u ∈ ys, u.oneCell' = true) (hN : N + m ≤ 1000000000) (hb : base ≤ w.heap.size)
    (hK : ∀ (A' : Option Addr) (cap' : Nat) (w' : World), Own e k w' base A' (N + m) cap' (xs ++ ys) → w.grownBy w' (ownB A) → (ownB A' = ownB A ∨ ownB A' = some w.heap.size) → K (a.put o.dst (.slice A' (N + m) cap')) w') :
    o.wp P a w K Q := by
  obtain ⟨A', cap', w', hrun, h1, h2, h3⟩ := run_app hE o.type base A N cap xs E m c ys hown hr hys hone hN hb
  unfold Oper.wp
  simp only [execOp, ho, resolve, invoke, builtin, Sem.run_bind, Sem.run_pure, Result.andThen_ok, List.map_toArray, List.map_cons, List.map_nil, hs, hx, hrun]
  exact hK A' cap' w' h1 h2 h3
/-- At a plain region's list. -/
theorem wpList_app {P : Program} {w : World} {ops : Array Oper} {rest : List Oper} {o : Oper} {a : Act} {Q : Exit → Act → World → Prop} (hg : o.guard = none) (s x : Operand) {T e : TypeId} {k bytes : Nat}
    (hE : ElemTy P T e k bytes) (ho : o.op = Op.call { callee := Callee.builtin Builtin.append, args := #[s, x], argTypes := #[T, T] }) (base : Nat) (A : Option Addr) (N cap : Nat) (xs : List Value) (E : Option Addr) (m c : Nat) (ys : List Value)
    (hs : a.eval s = .slice A N cap) (hx : a.eval x = .slice E m c) (hown : Own e k w base A N cap xs) (hr : CellsS w E ys) (hys : ys.length = m * k) (hone : ∀ u ∈ ys, u.oneCell' = true) (hN : N + m ≤ 1000000000) (hb : base ≤ w.heap.size)
    (hK : ∀ (A' : Option Addr) (cap' : Nat) (w' : World), Own e k w' base A' (N + m) cap' (xs ++ ys) → w.grownBy w' (ownB A) → (ownB A' = ownB A ∨ ownB A' = some w.heap.size) → wpList P ops Q rest (a.put o.dst (.slice A' (N + m) cap')) w') :
    wpList P ops Q (o :: rest) a w :=
  wpList_plain hg fun _ hK' => wp_app s x hE ho base A N cap xs E m c ys hs hx hown hr hys hone hN hb (fun A' cap' w' h1 h2 h3 => hK' _ _ (hK A' cap' w' h1 h2 h3))
/-- As a step of a region that draws. -/
theorem step_app {P : Program} {w : World} {ops : Array Oper} {o : Oper} {a : Act} {K : Act → World → Prop} {Q : Exit → Act → World → Prop} {E' : Prop} (hg : o.guard = none) (s x : Operand) {T e : TypeId} {k bytes : Nat}
    (hE : ElemTy P T e k bytes) (ho : o.op = Op.call { callee := Callee.builtin Builtin.append, args := #[s, x], argTypes := #[T, T] }) (base : Nat) (A : Option Addr) (N cap : Nat) (xs : List Value) (E : Option Addr) (m c : Nat) (ys : List Value)
    (hs : a.eval s = .slice A N cap) (hx : a.eval x = .slice E m c) (hown : Own e k w base A N cap xs) (hr : CellsS w E ys) (hys : ys.length = m * k) (hone : ∀ u ∈ ys, u.oneCell' = true) (hN : N + m ≤ 1000000000) (hb : base ≤ w.heap.size)
    (hK : ∀ (A' : Option Addr) (cap' : Nat) (w' : World), Own e k w' base A' (N + m) cap' (xs ++ ys) → w.grownBy w' (ownB A) → (ownB A' = ownB A ∨ ownB A' = some w.heap.size) → K (a.put o.dst (.slice A' (N + m) cap')) w') :
    if Region.wanted o (yielded ops a.tmps) = true then Oper.wp P o a w K Q else E' := by
  rw [if_pos (by simp [Region.wanted, hg])]
  exact wp_app s x hE ho base A N cap xs E m c ys hs hx hown hr hys hone hN hb hK
/-- Whole numbers' cells. -/
def intCs (l : List Int) : List Value := l.map (.int .i64)
theorem intCs_len (l : List Int) : (intCs l).length = l.length * 1 := by simp [intCs]
theorem intCs_one (l : List Int) : ∀ u ∈ intCs l, u.oneCell' = true := fun u h => by
  obtain ⟨x, _, rfl⟩ := List.mem_map.1 h
  rfl
theorem intCs_append (l m : List Int) : intCs (l ++ m) = intCs l ++ intCs m := by simp [intCs]
theorem intCs_get {l : List Int} {i : Nat} {x : Int} (h : l[i]? = some x) : (intCs l)[i]? = some (.int .i64 x) := by simp [intCs, h]
theorem elemInt : ElemTy Try.prog 28 3 1 8 := ⟨Try.underlying28, ⟨(Try.prog.info? 3).get!, .int .i64 0, by kernel_rfl, by kernel_rfl, by kernel_rfl, by kernel_rfl, rfl⟩, by decide, by decide⟩
theorem cells_row {w : World} {b : Nat} {xs : List Value} (h : Row w b xs) : CellsS w (some ⟨b, 0, none⟩) xs := fun _ => ⟨b, 0, rfl, h.1, fun j v hv => by rw [Nat.zero_add]; exact h.c j hv⟩
end Go.Proofs.Ytncgjlhmgdgokaa
