/- (of arena/AC, for elements of up to 64 bytes) Slices whose cells lie in memory, as lists; slices that own their row; append; no condition. -/
import Derived.Test.YtdfmmkidknginaaGreatDoorNkQA
import Derived.IntWalk
import Derived.Deep.MidRow
import Derived.Deep.RegionHeld3
import Derived.Lib.QuietBelow
import Derived.Maps.AppendAt
import Derived.OwnWalk
import Derived.Deep.RegionHeldLaw
namespace Go.Proofs.YtdfmmkidknginaaGreatDoor
open Go.RowKit Go.Sort CrossMath

/-- These cells lie there. -/
def CellsL (w : World) (b o : Nat) (xs : List Value) : Prop := b < w.heap.size ∧ ∀ j v, xs[j]? = some v → w.cell? ⟨b, o + j, none⟩ = some v
/-- A slice whose cells these are. -/
def CellsS (w : World) (A : Option Addr) (xs : List Value) : Prop := 0 < xs.length → ∃ b o, A = some ⟨b, o, none⟩ ∧ CellsL w b o xs
section
variable {w w1 : World} {b o : Nat} {A : Option Addr} {xs : List Value}
theorem CellsL.below {B : Nat} (h : CellsL w b o xs) (hb : Below B w w1) (hB : b < B) : CellsL w1 b o xs :=
  ⟨Nat.lt_of_lt_of_le h.1 hb.size, fun j v hv => (hb.cell (p := ⟨b, o + j, none⟩) hB).trans (h.2 j v hv)⟩
theorem CellsL.after (h : CellsL w b o xs) (hb : Below w.heap.size w w1) : CellsL w1 b o xs := h.below hb h.1
theorem CellsS.after (h : CellsS w A xs) (hb : Below w.heap.size w w1) : CellsS w1 A xs := fun h0 => by
  obtain ⟨b, o, hA, hw⟩ := h h0
  exact ⟨b, o, hA, hw.after hb⟩
theorem CellsS.nil (w : World) (A : Option Addr) : CellsS w A [] := fun h => absurd h (by simp)
theorem CellsS.tail {k : Nat} {ys zs : List Value} {n c : Nat} (h : CellsS w A (ys ++ zs)) (hy : ys.length = k) (hc : c = n → zs = []) : CellsS w (if c = n then A else A.map (·.add k)) zs := fun h0 => by
  by_cases e : c = n
  · rw [hc e] at h0; exact absurd h0 (by simp)
  · obtain ⟨b, o, rfl, hl⟩ := h (by simp; omega)
    refine ⟨b, o + k, by rw [if_neg e]; simp [Addr.add], hl.1, fun j v hv => ?_⟩
    rw [show o + k + j = o + (k + j) by omega]
    exact hl.2 (k + j) v (by rw [List.getElem?_append_right (by omega), show k + j - ys.length = j by omega]; exact hv)
theorem CellsS.head {b o : Nat} {ys zs : List Value} (h : CellsS w A (ys ++ zs)) (hA : A = some ⟨b, o, none⟩) (j : Nat) (v : Value) (hv : ys[j]? = some v) : w.cell? ⟨b, o + j, none⟩ = some v := by
  have hj := (List.getElem?_eq_some_iff.1 hv).1
  obtain ⟨b', o', e, hl⟩ := h (by simp; omega)
  rw [hA] at e; cases e
  exact hl.2 j v (by rw [List.getElem?_append_left hj]; exact hv)
end
/-- A slice that owns its row. -/
def Own (e : TypeId) (k : Nat) (w : World) (base : Nat) (A : Option Addr) (N cap : Nat) (xs : List Value) : Prop := w.ownsRow base e k (.slice A N cap) N xs
/-- Its block, if it has one. -/
def ownB (A : Option Addr) : Option Nat := A.map (·.block)
section
variable {e : TypeId} {k : Nat} {w w1 : World} {base N cap : Nat} {A : Option Addr} {xs : List Value}
theorem ownB_eq (A : Option Addr) (N cap : Nat) : (Value.slice A N cap).ownBlock = ownB A := by cases A <;> rfl
theorem Own.nil (e : TypeId) (k : Nat) (w : World) (base : Nat) : Own e k w base none 0 0 [] := World.ownsRow_nil w base e k
theorem Own.len (h : Own e k w base A N cap xs) : xs.length = N * k := h.1
theorem Own.le_cap (h : Own e k w base A N cap xs) : N ≤ cap := by
  obtain ⟨_, h | ⟨g, cap', cur, hv, _, _, hc, _⟩⟩ := h
  · cases h.1; exact Nat.le_refl _
  · cases hv; exact hc
theorem Own.form (h : Own e k w base A N cap xs) : A = none ∧ N = 0 ∧ cap = 0 ∨ ∃ g, A = some ⟨g, 0, none⟩ ∧ base ≤ g ∧ g < w.heap.size := by
  obtain ⟨_, h | ⟨g, cap', cur, hv, hb, hg, _⟩⟩ := h
  · cases h.1; exact .inl ⟨rfl, rfl, rfl⟩
  · cases hv; exact .inr ⟨g, rfl, hb, (Array.getElem?_eq_some_iff.1 hg).1⟩
theorem Own.fresh (h : Own e k w base A N cap xs) : ∀ a, A = some a → base ≤ a.block := fun a ha => by
  rcases h.form with ⟨h', _⟩ | ⟨g, h', hb, _⟩
  · rw [h'] at ha; cases ha
  · rw [h'] at ha; cases ha; exact hb
theorem CellsS.put {p : Addr} {v : Value} (h : CellsS w A xs) (hp : 0 < xs.length → ∀ a, A = some a → a.block ≠ p.block) : CellsS (w.setCell p v) A xs := fun h0 => by
  obtain ⟨b, o, hA, hl⟩ := h h0
  have hne : b ≠ p.block := hp h0 _ hA
  exact ⟨b, o, hA, by have := hl.1; simpa [World.setCell] using this, fun j u hj => by rw [World.cell?_setCell_other _ _ _ _ (fun e' => hne (congrArg Addr.block e').symm)]; exact hl.2 j u hj⟩
theorem Own.cells (h : Own e k w base A N cap xs) : CellsS w A xs := fun h0 => by
  rcases h.form with ⟨rfl, rfl, _⟩ | ⟨g, rfl, _, hg⟩
  · have := h.len; omega
  · refine ⟨g, 0, rfl, hg, fun j v hv => ?_⟩
    have hj := (List.getElem?_eq_some_iff.1 hv).1
    rw [Nat.zero_add, World.ownsRow.cellAt h j (by have := h.len; omega)]
    exact hv
theorem ownsRow_below4 {v : Value} {n : Nat} (h : w.ownsRow base e k v n xs) (hb : Below w.heap.size w w1) : w1.ownsRow base e k v n xs := by
  obtain ⟨h1, h2⟩ := h
  refine ⟨h1, ?_⟩
  rcases h2 with h2 | ⟨g, cap, cur, hv, hg, hh, r⟩
  · exact Or.inl h2
  · exact Or.inr ⟨g, cap, cur, hv, hg, (hb.block g (Array.getElem?_eq_some_iff.mp hh).1).trans hh, r⟩
theorem Own.after (h : Own e k w base A N cap xs) (hb : Below w.heap.size w w1) : Own e k w1 base A N cap xs := ownsRow_below4 h hb
theorem Own.toBase {base' : Nat} (h : Own e k w base A N cap xs) (hb : base' ≤ base) : Own e k w base' A N cap xs := by
  obtain ⟨h1, h2⟩ := h
  refine ⟨h1, ?_⟩
  rcases h2 with h2 | ⟨g, cap', cur, hv, hg, hh, r⟩
  · exact Or.inl h2
  · exact Or.inr ⟨g, cap', cur, hv, Nat.le_trans hb hg, hh, r⟩
theorem Own.drew (h : Own e k w base A N cap xs) : Own e k w.drew base A N cap xs := h
theorem Own.drewN (h : Own e k w base A N cap xs) (n : Nat) : Own e k (w.drewN n) base A N cap xs := h
theorem Own.alloc (h : Own e k w base A N cap xs) (o : Obj) : Own e k (w.alloc o) base A N cap xs := World.ownsRow.alloc h o
theorem Own.put (h : Own e k w base A N cap xs) {p : Addr} (hp : ∀ g, ownB A = some g → g ≠ p.block) (v : Value) : Own e k (w.setCell p v) base A N cap xs := by
  refine ownsRow_setCell_other h (fun e' => ?_) v
  rw [ownB_eq] at e'
  exact hp _ e' rfl
theorem own_slice {v : Value} {n : Nat} (h : w.ownsRow base e k v n xs) : ∃ A cap, v = .slice A n cap := by
  obtain ⟨_, ⟨rfl, rfl⟩ | ⟨g, cap', cur, rfl, hb, _⟩⟩ := h
  · exact ⟨none, 0, rfl⟩
  · exact ⟨_, _, rfl⟩
end
/-- An element type's facts, for append. -/
structure ElemTy (P : Program) (T e : TypeId) (k bytes : Nat) : Prop where
  ty : P.underlying T = some (.slice e)
  info : ∃ i z, P.info? e = some i ∧ i.zero = some z ∧ i.size = k ∧ i.bytes = bytes ∧ z.cells.size = k
  pos : 0 < k
  small : bytes ≤ 64
theorem below_grown {w w' : World} {A : Option Addr} {base : Nat} (hg : w.grownBy w' (ownB A)) (hb : base ≤ w.heap.size) (hA : ∀ g, ownB A = some g → base ≤ g) : Below base w w' := (Below.refl base w).grown hg hb hA
theorem run_app {P : Program} {w : World} {T e : TypeId} {k bytes : Nat} (hE : ElemTy P T e k bytes) (ty : TypeId) (base : Nat) (A : Option Addr) (N cap : Nat) (xs : List Value) (E : Option Addr) (m c : Nat) (ys : List Value)
    (hown : Own e k w base A N cap xs) (hr : CellsS w E ys) (hys : ys.length = m * k) (hone : ∀ u ∈ ys, u.oneCell' = true) (hN : N + m ≤ 1000000) (hb : base ≤ w.heap.size) :
    ∃ (A' : Option Addr) (cap' : Nat) (w' : World), (Builtin.append_ #[T, T] ty #[.slice A N cap, .slice E m c]).run P w = .ok (.slice A' (N + m) cap') w' ∧ Own e k w' base A' (N + m) cap' (xs ++ ys) ∧ w.grownBy w' (ownB A) ∧ (ownB A' = ownB A ∨ ownB A' = some w.heap.size) := by
  obtain ⟨i0, z, hi, hz, hz1, hz2, hz3⟩ := hE.info
  have hsm := hE.small
  cases E with
  | none =>
    have hy : ys = [] := by
      cases ys with
      | nil => rfl
      | cons p r => obtain ⟨b, o', h, _⟩ := hr (by simp); cases h
    subst hy
    obtain rfl : m = 0 := by
      have hk := hE.pos
      cases m with
      | zero => rfl
      | succ m => exfalso; have h0 := Nat.mul_pos (Nat.succ_pos m) hk; rw [← hys] at h0; simp at h0
    have hcap := hown.le_cap
    have hrun : (Builtin.append_ #[T, T] ty #[.slice A N cap, .slice none 0 c]).run P w = .ok (.slice A N cap) w := by
      cases A <;> simp [Builtin.append_, run_underlying hE.ty, sizeOf, typeInfo, hi, hcap, storeCells, Builtin.firstCells, Builtin.lenOf]
    exact ⟨A, cap, w, hrun, by rw [List.append_nil]; exact hown, World.grownBy.refl _ _, .inl rfl⟩
  | some ad =>
    obtain ⟨v', w', hrun, hown', hgr, _, hloc⟩ := run_append_own_at w base T ty e i0 z k bytes hE.ty hi hz hz1 hz2 hz3 hE.pos _ N xs hown ad m c ys hys (fun j u hj => by
      obtain ⟨b, o', hA, hw⟩ := hr (by have := (List.getElem?_eq_some_iff.1 hj).1; omega)
      cases hA
      have e : (⟨b, o', none⟩ : Addr).add j = ⟨b, o' + j, none⟩ := by simp [Addr.add]
      rw [e]
      exact hw.2 j u hj) hone (by unfold maxLen; omega) (Nat.le_trans (Nat.mul_le_mul hN hsm) (by decide)) hb
    obtain ⟨A', cap', rfl⟩ := own_slice hown'
    rw [ownB_eq] at hgr
    rw [ownB_eq, ownB_eq] at hloc
    exact ⟨A', cap', w', hrun, hown', hgr, hloc⟩
/-- append of a slice to one that owns its row: at Oper.wp. -/
theorem wp_app {P : Program} {w : World} {o : Oper} {a : Act} {K : Act → World → Prop} {Q : Exit → Act → World → Prop} (s x : Operand) {T e : TypeId} {k bytes : Nat}
    (hE : ElemTy P T e k bytes) (ho : o.op = Op.call { callee := Callee.builtin Builtin.append, args := #[s, x], argTypes := #[T, T] }) (base : Nat) (A : Option Addr) (N cap : Nat) (xs : List Value) (E : Option Addr) (m c : Nat) (ys : List Value)
    (hs : a.eval s = .slice A N cap) (hx : a.eval x = .slice E m c) (hown : Own e k w base A N cap xs) (hr : CellsS w E ys) (hys : ys.length = m * k) (hone : ∀ u ∈ ys, u.oneCell' = true) (hN : N + m ≤ 1000000) (hb : base ≤ w.heap.size)
    (hK : ∀ (A' : Option Addr) (cap' : Nat) (w' : World), Own e k w' base A' (N + m) cap' (xs ++ ys) → w.grownBy w' (ownB A) → (ownB A' = ownB A ∨ ownB A' = some w.heap.size) → K (a.put o.dst (.slice A' (N + m) cap')) w') :
    o.wp P a w K Q := by
  obtain ⟨A', cap', w', hrun, h1, h2, h3⟩ := run_app hE o.type base A N cap xs E m c ys hown hr hys hone hN hb
  unfold Oper.wp
  simp only [execOp, ho, resolve, invoke, builtin, Sem.run_bind, Sem.run_pure, Result.andThen_ok, List.map_toArray, List.map_cons, List.map_nil, hs, hx, hrun]
  exact hK A' cap' w' h1 h2 h3
/-- At a plain region's list. -/
theorem wpList_app {P : Program} {w : World} {ops : Array Oper} {rest : List Oper} {o : Oper} {a : Act} {Q : Exit → Act → World → Prop} (hg : o.guard = none) (s x : Operand) {T e : TypeId} {k bytes : Nat}
    (hE : ElemTy P T e k bytes) (ho : o.op = Op.call { callee := Callee.builtin Builtin.append, args := #[s, x], argTypes := #[T, T] }) (base : Nat) (A : Option Addr) (N cap : Nat) (xs : List Value) (E : Option Addr) (m c : Nat) (ys : List Value)
    (hs : a.eval s = .slice A N cap) (hx : a.eval x = .slice E m c) (hown : Own e k w base A N cap xs) (hr : CellsS w E ys) (hys : ys.length = m * k) (hone : ∀ u ∈ ys, u.oneCell' = true) (hN : N + m ≤ 1000000) (hb : base ≤ w.heap.size)
    (hK : ∀ (A' : Option Addr) (cap' : Nat) (w' : World), Own e k w' base A' (N + m) cap' (xs ++ ys) → w.grownBy w' (ownB A) → (ownB A' = ownB A ∨ ownB A' = some w.heap.size) → wpList P ops Q rest (a.put o.dst (.slice A' (N + m) cap')) w') :
    wpList P ops Q (o :: rest) a w :=
  wpList_plain hg fun _ hK' => wp_app s x hE ho base A N cap xs E m c ys hs hx hown hr hys hone hN hb (fun A' cap' w' h1 h2 h3 => hK' _ _ (hK A' cap' w' h1 h2 h3))
/-- As a step of a region that draws. -/
theorem step_app {P : Program} {w : World} {ops : Array Oper} {o : Oper} {a : Act} {K : Act → World → Prop} {Q : Exit → Act → World → Prop} {E' : Prop} (hg : o.guard = none) (s x : Operand) {T e : TypeId} {k bytes : Nat}
    (hE : ElemTy P T e k bytes) (ho : o.op = Op.call { callee := Callee.builtin Builtin.append, args := #[s, x], argTypes := #[T, T] }) (base : Nat) (A : Option Addr) (N cap : Nat) (xs : List Value) (E : Option Addr) (m c : Nat) (ys : List Value)
    (hs : a.eval s = .slice A N cap) (hx : a.eval x = .slice E m c) (hown : Own e k w base A N cap xs) (hr : CellsS w E ys) (hys : ys.length = m * k) (hone : ∀ u ∈ ys, u.oneCell' = true) (hN : N + m ≤ 1000000) (hb : base ≤ w.heap.size)
    (hK : ∀ (A' : Option Addr) (cap' : Nat) (w' : World), Own e k w' base A' (N + m) cap' (xs ++ ys) → w.grownBy w' (ownB A) → (ownB A' = ownB A ∨ ownB A' = some w.heap.size) → K (a.put o.dst (.slice A' (N + m) cap')) w') :
    if Region.wanted o (yielded ops a.tmps) = true then Oper.wp P o a w K Q else E' := by
  rw [if_pos (by simp [Region.wanted, hg])]
  exact wp_app s x hE ho base A N cap xs E m c ys hs hx hown hr hys hone hN hb hK
/-- Segments' cells, nodes' cells. -/
def segCs (L : List Sg) : List Value := L.flatMap fun s => [.int .i64 s.ax, .int .i64 s.ay, .int .i64 s.bx, .int .i64 s.bY]
def nodCs (L : List (Int × Int)) : List Value := L.flatMap fun x => [.int .i64 x.1, .int .i64 x.2]
theorem segCs_len : ∀ L : List Sg, (segCs L).length = L.length * 4
  | [] => rfl
  | s :: r => by
    have h := segCs_len r
    show ((segCs (s :: r))).length = (r.length + 1) * 4
    simp only [segCs, List.flatMap_cons, List.length_append, List.length_cons, List.length_nil] at h ⊢
    omega
theorem nodCs_len : ∀ L : List (Int × Int), (nodCs L).length = L.length * 2
  | [] => rfl
  | s :: r => by
    have h := nodCs_len r
    show ((nodCs (s :: r))).length = (r.length + 1) * 2
    simp only [nodCs, List.flatMap_cons, List.length_append, List.length_cons, List.length_nil] at h ⊢
    omega
theorem segCs_get : ∀ (L : List Sg) (j : Nat) (s : Sg), L[j]? = some s → (segCs L)[j * 4]? = some (.int .i64 s.ax) ∧ (segCs L)[j * 4 + 1]? = some (.int .i64 s.ay) ∧ (segCs L)[j * 4 + 2]? = some (.int .i64 s.bx) ∧ (segCs L)[j * 4 + 3]? = some (.int .i64 s.bY)
  | [], j, s, h => by cases h
  | t :: r, 0, s, h => by cases h; exact ⟨rfl, rfl, rfl, rfl⟩
  | t :: r, j + 1, s, h => by
    obtain ⟨h0, h1, h2, h3⟩ := segCs_get r j s h
    have e : ∀ i, (segCs (t :: r))[(j + 1) * 4 + i]? = (segCs r)[j * 4 + i]? := fun i => by
      rw [show (j + 1) * 4 + i = (j * 4 + i) + 4 by omega]; rfl
    exact ⟨(e 0).trans h0, (e 1).trans h1, (e 2).trans h2, (e 3).trans h3⟩
theorem nodCs_get : ∀ (L : List (Int × Int)) (j : Nat) (x : Int × Int), L[j]? = some x → (nodCs L)[j * 2]? = some (.int .i64 x.1) ∧ (nodCs L)[j * 2 + 1]? = some (.int .i64 x.2)
  | [], j, s, h => by cases h
  | t :: r, 0, s, h => by cases h; exact ⟨rfl, rfl⟩
  | t :: r, j + 1, s, h => by
    obtain ⟨h0, h1⟩ := nodCs_get r j s h
    have e : ∀ i, (nodCs (t :: r))[(j + 1) * 2 + i]? = (nodCs r)[j * 2 + i]? := fun i => by
      rw [show (j + 1) * 2 + i = (j * 2 + i) + 2 by omega]; rfl
    exact ⟨(e 0).trans h0, (e 1).trans h1⟩
theorem segCs_one (L : List Sg) : ∀ u ∈ segCs L, u.oneCell' = true := fun u h => by
  unfold segCs at h
  obtain ⟨s, _, h⟩ := List.mem_flatMap.1 h
  simp only [List.mem_cons, List.not_mem_nil, or_false] at h
  rcases h with rfl | rfl | rfl | rfl <;> rfl
theorem nodCs_one (L : List (Int × Int)) : ∀ u ∈ nodCs L, u.oneCell' = true := fun u h => by
  unfold nodCs at h
  obtain ⟨s, _, h⟩ := List.mem_flatMap.1 h
  simp only [List.mem_cons, List.not_mem_nil, or_false] at h
  rcases h with rfl | rfl <;> rfl
theorem nodCs_append (a b : List (Int × Int)) : nodCs (a ++ b) = nodCs a ++ nodCs b := by unfold nodCs; rw [List.flatMap_append]
theorem CellsS.segs {A : Option Addr} {L : List Sg} {w : World} (h : CellsS w A (segCs L)) : SegsAt A L w := fun h0 => by
  obtain ⟨b, o, rfl, hl⟩ := h (by rw [segCs_len]; omega)
  refine ⟨b, o, rfl, hl.1, fun j s hj => ?_⟩
  obtain ⟨h0, h1, h2, h3⟩ := segCs_get L j s hj
  exact ⟨hl.2 _ _ h0, hl.2 _ _ h1, hl.2 _ _ h2, hl.2 _ _ h3⟩
theorem elem_seg : ElemTy Tryz.prog 70 25 4 32 := ⟨Tryz.underlying70, ⟨(Tryz.prog.info? 25).get!, .agg #[.int .i64 0, .int .i64 0, .int .i64 0, .int .i64 0], by kernel_rfl, by kernel_rfl, by kernel_rfl, by kernel_rfl, rfl⟩, by decide, by decide⟩
theorem elem_node : ElemTy Tryz.prog 71 23 2 16 := ⟨Tryz.underlying71, ⟨(Tryz.prog.info? 23).get!, .agg #[.int .i64 0, .int .i64 0], by kernel_rfl, by kernel_rfl, by kernel_rfl, by kernel_rfl, rfl⟩, by decide, by decide⟩
theorem eql_nil (ad : Addr) (N c : Nat) (w : World) : (binOp .eql 70 (.slice (some ad) N c) (.slice none 0 0)).run Tryz.prog w = .ok (.bool false) w := by
  kernel_rfl
theorem eql_nil0 (N c : Nat) (w : World) : (binOp .eql 70 (.slice none N c) (.slice none 0 0)).run Tryz.prog w = .ok (.bool true) w := by
  kernel_rfl
set_option maxRecDepth 100000 in
theorem clone_any (A : Option Addr) (N c : Nat) (L : List Sg) (w : World) (hN : N = L.length) (hb : N ≤ 20) (hA : CellsS w A (segCs L)) :
    Calls Tryz.prog 69 #[.slice A N c] w fun e w' => ∃ A' c', e = .returned (.slice A' N c') ∧ CellsS w' A' (segCs L) ∧ N ≤ c' ∧ (∀ a, A' = some a → w.heap.size ≤ a.block) ∧ Below w.heap.size w w' := by
  have z0 := eql_nil0 N c w
  cases A with
  | none =>
    have h0 : L = [] := by
      cases L with
      | nil => rfl
      | cons s r => obtain ⟨b, o, h, _⟩ := hA (by simp [segCs]); cases h
    subst h0
    obtain rfl : N = 0 := hN
    go_enter Tryz.func69, Tryz.ntmps69
    go_wp2_with fail
    go_ret
    exact ⟨none, 0, rfl, hA, Nat.le_refl _, (fun a h => by cases h), Below.refl _ _⟩
  | some ad =>
    clear z0
    have z0 := eql_nil ad N c w
    have HN := Lib.hid hN
    clear hN
    go_enter Tryz.func69, Tryz.ntmps69
    have hown : Own 25 4 (w.alloc (.cells #[] 25)) w.heap.size (some ⟨w.heap.size, 0, none⟩) 0 0 [] := World.ownsRow_lit w #[] 0 (Nat.le_refl _) (by decide) rfl
    have hb1 : Below w.heap.size w (w.alloc (.cells #[] 25)) := (Below.refl _ _).alloc (Nat.le_refl _) _
    have hr := hA.after hb1
    have hz : w.heap.size ≤ (w.alloc (.cells #[] 25)).heap.size := hb1.size
    have HX := Lib.hid (And.intro hown (And.intro hr (And.intro hb1 hz)))
    clear hown hr hb1 hz hA
    go_wp2_with (refine wpList_app rfl _ _ elem_seg rfl w.heap.size (some ⟨w.heap.size, 0, none⟩) 0 0 [] (some ad) N c (segCs L) rfl rfl HX.out.1 HX.out.2.1 (by rw [segCs_len, HN.out]) (segCs_one L) (by omega) HX.out.2.2.2 ?_; intro A' c' w' ho hg hl; rw [Nat.zero_add] at ho ⊢)
    go_ret
    rw [List.nil_append] at ho
    exact ⟨A', c', rfl, ho.cells, ho.le_cap, ho.fresh, HX.out.2.2.1.trans (below_grown hg HX.out.2.2.2 (fun g hg' => by cases hg'; exact Nat.le_refl _))⟩
set_option maxRecDepth 100000 in
theorem Nodes_any (A : Option Addr) (N c : Nat) (L : List Sg) (w : World) (hN : N = L.length) (hb : N ≤ 20) (hA : CellsS w A (segCs L)) :
    Calls Tryz.prog 30 #[.slice A N c] w fun e w' => ∃ E A' c', e = .returned (.func (.func 70) #[] #[.pointer (some ⟨E, 0, none⟩)]) ∧ Row w' E [.slice A' N c'] ∧ CellsS w' A' (segCs L) ∧ N ≤ c' ∧ w.heap.size ≤ E ∧ (∀ a, A' = some a → w.heap.size ≤ a.block) ∧ Below w.heap.size w w' := by
  have hmf : ∀ (fn : Fn) (first cap : Array Value) (w : World), (Instr.makeFunc fn first cap).run Tryz.prog w = .ok (.func fn first cap) w := fun _ _ _ _ => rfl
  have HC := Lib.hid (clone_any A N c L w hN hb hA)
  clear hN hA
  go_enter Tryz.func30, Tryz.ntmps30
  go_wp2_with fail
  refine HC.out.mono ?_
  rintro e w1 ⟨A', c', rfl, hA, hc, hf, hB⟩
  go_wp2_with fail
  go_ret
  have hb2 := (Below.refl w1.heap.size w1).alloc (Nat.le_refl _) (.cells #[.slice A' N c'] 70)
  exact ⟨w1.heap.size, A', c', rfl, Row.at rfl _ _, hA.after hb2, hc, hB.size, hf, hB.trans (hb2.mono hB.size)⟩
end Go.Proofs.YtdfmmkidknginaaGreatDoor
