/- Slices whose cells lie in memory, as lists; slices that own their row; append; no condition. -/
import Derived.Test.YtjhcddlhhfjnaaaGreatDoorTB
import Derived.Maps.AppendAt
import Derived.OwnWalk
import Derived.Deep.RegionHeldLaw
namespace Go.Proofs.YtjhcddlhhfjnaaaGreatDoor
open Go.RowKit Go.Sort

/-- These cells lie there. -/
def CellsL (w : World) (b o : Nat) (xs : List Value) : Prop := b < w.heap.size ∧ ∀ j v, xs[j]? = some v → w.cell? ⟨b, o + j, none⟩ = some v
/-- A slice whose cells these are. -/
def CellsS (w : World) (A : Option Addr) (xs : List Value) : Prop := 0 < xs.length → ∃ b o, A = some ⟨b, o, none⟩ ∧ CellsL w b o xs
section
variable {w w1 : World} {b o : Nat} {A : Option Addr} {xs : List Value}
theorem CellsL.below {B : Nat} (h : CellsL w b o xs) (hb : Below B w w1) (hB : b < B) : CellsL w1 b o xs :=
  ⟨Nat.lt_of_lt_of_le h.1 hb.size, fun j v hv => (hb.cell (p := ⟨b, o + j, none⟩) hB).trans (h.2 j v hv)⟩
theorem CellsL.after (h : CellsL w b o xs) (hb : Below w.heap.size w w1) : CellsL w1 b o xs := h.below hb h.1
theorem CellsS.after (h : CellsS w A xs) (hb : Below w.heap.size w w1) : CellsS w1 A xs := fun h0 => by
  obtain ⟨b, o, hA, hw⟩ := h h0
  exact ⟨b, o, hA, hw.after hb⟩
theorem CellsS.nil (w : World) (A : Option Addr) : CellsS w A [] := fun h => absurd h (by simp)
theorem CellsS.tail {k : Nat} {ys zs : List Value} {n c : Nat} (h : CellsS w A (ys ++ zs)) (hy : ys.length = k) (hc : c = n → zs = []) : CellsS w (if c = n then A else A.map (·.add k)) zs := fun h0 => by
  by_cases e : c = n
  · rw [hc e] at h0; exact absurd h0 (by simp)
  · obtain ⟨b, o, rfl, hl⟩ := h (by simp; omega)
    refine ⟨b, o + k, by rw [if_neg e]; simp [Addr.add], hl.1, fun j v hv => ?_⟩
    rw [show o + k + j = o + (k + j) by omega]
    exact hl.2 (k + j) v (by rw [List.getElem?_append_right (by omega), show k + j - ys.length = j by omega]; exact hv)
theorem CellsS.head {b o : Nat} {ys zs : List Value} (h : CellsS w A (ys ++ zs)) (hA : A = some ⟨b, o, none⟩) (j : Nat) (v : Value) (hv : ys[j]? = some v) : w.cell? ⟨b, o + j, none⟩ = some v := by
  have hj := (List.getElem?_eq_some_iff.1 hv).1
  obtain ⟨b', o', e, hl⟩ := h (by simp; omega)
  rw [hA] at e; cases e
  exact hl.2 j v (by rw [List.getElem?_append_left hj]; exact hv)
end
/-- A slice that owns its row. -/
def Own (e : TypeId) (k : Nat) (w : World) (base : Nat) (A : Option Addr) (N cap : Nat) (xs : List Value) : Prop := w.ownsRow base e k (.slice A N cap) N xs
/-- Its block, if it has one. -/
def ownB (A : Option Addr) : Option Nat := A.map (·.block)
section
variable {e : TypeId} {k : Nat} {w w1 : World} {base N cap : Nat} {A : Option Addr} {xs : List Value}
theorem ownB_eq (A : Option Addr) (N cap : Nat) : (Value.slice A N cap).ownBlock = ownB A := by cases A <;> rfl
theorem Own.nil (e : TypeId) (k : Nat) (w : World) (base : Nat) : Own e k w base none 0 0 [] := World.ownsRow_nil w base e k
theorem Own.len (h : Own e k w base A N cap xs) : xs.length = N * k := h.1
theorem Own.le_cap (h : Own e k w base A N cap xs) : N ≤ cap := by
  obtain ⟨_, h | ⟨g, cap', cur, hv, _, _, hc, _⟩⟩ := h
  · cases h.1; exact Nat.le_refl _
  · cases hv; exact hc
theorem Own.form (h : Own e k w base A N cap xs) : A = none ∧ N = 0 ∧ cap = 0 ∨ ∃ g, A = some ⟨g, 0, none⟩ ∧ base ≤ g ∧ g < w.heap.size := by
  obtain ⟨_, h | ⟨g, cap', cur, hv, hb, hg, _⟩⟩ := h
  · cases h.1; exact .inl ⟨rfl, rfl, rfl⟩
  · cases hv; exact .inr ⟨g, rfl, hb, (Array.getElem?_eq_some_iff.1 hg).1⟩
theorem Own.fresh (h : Own e k w base A N cap xs) : ∀ a, A = some a → base ≤ a.block := fun a ha => by
  rcases h.form with ⟨h', _⟩ | ⟨g, h', hb, _⟩
  · rw [h'] at ha; cases ha
  · rw [h'] at ha; cases ha; exact hb
theorem CellsS.put {p : Addr} {v : Value} (h : CellsS w A xs) (hp : 0 < xs.length → ∀ a, A = some a → a.block ≠ p.block) : CellsS (w.setCell p v) A xs := fun h0 => by
  obtain ⟨b, o, hA, hl⟩ := h h0
  have hne : b ≠ p.block := hp h0 _ hA
  exact ⟨b, o, hA, by have := hl.1; simpa [World.setCell] using this, fun j u hj => by rw [World.cell?_setCell_other _ _ _ _ (fun e' => hne (congrArg Addr.block e').symm)]; exact hl.2 j u hj⟩
theorem Own.cells (h : Own e k w base A N cap xs) : CellsS w A xs := fun h0 => by
  rcases h.form with ⟨rfl, rfl, _⟩ | ⟨g, rfl, _, hg⟩
  · have := h.len; omega
  · refine ⟨g, 0, rfl, hg, fun j v hv => ?_⟩
    have hj := (List.getElem?_eq_some_iff.1 hv).1
    rw [Nat.zero_add, World.ownsRow.cellAt h j (by have := h.len; omega)]
    exact hv
theorem ownsRow_below {v : Value} {n : Nat} (h : w.ownsRow base e k v n xs) (hb : Below w.heap.size w w1) : w1.ownsRow base e k v n xs := by
  obtain ⟨h1, h2⟩ := h
  refine ⟨h1, ?_⟩
  rcases h2 with h2 | ⟨g, cap, cur, hv, hg, hh, r⟩
  · exact Or.inl h2
  · exact Or.inr ⟨g, cap, cur, hv, hg, (hb.block g (Array.getElem?_eq_some_iff.mp hh).1).trans hh, r⟩
theorem Own.after (h : Own e k w base A N cap xs) (hb : Below w.heap.size w w1) : Own e k w1 base A N cap xs := ownsRow_below h hb
theorem Own.toBase {base' : Nat} (h : Own e k w base A N cap xs) (hb : base' ≤ base) : Own e k w base' A N cap xs := by
  obtain ⟨h1, h2⟩ := h
  refine ⟨h1, ?_⟩
  rcases h2 with h2 | ⟨g, cap', cur, hv, hg, hh, r⟩
  · exact Or.inl h2
  · exact Or.inr ⟨g, cap', cur, hv, Nat.le_trans hb hg, hh, r⟩
theorem Own.drew (h : Own e k w base A N cap xs) : Own e k w.drew base A N cap xs := h
theorem Own.drewN (h : Own e k w base A N cap xs) (n : Nat) : Own e k (w.drewN n) base A N cap xs := h
theorem Own.alloc (h : Own e k w base A N cap xs) (o : Obj) : Own e k (w.alloc o) base A N cap xs := World.ownsRow.alloc h o
theorem Own.put (h : Own e k w base A N cap xs) {p : Addr} (hp : ∀ g, ownB A = some g → g ≠ p.block) (v : Value) : Own e k (w.setCell p v) base A N cap xs := by
  refine ownsRow_setCell_other h (fun e' => ?_) v
  rw [ownB_eq] at e'
  exact hp _ e' rfl
theorem own_slice {v : Value} {n : Nat} (h : w.ownsRow base e k v n xs) : ∃ A cap, v = .slice A n cap := by
  obtain ⟨_, ⟨rfl, rfl⟩ | ⟨g, cap', cur, rfl, hb, _⟩⟩ := h
  · exact ⟨none, 0, rfl⟩
  · exact ⟨_, _, rfl⟩
end
/-- An element type's facts, for append. -/
structure ElemTy (P : Program) (T e : TypeId) (k bytes : Nat) : Prop where
  ty : P.underlying T = some (.slice e)
  info : ∃ i z, P.info? e = some i ∧ i.zero = some z ∧ i.size = k ∧ i.bytes = bytes ∧ z.cells.size = k
  pos : 0 < k
  small : bytes ≤ 16
theorem below_grown {w w' : World} {A : Option Addr} {base : Nat} (hg : w.grownBy w' (ownB A)) (hb : base ≤ w.heap.size) (hA : ∀ g, ownB A = some g → base ≤ g) : Below base w w' := (Below.refl base w).grown hg hb hA
theorem run_app {P : Program} {w : World} {T e : TypeId} {k bytes : Nat} (hE : ElemTy P T e k bytes) (ty : TypeId) (base : Nat) (A : Option Addr) (N cap : Nat) (xs : List Value) (E : Option Addr) (m c : Nat) (ys : List Value)
    (hown : Own e k w base A N cap xs) (hr : CellsS w E ys) (hys : ys.length = m * k) (hone : ∀ u ∈ ys, u.oneCell' = true) (hN : N + m ≤ 1000000000) (hb : base ≤ w.heap.size) :
    ∃ (A' : Option Addr) (cap' : Nat) (w' : World), (Builtin.append_ #[T, T] ty #[.slice A N cap, .slice E m c]).run P w = .ok (.slice A' (N + m) cap') w' ∧ Own e k w' base A' (N + m) cap' (xs ++ ys) ∧ w.grownBy w' (ownB A) ∧ Below base w w' := by
  obtain ⟨i0, z, hi, hz, hz1, hz2, hz3⟩ := hE.info
  have hsm := hE.small
  cases E with
  | none =>
    have hy : ys = [] := by
      cases ys with
      | nil => rfl
      | cons p r => obtain ⟨b, o', h, _⟩ := hr (by simp); cases h
    subst hy
    obtain rfl : m = 0 := by
      have hk := hE.pos
      cases m with
      | zero => rfl
      | succ m => exfalso; have h0 := Nat.mul_pos (Nat.succ_pos m) hk; rw [← hys] at h0; simp at h0
    have hcap := hown.le_cap
    have hrun : (Builtin.append_ #[T, T] ty #[.slice A N cap, .slice none 0 c]).run P w = .ok (.slice A N cap) w := by
      cases A <;> simp [Builtin.append_, run_underlying hE.ty, sizeOf, typeInfo, hi, hcap, storeCells, Builtin.firstCells, Builtin.lenOf]
    exact ⟨A, cap, w, hrun, by rw [List.append_nil]; exact hown, World.grownBy.refl _ _, Below.refl _ _⟩
  | some ad =>
    obtain ⟨v', w', hrun, hown', hgr, _, _⟩ := run_append_own_at w base T ty e i0 z k bytes hE.ty hi hz hz1 hz2 hz3 hE.pos _ N xs hown ad m c ys hys (fun j u hj => by
      obtain ⟨b, o', hA, hw⟩ := hr (by have := (List.getElem?_eq_some_iff.1 hj).1; omega)
      cases hA
      have e : (⟨b, o', none⟩ : Addr).add j = ⟨b, o' + j, none⟩ := by simp [Addr.add]
      rw [e]
      exact hw.2 j u hj) hone (by unfold maxLen; omega) (Nat.le_trans (Nat.mul_le_mul hN hsm) (by decide)) hb
    obtain ⟨A', cap', rfl⟩ := own_slice hown'
    rw [ownB_eq] at hgr
    exact ⟨A', cap', w', hrun, hown', hgr, below_grown hgr hb (fun g hg => (World.ownsRow.lt hown g (by rw [ownB_eq]; exact hg)).1)⟩
/-- append of a slice to one that owns its row: at Oper.wp. -/
theorem wp_app {P : Program} {w : World} {o : Oper} {a : Act} {K : Act → World → Prop} {Q : Exit → Act → World → Prop} (s x : Operand) {T e : TypeId} {k bytes : Nat}
    (hE : ElemTy P T e k bytes) (ho : o.op = Op.call { callee := Callee.builtin Builtin.append, args := #[s, x], argTypes := #[T, T] }) (base : Nat) (A : Option Addr) (N cap : Nat) (xs : List Value) (E : Option Addr) (m c : Nat) (ys : List Value)
    (hs : a.eval s = .slice A N cap) (hx : a.eval x = .slice E m c) (hown : Own e k w base A N cap xs) (hr : CellsS w E ys) (hys : ys.length = m * k) (hone : ∀ u ∈ ys, u.oneCell' = true) (hN : N + m ≤ 1000000000) (hb : base ≤ w.heap.size)
    (hK : ∀ (A' : Option Addr) (cap' : Nat) (w' : World), Own e k w' base A' (N + m) cap' (xs ++ ys) → w.grownBy w' (ownB A) → Below base w w' → K (a.put o.dst (.slice A' (N + m) cap')) w') :
    o.wp P a w K Q := by
  obtain ⟨A', cap', w', hrun, h1, h2, h3⟩ := run_app hE o.type base A N cap xs E m c ys hown hr hys hone hN hb
  unfold Oper.wp
  simp only [execOp, ho, resolve, invoke, builtin, Sem.run_bind, Sem.run_pure, Result.andThen_ok, List.map_toArray, List.map_cons, List.map_nil, hs, hx, hrun]
  exact hK A' cap' w' h1 h2 h3
/-- At a plain region's list. -/
theorem wpList_app {P : Program} {w : World} {ops : Array Oper} {rest : List Oper} {o : Oper} {a : Act} {Q : Exit → Act → World → Prop} (hg : o.guard = none) (s x : Operand) {T e : TypeId} {k bytes : Nat}
    (hE : ElemTy P T e k bytes) (ho : o.op = Op.call { callee := Callee.builtin Builtin.append, args := #[s, x], argTypes := #[T, T] }) (base : Nat) (A : Option Addr) (N cap : Nat) (xs : List Value) (E : Option Addr) (m c : Nat) (ys : List Value)
    (hs : a.eval s = .slice A N cap) (hx : a.eval x = .slice E m c) (hown : Own e k w base A N cap xs) (hr : CellsS w E ys) (hys : ys.length = m * k) (hone : ∀ u ∈ ys, u.oneCell' = true) (hN : N + m ≤ 1000000000) (hb : base ≤ w.heap.size)
    (hK : ∀ (A' : Option Addr) (cap' : Nat) (w' : World), Own e k w' base A' (N + m) cap' (xs ++ ys) → w.grownBy w' (ownB A) → Below base w w' → wpList P ops Q rest (a.put o.dst (.slice A' (N + m) cap')) w') :
    wpList P ops Q (o :: rest) a w :=
  wpList_plain hg fun _ hK' => wp_app s x hE ho base A N cap xs E m c ys hs hx hown hr hys hone hN hb (fun A' cap' w' h1 h2 h3 => hK' _ _ (hK A' cap' w' h1 h2 h3))
/-- As a step of a region that draws. -/
theorem step_app {P : Program} {w : World} {ops : Array Oper} {o : Oper} {a : Act} {K : Act → World → Prop} {Q : Exit → Act → World → Prop} {E' : Prop} (hg : o.guard = none) (s x : Operand) {T e : TypeId} {k bytes : Nat}
    (hE : ElemTy P T e k bytes) (ho : o.op = Op.call { callee := Callee.builtin Builtin.append, args := #[s, x], argTypes := #[T, T] }) (base : Nat) (A : Option Addr) (N cap : Nat) (xs : List Value) (E : Option Addr) (m c : Nat) (ys : List Value)
    (hs : a.eval s = .slice A N cap) (hx : a.eval x = .slice E m c) (hown : Own e k w base A N cap xs) (hr : CellsS w E ys) (hys : ys.length = m * k) (hone : ∀ u ∈ ys, u.oneCell' = true) (hN : N + m ≤ 1000000000) (hb : base ≤ w.heap.size)
    (hK : ∀ (A' : Option Addr) (cap' : Nat) (w' : World), Own e k w' base A' (N + m) cap' (xs ++ ys) → w.grownBy w' (ownB A) → Below base w w' → K (a.put o.dst (.slice A' (N + m) cap')) w') :
    if Region.wanted o (yielded ops a.tmps) = true then Oper.wp P o a w K Q else E' := by
  rw [if_pos (by simp [Region.wanted, hg])]
  exact wp_app s x hE ho base A N cap xs E m c ys hs hx hown hr hys hone hN hb hK
/-- The cells of counts. -/
def cntCs : List (Int × Int) → List Value
  | [] => []
  | p :: r => .int .i64 p.1 :: .int .i64 p.2 :: cntCs r
theorem cntCs_len : ∀ l, (cntCs l).length = l.length * 2
  | [] => rfl
  | _ :: r => by rw [cntCs, List.length_cons, List.length_cons, cntCs_len r, List.length_cons]; omega
theorem cntCs_append : ∀ l m, cntCs (l ++ m) = cntCs l ++ cntCs m
  | [], _ => rfl
  | p :: r, m => by rw [List.cons_append, cntCs, cntCs, cntCs_append r m]; rfl
theorem cntCs_cons (p : Int × Int) (r : List (Int × Int)) : cntCs (p :: r) = [.int .i64 p.1, .int .i64 p.2] ++ cntCs r := rfl
theorem cntCs_one : ∀ l, ∀ u ∈ cntCs l, u.oneCell' = true
  | [], u, h => by cases h
  | p :: r, u, h => by
    rw [cntCs] at h
    rcases List.mem_cons.1 h with rfl | h
    · rfl
    · rcases List.mem_cons.1 h with rfl | h
      · rfl
      · exact cntCs_one r u h
theorem cntCs_get : ∀ (l : List (Int × Int)) (i : Nat) (p : Int × Int), l[i]? = some p → (cntCs l)[i * 2]? = some (.int .i64 p.1) ∧ (cntCs l)[i * 2 + 1]? = some (.int .i64 p.2)
  | [], i, p, h => by simp at h
  | q :: r, 0, p, h => by
    obtain rfl := Option.some.inj h
    exact ⟨rfl, rfl⟩
  | q :: r, i + 1, p, h => by
    have := cntCs_get r i p (by simpa using h)
    rw [cntCs, show (i + 1) * 2 = i * 2 + 1 + 1 by omega, show i * 2 + 1 + 1 + 1 = (i * 2 + 1) + 1 + 1 by omega]
    simpa using this
/-- Whole numbers' cells. -/
def intCs (l : List Int) : List Value := l.map (.int .i64)
theorem intCs_len (l : List Int) : (intCs l).length = l.length * 1 := by simp [intCs]
theorem intCs_one (l : List Int) : ∀ u ∈ intCs l, u.oneCell' = true := fun u h => by
  obtain ⟨x, _, rfl⟩ := List.mem_map.1 h
  rfl
theorem intCs_append (l m : List Int) : intCs (l ++ m) = intCs l ++ intCs m := by simp [intCs]
theorem intCs_get {l : List Int} {i : Nat} {x : Int} (h : l[i]? = some x) : (intCs l)[i]? = some (.int .i64 x) := by simp [intCs, h]
theorem elemCnt : ElemTy Tryz.prog 24 69 2 16 := ⟨Tryz.underlying24, ⟨(Tryz.prog.info? 69).get!, cntV 0 0, by kernel_rfl, by kernel_rfl, by kernel_rfl, by kernel_rfl, rfl⟩, by decide, by decide⟩
theorem elemI64 : ElemTy Tryz.prog 22 2 1 8 := ⟨Tryz.underlying22, ⟨(Tryz.prog.info? 2).get!, .int .i64 0, by kernel_rfl, by kernel_rfl, by kernel_rfl, by kernel_rfl, rfl⟩, by decide, by decide⟩
theorem elemStr : ElemTy Tryz.prog 71 9 1 16 := ⟨Tryz.underlying71, ⟨(Tryz.prog.info? 9).get!, .string ⟨#[]⟩, by kernel_rfl, by kernel_rfl, by kernel_rfl, by kernel_rfl, rfl⟩, by decide, by decide⟩
theorem cells_row {w : World} {b : Nat} {xs : List Value} (h : Row w b xs) : CellsS w (some ⟨b, 0, none⟩) xs := fun _ => ⟨b, 0, rfl, h.1, fun j v hv => by rw [Nat.zero_add]; exact h.c j hv⟩
/-- A slice of counts without its first. -/
theorem run_tail (A : Option Addr) (n c : Nat) : ∃ A', (∀ (W : World), (Instr.sliceAt 24 (.slice A (n + 1) c) (some (.int .i64 1)) none none).run Tryz.prog W = .ok (.slice A' n (c - 1)) W) ∧ A' = if c = 1 then A else A.map (·.add 2) := by
  refine ⟨_, fun W => ?_, rfl⟩
  have e : Tryz.prog.elem 24 = 69 := by kernel_rfl
  have es : (sizeOf 69).run Tryz.prog W = .ok 2 W := by kernel_rfl
  have h1 := run_sliceAt_slice (P := Tryz.prog) (w := W) 24 (.slice A (n + 1) c) (some (.int .i64 1)) none none (by rw [e]; exact Tryz.underlying24)
  have h2 := run_slice_l (P := Tryz.prog) (w := W) 24 A (n + 1) c (by rw [e]; exact Tryz.underlying24) .i64 1 (by omega) (by omega)
  rw [h1, h2, e, es]
  simp [Result.andThen, sliced]
end Go.Proofs.YtjhcddlhhfjnaaaGreatDoor
