/- Four rows of arms, one for each quarter: what circleOf has in the midst of its work; no program text. -/
import Derived.Test.YtfdofajknnocfaaNI
import Derived.Test.YtfdofajknnocfaaNX
import Derived.Deep.AppendLies
namespace Go.Proofs.Ytfdofajknnocfaa
open Go.RowKit

/-- The cells of arms. -/
def armCs : List (Int × Int) → List Value
  | [] => []
  | p :: r => .int .i64 p.1 :: .int .i64 p.2 :: .int .i64 (quart p.1 p.2) :: armCs r
theorem armCs_len : ∀ l, (armCs l).length = l.length * 3
  | [] => rfl
  | _ :: r => by rw [armCs, List.length_cons, List.length_cons, List.length_cons, armCs_len r, List.length_cons]; omega
theorem armCs_append : ∀ l m, armCs (l ++ m) = armCs l ++ armCs m
  | [], _ => rfl
  | p :: r, m => by rw [List.cons_append, armCs, armCs, armCs_append r m]; rfl
theorem armCs_get : ∀ (l : List (Int × Int)) (i : Nat) (p : Int × Int), l[i]? = some p → (armCs l)[i * 3]? = some (.int .i64 p.1) ∧ (armCs l)[i * 3 + 1]? = some (.int .i64 p.2) ∧ (armCs l)[i * 3 + 2]? = some (.int .i64 (quart p.1 p.2))
  | [], i, p, h => by simp at h
  | q :: r, 0, p, h => by
    obtain rfl := Option.some.inj h
    exact ⟨rfl, rfl, rfl⟩
  | q :: r, i + 1, p, h => by
    have := armCs_get r i p (by simpa using h)
    rw [armCs, show (i + 1) * 3 = i * 3 + 1 + 1 + 1 by omega, show i * 3 + 1 + 1 + 1 + 1 = (i * 3 + 1) + 1 + 1 + 1 by omega, show i * 3 + 1 + 1 + 1 + 2 = (i * 3 + 2) + 1 + 1 + 1 by omega]
    simpa using this
def OwnA (w : World) (base : Nat) (A : Option Addr) (ws : List (Int × Int)) (N cap : Nat) : Prop := w.ownsRow base 50 3 (.slice A N cap) N (armCs ws) ∧ N = ws.length
theorem OwnA.start (w : World) (base : Nat) : OwnA w base none [] 0 0 := ⟨⟨rfl, Or.inl ⟨rfl, rfl⟩⟩, rfl⟩
theorem OwnA.below {w w1 : World} {base : Nat} {A : Option Addr} {ws : List (Int × Int)} {N cap : Nat} (h : OwnA w base A ws N cap) (hb : Below w.heap.size w w1) : OwnA w1 base A ws N cap := ⟨ownsRow_below h.1 hb, h.2⟩
theorem own_block (A : Option Addr) (n c : Nat) : (Value.slice A n c).ownBlock = A.map (·.block) := by cases A <;> rfl
theorem OwnA.lt {w : World} {base : Nat} {A : Option Addr} {ws : List (Int × Int)} {N cap : Nat} (h : OwnA w base A ws N cap) {a : Addr} (ha : A = some a) : base ≤ a.block ∧ a.block < w.heap.size := h.1.lt a.block (by subst ha; rfl)
theorem grown_cell {w w1 : World} {row : Option Nat} (h : w.grownBy w1 row) {b : Nat} (hb : b < w.heap.size) (hn : some b ≠ row) (i : Nat) : w1.cell? ⟨b, i, none⟩ = w.cell? ⟨b, i, none⟩ ∧ w1.frozen? ⟨b, i, none⟩ = w.frozen? ⟨b, i, none⟩ := by
  have e := h.block b hb hn
  exact ⟨by simp only [World.cell?, e], by simp only [World.frozen?, e]⟩
def upd {α : Type} (f : Nat → α) (m : Nat) (v : α) : Nat → α := fun q => if q = m then v else f q
theorem upd_same {α : Type} (f : Nat → α) (m : Nat) (v : α) : upd f m v m = v := by simp [upd]
theorem upd_other {α : Type} (f : Nat → α) {m q : Nat} (v : α) (h : q ≠ m) : upd f m v q = f q := by simp [upd, h]
/-- Four rows, apart. -/
structure Rows4 (base : Nat) (A : Nat → Option Addr) (N cap : Nat → Nat) (L : Nat → List (Int × Int)) (W : World) : Prop where
  own : ∀ q, q < 4 → OwnA W base (A q) (L q) (N q) (cap q)
  dis : ∀ p q, p < 4 → q < 4 → p ≠ q → ∀ a b, A p = some a → A q = some b → a.block ≠ b.block
def Cells4 (C : Nat) (A : Nat → Option Addr) (N cap : Nat → Nat) (W : World) : Prop := C < W.heap.size ∧ ∀ q, q < 4 → W.cell? ⟨C, q, none⟩ = some (.slice (A q) (N q) (cap q)) ∧ W.frozen? ⟨C, q, none⟩ = false
section
variable {base C m g c' : Nat} {A : Nat → Option Addr} {N cap : Nat → Nat} {L : Nat → List (Int × Int)} {W W1 : World} {x : Int × Int}
theorem Rows4.below (h : Rows4 base A N cap L W) (hb : Below W.heap.size W W1) : Rows4 base A N cap L W1 := ⟨fun q hq => (h.own q hq).below hb, h.dis⟩
theorem Cells4.below (h : Cells4 C A N cap W) (hb : Below W.heap.size W W1) : Cells4 C A N cap W1 := by
  refine ⟨Nat.lt_of_lt_of_le h.1 hb.size, fun q hq => ?_⟩
  rw [(bcell hb).1 C _ h.1, (bcell hb).2 C _ h.1]
  exact h.2 q hq
theorem Rows4.push (h : Rows4 base A N cap L W) (hm : m < 4) (ho : OwnA W1 base (some ⟨g, 0, none⟩) (L m ++ [x]) (N m + 1) c') (hg : W.grownBy W1 ((A m).map (·.block))) (hw : (A m).map (·.block) = some g ∨ g = W.heap.size) :
    Rows4 base (upd A m (some ⟨g, 0, none⟩)) (upd N m (N m + 1)) (upd cap m c') (upd L m (L m ++ [x])) W1 := by
  have hd : ∀ q, q < 4 → q ≠ m → ∀ a, A q = some a → a.block ≠ g := fun q hq hn a ha => by
    rcases hw with hw | hw
    · cases hA : A m with
      | none => rw [hA] at hw; cases hw
      | some b =>
        rw [hA] at hw
        have := h.dis q m hq hm hn a b ha hA
        injection hw with hw
        have hw : b.block = g := hw
        omega
    · have := (h.own q hq).lt ha; omega
  refine ⟨fun q hq => ?_, fun p q hp hq hn a b ha hb => ?_⟩
  · by_cases e : q = m
    · subst e; rw [upd_same, upd_same, upd_same, upd_same]; exact ho
    · rw [upd_other _ _ e, upd_other _ _ e, upd_other _ _ e, upd_other _ _ e]
      have hq' := h.own q hq
      refine ⟨hq'.1.kept hg ?_, hq'.2⟩
      rw [own_block]
      cases hA : A q with
      | none => exact Or.inl rfl
      | some a =>
        refine Or.inr fun he => ?_
        cases hM : A m with
        | none => rw [hM] at he; cases he
        | some b =>
          rw [hM] at he
          injection he with he
          exact h.dis q m hq hm e a b hA hM he
  · by_cases e : p = m
    · subst e
      rw [upd_same] at ha
      rw [upd_other _ _ (fun e => hn e.symm)] at hb
      obtain rfl := Option.some.inj ha
      exact fun he => hd q hq (fun e => hn e.symm) b hb he.symm
    · by_cases e' : q = m
      · subst e'
        rw [upd_other _ _ e] at ha
        rw [upd_same] at hb
        obtain rfl := Option.some.inj hb
        exact hd p hp e a ha
      · rw [upd_other _ _ e] at ha
        rw [upd_other _ _ e'] at hb
        exact h.dis p q hp hq hn a b ha hb
theorem Cells4.put (h : Cells4 C A N cap W) (hm : m < 4) (a : Option Addr) (n c : Nat) : Cells4 C (upd A m a) (upd N m n) (upd cap m c) (W.setCell ⟨C, m, none⟩ (.slice a n c)) := by
  refine ⟨by simpa [World.setCell] using h.1, fun q hq => ⟨?_, by rw [World.frozen?_setCell]; exact (h.2 q hq).2⟩⟩
  by_cases e : q = m
  · subst e
    rw [upd_same, upd_same, upd_same, World.cell?_setCell_same' _ _ _ (by rw [(h.2 q hq).1]; rfl)]
  · rw [upd_other _ _ e, upd_other _ _ e, upd_other _ _ e, World.cell?_setCell_other _ _ _ _ (fun he => e (congrArg Addr.off he).symm)]
    exact (h.2 q hq).1
theorem Rows4.aside (h : Rows4 base A N cap L W) (hC : C < base) (i : Nat) (v : Value) : Rows4 base A N cap L (W.setCell ⟨C, i, none⟩ v) := by
  refine ⟨fun q hq => ⟨?_, (h.own q hq).2⟩, h.dis⟩
  obtain ⟨h1, h2⟩ := (h.own q hq).1
  refine ⟨h1, ?_⟩
  rcases h2 with h2 | ⟨g, cap', cur, hv, hb, hg, r⟩
  · exact Or.inl h2
  · refine Or.inr ⟨g, cap', cur, hv, hb, ?_, r⟩
    have : g ≠ C := by omega
    simp only [World.setCell, Array.getElem?_modify]
    rw [if_neg (by omega)]; exact hg
end
/-- In the midst of one arm's append. -/
structure CirS (w0 : World) (base C D m : Nat) (x : Int × Int) (A : Nat → Option Addr) (N cap : Nat → Nat) (L : Nat → List (Int × Int)) (ls : Nat → Bool) (sl : Nat → Value) (W : World) : Prop where
  below : Below C w0 W
  box : Row W D (armL x.1 x.2 (quart x.1 x.2))
  one : ls 7 = true → ∃ B, sl 21 = .slice (some ⟨B, 0, none⟩) 1 1 ∧ (ls 8 = false → Row W B (armL x.1 x.2 (quart x.1 x.2)))
  bef : ls 8 = false → Rows4 base A N cap L W
  aft : ls 8 = true → ∃ g c', sl 22 = .slice (some ⟨g, 0, none⟩) (N m + 1) c' ∧ Rows4 base (upd A m (some ⟨g, 0, none⟩)) (upd N m (N m + 1)) (upd cap m c') (upd L m (L m ++ [x])) W ∧
    (ls 10 = true → Cells4 C (upd A m (some ⟨g, 0, none⟩)) (upd N m (N m + 1)) (upd cap m c') W)
  cel : ls 10 = false → Cells4 C A N cap W
  o10 : ls 10 = true → ls 8 = true
  o8 : ls 8 = true → ls 5 = true ∧ ls 7 = true
theorem getD_off {listed : Array Bool} {i j : Nat} (h : i ≠ j) : (listed.setIfInBounds i true).getD j false = listed.getD j false := getD_set_ne false h
theorem getD_no {listed : Array Bool} {i : Nat} (h : listed.getD i true = false) : listed.getD i false = false := by
  cases hl : listed[i]? with
  | none => simp [hl] at h
  | some b => simp [hl] at h ⊢; exact h
theorem getD_keep {listed : Array Bool} {i j : Nat} (h : listed.getD j false = true) : (listed.setIfInBounds i true).getD j false = true := by
  by_cases e : i = j
  · subst e
    have hl : i < listed.size := by
      cases hl : listed[i]? with
      | none => simp [hl] at h
      | some b => exact (Array.getElem?_eq_some_iff.1 hl).1
    simp [hl]
  · rw [getD_off e]; exact h
theorem listed_me {listed : Array Bool} {n : Nat} (hs : listed.size = n) (i : Nat) (hi : i < n) : (listed.setIfInBounds i true).getD i false = true := by
  have : i < listed.size := by omega
  simp [this]
section
variable {w0 W W1 : World} {base C D m : Nat} {x : Int × Int} {A : Nat → Option Addr} {N cap : Nat → Nat} {L : Nat → List (Int × Int)} {listed : Array Bool} {a : Act}
theorem CirS.next (h : CirS w0 base C D m x A N cap L (fun j => listed.getD j false) (slotOf a) W) (i t : Nat) (v : Value) (hi : i ≠ 7 ∧ i ≠ 8 ∧ i ≠ 10) (ht : t ≠ 21 ∧ t ≠ 22) :
    CirS w0 base C D m x A N cap L (fun j => (listed.setIfInBounds i true).getD j false) (slotOf (a.put (some t) v)) W := by
  refine ⟨h.below, h.box, ?_, ?_, ?_, ?_, ?_, fun q => ?_⟩
  · rw [getD_off hi.1, getD_off hi.2.1, slot_put_other v ht.1]; exact h.one
  · rw [getD_off hi.2.1]; exact h.bef
  · rw [getD_off hi.2.1, getD_off hi.2.2, slot_put_other v ht.2]; exact h.aft
  · rw [getD_off hi.2.2]; exact h.cel
  · rw [getD_off hi.2.1, getD_off hi.2.2]; exact h.o10
  · rw [getD_off hi.2.1] at q; exact ⟨getD_keep (h.o8 q).1, getD_keep (h.o8 q).2⟩
theorem CirS.new (h : CirS w0 base C D m x A N cap L (fun j => listed.getD j false) (slotOf a) W) (hw : C ≤ w0.heap.size) (ht : 21 < a.tmps.size) (h8 : listed.getD 8 false = false) (t : TypeId) :
    CirS w0 base C D m x A N cap L (fun j => (listed.setIfInBounds 7 true).getD j false) (slotOf (a.put (some 21) (.slice (some ⟨W.heap.size, 0, none⟩) 1 1))) (W.alloc (.cells #[.int .i64 x.1, .int .i64 x.2, .int .i64 (quart x.1 x.2)] t)) := by
  have hb : Below W.heap.size W (W.alloc (.cells #[.int .i64 x.1, .int .i64 x.2, .int .i64 (quart x.1 x.2)] t)) := (Below.refl _ _).alloc (Nat.le_refl _) _
  refine ⟨h.below.alloc (Nat.le_trans hw h.below.size) _, h.box.alloc _, fun _ => ⟨W.heap.size, slot_put_same _ ht, fun _ => Row.at rfl (armL x.1 x.2 (quart x.1 x.2)) _⟩, ?_, ?_, ?_, ?_, ?_⟩
  · rw [getD_off (by omega)]; exact fun q => (h.bef q).below hb
  · rw [getD_off (by omega), h8]; intro q; cases q
  · rw [getD_off (by omega)]; exact fun q => (h.cel q).below hb
  · rw [getD_off (by omega), getD_off (by omega)]; exact h.o10
  · rw [getD_off (by omega), h8]; intro q; cases q
theorem CirS.grow (h : CirS w0 base C D m x A N cap L (fun j => listed.getD j false) (slotOf a) W) (hs : listed.size = 11) (ht : 22 < a.tmps.size) (h8 : listed.getD 8 false = false) (h10 : listed.getD 10 false = false) (hm : m < 4) (hC : C < base) (hD : ∀ b, A m = some b → b.block ≠ D) (h0 : C ≤ w0.heap.size) (h5 : listed.getD 5 false = true) (h7 : listed.getD 7 false = true) {g c' : Nat} (ho : OwnA W1 base (some ⟨g, 0, none⟩) (L m ++ [x]) (N m + 1) c') (hg : W.grownBy W1 ((A m).map (·.block))) (hw : (A m).map (·.block) = some g ∨ g = W.heap.size) :
    CirS w0 base C D m x A N cap L (fun j => (listed.setIfInBounds 8 true).getD j false) (slotOf (a.put (some 22) (.slice (some ⟨g, 0, none⟩) (N m + 1) c'))) W1 := by
  have hr := h.bef h8
  have hc := h.cel h10
  have hrow : ∀ b, (A m).map (·.block) = some b → C ≤ b := fun b hb => by
    cases hA : A m with
    | none => rw [hA] at hb; cases hb
    | some d =>
      rw [hA] at hb
      injection hb with hb
      have hb : d.block = b := hb
      have := (hr.own m hm).lt hA
      omega
  have hneD : some D ≠ (A m).map (·.block) := fun he => by
    cases hA : A m with
    | none => rw [hA] at he; cases he
    | some d =>
      rw [hA] at he
      injection he with he
      exact hD d hA he.symm
  have hneC : some C ≠ (A m).map (·.block) := fun he => by
    cases hA : A m with
    | none => rw [hA] at he; cases he
    | some d =>
      rw [hA] at he
      injection he with he
      have he : C = d.block := he
      have := (hr.own m hm).lt hA
      omega
  refine ⟨h.below.grown hg (Nat.le_trans h0 h.below.size) hrow, ⟨Nat.lt_of_lt_of_le h.box.lt hg.size, fun i v hv => ?_⟩, ?_, ?_, ?_, ?_, ?_, fun _ => ⟨getD_keep h5, getD_keep h7⟩⟩
  · have e := grown_cell hg h.box.lt hneD i
    rw [e.1, e.2]; exact h.box.2 i v hv
  · rw [listed_me hs 8 (by omega), getD_off (by omega), slot_put_other _ (by omega)]
    intro q
    obtain ⟨B, hB, _⟩ := h.one q
    exact ⟨B, hB, fun k => by cases k⟩
  · rw [listed_me hs 8 (by omega)]; intro q; cases q
  · intro _
    refine ⟨g, c', slot_put_same _ ht, hr.push hm ho hg hw, ?_⟩
    rw [getD_off (by omega), h10]; intro q; cases q
  · intro _
    refine ⟨Nat.lt_of_lt_of_le hc.1 hg.size, fun q hq => ?_⟩
    have e := grown_cell hg hc.1 hneC q
    rw [e.1, e.2]; exact hc.2 q hq
  · rw [getD_off (by omega), h10]; intro q; cases q
theorem CirS.put (h : CirS w0 base C D m x A N cap L (fun j => listed.getD j false) (slotOf a) W) (hs : listed.size = 11) (h8 : listed.getD 8 false = true) (h10 : listed.getD 10 false = false) (hm : m < 4) (hC : C < base) (hDC : D ≠ C) {g c' : Nat} (hv : slotOf a 22 = .slice (some ⟨g, 0, none⟩) (N m + 1) c') :
    CirS w0 base C D m x A N cap L (fun j => (listed.setIfInBounds 10 true).getD j false) (slotOf (a.put none undef)) (W.setCell ⟨C, m, none⟩ (.slice (some ⟨g, 0, none⟩) (N m + 1) c')) := by
  obtain ⟨g1, c1, e1, hr, _⟩ := h.aft h8
  have hc := h.cel h10
  rw [hv] at e1
  injection e1 with e1 _ e3
  injection e1 with e1
  injection e1 with e1
  subst e1 e3
  refine ⟨below_put1 h.below (Nat.le_refl _) _ _, h.box.other (p := ⟨C, m, none⟩) (fun he => hDC he.symm) _, ?_, ?_, ?_, ?_, ?_, fun _ => ⟨getD_keep (h.o8 h8).1, getD_keep (h.o8 h8).2⟩⟩
  · rw [getD_off (by omega), getD_off (by omega)]
    intro q
    obtain ⟨B, hB, _⟩ := h.one q
    refine ⟨B, hB, fun k => ?_⟩
    rw [h8] at k; cases k
  · rw [getD_off (by omega), h8]; intro q; cases q
  · intro _
    exact ⟨g, c', hv, hr.aside hC _ _, fun _ => hc.put hm _ _ _⟩
  · rw [listed_me hs 10 (by omega)]; intro q; cases q
  · intro _; rw [getD_off (by omega)]; exact h8
end
theorem noDst_spec {ops : Array Oper} {t : Nat} (h : (ops.all fun o => o.dst != some t) = true) (i : Nat) (o : Oper) (hi : ops[i]? = some o) : o.dst ≠ some t := by
  have := Array.all_eq_true_iff_forall_mem.1 h o (Array.mem_of_getElem? hi)
  simpa using this
set_option maxRecDepth 100000 in
theorem arr33 (a : Array Value) (h : a.size = 33) : ∃ x0 x1 x2 x3 x4 x5 x6 x7 x8 x9 x10 x11 x12 x13 x14 x15 x16 x17 x18 x19 x20 x21 x22 x23 x24 x25 x26 x27 x28 x29 x30 x31 x32, a = #[x0, x1, x2, x3, x4, x5, x6, x7, x8, x9, x10, x11, x12, x13, x14, x15, x16, x17, x18, x19, x20, x21, x22, x23, x24, x25, x26, x27, x28, x29, x30, x31, x32] := by
  refine ⟨a[0], a[1], a[2], a[3], a[4], a[5], a[6], a[7], a[8], a[9], a[10], a[11], a[12], a[13], a[14], a[15], a[16], a[17], a[18], a[19], a[20], a[21], a[22], a[23], a[24], a[25], a[26], a[27], a[28], a[29], a[30], a[31], a[32], ?_⟩
  refine Array.ext (by simp [h]) (fun i h1 h2 => ?_)
  match i, h2 with
  | 0, _ | 1, _ | 2, _ | 3, _ | 4, _ | 5, _ | 6, _ | 7, _ | 8, _ | 9, _ | 10, _ | 11, _ | 12, _ | 13, _ | 14, _ | 15, _ | 16, _ | 17, _ | 18, _ | 19, _ | 20, _ | 21, _ | 22, _ | 23, _ | 24, _ | 25, _ | 26, _ | 27, _ | 28, _ | 29, _ | 30, _ | 31, _ | 32, _ => rfl
  | i + 33, h2 => simp at h2; omega
end Go.Proofs.Ytfdofajknnocfaa
