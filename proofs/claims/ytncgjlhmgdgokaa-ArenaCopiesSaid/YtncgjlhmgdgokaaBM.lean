/- law11.act of any act, in one contract; what stands between the laws' calls: an arena, the document's value, the box in which that lies; no condition. -/
import Derived.Test.YtncgjlhmgdgokaaBL
namespace Go.Proofs.Ytncgjlhmgdgokaa
open Go.RowKit Go.Sort ArenaMath Go.Maps

/-- What a call by both tells, whatever the call. -/
def ActP (w : World) (base many b m : Nat) (A A2 : Option Addr) (e : Ending) (w' : World) : Prop :=
  ∃ b' m' L' A' A3 n3 c3, e = .returned (.tuple #[.pointer (some ⟨b', 0, none⟩), rv many A3 n3 c3, .bool true]) ∧ ArS w' base b' many L' m' A' ∧ n3 = L'.length ∧ CellsS w' A3 (intCs L') ∧
    (∀ a, A3 = some a → (A2 = some a ∨ w.heap.size ≤ a.block) ∧ a.block < w'.heap.size ∧ ¬ foot b' m' A' a.block) ∧ Only (foot b m A) w w' ∧ (∀ k, foot b' m' A' k → foot b m A k ∨ w.heap.size ≤ k)
theorem act_any {w : World} {base b many m n c : Nat} {L : List Int} {A A2 : Option Addr} (wa x : Int) (h : ArS w base b many L m A) (hbase : base ≤ w.heap.size) (hn : n = L.length) (hA : CellsS w A2 (intCs L)) (hfar : ∀ a, A2 = some a → a.block < w.heap.size ∧ ¬ foot b m A a.block) (hwf : (Lit.int .i64 x).wf = true) :
    Calls Try.prog 19 #[.pointer (some ⟨b, 0, none⟩), rv many A2 n c, .agg #[.int .i64 wa, .int .i64 x]] w (ActP w base many b m A A2) := by
  have hp : ∀ e w', ActPost w base b many m A A2 e w' → ActP w base many b m A A2 e w' := by
    rintro e w' ⟨L', A', A3, n3, c3, rfl, ha, ho, hlc, hn3, hA3, hfr, hnf⟩
    refine ⟨b, m, L', A', A3, n3, c3, rfl, ha, hn3, hA3, fun a e => ⟨?_, ?_, hnf a e⟩, ho, fun k hk => ?_⟩
    · rcases hfr a e with h | h
      · exact .inl h
      · exact .inr h.1
    · rcases hfr a e with h | h
      · exact Nat.lt_of_lt_of_le (hfar a h).1 ho.size
      · exact h.2
    · rcases hk with hk | hk | hk
      · exact .inl (.inl hk)
      · exact .inl (.inr (.inl hk))
      · rcases hlc k hk with h | h
        · exact .inl (.inr (.inr h))
        · exact .inr h
  by_cases h0 : wa = 0
  · subst h0; exact (act0_any x h hbase hn hA hfar).mono hp
  by_cases h1 : wa = 1
  · subst h1; exact (act1_any x h hbase hn hA hfar hwf).mono hp
  by_cases h2 : wa = 2
  · subst h2; exact (act2_any x h hbase hn hA hfar hwf).mono hp
  refine (act3_any wa x ⟨h0, h1, h2⟩ h).mono ?_
  rintro e w' ⟨b', m', A', rfl, ha, hb⟩
  have hf := ha.footBase
  exact ⟨b', m', L, A', A2, n, c, rfl, ha.toBase hbase, hn, hA.after hb, fun a e => ⟨.inl e, Nat.lt_of_lt_of_le (hfar a e).1 hb.size, fun hk => by have := hf _ hk; have := (hfar a e).1; omega⟩, Only.of hb, fun k hk => .inr (hf k hk)⟩
/-- What stands between the laws' calls: the arena, the document's value, and a box that holds vr. F: the blocks that may have turned since m. -/
structure PlN (F : Nat → Prop) (s : Nat) (m : World) (kw many b mm : Nat) (L : List Int) (A : Option Addr) (vr : List Value) (A2 : Option Addr) (n2 : Nat) (W : World) : Prop where
  ar : ArS W s b many L mm A
  row : Row W kw vr
  len : n2 = L.length
  cells : CellsS W A2 (intCs L)
  far : ∀ a, A2 = some a → a.block < W.heap.size ∧ ¬ foot b mm A a.block ∧ a.block ≠ kw
  only : Only F m W
  loc : ∀ k, foot b mm A k → F k ∨ m.heap.size ≤ k
  kwn : ¬ foot b mm A kw
section
variable {F : Nat → Prop} {s kw many b mm n2 c2 : Nat} {m W W' : World} {L : List Int} {A A2 : Option Addr} {vr : List Value}
theorem PlN.after (h : PlN F s m kw many b mm L A vr A2 n2 W) (hb : Below W.heap.size W W') : PlN F s m kw many b mm L A vr A2 n2 W' :=
  ⟨h.ar.after hb, h.row.after hb, h.len, h.cells.after hb, fun a e => ⟨Nat.lt_of_lt_of_le (h.far a e).1 hb.size, (h.far a e).2⟩, h.only.trans (Only.of hb), h.loc, h.kwn⟩
/-- Another block, that is none of these, turns. -/
theorem PlN.other (h : PlN F s m kw many b mm L A vr A2 n2 W) {G : Nat → Prop} (ho : Only G W W') (hG : ∀ k, k < m.heap.size → G k → F k) (hk : ¬ G kw) (hf : ∀ k, foot b mm A k → ¬ G k) (ha : ∀ a, A2 = some a → ¬ G a.block) : PlN F s m kw many b mm L A vr A2 n2 W' :=
  ⟨h.ar.only ho hf, h.row.only ho hk, h.len, h.cells.only ho (fun _ a e => ha a e), fun a e => ⟨Nat.lt_of_lt_of_le (h.far a e).1 ho.size, (h.far a e).2⟩, h.only.next ho hG, h.loc, h.kwn⟩
/-- What a call of act tells of it. -/
def PlP (F : Nat → Prop) (s : Nat) (m : World) (kw many b mm : Nat) (A : Option Addr) (vr : List Value) (A2 : Option Addr) (V : World) (e : Ending) (V' : World) : Prop :=
  ∃ b' m' L' A' A3 n3 c3, e = .returned (.tuple #[.pointer (some ⟨b', 0, none⟩), .agg #[.int .i64 many, .slice A3 n3 c3], .bool true]) ∧ PlN F s m kw many b' m' L' A' vr A3 n3 V' ∧ Only (foot b mm A) V V' ∧ (∀ k, foot b' m' A' k → foot b mm A k ∨ V.heap.size ≤ k) ∧ (∀ a, A3 = some a → A2 = some a ∨ V.heap.size ≤ a.block)
theorem PlN.acted (h : PlN F s m kw many b mm L A vr A2 n2 W) (hs : s ≤ W.heap.size) (hF : ∀ k, foot b mm A k → k < m.heap.size → F k) (wa x : Int) (hwf : (Lit.int .i64 x).wf = true) :
    Calls Try.prog 19 #[.pointer (some ⟨b, 0, none⟩), .agg #[.int .i64 many, .slice A2 n2 c2], .agg #[.int .i64 wa, .int .i64 x]] W (PlP F s m kw many b mm A vr A2 W) := by
  refine (act_any wa x h.ar hs h.len h.cells (fun a e => ⟨(h.far a e).1, (h.far a e).2.1⟩) hwf).mono ?_
  rintro e V' ⟨b', m', L', A', A3, n3, c3, rfl, ha, hn3, hA3, hfr, ho, hlc⟩
  have hkl := h.row.lt
  refine ⟨b', m', L', A', A3, n3, c3, rfl, ⟨ha, h.row.only ho h.kwn, hn3, hA3, fun a e => ⟨(hfr a e).2.1, (hfr a e).2.2, ?_⟩, h.only.next ho (fun k hk hf => hF k hf hk), fun k hk => ?_, fun hk => ?_⟩, ho, hlc, fun a e => (hfr a e).1⟩
  · rcases (hfr a e).1 with g | g
    · exact (h.far a g).2.2
    · omega
  · rcases hlc k hk with g | g
    · exact h.loc k g
    · exact .inr (Nat.le_trans h.only.size g)
  · rcases hlc _ hk with g | g
    · exact h.kwn g
    · omega
/-- Two cells of a box are written. -/
theorem only_put2 (X : World) (bo : Nat) (y0 y1 : Value) : Only (fun k => k = bo) X ((X.setCell ⟨bo, 0, none⟩ y0).setCell ⟨bo, 1, none⟩ y1) := ((Only.refl (fun k => k = bo) X).put (p := ⟨bo, 0, none⟩) (.inl rfl) _).put (p := ⟨bo, 1, none⟩) (.inl rfl) _
theorem row_put2 {X : World} {bo : Nat} {x0 x1 : Value} (h : Row X bo [x0, x1]) (y0 y1 : Value) : Row ((X.setCell ⟨bo, 0, none⟩ y0).setCell ⟨bo, 1, none⟩ y1) bo [y0, y1] := (h.set 0 (by simp) y0).set 1 (by simp) y1
/-- The document's value goes into its box. -/
theorem PlN.put {x0 x1 : Value} (h : PlN F s m kw many b mm L A [x0, x1] A2 n2 W) (hk : F kw) (y0 y1 : Value) : PlN F s m kw many b mm L A [y0, y1] A2 n2 ((W.setCell ⟨kw, 0, none⟩ y0).setCell ⟨kw, 1, none⟩ y1) := by
  have ho := only_put2 W kw y0 y1
  exact ⟨h.ar.only ho (fun k hk e => h.kwn (e ▸ hk)), row_put2 h.row y0 y1, h.len, h.cells.only ho (fun _ a e => (h.far a e).2.2), fun a e => ⟨Nat.lt_of_lt_of_le (h.far a e).1 ho.size, (h.far a e).2⟩, h.only.next ho (fun k _ e => e ▸ hk), h.loc, h.kwn⟩
/-- The document's value in a box of its own. -/
def PlB (F : Nat → Prop) (s : Nat) (m : World) (kw many b mm : Nat) (L : List Int) (A : Option Addr) (vr : List Value) (A2 : Option Addr) (n2 c2 bo : Nat) (W : World) : Prop :=
  PlN F s m kw many b mm L A vr A2 n2 W ∧ Row W bo [.int .i64 many, .slice A2 n2 c2] ∧ bo ≠ kw ∧ ¬ foot b mm A bo ∧ m.heap.size ≤ bo ∧ (∀ a, A2 = some a → a.block ≠ bo)
theorem PlN.box {bo : Nat} {x0 x1 : Value} (h : PlN F s m kw many b mm L A vr A2 n2 W) (hr : Row W bo [x0, x1]) (h1 : bo ≠ kw) (h2 : ¬ foot b mm A bo) (h3 : m.heap.size ≤ bo) (h4 : ∀ a, A2 = some a → a.block ≠ bo) :
    PlB F s m kw many b mm L A vr A2 n2 c2 bo ((W.setCell ⟨bo, 0, none⟩ (.int .i64 many)).setCell ⟨bo, 1, none⟩ (.slice A2 n2 c2)) :=
  ⟨h.other (only_put2 W bo _ _) (fun k hk e => by have : k = bo := e; omega) (fun e => h1 e.symm) (fun k hk e => h2 (e ▸ hk)) h4, row_put2 hr _ _, h1, h2, h3, h4⟩
/-- A box that waits for the document's value. -/
def PlR (F : Nat → Prop) (s : Nat) (m : World) (kw many b mm : Nat) (L : List Int) (A : Option Addr) (vr : List Value) (A2 : Option Addr) (n2 bo : Nat) (W : World) : Prop :=
  PlN F s m kw many b mm L A vr A2 n2 W ∧ Row W bo [.int .i64 0, .slice none 0 0] ∧ bo ≠ kw ∧ ¬ foot b mm A bo ∧ m.heap.size ≤ bo ∧ (∀ a, A2 = some a → a.block ≠ bo)
theorem PlR.put {bo : Nat} (h : PlR F s m kw many b mm L A vr A2 n2 bo W) : PlB F s m kw many b mm L A vr A2 n2 c2 bo ((W.setCell ⟨bo, 0, none⟩ (.int .i64 many)).setCell ⟨bo, 1, none⟩ (.slice A2 n2 c2)) :=
  h.1.box h.2.1 h.2.2.1 h.2.2.2.1 h.2.2.2.2.1 h.2.2.2.2.2
/-- The box is made behind the call. -/
theorem PlN.boxC (h : PlN F s m kw many b mm L A vr A2 n2 W) (t : TypeId) (c2 : Nat) : PlB F s m kw many b mm L A vr A2 n2 c2 W.heap.size (W.alloc (Obj.cells #[.int .i64 many, .slice A2 n2 c2] t)) := by
  refine ⟨h.after ((Below.refl _ _).alloc (Nat.le_refl _) _), Row.at rfl [_, _] _, fun e => ?_, fun hk => ?_, h.only.size, fun a e => ?_⟩
  · have := h.row.lt; omega
  · have hlt := h.ar.lt
    rcases hk with hk | hk | hk
    · omega
    · omega
    · have := hlt.2.2 _ hk; omega
  · have := (h.far a e).1; omega
/-- The box was made ahead of the call. -/
theorem PlN.boxB {b' m' n3 : Nat} {L' : List Int} {A' A3 : Option Addr} {V V' : World} (h0 : PlN F s m kw many b mm L A vr A2 n2 W) (hr : Row V W.heap.size [.int .i64 0, .slice none 0 0]) (h : PlN F s m kw many b' m' L' A' vr A3 n3 V') (ho : Only (foot b mm A) V V')
    (hlc : ∀ k, foot b' m' A' k → foot b mm A k ∨ V.heap.size ≤ k) (ha3 : ∀ a, A3 = some a → A2 = some a ∨ V.heap.size ≤ a.block) : PlR F s m kw many b' m' L' A' vr A3 n3 W.heap.size V' := by
  have hrl := hr.lt
  have hf : ∀ k, foot b mm A k → k < W.heap.size := fun k hk => by
    have hlt := h0.ar.lt
    rcases hk with hk | hk | hk
    · omega
    · omega
    · exact hlt.2.2 _ hk
  refine ⟨h, hr.only ho (fun hk => by have := hf _ hk; omega), fun e => ?_, fun hk => ?_, h0.only.size, fun a e => ?_⟩
  · have := h0.row.lt; omega
  · rcases hlc _ hk with hk | hk
    · have := hf _ hk; omega
    · omega
  · rcases ha3 a e with g | g
    · have := (h0.far a g).1; omega
    · omega
end
end Go.Proofs.Ytncgjlhmgdgokaa
