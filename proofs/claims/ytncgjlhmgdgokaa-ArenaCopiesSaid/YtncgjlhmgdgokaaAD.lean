/- The heap of an arena in memory; what turns of memory; parent, empty, swap; no condition. -/
import Derived.Test.YtncgjlhmgdgokaaAB
import Derived.Test.YtncgjlhmgdgokaaAC
import Derived.Maps.OwnSet
namespace Go.Proofs.Ytncgjlhmgdgokaa
open Go.RowKit Go.Sort ArenaMath

/-- Of the blocks that were there only these have turned. -/
structure Only (F : Nat → Prop) (w w' : World) : Prop where
  os : w'.os = w.os
  tape : w'.tape = w.tape
  output : w'.output = w.output
  size : w.heap.size ≤ w'.heap.size
  block : ∀ k, k < w.heap.size → ¬ F k → w'.heap[k]? = w.heap[k]?
section
variable {F G : Nat → Prop} {w w' a : World}
theorem Only.refl (F : Nat → Prop) (w : World) : Only F w w := ⟨rfl, rfl, rfl, Nat.le_refl _, fun _ _ _ => rfl⟩
theorem Only.trans {b c : World} (h : Only F a b) (k : Only F b c) : Only F a c :=
  ⟨k.os.trans h.os, k.tape.trans h.tape, k.output.trans h.output, Nat.le_trans h.size k.size, fun i hi hn => (k.block i (Nat.lt_of_lt_of_le hi h.size) hn).trans (h.block i hi hn)⟩
theorem Only.next {b c : World} (h : Only F a b) (k : Only G b c) (hG : ∀ k, k < a.heap.size → G k → F k) : Only F a c :=
  ⟨k.os.trans h.os, k.tape.trans h.tape, k.output.trans h.output, Nat.le_trans h.size k.size, fun i hi hn => (k.block i (Nat.lt_of_lt_of_le hi h.size) (fun q => hn (hG i hi q))).trans (h.block i hi hn)⟩
theorem Only.mono (h : Only F w w') (hF : ∀ k, k < w.heap.size → F k → G k) : Only G w w' := ⟨h.os, h.tape, h.output, h.size, fun k hk hn => h.block k hk (fun q => hn (hF k hk q))⟩
theorem Only.of (h : Below w.heap.size w w') : Only F w w' := ⟨h.os, h.tape, h.output, h.size, fun k hk _ => h.block k hk⟩
theorem Only.put (h : Only F a w) {p : Addr} (hp : F p.block ∨ a.heap.size ≤ p.block) (v : Value) : Only F a (w.setCell p v) :=
  ⟨h.os, h.tape, h.output, by simpa [World.setCell] using h.size, fun k hk hn => (Below.heap_setCell _ _ _ _ (fun e => by subst e; rcases hp with hp | hp; exact hn hp; omega)).trans (h.block k hk hn)⟩
theorem Only.drew (h : Only F a w) : Only F a w.drew := ⟨h.os, h.tape, h.output, h.size, h.block⟩
theorem Only.below {B : Nat} (h : Only F a w) (hF : ∀ k, F k → B ≤ k) (hB : B ≤ a.heap.size) : Below B a w :=
  ⟨h.os, h.tape, h.output, h.size, fun k hk => h.block k (by omega) (fun q => by have := hF k q; omega)⟩
theorem Row.only {b : Nat} {vs : List Value} (h : Row w b vs) (ho : Only F w w') (hb : ¬ F b) : Row w' b vs :=
  ⟨Nat.lt_of_lt_of_le h.1 ho.size, fun i _ hv => ⟨(World.cell?_of_block (w := w) (ho.block b h.1 hb)).trans (h.c i hv), (World.frozen?_of_block (w := w) (ho.block b h.1 hb)).trans (h.f i hv)⟩⟩
theorem Own.only {e : TypeId} {k base N cap : Nat} {A : Option Addr} {xs : List Value} (h : Own e k w base A N cap xs) (ho : Only F w w') (hb : ∀ g, ownB A = some g → ¬ F g) : Own e k w' base A N cap xs := by
  obtain ⟨h1, h2⟩ := h
  refine ⟨h1, ?_⟩
  rcases h2 with h2 | ⟨g, cap', cur, hv, hg, hh, r⟩
  · exact Or.inl h2
  · cases hv
    exact Or.inr ⟨g, cap, cur, rfl, hg, (ho.block g (Array.getElem?_eq_some_iff.mp hh).1 (hb g rfl)).trans hh, r⟩
theorem _root_.Go.World.ownsMap.only {H : Type} {P : Program} {k : TypeId} {R : Value → Option (DataW H × List MemPlace)} {b n : Nat} {D : DataW H} (h : w.ownsMap P k R b n D) (ho : Only F w w') (hb : ¬ F b) : w'.ownsMap P k R b n D := by
  have hlt := h.lt
  obtain ⟨es, clock, hh, r⟩ := h
  exact ⟨es, clock, (ho.block b hlt hb).trans hh, r⟩
end
/-- A cell of a row that one owns is written. -/
theorem Own.set {e : TypeId} {w : World} {base N cap g : Nat} {xs : List Value} (h : Own e 1 w base (some ⟨g, 0, none⟩) N cap xs) (i : Nat) (v : Value) : Own e 1 (w.setCell ⟨g, i, none⟩ v) base (some ⟨g, 0, none⟩) N cap (xs.set i v) := by
  obtain ⟨h1, h2⟩ := h
  refine ⟨by simpa using h1, ?_⟩
  rcases h2 with ⟨h2, _⟩ | ⟨g', cap', cur, hv, hb, hh, hc, hm, hs, ht⟩
  · cases h2
  · cases hv
    refine Or.inr ⟨g, cap, cur.setIfInBounds i v, rfl, hb, ?_, hc, hm, by simpa using hs, ?_⟩
    · simp [World.setCell, Array.getElem?_modify, hh]
    · rw [Array.toList_setIfInBounds, List.take_set, ht]
/-- Fewer of a row that one owns. -/
theorem Own.fewer {e : TypeId} {w : World} {base N cap g : Nat} {xs : List Value} (h : Own e 1 w base (some ⟨g, 0, none⟩) N cap xs) (m : Nat) (hm : m ≤ N) : Own e 1 w base (some ⟨g, 0, none⟩) m cap (xs.take m) := by
  obtain ⟨h1, h2⟩ := h
  refine ⟨by rw [List.length_take]; omega, ?_⟩
  rcases h2 with ⟨h2, _⟩ | ⟨g', cap', cur, hv, hb, hh, hc, hm', hs, ht⟩
  · cases h2
  · cases hv
    refine Or.inr ⟨g, cap, cur, rfl, hb, hh, by omega, hm', hs, ?_⟩
    rw [← ht, List.take_take, show min m (N * 1) = m * 1 by omega]
theorem intCs_set (l : List Int) (i : Nat) (x : Int) : intCs (l.set i x) = (intCs l).set i (.int .i64 x) := by simp [intCs, List.map_set]
theorem intCs_take (l : List Int) (m : Nat) : intCs (l.take m) = (intCs l).take m := by simp [intCs, List.map_take]
theorem intCs_len1 (l : List Int) : (intCs l).length = l.length := by simp [intCs]
/-- A heap in memory: the first cell of block b is its line, which owns its row. -/
structure HpAt (w : World) (base b : Nat) (rest : List Value) (A : Option Addr) (c : Nat) (l : List Int) : Prop where
  row : Row w b (.slice A l.length c :: rest)
  line : Own 3 1 w base A l.length c (intCs l)
  far : ∀ g, ownB A = some g → g ≠ b
section
variable {w w' : World} {base b c : Nat} {rest : List Value} {A : Option Addr} {l : List Int}
theorem HpAt.some (h : HpAt w base b rest A c l) (h0 : 0 < l.length) : ∃ g, A = .some ⟨g, 0, none⟩ ∧ base ≤ g ∧ g < w.heap.size ∧ g ≠ b := by
  rcases h.line.form with ⟨_, h1, _⟩ | ⟨g, rfl, h1, h2⟩
  · omega
  · exact ⟨g, rfl, h1, h2, h.far g rfl⟩
theorem HpAt.cell (h : HpAt w base b rest A c l) {g : Nat} (hA : A = .some ⟨g, 0, none⟩) {i : Nat} (hi : i < l.length) : w.cell? ⟨g, i, none⟩ = .some (.int .i64 (gt l i)) := by
  have hc := h.line.cells
  obtain ⟨b', o, e, hl⟩ := hc (by rw [intCs_len1]; omega)
  rw [hA] at e; cases e
  have := hl.2 i _ (intCs_get (gt_get hi))
  rwa [Nat.zero_add] at this
theorem HpAt.only {F : Nat → Prop} (h : HpAt w base b rest A c l) (ho : Only F w w') (hb : ¬ F b) (hA : ∀ g, ownB A = .some g → ¬ F g) : HpAt w' base b rest A c l := ⟨h.row.only ho hb, h.line.only ho hA, h.far⟩
theorem HpAt.put (h : HpAt w base b rest A c l) {g : Nat} (hA : A = .some ⟨g, 0, none⟩) (i : Nat) (_hi : i < l.length) (x : Int) : HpAt (w.setCell ⟨g, i, none⟩ (.int .i64 x)) base b rest A c (l.set i x) := by
  subst hA
  have hne := h.far g rfl
  refine ⟨?_, ?_, h.far⟩
  · rw [List.length_set]; exact h.row.other (p := ⟨g, i, none⟩) hne _
  · rw [List.length_set, intCs_set]; exact h.line.set i _
end
theorem Row.grownBy {w w' : World} {b : Nat} {vs : List Value} {r : Option Nat} (h : Row w b vs) (hg : w.grownBy w' r) (hr : r ≠ some b) : Row w' b vs :=
  ⟨Nat.lt_of_lt_of_le h.1 hg.size, fun i _ hv => ⟨(World.cell?_of_block (w := w) (hg.block b h.1 (fun e => hr e.symm))).trans (h.c i hv), (World.frozen?_of_block (w := w) (hg.block b h.1 (fun e => hr e.symm))).trans (h.f i hv)⟩⟩
theorem Only.grownBy {F : Nat → Prop} {w w' : World} {r : Option Nat} (hg : w.grownBy w' r) (hr : ∀ k, r = some k → F k) : Only F w w' := ⟨hg.os, hg.tape, hg.output, hg.size, fun k hk hn => hg.block k hk (fun e => hn (hr k e.symm))⟩
theorem parent_any (i : Nat) (hi : 0 < i) (hb : i < 1000000000) (w : World) : Calls Try.prog 61 #[.int .i64 i] w fun e w' => e = .returned (.int .i64 (par i)) ∧ w' = w := by
  have e1 : IntKind.i64.wrap ((i : Int) - 1) = (i : Int) - 1 := IntWalk.i64_in _ (by omega)
  have e2 : ((i : Int) - 1).tdiv 2 = ((par i : Nat) : Int) := by
    unfold par
    rw [show ((i : Int) - 1) = ((i - 1 : Nat) : Int) by omega]
    rfl
  have e3 : IntKind.i64.wrap ((par i : Nat) : Int) = ((par i : Nat) : Int) := IntWalk.i64_in _ (by have := par_lt hi; omega)
  clear hi hb
  go_enter Try.func61, Try.ntmps61
  go_wp2
  go_ret
  exact ⟨rfl, rfl⟩
end Go.Proofs.Ytncgjlhmgdgokaa
