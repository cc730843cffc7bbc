/- Rows of blocks; marks of loops that have ended; a block that lies as it lay; no condition. -/
import Derived.Test.YtncgjlhmgdgokaaPA
import Derived.Test.YtncgjlhmgdgokaaProg
import Derived.WalkKit
import Derived.WalkSpells
import Derived.WalkLawsBesides
import Derived.Deep.QuietTactic
import Derived.BigQuiet
import Derived.Lib.Hide
import Derived.Laws.StructEq
import Derived.ChangeKeysEq
namespace Go.Proofs.Ytncgjlhmgdgokaa
open Go.RowKit

theorem bcell {W w1 : World} (hb : Below W.heap.size W w1) : (∀ b o, b < W.heap.size → w1.cell? ⟨b, o, none⟩ = W.cell? ⟨b, o, none⟩) ∧ (∀ b o, b < W.heap.size → w1.frozen? ⟨b, o, none⟩ = W.frozen? ⟨b, o, none⟩) :=
  ⟨fun b o h => hb.cell (p := ⟨b, o, none⟩) h, fun b o h => hb.frozen (p := ⟨b, o, none⟩) h⟩

/-- Block b is there, its first cells are these, and they may be written. -/
def Row (w : World) (b : Nat) (vs : List Value) : Prop := b < w.heap.size ∧ ∀ i v, vs[i]? = some v → w.cell? ⟨b, i, none⟩ = some v ∧ w.frozen? ⟨b, i, none⟩ = false
theorem Row.lt {w : World} {b : Nat} {vs : List Value} (h : Row w b vs) : b < w.heap.size := h.1
theorem Row.c {w : World} {b : Nat} {vs : List Value} (h : Row w b vs) (i : Nat) {v : Value} (hv : vs[i]? = some v) : w.cell? ⟨b, i, none⟩ = some v := (h.2 i v hv).1
theorem Row.f {w : World} {b : Nat} {vs : List Value} (h : Row w b vs) (i : Nat) {v : Value} (hv : vs[i]? = some v) : w.frozen? ⟨b, i, none⟩ = false := (h.2 i v hv).2
theorem Row.new (w : World) (vs : List Value) (t : TypeId) : Row (w.alloc (.cells vs.toArray t)) w.heap.size vs :=
  ⟨by simp, fun i v hv => ⟨by rw [World.cell?_alloc_new]; simpa using hv, by rw [World.frozen?_alloc_new]⟩⟩
theorem Row.at {w : World} {n : Nat} (hn : n = w.heap.size) (vs : List Value) (t : TypeId) : Row (w.alloc (.cells vs.toArray t)) n vs := by
  subst hn; exact Row.new w vs t
theorem Row.alloc {w : World} {b : Nat} {vs : List Value} (h : Row w b vs) (o : Obj) : Row (w.alloc o) b vs :=
  ⟨by have := h.1; simp; omega, fun i v hv => ⟨by rw [World.cell?_alloc_past o b i h.1]; exact h.c i hv, by rw [World.frozen?_alloc_past o b i h.1]; exact h.f i hv⟩⟩
theorem Row.drewN {w : World} {b : Nat} {vs : List Value} (h : Row w b vs) (n : Nat) : Row (w.drewN n) b vs := h
theorem Row.drew {w : World} {b : Nat} {vs : List Value} (h : Row w b vs) : Row w.drew b vs := h
theorem Row.below {w w1 : World} {b B : Nat} {vs : List Value} (h : Row w b vs) (hb : Below B w w1) (hB : b < B) : Row w1 b vs :=
  ⟨Nat.lt_of_lt_of_le h.1 hb.size, fun i _ hv => ⟨(hb.cell (p := ⟨b, i, none⟩) hB).trans (h.c i hv), (hb.frozen (p := ⟨b, i, none⟩) hB).trans (h.f i hv)⟩⟩
theorem Row.after {w w1 : World} {b : Nat} {vs : List Value} (h : Row w b vs) (hb : Below w.heap.size w w1) : Row w1 b vs := h.below hb h.1
theorem Row.other {w : World} {b : Nat} {vs : List Value} (h : Row w b vs) {p : Addr} (hp : p.block ≠ b) (v : Value) : Row (w.setCell p v) b vs :=
  ⟨by have := h.1; simp [World.setCell]; omega, fun i u hu => ⟨by rw [World.cell?_setCell_other _ _ _ _ (fun e => hp (by rw [e]))]; exact h.c i hu, by rw [World.frozen?_setCell]; exact h.f i hu⟩⟩
theorem Row.set {w : World} {b : Nat} {vs : List Value} (h : Row w b vs) (j : Nat) (hj : j < vs.length) (v : Value) : Row (w.setCell ⟨b, j, none⟩ v) b (vs.set j v) := by
  refine ⟨by have := h.1; simp [World.setCell]; omega, fun i u hu => ⟨?_, by rw [World.frozen?_setCell]; by_cases e : i < vs.length; exact h.f i (List.getElem?_eq_getElem e); (simp [e] at hu)⟩⟩
  by_cases e : j = i
  · subst e
    rw [World.cell?_setCell_same' _ _ _ (by rw [h.c j (List.getElem?_eq_getElem hj)]; rfl)]
    simpa [hj] using hu
  · rw [World.cell?_setCell_other _ _ _ _ (fun h => e (congrArg Addr.off h))]
    rw [List.getElem?_set_ne e] at hu
    exact h.c i hu
theorem Row.put4 {w : World} {b : Nat} {x0 x1 x2 x3 : Value} (h : Row w b [x0, x1, x2, x3]) (y0 y1 y2 y3 : Value) :
    Row ((((w.setCell ⟨b, 0, none⟩ y0).setCell ⟨b, 1, none⟩ y1).setCell ⟨b, 2, none⟩ y2).setCell ⟨b, 3, none⟩ y3) b [y0, y1, y2, y3] :=
  (((h.set 0 (by simp) y0).set 1 (by simp) y1).set 2 (by simp) y2).set 3 (by simp) y3
theorem Row.other4 {w : World} {b c : Nat} {vs : List Value} (h : Row w b vs) (hc : c ≠ b) (y0 y1 y2 y3 : Value) :
    Row ((((w.setCell ⟨c, 0, none⟩ y0).setCell ⟨c, 1, none⟩ y1).setCell ⟨c, 2, none⟩ y2).setCell ⟨c, 3, none⟩ y3) b vs :=
  (((h.other (p := ⟨c, 0, none⟩) hc y0).other (p := ⟨c, 1, none⟩) hc y1).other (p := ⟨c, 2, none⟩) hc y2).other (p := ⟨c, 3, none⟩) hc y3
theorem below_put4 {B : Nat} {a w : World} (h : Below B a w) {c : Nat} (hc : B ≤ c) (y0 y1 y2 y3 : Value) :
    Below B a ((((w.setCell ⟨c, 0, none⟩ y0).setCell ⟨c, 1, none⟩ y1).setCell ⟨c, 2, none⟩ y2).setCell ⟨c, 3, none⟩ y3) :=
  (((h.setCell (p := ⟨c, 0, none⟩) hc y0).setCell (p := ⟨c, 1, none⟩) hc y1).setCell (p := ⟨c, 2, none⟩) hc y2).setCell (p := ⟨c, 3, none⟩) hc y3
theorem below_put5 {B : Nat} {a w : World} (h : Below B a w) {c : Nat} (hc : B ≤ c) (y0 y1 y2 y3 y4 : Value) :
    Below B a (((((w.setCell ⟨c, 0, none⟩ y0).setCell ⟨c, 1, none⟩ y1).setCell ⟨c, 2, none⟩ y2).setCell ⟨c, 3, none⟩ y3).setCell ⟨c, 4, none⟩ y4) :=
  ((((h.setCell (p := ⟨c, 0, none⟩) hc y0).setCell (p := ⟨c, 1, none⟩) hc y1).setCell (p := ⟨c, 2, none⟩) hc y2).setCell (p := ⟨c, 3, none⟩) hc y3).setCell (p := ⟨c, 4, none⟩) hc y4
theorem below_put1 {B : Nat} {a w : World} (h : Below B a w) {c : Nat} (hc : B ≤ c) (i : Nat) (y : Value) : Below B a (w.setCell ⟨c, i, none⟩ y) := h.setCell (p := ⟨c, i, none⟩) hc y
theorem Row.put5 {w : World} {b : Nat} {x0 x1 x2 x3 x4 : Value} (h : Row w b [x0, x1, x2, x3, x4]) (y0 y1 y2 y3 y4 : Value) :
    Row (((((w.setCell ⟨b, 0, none⟩ y0).setCell ⟨b, 1, none⟩ y1).setCell ⟨b, 2, none⟩ y2).setCell ⟨b, 3, none⟩ y3).setCell ⟨b, 4, none⟩ y4) b [y0, y1, y2, y3, y4] :=
  ((((h.set 0 (by simp) y0).set 1 (by simp) y1).set 2 (by simp) y2).set 3 (by simp) y3).set 4 (by simp) y4
theorem Row.other5 {w : World} {b c : Nat} {vs : List Value} (h : Row w b vs) (hc : c ≠ b) (y0 y1 y2 y3 y4 : Value) :
    Row (((((w.setCell ⟨c, 0, none⟩ y0).setCell ⟨c, 1, none⟩ y1).setCell ⟨c, 2, none⟩ y2).setCell ⟨c, 3, none⟩ y3).setCell ⟨c, 4, none⟩ y4) b vs :=
  ((((h.other (p := ⟨c, 0, none⟩) hc y0).other (p := ⟨c, 1, none⟩) hc y1).other (p := ⟨c, 2, none⟩) hc y2).other (p := ⟨c, 3, none⟩) hc y3).other (p := ⟨c, 4, none⟩) hc y4

def RS (w : World) (L : List (Nat × List Value)) (W : World) : Prop := (∀ p, p ∈ L → Row W p.1 p.2) ∧ Below w.heap.size w W
section
variable {w W W1 : World} {L : List (Nat × List Value)}
theorem RS.after (h : RS w L W) (hb : Below W.heap.size W W1) : RS w L W1 := ⟨fun p hp => (h.1 p hp).after hb, h.2.trans (hb.mono h.2.size)⟩
theorem RS.drew (h : RS w L W) : RS w L W.drew := ⟨fun p hp => (h.1 p hp).drew, h.2.drew⟩
theorem RS.nil (w : World) : RS w [] w := ⟨fun _ h => (List.not_mem_nil h).elim, Below.refl _ _⟩
theorem RS.new (h : RS w L W) {B : Nat} (hB : B = W.heap.size) (vs : List Value) (t : TypeId) : RS w (L ++ [(B, vs)]) (W.alloc (.cells vs.toArray t)) := by
  refine ⟨fun p hp => ?_, h.2.alloc h.2.size _⟩
  rcases List.mem_append.1 hp with h1 | h1
  · exact (h.1 p h1).alloc _
  · obtain rfl := List.mem_singleton.1 h1
    exact Row.at hB _ _
theorem RS.row (h : RS w L W) (k : Nat) {b : Nat} {vs : List Value} (hk : L[k]? = some (b, vs)) : Row W b vs := h.1 (b, vs) (List.mem_of_getElem? hk)
theorem RS.c (h : RS w L W) (k : Nat) {b : Nat} {vs : List Value} (hk : L[k]? = some (b, vs)) (i : Nat) {v : Value} (hv : vs[i]? = some v) : W.cell? ⟨b, i, none⟩ = some v := (h.row k hk).c i hv
end
/-- The blocks of a list are known (closed). -/
def SL (w : World) (L : List (Nat × List Value)) (W : World) : Prop := RS w L W
/-- A block behind all of a list's. -/
def LB (w : World) (L : List (Nat × List Value)) (C : Nat) : Prop := w.heap.size ≤ C ∧ ∀ p, p ∈ L → p.1 < C
section
variable {w W W1 : World} {L : List (Nat × List Value)}
theorem SL.drew (h : SL w L W) : SL w L W.drew := RS.drew h
theorem SL.after (h : SL w L W) (hb : Below W.heap.size W W1) : SL w L W1 := RS.after h hb
theorem SL.alloc (h : SL w L W) (o : Obj) : SL w L (W.alloc o) := RS.after h ((Below.refl _ _).alloc (Nat.le_refl _) _)
theorem SL.c (h : SL w L W) (k : Nat) {b : Nat} {vs : List Value} (hk : L[k]? = some (b, vs)) (i : Nat) {v : Value} (hv : vs[i]? = some v) : W.cell? ⟨b, i, none⟩ = some v := RS.c h k hk i hv
theorem SL.lb (h : SL w L W) : LB w L W.heap.size := ⟨h.2.size, fun p hp => (h.1 p hp).lt⟩
theorem LB.more (h : LB w L W.heap.size) (hb : Below W.heap.size W W1) : LB w L W1.heap.size := ⟨Nat.le_trans h.1 hb.size, fun p hp => Nat.lt_of_lt_of_le (h.2 p hp) hb.size⟩
theorem LB.up {C D : Nat} (h : LB w L C) (hd : C ≤ D) : LB w L D := ⟨Nat.le_trans h.1 hd, fun p hp => Nat.lt_of_lt_of_le (h.2 p hp) hd⟩
theorem SL.put1 (h : SL w L W) {C : Nat} (hC : LB w L C) (i : Nat) (y : Value) : SL w L (W.setCell ⟨C, i, none⟩ y) :=
  ⟨fun p hp => (h.1 p hp).other (by have := hC.2 p hp; show C ≠ p.1; omega) _, below_put1 h.2 hC.1 _ _⟩
theorem SL.put5 (h : SL w L W) {C : Nat} (hC : LB w L C) (y0 y1 y2 y3 y4 : Value) :
    SL w L (((((W.setCell ⟨C, 0, none⟩ y0).setCell ⟨C, 1, none⟩ y1).setCell ⟨C, 2, none⟩ y2).setCell ⟨C, 3, none⟩ y3).setCell ⟨C, 4, none⟩ y4) :=
  ((((h.put1 hC 0 y0).put1 hC 1 y1).put1 hC 2 y2).put1 hC 3 y3).put1 hC 4 y4
theorem SL.put2 (h : SL w L W) {C : Nat} (hC : LB w L C) (y0 y1 : Value) : SL w L ((W.setCell ⟨C, 0, none⟩ y0).setCell ⟨C, 1, none⟩ y1) := (h.put1 hC 0 y0).put1 hC 1 y1
theorem SL.more (h : SL w L W) {C : Nat} {vs : List Value} (hr : Row W C vs) : SL w (L ++ [(C, vs)]) W :=
  ⟨fun p hp => by
    rcases List.mem_append.1 hp with h1 | h1
    · exact h.1 p h1
    · obtain rfl := List.mem_singleton.1 h1
      exact hr, h.2⟩
theorem SL.made (h : SL w L W) (us : List Value) (t : TypeId) : Hid (SL w (L ++ [(W.heap.size, us)]) (W.alloc (.cells us.toArray t))) := Lib.hid ((h.alloc _).more (Row.at rfl _ _))
theorem SL.laid (h : SL w L W) {C : Nat} {x0 x1 x2 x3 x4 : Value} (hr : Row W C [x0, x1, x2, x3, x4]) (hC : LB w L C) (y0 y1 y2 y3 y4 : Value) :
    Hid (SL w (L ++ [(C, [y0, y1, y2, y3, y4])]) (((((W.setCell ⟨C, 0, none⟩ y0).setCell ⟨C, 1, none⟩ y1).setCell ⟨C, 2, none⟩ y2).setCell ⟨C, 3, none⟩ y3).setCell ⟨C, 4, none⟩ y4)) :=
  Lib.hid ((h.put5 hC _ _ _ _ _).more (hr.put5 _ _ _ _ _))
end
section
variable {w W W1 : World} {L L0 M : List (Nat × List Value)}
theorem SL.shuts (h : RS w L0 W) : ∃ L, Hid (SL w L W) ∧ Hid (L = L0) := ⟨L0, Lib.hid h, Lib.hid rfl⟩
theorem SL.opens (hL : L = L0) (h : SL w L W) : RS w L0 W := by subst hL; exact h
theorem SL.again (hL : L = L0) (h : RS w L0 W) : Hid (SL w L W) := by subst hL; exact Lib.hid h
theorem RS.pre (h : RS w (L ++ M) W) : RS w L W := ⟨fun p hp => h.1 p (List.mem_append_left _ hp), h.2⟩
end

/-- Marks of loops that have ended, the newest first. -/
def Marks (B : Nat) : List Nat → World → Prop
  | [], _ => True
  | D :: r, W => B ≤ D ∧ W.heap[D]? = some (.deferred (some [])) ∧ (∀ E ∈ r, E < D) ∧ Marks B r W
def markL (l : List Nat) : List Deferred := l.map fun D => { target := .collected D, args := #[] }
theorem Marks.below {B S : Nat} {X Y : World} : ∀ {l : List Nat}, Marks B l X → (∀ D ∈ l, D < S) → Below S X Y → Marks B l Y
  | [], _, _, _ => trivial
  | D :: _, ⟨h1, h2, h3, h4⟩, hs, hb => ⟨h1, (hb.block D (hs D (by simp))).trans h2, h3, h4.below (fun E hE => hs E (by simp [hE])) hb⟩
theorem Marks.lt {B : Nat} {X : World} : ∀ {l : List Nat}, Marks B l X → ∀ D ∈ l, D < X.heap.size
  | [], _, D, hD => by cases hD
  | E :: _, ⟨_, h2, _, h4⟩, D, hD => by
    rcases List.mem_cons.1 hD with rfl | h
    · exact (Array.getElem?_eq_some_iff.1 h2).1
    · exact h4.lt D h
theorem leaves_marks {F : Fence} {n : Nat} {P : Program} {B : Nat} {fn : Func} {tmps : Array Value} {R : Ending → World → Prop} : ∀ (l : List Nat) (W : World), Marks B l W →
    (∀ V, Below B W V → LeavesIn F n P fn tmps R [] .returning V) → LeavesInM F n P fn tmps R (markL l) .returning W
  | [], W, _, h => h W (Below.refl _ _)
  | D :: r, W, ⟨h1, h2, h3, h4⟩, h => by
    have hb : Below D W (W.putObj D (.deferred none)) := below_putObj W _ (Nat.le_refl _)
    exact ⟨by simp, .inl ⟨D, _, rfl, run_takeDeferred h2, leaves_marks r _ (h4.below h3 hb) (fun V hV => h V ((hb.mono h1).trans hV))⟩⟩
theorem roundIn_any {a b : Nat} {P : Program} {l k : Nat} {f : FuncId} {tmps : Array Value} {assign body : Code} {w : World} {R : Ending → World → Prop} (h : RoundIn Fence.wide a P l f tmps assign body w R) : RoundIn (Fence.wide.inRound k) b P l f tmps assign body w R :=
  ⟨h.1, fun c cs _ => h.2 c cs (room_wide _)⟩
theorem Row.turn {W : World} {b l : Nat} {vs : List Value} (h : Row W b vs) (hl : b ≠ l) (o : Obj) : Row (W.putObj l o) b vs :=
  ⟨by have := h.1; simpa [World.putObj] using this, fun i v hv => by
    have e : (W.putObj l o).heap[b]? = W.heap[b]? := World.putObj_heap_other hl
    exact ⟨by rw [← h.c i hv]; simp only [World.cell?, e], by rw [← h.f i hv]; simp only [World.frozen?, e]⟩⟩
theorem keeps_below {W V : World} (h : Below W.heap.size W V) : KeepsOthers W V := ⟨h.size, fun k _ hk _ => (h.block k (Array.getElem?_eq_some_iff.1 hk).1).trans hk⟩
/-- One block lies as it lay. -/
def KeepsB (E : Nat) (X Y : World) : Prop := X.heap.size ≤ Y.heap.size ∧ (E < X.heap.size → Y.heap[E]? = X.heap[E]?)
theorem KeepsB.trans {E : Nat} {X Y Z : World} (h : KeepsB E X Y) (k : KeepsB E Y Z) : KeepsB E X Z := ⟨Nat.le_trans h.1 k.1, fun hl => (k.2 (Nat.lt_of_lt_of_le hl h.1)).trans (h.2 hl)⟩
theorem KeepsB.below {E : Nat} {X Y : World} (h : Below X.heap.size X Y) : KeepsB E X Y := ⟨h.size, fun hl => h.block E hl⟩
theorem KeepsB.turn {E l : Nat} (W : World) (o' : Obj) (hl : E ≠ l) : KeepsB E W (W.putObj l o') := ⟨by simp [World.putObj], fun _ => World.putObj_heap_other hl⟩
theorem KeepsB.row {E : Nat} {X Y : World} {vs : List Value} (h : KeepsB E X Y) (r : Row X E vs) : Row Y E vs :=
  ⟨Nat.lt_of_lt_of_le r.1 h.1, fun i v hv => ⟨by rw [← r.c i hv]; simp only [World.cell?, h.2 r.1], by rw [← r.f i hv]; simp only [World.frozen?, h.2 r.1]⟩⟩
theorem KeepsB.put {E b : Nat} {X Y : World} (h : KeepsB E X Y) (hne : E ≠ b) (i : Nat) (v : Value) : KeepsB E X (Y.setCell ⟨b, i, none⟩ v) :=
  ⟨by simpa [World.setCell] using h.1, fun hl => (Below.heap_setCell _ _ _ _ hne).trans (h.2 hl)⟩
end Go.Proofs.Ytncgjlhmgdgokaa
