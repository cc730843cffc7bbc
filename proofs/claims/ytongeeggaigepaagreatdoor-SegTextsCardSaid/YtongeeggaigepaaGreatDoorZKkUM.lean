import Derived.Test.YtongeeggaigepaaGreatDoorKkPA
import Derived.Test.YtongeeggaigepaaGreatDoorZKkBase
namespace Go.Proofs.YtongeeggaigepaaGreatDoor
open Go.RowKit
def Marks (B : Nat) : List Nat → World → Prop
 | [], _ => True
 | D :: r, W => B ≤ D ∧ W.heap[D]? = some (.deferred (some [])) ∧ (∀ E ∈ r, E < D) ∧ Marks B r W
def markL (l : List Nat) : List Deferred := l.map fun D => { target := .collected D, args := #[] }
theorem Marks.below {B S : Nat} {X Y : World} : ∀ {l : List Nat}, Marks B l X → (∀ D ∈ l, D < S) → Below S X Y → Marks B l Y
 | [], _, _, _ => trivial
 | D :: _, ⟨h1, h2, h3, h4⟩, hs, hb => ⟨h1, (hb.block D (hs D (by simp))).trans h2, h3, h4.below (fun E hE => hs E (by simp [hE])) hb⟩
theorem leaves_marks {F : Fence} {n : Nat} {P : Program} {B : Nat} {fn : Func} {tmps : Array Value} {R : Ending → World → Prop} : ∀ (l : List Nat) (W : World), Marks B l W →
 (∀ V, Below B W V → LeavesIn F n P fn tmps R [] .returning V) → LeavesInM F n P fn tmps R (markL l) .returning W
 | [], W, _, h => h W (Below.refl _ _)
 | D :: r, W, ⟨h1, h2, h3, h4⟩, h => by
   have hb : Below D W (W.putObj D (.deferred none)) := below_putObj W _ (Nat.le_refl _)
   exact ⟨by simp, .inl ⟨D, _, rfl, run_takeDeferred h2, leaves_marks r _ (h4.below h3 hb) (fun V hV => h V ((hb.mono h1).trans hV))⟩⟩
theorem Row.turn {W : World} {b l : Nat} {vs : List Value} (h : Row W b vs) (hl : b ≠ l) (o : Obj) : Row (W.putObj l o) b vs :=
 ⟨by have := h.1; simpa [World.putObj] using this, fun i v hv => by
  have e : (W.putObj l o).heap[b]? = W.heap[b]? := World.putObj_heap_other hl
  exact ⟨by rw [← h.c i hv]; simp only [World.cell?, e], by rw [← h.f i hv]; simp only [World.frozen?, e]⟩⟩
theorem keeps_below {W V : World} (h : Below W.heap.size W V) : KeepsOthers W V := ⟨h.size, fun k _ hk _ => (h.block k (Array.getElem?_eq_some_iff.1 hk).1).trans hk⟩
def KeepsB (E : Nat) (X Y : World) : Prop := X.heap.size ≤ Y.heap.size ∧ (E < X.heap.size → Y.heap[E]? = X.heap[E]?)
theorem KeepsB.trans {E : Nat} {X Y Z : World} (h : KeepsB E X Y) (k : KeepsB E Y Z) : KeepsB E X Z := ⟨Nat.le_trans h.1 k.1, fun hl => (k.2 (Nat.lt_of_lt_of_le hl h.1)).trans (h.2 hl)⟩
theorem KeepsB.below {E : Nat} {X Y : World} (h : Below X.heap.size X Y) : KeepsB E X Y := ⟨h.size, fun hl => h.block E hl⟩
theorem KeepsB.turn {E l : Nat} (W : World) (o' : Obj) (hl : E ≠ l) : KeepsB E W (W.putObj l o') := ⟨by simp [World.putObj], fun _ => World.putObj_heap_other hl⟩
theorem KeepsB.row {E : Nat} {X Y : World} {vs : List Value} (h : KeepsB E X Y) (r : Row X E vs) : Row Y E vs :=
 ⟨Nat.lt_of_lt_of_le r.1 h.1, fun i v hv => ⟨by rw [← r.c i hv]; simp only [World.cell?, h.2 r.1], by rw [← r.f i hv]; simp only [World.frozen?, h.2 r.1]⟩⟩
end Go.Proofs.YtongeeggaigepaaGreatDoor
