/- Contract of the document's Quo where one of the numbers is of more digits: the divisor's doubles, then digit by digit. -/
import Derived.Test.YthmobcpdbgmbeaaGreatDoorMDL
import Derived.Deep.AppendLies
import Derived.Deep.RegionLaw
namespace Go.Proofs.YthmobcpdbgmbeaaGreatDoor
open Go.RowKit
theorem ownsRow_below {w w' : World} {base : Nat} {e : TypeId} {size : Nat} {v : Value} {n : Nat} {xs : List Value} (h : w.ownsRow base e size v n xs) (hb : Below w.heap.size w w') : w'.ownsRow base e size v n xs := by
  obtain ⟨h1, h2⟩ := h
  refine ⟨h1, ?_⟩
  rcases h2 with h2 | ⟨g, cap, cur, hv, hg, hh, r⟩
  · exact Or.inl h2
  · exact Or.inr ⟨g, cap, cur, hv, hg, (hb.block g (Array.getElem?_eq_some_iff.mp hh).1).trans hh, r⟩
theorem ownsRow_at {w : World} {base : Nat} {e : TypeId} {v : Value} {n : Nat} {xs : List Value} (h : w.ownsRow base e 1 v n xs) (hn : 0 < n) :
    ∃ g cap, v = .slice (some ⟨g, 0, none⟩) n cap ∧ base ≤ g ∧ g < w.heap.size ∧ ∀ i u, xs[i]? = some u → w.cell? ⟨g, i, none⟩ = some u := by
  obtain ⟨hl, ho⟩ := h
  rcases ho with ⟨hv, h0⟩ | ⟨g, cap, cur, hv, hbs, hg, hn, _, hs, ht⟩
  · omega
  · refine ⟨g, cap, hv, hbs, (Array.getElem?_eq_some_iff.mp hg).1, fun i u hu => ?_⟩
    have hi : i < n := by
      have := (List.getElem?_eq_some_iff.1 hu).1
      omega
    rw [← ht, List.getElem?_take, if_pos (by omega)] at hu
    simp [World.cell?, hg]
    simpa using hu
theorem DS.grown {W W2 : World} {m : Nat} {A : Option Addr} {row : Option Nat} (h : DS W m A) (hg : W.grownBy W2 row) (hne : ∀ p, A = some p → 0 < L16 m → some p.block ≠ row) : DS W2 m A := fun hm => by
  obtain ⟨b, e, hl, hc⟩ := h hm
  exact ⟨b, e, Nat.lt_of_lt_of_le hl hg.size, fun i hi => hg.cell (a := ⟨b, i, none⟩) (hc i hi) (hne ⟨b, 0, none⟩ e hm)⟩
theorem DS.apart {W : World} {m g : Nat} {A : Option Addr} {a : Option Addr} {n c : Nat} (h : DS W m A) (hc : W.cell? ⟨g, 0, none⟩ = some (.slice a n c)) : ∀ p, A = some p → 0 < L16 m → p.block ≠ g := fun p hp hm => by
  obtain ⟨b, e, hl, hx⟩ := h hm
  rintro rfl
  rw [e] at hp
  cases hp
  have := hx 0 hm
  rw [hc] at this
  cases this
/-- The doubles so far: where they lie. -/
def DbF (b k : Nat) (es : List Value) (W : World) : Prop := ∀ i, i < k → ∃ A c, es[i]? = some (.slice A (L16 (b * 2 ^ i)) c) ∧ DS W (b * 2 ^ i) A
/-- What stands while the doubles are made. -/
def D1 (w : World) (b : Nat) (xs ys : List Value) (k : Nat) (v : Value) (es : List Value) (W : World) : Prop :=
  QB w xs ys [.bool false, .slice none 0 0] [.bool false, .slice none 0 0] W ∧ W.ownsRow (w.heap.size + 4) 45 1 v k es ∧ DbF b k es W ∧ 0 < k
section
variable {w W W1 W2 : World} {b k : Nat} {xs ys es : List Value} {v v' : Value}
theorem QB.size (h : QB w xs ys [.bool false, .slice none 0 0] [.bool false, .slice none 0 0] W) : w.heap.size + 4 ≤ W.heap.size := h.2.2.2.1.lt
theorem D1.after (h : D1 w b xs ys k v es W) (hb : Below W.heap.size W W1) : D1 w b xs ys k v es W1 :=
  ⟨h.1.after hb, ownsRow_below h.2.1 hb, fun i hi => by
    obtain ⟨A, c, h1, h2⟩ := h.2.2.1 i hi
    exact ⟨A, c, h1, h2.below hb⟩, h.2.2.2⟩
theorem QB.grown {us vs : List Value} (h : QB w xs ys us vs W) (hg : W.grownBy W1 v.ownBlock) (hb : ∀ j, v.ownBlock = some j → w.heap.size + 4 ≤ j) (hs : w.heap.size ≤ W.heap.size) : QB w xs ys us vs W1 := by
  have hne : ∀ j, j < w.heap.size + 4 → some j ≠ v.ownBlock := fun j hj e => by have := hb j e.symm; omega
  exact ⟨h.1.grown hg (hne _ (by omega)), h.2.1.grown hg (hne _ (by omega)), h.2.2.1.grown hg (hne _ (by omega)), h.2.2.2.1.grown hg (hne _ (by omega)), h.2.2.2.2.grown hg hs (fun j hj => by have := hb j hj; omega)⟩
theorem D1.step (h : D1 w b xs ys k v es W) {A : Option Addr} {c : Nat} (hd : DS W (b * 2 ^ k) A)
    (hown : W2.ownsRow (w.heap.size + 4) 45 1 v' (k + 1) (es ++ [.slice A (L16 (b * 2 ^ k)) c])) (hg : (W.alloc (.cells #[.slice A (L16 (b * 2 ^ k)) c] 45)).grownBy W2 v.ownBlock) :
    D1 w b xs ys (k + 1) v' (es ++ [.slice A (L16 (b * 2 ^ k)) c]) W2 := by
  have hlen : es.length = k := by have := h.2.1.1; omega
  obtain ⟨g, cap, rfl, hgb, hgl, hat⟩ := ownsRow_at h.2.1 h.2.2.2
  obtain ⟨A0, c0, h01, _⟩ := h.2.2.1 0 h.2.2.2
  have hc0 := hat 0 _ h01
  have key : ∀ m B, DS W m B → DS W2 m B := fun m B hB => (hB.below ((Below.refl _ _).alloc (Nat.le_refl _) _)).grown hg (fun p hp hm e => by
    have := hB.apart hc0 p hp hm
    simp [Value.ownBlock] at e
    exact this e)
  refine ⟨(h.1.alloc _).grown hg (fun j hj => by simp [Value.ownBlock] at hj; omega) (by have := h.1.2.2.2.2.size; simp; omega), hown, fun i hi => ?_, by omega⟩
  by_cases e : i < k
  · obtain ⟨B, d, h1, h2⟩ := h.2.2.1 i e
    exact ⟨B, d, by rw [List.getElem?_append_left (by omega)]; exact h1, key _ _ h2⟩
  · obtain rfl : i = k := by omega
    exact ⟨A, c, by rw [List.getElem?_append_right (by omega), hlen]; simp, key _ _ hd⟩
end
/-- What stands while the quotient is found digit by digit: the doubles, the quotient's row. -/
def Q2 (w : World) (b : Nat) (xs ys : List Value) (g N Bq : Nat) (qf : Nat → Nat) (W : World) : Prop :=
  QB w xs ys [.bool false, .slice none 0 0] [.bool false, .slice none 0 0] W ∧ (∀ i, i < 16 → ∃ A c, W.cell? ⟨g, i, none⟩ = some (.slice A (L16 (b * 2 ^ i)) c) ∧ DS W (b * 2 ^ i) A ∧ ∀ p, A = some p → 0 < L16 (b * 2 ^ i) → p.block < Bq) ∧ g < Bq ∧ w.heap.size + 4 ≤ g ∧ RF W Bq N qf
/-- The rest so far. -/
def RV (Bq rv : Nat) (v : Value) (W : World) : Prop := ∃ A c, v = .slice A (L16 rv) c ∧ L16 rv ≤ c ∧ DS W rv A ∧ ∀ p, A = some p → Bq < p.block
section
variable {w W W1 : World} {b g N Bq rv : Nat} {xs ys : List Value} {qf qf' : Nat → Nat} {v : Value}
theorem RF.after (h : RF W Bq N qf) (hb : Below W.heap.size W W1) : RF W1 Bq N qf :=
  ⟨Nat.lt_of_lt_of_le h.1 hb.size, fun i hi => ⟨(hb.cell (p := ⟨Bq, i, none⟩) h.1).trans (h.2 i hi).1, (hb.frozen (p := ⟨Bq, i, none⟩) h.1).trans (h.2 i hi).2⟩⟩
theorem Q2.after (h : Q2 w b xs ys g N Bq qf W) (hb : Below W.heap.size W W1) : Q2 w b xs ys g N Bq qf W1 :=
  ⟨h.1.after hb, fun i hi => by
    obtain ⟨A, c, h1, h2, h3⟩ := h.2.1 i hi
    exact ⟨A, c, (hb.cell (p := ⟨g, i, none⟩) (Nat.lt_trans h.2.2.1 h.2.2.2.2.1)).trans h1, h2.below hb, h3⟩, h.2.2.1, h.2.2.2.1, h.2.2.2.2.after hb⟩
theorem Q2.drewN (h : Q2 w b xs ys g N Bq qf W) (k : Nat) : Q2 w b xs ys g N Bq qf (W.drewN k) := h.after (below_drewN (Below.refl _ _) k)
theorem Q2.alloc (h : Q2 w b xs ys g N Bq qf W) (o : Obj) : Q2 w b xs ys g N Bq qf (W.alloc o) := h.after ((Below.refl _ _).alloc (Nat.le_refl _) _)
theorem Q2.congr (h : Q2 w b xs ys g N Bq qf W) (hq : ∀ i, qf i = qf' i) : Q2 w b xs ys g N Bq qf' W := ⟨h.1, h.2.1, h.2.2.1, h.2.2.2.1, h.2.2.2.2.congr hq⟩
theorem Q2.put (h : Q2 w b xs ys g N Bq qf W) (j u : Nat) (hj : j < N) : Q2 w b xs ys g N Bq (fun i => if i = j then u else qf i) (W.setCell ⟨Bq, j, none⟩ (.int .i64 (u : Nat))) := by
  obtain ⟨⟨a1, a2, a3, a4, a5⟩, h2, h3, h4, h5⟩ := h
  refine ⟨⟨a1.other (p := ⟨Bq, j, none⟩) (by show Bq ≠ w.heap.size; omega) _, a2.other (p := ⟨Bq, j, none⟩) (by show Bq ≠ w.heap.size + 1; omega) _, a3.other (p := ⟨Bq, j, none⟩) (by show Bq ≠ w.heap.size + 1 + 1; omega) _, a4.other (p := ⟨Bq, j, none⟩) (by show Bq ≠ w.heap.size + 1 + 1 + 1; omega) _, below_put1 a5 (by omega) _ _⟩, fun i hi => ?_, h3, h4, h5.put j u hj⟩
  obtain ⟨A, c, e1, e2, e3⟩ := h2 i hi
  refine ⟨A, c, ?_, fun hm => (DS.set (fun _ => e2 hm) (q := ⟨Bq, j, none⟩) (fun p hp => by have := e3 p hp hm; show Bq ≠ p.block; omega) _) hm, e3⟩
  rw [World.cell?_setCell_other _ _ _ _ (fun e => by have := congrArg Addr.block e; simp at this; omega), e1]
theorem RV.after (h : RV Bq rv v W) (hb : Below W.heap.size W W1) : RV Bq rv v W1 := by
  obtain ⟨A, c, h1, h2, h3, h4⟩ := h
  exact ⟨A, c, h1, h2, h3.below hb, h4⟩
theorem RV.drewN (h : RV Bq rv v W) (k : Nat) : RV Bq rv v (W.drewN k) := h.after (below_drewN (Below.refl _ _) k)
theorem RV.put (h : RV Bq rv v W) (j : Nat) (u : Value) : RV Bq rv v (W.setCell ⟨Bq, j, none⟩ u) := by
  obtain ⟨A, c, h1, h2, h3, h4⟩ := h
  exact ⟨A, c, h1, h2, DS.set h3 (q := ⟨Bq, j, none⟩) (fun p hp => by have := h4 p hp; show Bq ≠ p.block; omega) _, h4⟩
end
theorem DS.cells {W : World} {m : Nat} {p : Addr} (h : DS W m (some p)) : ∀ j u, (digV m (L16 m))[j]? = some u → W.cell? (p.add j) = some u := fun j u hu => by
  have hj : j < L16 m := by
    have := (List.getElem?_eq_some_iff.1 hu).1
    rwa [digV_len] at this
  obtain ⟨b', e, _, hx⟩ := h (by omega)
  cases e
  rw [digV_at m hj] at hu
  have e0 : (⟨b', 0, none⟩ : Addr).add j = ⟨b', j, none⟩ := by unfold Addr.add; split <;> simp_all
  rw [e0, hx j hj]
  exact hu
end Go.Proofs.YthmobcpdbgmbeaaGreatDoor
