/- What a round of Round's sequence keeps; the iterator of a quarter's pairs by the contract of PA; what Round goes over, quarter by quarter. -/
import Derived.Test.YtfdofajknnocfaaOM
import Derived.Test.YtfdofajknnocfaaPA
namespace Go.Proofs.Ytfdofajknnocfaa
open Go.RowKit

/-- What a round of Round keeps: cells that lay ahead of all, and whatever lies from B on. -/
def KpF (m B : Nat) (X Y : World) : Prop := X.heap.size ≤ Y.heap.size ∧ ∀ k o, X.heap[k]? = some o → ((o.isCells = true ∧ k < m) ∨ B ≤ k) → Y.heap[k]? = some o
/-- What a round of pairs keeps. -/
def KpP (m B : Nat) (X Y : World) : Prop := X.heap.size ≤ Y.heap.size ∧ ∀ k o, X.heap[k]? = some o → o.isCells = true → (k < m ∨ B ≤ k) → Y.heap[k]? = some o
theorem KpF.trans {m B : Nat} {X Y Z : World} (h : KpF m B X Y) (k : KpF m B Y Z) : KpF m B X Z := ⟨Nat.le_trans h.1 k.1, fun j o hj hc => k.2 j o (h.2 j o hj hc) hc⟩
theorem KpP.trans {m B : Nat} {X Y Z : World} (h : KpP m B X Y) (k : KpP m B Y Z) : KpP m B X Z := ⟨Nat.le_trans h.1 k.1, fun j o hj hc hl => k.2 j o (h.2 j o hj hc hl) hc hl⟩
theorem KpF.below {m B : Nat} {X Y : World} (h : Below X.heap.size X Y) : KpF m B X Y := ⟨h.size, fun k _ hk _ => (h.block k (Array.getElem?_eq_some_iff.1 hk).1).trans hk⟩
theorem KpP.below {m B : Nat} {X Y : World} (h : Below X.heap.size X Y) : KpP m B X Y := ⟨h.size, fun k _ hk _ _ => (h.block k (Array.getElem?_eq_some_iff.1 hk).1).trans hk⟩
theorem KpF.turn {m B l : Nat} (W : World) (o o' : Obj) (hl : l < B) (h : W.heap[l]? = some o) (hc : o.isCells = false) : KpF m B W (W.putObj l o') := by
  refine ⟨by simp [World.putObj], fun k u hk hu => ?_⟩
  have hne : k ≠ l := fun e => by
    subst e
    rw [h] at hk
    obtain rfl := Option.some.inj hk
    rcases hu with ⟨h1, _⟩ | h1
    · rw [hc] at h1; cases h1
    · omega
  exact (World.putObj_heap_other hne).trans hk
theorem KpP.turn {m B l : Nat} (W : World) (o o' : Obj) (h : W.heap[l]? = some o) (hc : o.isCells = false) : KpP m B W (W.putObj l o') := by
  refine ⟨by simp [World.putObj], fun k u hk hu _ => ?_⟩
  have hne : k ≠ l := fun e => by
    subst e
    rw [h] at hk
    obtain rfl := Option.some.inj hk
    rw [hc] at hu; cases hu
  exact (World.putObj_heap_other hne).trans hk
theorem KpF.pairs {m B : Nat} {X Y : World} (h : KpF m B X Y) : KpP m B X Y := ⟨h.1, fun k o hk hc hl => h.2 k o hk (hl.elim (fun e => .inl ⟨hc, e⟩) .inr)⟩
theorem KpF.from {m B s : Nat} {X Y : World} (h : KpF m B X Y) (hs : B ≤ s) : KeepsFrom s X Y := ⟨h.1, fun k o hk h1 _ => h.2 k o h1 (.inr (Nat.le_trans hs hk))⟩
theorem cells_of_cell {W : World} {b i : Nat} {v : Value} (h : W.cell? ⟨b, i, none⟩ = some v) : ∃ o : Obj, W.heap[b]? = some o ∧ o.isCells = true := by
  unfold World.cell? at h
  cases ho : W.heap[b]? with
  | none => simp [ho] at h
  | some o => exact ⟨o, rfl, by cases o <;> simp_all [Obj.isCells]⟩
theorem KpP.cell {m B : Nat} {X Y : World} (h : KpP m B X Y) {b i : Nat} {v : Value} (hb : b < m ∨ B ≤ b) (hc : X.cell? ⟨b, i, none⟩ = some v) : Y.cell? ⟨b, i, none⟩ = some v ∧ Y.frozen? ⟨b, i, none⟩ = X.frozen? ⟨b, i, none⟩ := by
  obtain ⟨o, ho, hcl⟩ := cells_of_cell hc
  have e : Y.heap[b]? = X.heap[b]? := (h.2 b o ho hcl hb).trans ho.symm
  exact ⟨by rw [← hc]; simp only [World.cell?, e], by simp only [World.frozen?, e]⟩
theorem Row.keepP {m B : Nat} {X Y : World} {b : Nat} {vs : List Value} (h : Row X b vs) (hk : KpP m B X Y) (hb : b < m ∨ B ≤ b) : Row Y b vs :=
  ⟨Nat.lt_of_lt_of_le h.1 hk.1, fun i v hv => by
    have e := hk.cell hb (h.c i hv)
    exact ⟨e.1, e.2.trans (h.f i hv)⟩⟩
theorem Row.turn {W : World} {b l : Nat} {vs : List Value} (h : Row W b vs) (hl : b ≠ l) (o : Obj) : Row (W.putObj l o) b vs :=
  ⟨by have := h.1; simpa [World.putObj] using this, fun i v hv => by
    have e : (W.putObj l o).heap[b]? = W.heap[b]? := World.putObj_heap_other hl
    exact ⟨by rw [← h.c i hv]; simp only [World.cell?, e], by rw [← h.f i hv]; simp only [World.frozen?, e]⟩⟩
theorem QRead.keepP {m B : Nat} {X Y : World} {a : Option Addr} {N cap : Nat} {l : List (Int × Int)} (h : QRead X a N cap l) (hk : KpP m B X Y) (hb : 0 < N → ∀ p, a = some p → p.block < m) : QRead Y a N cap l := by
  obtain ⟨h1, h2, h3⟩ := h
  refine ⟨h1, h2, fun h0 => ?_⟩
  obtain ⟨g, hA, hl, hh⟩ := h3 h0
  have hg := hb h0 _ hA
  refine ⟨g, hA, Nat.lt_of_lt_of_le hl hk.1, fun i p hp => ?_⟩
  obtain ⟨e0, e1, e2⟩ := hh i p hp
  exact ⟨(hk.cell (.inl hg) e0).1, (hk.cell (.inl hg) e1).1, (hk.cell (.inl hg) e2).1⟩
theorem QRead.under {S : Nat} {X Y : World} {a : Option Addr} {N cap : Nat} {l : List (Int × Int)} (h : QRead X a N cap l) (hk : Below S X Y) (hb : 0 < N → ∀ p, a = some p → p.block < S) : QRead Y a N cap l := by
  obtain ⟨h1, h2, h3⟩ := h
  refine ⟨h1, h2, fun h0 => ?_⟩
  obtain ⟨g, hA, hl, hh⟩ := h3 h0
  have hg := hb h0 _ hA
  refine ⟨g, hA, Nat.lt_of_lt_of_le hl hk.size, fun i p hp => ?_⟩
  obtain ⟨e0, e1, e2⟩ := hh i p hp
  have c : ∀ j v, X.cell? ⟨g, j, none⟩ = some v → Y.cell? ⟨g, j, none⟩ = some v := fun j v h => (hk.cell (p := ⟨g, j, none⟩) hg).trans h
  exact ⟨c _ _ e0, c _ _ e1, c _ _ e2⟩
/-- Where the ways of a quarter lie. -/
theorem QRead.lies {W : World} {a : Option Addr} {N cap : Nat} {l : List (Int × Int)} (h : QRead W a N cap l) : 0 < N → ∀ p, a = some p → p.block < W.heap.size := fun h0 p hp => by
  obtain ⟨g, hA, hl, _⟩ := h.2.2 h0
  rw [hA] at hp
  cases hp
  exact hl

/-- What is handed over for a pair of arms. -/
def encArm (x : (Int × Int) × (Int × Int)) : Array Value := #[armP x.1, armP x.2]
theorem pairs_u (n m B C Q q : Nat) (hq : q < 4) (A : Nat → Option Addr) (N cap : Nat → Nat) (L : Nat → List (Int × Int)) (f : Int × Int) (h20 : N q ≤ 20)
    (hf : 0 < N q → ∃ k, k < 4 ∧ (∀ i, i < k → N ((q + 1 + i) % 4) = 0) ∧ 0 < N ((q + 1 + k) % 4) ∧ (L ((q + 1 + k) % 4)).headD f = f)
    (hC : B ≤ C) (hQ : B ≤ Q) (hA : ∀ q, q < 4 → 0 < N q → ∀ p, A q = some p → p.block < m) (w : World) (hS : PairS C Q q A N cap L w) :
    SeqU Fence.wide (n + 1) Try.prog 59 #[.pointer (some ⟨C, 0, none⟩), .pointer (some ⟨Q, 0, none⟩)] encArm (fun _ => KpP m B) (prs f (L q)) w := fun l J Jx W hW hJ hJx hY h0 => by
  refine (pairs1_in n l C Q q hq A N cap L f h20 hf (KpP m B) (fun X Y hk hs => ⟨hs.1.keepP hk (.inr hC), hs.2.1.keepP hk (.inr hQ), fun q hq => (hs.2.2 q hq).keepP hk (hA q hq)⟩)
    (fun pre X => J pre X ∧ W.heap.size ≤ X.heap.size) Jx (fun pre X Y h hb => ⟨hJ pre X Y h.1 (hb.mono h.2), Nat.le_trans h.2 hb.size⟩)
    (fun pre x V h hp => (hY pre x V h.1 h.2 hp).mono ?_) W (hS.after hW) ⟨h0, Nat.le_refl _⟩).mono ?_
  · rintro e V' ⟨b, rfl, hk, hb⟩
    refine ⟨b, rfl, hk, ?_⟩
    cases b with
    | true => exact ⟨hb, Nat.le_trans h.2 hk.1⟩
    | false => exact hb
  · rintro e V ⟨hv, ⟨ys, rfl, hj, _⟩ | hx⟩
    · exact ⟨hv, .inl hj⟩
    · exact ⟨hv, .inr hx⟩

/-- Where the way behind a quarter's last one stands. -/
def nextF (L : Nat → List (Int × Int)) (f : Int × Int) : Nat → Int × Int
  | 0 => (L 1).headD ((L 2).headD ((L 3).headD f))
  | 1 => (L 2).headD ((L 3).headD f)
  | 2 => (L 3).headD f
  | _ => f
/-- The pairs up to a quarter. -/
def accP (L : Nat → List (Int × Int)) (f : Int × Int) : Nat → List ((Int × Int) × (Int × Int))
  | 0 => []
  | q + 1 => accP L f q ++ prs (nextF L f q) (L q)
/-- The whole. -/
def wholeL (L : Nat → List (Int × Int)) : List (Int × Int) := L 0 ++ L 1 ++ L 2 ++ L 3
theorem accP_whole (L : Nat → List (Int × Int)) (f : Int × Int) : accP L f 4 = prs f (wholeL L) := by
  rw [wholeL, ← prs_quarters]
  rfl
theorem accP_pre (L : Nat → List (Int × Int)) (f : Int × Int) (q : Nat) (hq : q < 4) (ys : List ((Int × Int) × (Int × Int))) (h : ys <+: prs (nextF L f q) (L q)) : (accP L f q ++ ys) <+: prs f (wholeL L) := by
  have h1 : (accP L f q ++ ys) <+: accP L f (q + 1) := (List.prefix_append_right_inj _).2 h
  have h2 : ∀ a b, a ≤ b → accP L f a <+: accP L f b := fun a b hab => by
    induction b with
    | zero => rw [show a = 0 by omega]; exact List.prefix_rfl
    | succ b ih =>
      rcases Nat.eq_or_lt_of_le hab with rfl | h
      · exact List.prefix_rfl
      · exact (ih (by omega)).trans (List.prefix_append _ _)
  rw [← accP_whole]
  exact h1.trans (h2 _ _ (by omega))
theorem nextF_at (L : Nat → List (Int × Int)) (N : Nat → Nat) (hN : ∀ q, q < 4 → (L q).length = N q) (d : Int × Int) (q : Nat) (hq : q < 4) (h0 : 0 < N q) :
    ∃ k, k < 4 ∧ (∀ i, i < k → N ((q + 1 + i) % 4) = 0) ∧ 0 < N ((q + 1 + k) % 4) ∧ (L ((q + 1 + k) % 4)).headD (nextF L ((wholeL L).headD d) q) = nextF L ((wholeL L).headD d) q := by
  have e0 := hN 0 (by omega)
  have e1 := hN 1 (by omega)
  have e2 := hN 2 (by omega)
  have e3 := hN 3 (by omega)
  rcases (show q = 0 ∨ q = 1 ∨ q = 2 ∨ q = 3 by omega) with rfl | rfl | rfl | rfl
  all_goals
    rcases h1 : L 1 with _ | ⟨a1, r1⟩ <;> rcases h2 : L 2 with _ | ⟨a2, r2⟩ <;> rcases h3 : L 3 with _ | ⟨a3, r3⟩ <;> rcases h4 : L 0 with _ | ⟨a0, r0⟩ <;>
    simp only [h1, h2, h3, h4, List.length_nil, List.length_cons] at e0 e1 e2 e3 <;>
    first
    | (exfalso; omega)
    | (refine ⟨0, by omega, fun i hi => absurd hi (by omega), by simp only [Nat.reduceAdd, Nat.reduceMod]; omega, ?_⟩; simp [nextF, wholeL, h1, h2, h3, h4]; done)
    | (refine ⟨1, by omega, fun i hi => by obtain rfl : i = 0 := by omega
                                           simp only [Nat.reduceAdd, Nat.reduceMod]; omega, by simp only [Nat.reduceAdd, Nat.reduceMod]; omega, ?_⟩; simp [nextF, wholeL, h1, h2, h3, h4]; done)
    | (refine ⟨2, by omega, fun i hi => by rcases (show i = 0 ∨ i = 1 by omega) with rfl | rfl <;> (simp only [Nat.reduceAdd, Nat.reduceMod]; omega), by simp only [Nat.reduceAdd, Nat.reduceMod]; omega, ?_⟩; simp [nextF, wholeL, h1, h2, h3, h4]; done)
    | (refine ⟨3, by omega, fun i hi => by rcases (show i = 0 ∨ i = 1 ∨ i = 2 by omega) with rfl | rfl | rfl <;> (simp only [Nat.reduceAdd, Nat.reduceMod]; omega), by simp only [Nat.reduceAdd, Nat.reduceMod]; omega, ?_⟩; simp [nextF, wholeL, h1, h2, h3, h4]; done)
end Go.Proofs.Ytfdofajknnocfaa
