/- Package angle's small functions: which ways may be, the quarter, comparisons, the side; rows of blocks; no condition. -/
import Derived.Test.YtfdofajknnocfaaProg
import Derived.WalkKit
import Derived.WalkSpells
import Derived.WalkLawsBesides
import Derived.Deep.QuietTactic
import Derived.BigQuiet
import Derived.Lib.Hide
import Derived.Laws.StructEq
import Derived.ChangeKeysEq
namespace Go.Proofs.Ytfdofajknnocfaa
open Go.RowKit

theorem bcell {W w1 : World} (hb : Below W.heap.size W w1) : (∀ b o, b < W.heap.size → w1.cell? ⟨b, o, none⟩ = W.cell? ⟨b, o, none⟩) ∧ (∀ b o, b < W.heap.size → w1.frozen? ⟨b, o, none⟩ = W.frozen? ⟨b, o, none⟩) :=
  ⟨fun b o h => hb.cell (p := ⟨b, o, none⟩) h, fun b o h => hb.frozen (p := ⟨b, o, none⟩) h⟩

/-- Block b is there, its first cells are these, and they may be written. -/
def Row (w : World) (b : Nat) (vs : List Value) : Prop := b < w.heap.size ∧ ∀ i v, vs[i]? = some v → w.cell? ⟨b, i, none⟩ = some v ∧ w.frozen? ⟨b, i, none⟩ = false
theorem Row.lt {w : World} {b : Nat} {vs : List Value} (h : Row w b vs) : b < w.heap.size := h.1
theorem Row.c {w : World} {b : Nat} {vs : List Value} (h : Row w b vs) (i : Nat) {v : Value} (hv : vs[i]? = some v) : w.cell? ⟨b, i, none⟩ = some v := (h.2 i v hv).1
theorem Row.f {w : World} {b : Nat} {vs : List Value} (h : Row w b vs) (i : Nat) {v : Value} (hv : vs[i]? = some v) : w.frozen? ⟨b, i, none⟩ = false := (h.2 i v hv).2
theorem Row.new (w : World) (vs : List Value) (t : TypeId) : Row (w.alloc (.cells vs.toArray t)) w.heap.size vs :=
  ⟨by simp, fun i v hv => ⟨by rw [World.cell?_alloc_new]; simpa using hv, by rw [World.frozen?_alloc_new]⟩⟩
theorem Row.at {w : World} {n : Nat} (hn : n = w.heap.size) (vs : List Value) (t : TypeId) : Row (w.alloc (.cells vs.toArray t)) n vs := by
  subst hn; exact Row.new w vs t
theorem Row.alloc {w : World} {b : Nat} {vs : List Value} (h : Row w b vs) (o : Obj) : Row (w.alloc o) b vs :=
  ⟨by have := h.1; simp; omega, fun i v hv => ⟨by rw [World.cell?_alloc_past o b i h.1]; exact h.c i hv, by rw [World.frozen?_alloc_past o b i h.1]; exact h.f i hv⟩⟩
theorem Row.drewN {w : World} {b : Nat} {vs : List Value} (h : Row w b vs) (n : Nat) : Row (w.drewN n) b vs := h
theorem Row.drew {w : World} {b : Nat} {vs : List Value} (h : Row w b vs) : Row w.drew b vs := h
theorem Row.below {w w1 : World} {b B : Nat} {vs : List Value} (h : Row w b vs) (hb : Below B w w1) (hB : b < B) : Row w1 b vs :=
  ⟨Nat.lt_of_lt_of_le h.1 hb.size, fun i _ hv => ⟨(hb.cell (p := ⟨b, i, none⟩) hB).trans (h.c i hv), (hb.frozen (p := ⟨b, i, none⟩) hB).trans (h.f i hv)⟩⟩
theorem Row.after {w w1 : World} {b : Nat} {vs : List Value} (h : Row w b vs) (hb : Below w.heap.size w w1) : Row w1 b vs := h.below hb h.1
theorem Row.other {w : World} {b : Nat} {vs : List Value} (h : Row w b vs) {p : Addr} (hp : p.block ≠ b) (v : Value) : Row (w.setCell p v) b vs :=
  ⟨by have := h.1; simp [World.setCell]; omega, fun i u hu => ⟨by rw [World.cell?_setCell_other _ _ _ _ (fun e => hp (by rw [e]))]; exact h.c i hu, by rw [World.frozen?_setCell]; exact h.f i hu⟩⟩
theorem Row.set {w : World} {b : Nat} {vs : List Value} (h : Row w b vs) (j : Nat) (hj : j < vs.length) (v : Value) : Row (w.setCell ⟨b, j, none⟩ v) b (vs.set j v) := by
  refine ⟨by have := h.1; simp [World.setCell]; omega, fun i u hu => ⟨?_, by rw [World.frozen?_setCell]; by_cases e : i < vs.length; exact h.f i (List.getElem?_eq_getElem e); (simp [e] at hu)⟩⟩
  by_cases e : j = i
  · subst e
    rw [World.cell?_setCell_same' _ _ _ (by rw [h.c j (List.getElem?_eq_getElem hj)]; rfl)]
    simpa [hj] using hu
  · rw [World.cell?_setCell_other _ _ _ _ (fun h => e (congrArg Addr.off h))]
    rw [List.getElem?_set_ne e] at hu
    exact h.c i hu
theorem Row.put4 {w : World} {b : Nat} {x0 x1 x2 x3 : Value} (h : Row w b [x0, x1, x2, x3]) (y0 y1 y2 y3 : Value) :
    Row ((((w.setCell ⟨b, 0, none⟩ y0).setCell ⟨b, 1, none⟩ y1).setCell ⟨b, 2, none⟩ y2).setCell ⟨b, 3, none⟩ y3) b [y0, y1, y2, y3] :=
  (((h.set 0 (by simp) y0).set 1 (by simp) y1).set 2 (by simp) y2).set 3 (by simp) y3
theorem Row.other4 {w : World} {b c : Nat} {vs : List Value} (h : Row w b vs) (hc : c ≠ b) (y0 y1 y2 y3 : Value) :
    Row ((((w.setCell ⟨c, 0, none⟩ y0).setCell ⟨c, 1, none⟩ y1).setCell ⟨c, 2, none⟩ y2).setCell ⟨c, 3, none⟩ y3) b vs :=
  (((h.other (p := ⟨c, 0, none⟩) hc y0).other (p := ⟨c, 1, none⟩) hc y1).other (p := ⟨c, 2, none⟩) hc y2).other (p := ⟨c, 3, none⟩) hc y3
theorem below_put4 {B : Nat} {a w : World} (h : Below B a w) {c : Nat} (hc : B ≤ c) (y0 y1 y2 y3 : Value) :
    Below B a ((((w.setCell ⟨c, 0, none⟩ y0).setCell ⟨c, 1, none⟩ y1).setCell ⟨c, 2, none⟩ y2).setCell ⟨c, 3, none⟩ y3) :=
  (((h.setCell (p := ⟨c, 0, none⟩) hc y0).setCell (p := ⟨c, 1, none⟩) hc y1).setCell (p := ⟨c, 2, none⟩) hc y2).setCell (p := ⟨c, 3, none⟩) hc y3
theorem below_put5 {B : Nat} {a w : World} (h : Below B a w) {c : Nat} (hc : B ≤ c) (y0 y1 y2 y3 y4 : Value) :
    Below B a (((((w.setCell ⟨c, 0, none⟩ y0).setCell ⟨c, 1, none⟩ y1).setCell ⟨c, 2, none⟩ y2).setCell ⟨c, 3, none⟩ y3).setCell ⟨c, 4, none⟩ y4) :=
  ((((h.setCell (p := ⟨c, 0, none⟩) hc y0).setCell (p := ⟨c, 1, none⟩) hc y1).setCell (p := ⟨c, 2, none⟩) hc y2).setCell (p := ⟨c, 3, none⟩) hc y3).setCell (p := ⟨c, 4, none⟩) hc y4
theorem below_put1 {B : Nat} {a w : World} (h : Below B a w) {c : Nat} (hc : B ≤ c) (i : Nat) (y : Value) : Below B a (w.setCell ⟨c, i, none⟩ y) := h.setCell (p := ⟨c, i, none⟩) hc y
theorem Row.put5 {w : World} {b : Nat} {x0 x1 x2 x3 x4 : Value} (h : Row w b [x0, x1, x2, x3, x4]) (y0 y1 y2 y3 y4 : Value) :
    Row (((((w.setCell ⟨b, 0, none⟩ y0).setCell ⟨b, 1, none⟩ y1).setCell ⟨b, 2, none⟩ y2).setCell ⟨b, 3, none⟩ y3).setCell ⟨b, 4, none⟩ y4) b [y0, y1, y2, y3, y4] :=
  ((((h.set 0 (by simp) y0).set 1 (by simp) y1).set 2 (by simp) y2).set 3 (by simp) y3).set 4 (by simp) y4
theorem Row.other5 {w : World} {b c : Nat} {vs : List Value} (h : Row w b vs) (hc : c ≠ b) (y0 y1 y2 y3 y4 : Value) :
    Row (((((w.setCell ⟨c, 0, none⟩ y0).setCell ⟨c, 1, none⟩ y1).setCell ⟨c, 2, none⟩ y2).setCell ⟨c, 3, none⟩ y3).setCell ⟨c, 4, none⟩ y4) b vs :=
  ((((h.other (p := ⟨c, 0, none⟩) hc y0).other (p := ⟨c, 1, none⟩) hc y1).other (p := ⟨c, 2, none⟩) hc y2).other (p := ⟨c, 3, none⟩) hc y3).other (p := ⟨c, 4, none⟩) hc y4

def RS (w : World) (L : List (Nat × List Value)) (W : World) : Prop := (∀ p, p ∈ L → Row W p.1 p.2) ∧ Below w.heap.size w W
section
variable {w W W1 : World} {L : List (Nat × List Value)}
theorem RS.after (h : RS w L W) (hb : Below W.heap.size W W1) : RS w L W1 := ⟨fun p hp => (h.1 p hp).after hb, h.2.trans (hb.mono h.2.size)⟩
theorem RS.drew (h : RS w L W) : RS w L W.drew := ⟨fun p hp => (h.1 p hp).drew, h.2.drew⟩
theorem RS.nil (w : World) : RS w [] w := ⟨fun _ h => (List.not_mem_nil h).elim, Below.refl _ _⟩
theorem RS.new (h : RS w L W) {B : Nat} (hB : B = W.heap.size) (vs : List Value) (t : TypeId) : RS w (L ++ [(B, vs)]) (W.alloc (.cells vs.toArray t)) := by
  refine ⟨fun p hp => ?_, h.2.alloc h.2.size _⟩
  rcases List.mem_append.1 hp with h1 | h1
  · exact (h.1 p h1).alloc _
  · obtain rfl := List.mem_singleton.1 h1
    exact Row.at hB _ _
theorem RS.row (h : RS w L W) (k : Nat) {b : Nat} {vs : List Value} (hk : L[k]? = some (b, vs)) : Row W b vs := h.1 (b, vs) (List.mem_of_getElem? hk)
theorem RS.c (h : RS w L W) (k : Nat) {b : Nat} {vs : List Value} (hk : L[k]? = some (b, vs)) (i : Nat) {v : Value} (hv : vs[i]? = some v) : W.cell? ⟨b, i, none⟩ = some v := (h.row k hk).c i hv
end
/-- The blocks of a list are known (closed). -/
def SL (w : World) (L : List (Nat × List Value)) (W : World) : Prop := RS w L W
/-- A block behind all of a list's. -/
def LB (w : World) (L : List (Nat × List Value)) (C : Nat) : Prop := w.heap.size ≤ C ∧ ∀ p, p ∈ L → p.1 < C
section
variable {w W W1 : World} {L : List (Nat × List Value)}
theorem SL.drew (h : SL w L W) : SL w L W.drew := RS.drew h
theorem SL.after (h : SL w L W) (hb : Below W.heap.size W W1) : SL w L W1 := RS.after h hb
theorem SL.alloc (h : SL w L W) (o : Obj) : SL w L (W.alloc o) := RS.after h ((Below.refl _ _).alloc (Nat.le_refl _) _)
theorem SL.c (h : SL w L W) (k : Nat) {b : Nat} {vs : List Value} (hk : L[k]? = some (b, vs)) (i : Nat) {v : Value} (hv : vs[i]? = some v) : W.cell? ⟨b, i, none⟩ = some v := RS.c h k hk i hv
theorem SL.lb (h : SL w L W) : LB w L W.heap.size := ⟨h.2.size, fun p hp => (h.1 p hp).lt⟩
theorem LB.more (h : LB w L W.heap.size) (hb : Below W.heap.size W W1) : LB w L W1.heap.size := ⟨Nat.le_trans h.1 hb.size, fun p hp => Nat.lt_of_lt_of_le (h.2 p hp) hb.size⟩
theorem LB.up {C D : Nat} (h : LB w L C) (hd : C ≤ D) : LB w L D := ⟨Nat.le_trans h.1 hd, fun p hp => Nat.lt_of_lt_of_le (h.2 p hp) hd⟩
theorem SL.put1 (h : SL w L W) {C : Nat} (hC : LB w L C) (i : Nat) (y : Value) : SL w L (W.setCell ⟨C, i, none⟩ y) :=
  ⟨fun p hp => (h.1 p hp).other (by have := hC.2 p hp; show C ≠ p.1; omega) _, below_put1 h.2 hC.1 _ _⟩
theorem SL.put5 (h : SL w L W) {C : Nat} (hC : LB w L C) (y0 y1 y2 y3 y4 : Value) :
    SL w L (((((W.setCell ⟨C, 0, none⟩ y0).setCell ⟨C, 1, none⟩ y1).setCell ⟨C, 2, none⟩ y2).setCell ⟨C, 3, none⟩ y3).setCell ⟨C, 4, none⟩ y4) :=
  ((((h.put1 hC 0 y0).put1 hC 1 y1).put1 hC 2 y2).put1 hC 3 y3).put1 hC 4 y4
theorem SL.put2 (h : SL w L W) {C : Nat} (hC : LB w L C) (y0 y1 : Value) : SL w L ((W.setCell ⟨C, 0, none⟩ y0).setCell ⟨C, 1, none⟩ y1) := (h.put1 hC 0 y0).put1 hC 1 y1
theorem SL.more (h : SL w L W) {C : Nat} {vs : List Value} (hr : Row W C vs) : SL w (L ++ [(C, vs)]) W :=
  ⟨fun p hp => by
    rcases List.mem_append.1 hp with h1 | h1
    · exact h.1 p h1
    · obtain rfl := List.mem_singleton.1 h1
      exact hr, h.2⟩
theorem SL.made (h : SL w L W) (us : List Value) (t : TypeId) : Hid (SL w (L ++ [(W.heap.size, us)]) (W.alloc (.cells us.toArray t))) := Lib.hid ((h.alloc _).more (Row.at rfl _ _))
theorem SL.laid (h : SL w L W) {C : Nat} {x0 x1 x2 x3 x4 : Value} (hr : Row W C [x0, x1, x2, x3, x4]) (hC : LB w L C) (y0 y1 y2 y3 y4 : Value) :
    Hid (SL w (L ++ [(C, [y0, y1, y2, y3, y4])]) (((((W.setCell ⟨C, 0, none⟩ y0).setCell ⟨C, 1, none⟩ y1).setCell ⟨C, 2, none⟩ y2).setCell ⟨C, 3, none⟩ y3).setCell ⟨C, 4, none⟩ y4)) :=
  Lib.hid ((h.put5 hC _ _ _ _ _).more (hr.put5 _ _ _ _ _))
end
section
variable {w W W1 : World} {L L0 M : List (Nat × List Value)}
theorem SL.shuts (h : RS w L0 W) : ∃ L, Hid (SL w L W) ∧ Hid (L = L0) := ⟨L0, Lib.hid h, Lib.hid rfl⟩
theorem SL.opens (hL : L = L0) (h : SL w L W) : RS w L0 W := by subst hL; exact h
theorem SL.again (hL : L = L0) (h : RS w L0 W) : Hid (SL w L W) := by subst hL; exact Lib.hid h
theorem RS.pre (h : RS w (L ++ M) W) : RS w L W := ⟨fun p hp => h.1 p (List.mem_append_left _ hp), h.2⟩
end

/-- A way's, an arm's value. -/
abbrev wayV (x y : Int) : Value := .agg #[.int .i64 x, .int .i64 y]
abbrev armV (x y q : Int) : Value := .agg #[.int .i64 x, .int .i64 y, .int .i64 q]
/-- -1, 0 or 1. -/
def cmpI (a b : Int) : Int := if a < b then -1 else if b < a then 1 else 0
/-- May the way be? -/
def mayB (x y : Int) : Bool := !(decide (x = 0) && decide (y = 0)) && (decide (-134217728 ≤ x) && decide (-134217728 ≤ y) && (decide (x ≤ 134217728) && decide (y ≤ 134217728)))
/-- The quarter. -/
def quart (x y : Int) : Int := if 0 ≤ x ∧ y < 0 then 3 else if x < 0 ∧ y ≤ 0 then 2 else if x ≤ 0 ∧ 0 < y then 1 else 0
/-- On which side the second is, as the words are multiplied. -/
def sideW (x y u v : Int) : Int := cmpI (wrap64 (y * u)) (wrap64 (x * v))

theorem neqWay (a b c d : Int) (W : World) : (binOp .neq 23 (wayV a b) (wayV c d)).run Try.prog W = .ok (.bool (!(a == c && b == d))) W := by
  have u := Try.underlying23
  rw [run_neq_struct]
  go_simp
  by_cases h1 : a = c <;> by_cases h2 : b = d <;> simp [h1, h2]

set_option maxHeartbeats 400000 in
theorem compare_int64 (a b : Int) (w : World) :
    Calls Try.prog 57 #[.int .i64 a, .int .i64 b] w fun e w' => e = .returned (.int .i64 (cmpI a b)) ∧ w = w' := by
  by_cases h : a < b
  · have H := Lib.hid (show cmpI a b = -1 by simp [cmpI, h])
    go_enter Try.func57, Try.ntmps57
    go_wp2
    go_ret
    exact ⟨by rw [H.out]; rfl, rfl⟩
  · by_cases h' : b < a
    · have H := Lib.hid (show cmpI a b = 1 by simp [cmpI, h, h'])
      go_enter Try.func57, Try.ntmps57
      go_wp2
      go_ret
      exact ⟨by rw [H.out]; rfl, rfl⟩
    · have H := Lib.hid (show cmpI a b = 0 by simp [cmpI, h, h'])
      go_enter Try.func57, Try.ntmps57
      go_wp2
      go_ret
      exact ⟨by rw [H.out]; rfl, rfl⟩

set_option maxHeartbeats 400000 in
theorem compare_int (a b : Int) (w : World) :
    Calls Try.prog 46 #[.int .i64 a, .int .i64 b] w fun e w' => e = .returned (.int .i64 (cmpI a b)) ∧ w = w' := by
  by_cases h : a < b
  · have H := Lib.hid (show cmpI a b = -1 by simp [cmpI, h])
    go_enter Try.func46, Try.ntmps46
    go_wp2
    go_ret
    exact ⟨by rw [H.out]; rfl, rfl⟩
  · by_cases h' : b < a
    · have H := Lib.hid (show cmpI a b = 1 by simp [cmpI, h, h'])
      go_enter Try.func46, Try.ntmps46
      go_wp2
      go_ret
      exact ⟨by rw [H.out]; rfl, rfl⟩
    · have H := Lib.hid (show cmpI a b = 0 by simp [cmpI, h, h'])
      go_enter Try.func46, Try.ntmps46
      go_wp2
      go_ret
      exact ⟨by rw [H.out]; rfl, rfl⟩

set_option maxHeartbeats 800000 in
set_option maxRecDepth 100000 in
theorem may_any (x y : Int) (w : World) :
    Calls Try.prog 43 #[wayV x y] w fun e w' => e = .returned (.bool (mayB x y)) ∧ Below w.heap.size w w' := by
  have HB := Lib.hid (fun o => (Below.refl w.heap.size w).alloc (Nat.le_refl _) o)
  have hn := neqWay x y 0 0
  by_cases hz : x = 0 ∧ y = 0
  · obtain ⟨rfl, rfl⟩ := hz
    have HR := Lib.hid (show mayB 0 0 = false by rfl)
    rw [show (!((0 : Int) == 0 && (0 : Int) == 0)) = false by rfl] at hn
    go_enter Try.func43, Try.ntmps43
    go_wp2
    go_ret
    exact ⟨by rw [HR.out]; rfl, HB.out _⟩
  · have hz' : (x == 0 && y == 0) = false := by
      rw [Bool.eq_false_iff]; intro h; rw [Bool.and_eq_true_iff] at h; simp at h; exact hz h
    rw [hz'] at hn
    have HR : Hid (mayB x y = (decide (-134217728 ≤ x) && decide (-134217728 ≤ y) && (decide (x ≤ 134217728) && decide (y ≤ 134217728)))) := Lib.hid (by
      have h0 : (decide (x = 0) && decide (y = 0)) = false := by rw [Bool.eq_false_iff]; intro h; rw [Bool.and_eq_true_iff] at h; simp at h; exact hz h
      simp only [mayB, h0, Bool.not_false, Bool.true_and])
    clear hz hz'
    by_cases h1 : -134217728 ≤ x <;> by_cases h2 : -134217728 ≤ y <;> by_cases h3 : x ≤ 134217728 <;> by_cases h4 : y ≤ 134217728
    all_goals first | omega | skip
    all_goals
      simp only [h1, h2, h3, h4, decide_true, decide_false, Bool.and_true, Bool.and_false] at HR
      go_enter Try.func43, Try.ntmps43
      go_wp2
      all_goals first | (exfalso; omega) | skip
      all_goals
        go_ret
        refine ⟨?_, HB.out _⟩
        rw [HR.out]
        first
          | rfl
          | (show Ending.returned (Value.bool (decide (x ≤ 134217728))) = _; first | rw [decide_eq_true (by omega : x ≤ 134217728)] | rw [decide_eq_false (by omega : ¬ x ≤ 134217728)])
          | (show Ending.returned (Value.bool (decide (y ≤ 134217728))) = _; first | rw [decide_eq_true (by omega : y ≤ 134217728)] | rw [decide_eq_false (by omega : ¬ y ≤ 134217728)])

set_option maxHeartbeats 800000 in
set_option maxRecDepth 100000 in
theorem quarter_any (x y : Int) (w : World) :
    Calls Try.prog 44 #[wayV x y] w fun e w' => e = .returned (.int .i64 (quart x y)) ∧ Below w.heap.size w w' := by
  have HB := Lib.hid (fun o => (Below.refl w.heap.size w).alloc (Nat.le_refl _) o)
  have HQ : Hid (quart x y = if 0 ≤ x ∧ y < 0 then 3 else if x < 0 ∧ y ≤ 0 then 2 else if x ≤ 0 ∧ 0 < y then 1 else 0) := Lib.hid rfl
  rcases Int.lt_trichotomy x 0 with hx | rfl | hx <;> rcases Int.lt_trichotomy y 0 with hy | rfl | hy
  all_goals
    go_enter Try.func44, Try.ntmps44
    go_wp2
    go_ret
    refine ⟨?_, HB.out _⟩
    rw [HQ.out]
    clear HQ HB
  all_goals
    first
      | (rw [if_pos (by omega)]; rfl)
      | (rw [if_neg (by omega), if_pos (by omega)]; rfl)
      | (rw [if_neg (by omega), if_neg (by omega), if_pos (by omega)]; rfl)
      | (rw [if_neg (by omega), if_neg (by omega), if_neg (by omega)]; rfl)

set_option maxHeartbeats 800000 in
set_option maxRecDepth 100000 in
theorem side_any (x y q u v r : Int) (w : World) :
    Calls Try.prog 47 #[armV x y q, armV u v r] w fun e w' => e = .returned (.int .i64 (sideW x y u v)) ∧ Below w.heap.size w w' := by
  have HB := Lib.hid (fun o o2 => ((Below.refl w.heap.size w).alloc (Nat.le_refl _) o).alloc (by simp) o2)
  go_enter Try.func47, Try.ntmps47
  go_wp2_with fail
  refine (compare_int64 _ _ _).mono ?_
  rintro e w1 ⟨rfl, rfl⟩
  go_wp2
  go_ret
  exact ⟨rfl, HB.out _ _⟩
end Go.Proofs.Ytfdofajknnocfaa
