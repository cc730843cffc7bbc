/- Small facts of this program that the walks of package limb lean on: when arrays of four words and Ints are equal, and that a stored function value is laid; no condition. -/
import Derived.Test.YtlbijchbngnmmaaDoorProg
import Derived.WalkKit
import Derived.WalkSpells
import Derived.WalkLawsBesides
import Derived.Deep.QuietTactic
import Derived.BigQuiet
import Derived.Lib.Hide
import Derived.ChangeKeysEq
namespace Go.Proofs.YtlbijchbngnmmaaDoor
open Go.RowKit

/-- Four words as an array's value. -/
abbrev wv (a b c d : Int) : Value := .agg #[.int .u64 a, .int .u64 b, .int .u64 c, .int .u64 d]
/-- An Int's value: its sign, its four words. -/
abbrev iv (n : Bool) (a b c d : Int) : Value := .agg #[.bool n, .int .u64 a, .int .u64 b, .int .u64 c, .int .u64 d]

theorem eqArr (d : Nat) (t : TypeId) (ht : Tryd.prog.underlying t = some (.array 4 22)) (a b c e a' b' c' e' : Int) (w : World) :
    (Op.equalIn (d + 2) t (wv a b c e) (wv a' b' c' e')).run Tryd.prog w = .ok (a == a' && (b == b' && (c == c' && e == e'))) w := by
  have u3 := Tryd.underlying22
  have a3 := Tryd.isAgg22
  have z3 := Tryd.sizeOf22
  rw [show d + 2 = (d + 1) + 1 from rfl, Op.equalIn]
  simp only [Sem.run_bind, run_underlying ht, Result.andThen_ok]
  simp only [Std.Legacy.Range.forIn_eq_forIn_range', Std.Legacy.Range.size, Nat.sub_zero, Nat.add_sub_cancel, Nat.div_one, List.range'_succ, List.range'_zero, List.forIn_cons, List.forIn_nil]
  go_simp
  by_cases h1 : a = a' <;> by_cases h2 : b = b' <;> by_cases h3 : c = c' <;> by_cases h4 : e = e' <;> simp [h1, h2, h3, h4]
theorem eqlArr (t : TypeId) (ht : Tryd.prog.underlying t = some (.array 4 22)) (a b c e a' b' c' e' : Int) (w : World) :
    (binOp .eql t (wv a b c e) (wv a' b' c' e')).run Tryd.prog w = .ok (.bool (a == a' && (b == b' && (c == c' && e == e')))) w := by
  rw [run_eql_struct, show (10000 : Nat) = 9998 + 2 from rfl, eqArr 9998 t ht]; rfl
theorem neqArr (t : TypeId) (ht : Tryd.prog.underlying t = some (.array 4 22)) (a b c e a' b' c' e' : Int) (w : World) :
    (binOp .neq t (wv a b c e) (wv a' b' c' e')).run Tryd.prog w = .ok (.bool (!(a == a' && (b == b' && (c == c' && e == e'))))) w := by
  rw [run_neq_struct, show (10000 : Nat) = 9998 + 2 from rfl, eqArr 9998 t ht]; rfl

/-- A call that leaves the world alone, met in whatever class of worlds. -/
theorem calls_cls {P : Program} {f : FuncId} {args : Array Value} {W : World} {v : Value} {C : World → Prop}
    (h : Calls P f args W fun e w' => e = .returned v ∧ W = w') (hC : C W) : Calls P f args W fun e w'' => e = .returned v ∧ C w'' :=
  h.mono fun _ _ ⟨he, hw⟩ => ⟨he, hw ▸ hC⟩

theorem bcell {W w1 : World} (hb : Below W.heap.size W w1) : (∀ b o, b < W.heap.size → w1.cell? ⟨b, o, none⟩ = W.cell? ⟨b, o, none⟩) ∧ (∀ b o, b < W.heap.size → w1.frozen? ⟨b, o, none⟩ = W.frozen? ⟨b, o, none⟩) :=
  ⟨fun b o h => hb.cell (p := ⟨b, o, none⟩) h, fun b o h => hb.frozen (p := ⟨b, o, none⟩) h⟩

/-- Block b is there, its first cells are these, and they may be written. -/
def Row (w : World) (b : Nat) (vs : List Value) : Prop := b < w.heap.size ∧ ∀ i v, vs[i]? = some v → w.cell? ⟨b, i, none⟩ = some v ∧ w.frozen? ⟨b, i, none⟩ = false
theorem Row.lt {w : World} {b : Nat} {vs : List Value} (h : Row w b vs) : b < w.heap.size := h.1
theorem Row.c {w : World} {b : Nat} {vs : List Value} (h : Row w b vs) (i : Nat) {v : Value} (hv : vs[i]? = some v) : w.cell? ⟨b, i, none⟩ = some v := (h.2 i v hv).1
theorem Row.f {w : World} {b : Nat} {vs : List Value} (h : Row w b vs) (i : Nat) {v : Value} (hv : vs[i]? = some v) : w.frozen? ⟨b, i, none⟩ = false := (h.2 i v hv).2
theorem Row.new (w : World) (vs : List Value) (t : TypeId) : Row (w.alloc (.cells vs.toArray t)) w.heap.size vs :=
  ⟨by simp, fun i v hv => ⟨by rw [World.cell?_alloc_new]; simpa using hv, by rw [World.frozen?_alloc_new]⟩⟩
theorem Row.at {w : World} {n : Nat} (hn : n = w.heap.size) (vs : List Value) (t : TypeId) : Row (w.alloc (.cells vs.toArray t)) n vs := by
  subst hn; exact Row.new w vs t
theorem Row.alloc {w : World} {b : Nat} {vs : List Value} (h : Row w b vs) (o : Obj) : Row (w.alloc o) b vs :=
  ⟨by have := h.1; simp; omega, fun i v hv => ⟨by rw [World.cell?_alloc_past o b i h.1]; exact h.c i hv, by rw [World.frozen?_alloc_past o b i h.1]; exact h.f i hv⟩⟩
theorem Row.drewN {w : World} {b : Nat} {vs : List Value} (h : Row w b vs) (n : Nat) : Row (w.drewN n) b vs := h
theorem Row.drew {w : World} {b : Nat} {vs : List Value} (h : Row w b vs) : Row w.drew b vs := h
theorem Row.below {w w1 : World} {b B : Nat} {vs : List Value} (h : Row w b vs) (hb : Below B w w1) (hB : b < B) : Row w1 b vs :=
  ⟨Nat.lt_of_lt_of_le h.1 hb.size, fun i _ hv => ⟨(hb.cell (p := ⟨b, i, none⟩) hB).trans (h.c i hv), (hb.frozen (p := ⟨b, i, none⟩) hB).trans (h.f i hv)⟩⟩
theorem Row.after {w w1 : World} {b : Nat} {vs : List Value} (h : Row w b vs) (hb : Below w.heap.size w w1) : Row w1 b vs := h.below hb h.1
theorem Row.other {w : World} {b : Nat} {vs : List Value} (h : Row w b vs) {p : Addr} (hp : p.block ≠ b) (v : Value) : Row (w.setCell p v) b vs :=
  ⟨by have := h.1; simp [World.setCell]; omega, fun i u hu => ⟨by rw [World.cell?_setCell_other _ _ _ _ (fun e => hp (by rw [e]))]; exact h.c i hu, by rw [World.frozen?_setCell]; exact h.f i hu⟩⟩
theorem Row.set {w : World} {b : Nat} {vs : List Value} (h : Row w b vs) (j : Nat) (hj : j < vs.length) (v : Value) : Row (w.setCell ⟨b, j, none⟩ v) b (vs.set j v) := by
  refine ⟨by have := h.1; simp [World.setCell]; omega, fun i u hu => ⟨?_, by rw [World.frozen?_setCell]; by_cases e : i < vs.length; exact h.f i (List.getElem?_eq_getElem e); (simp [e] at hu)⟩⟩
  by_cases e : j = i
  · subst e
    rw [World.cell?_setCell_same' _ _ _ (by rw [h.c j (List.getElem?_eq_getElem hj)]; rfl)]
    simpa [hj] using hu
  · rw [World.cell?_setCell_other _ _ _ _ (fun h => e (congrArg Addr.off h))]
    rw [List.getElem?_set_ne e] at hu
    exact h.c i hu
theorem Row.put4 {w : World} {b : Nat} {x0 x1 x2 x3 : Value} (h : Row w b [x0, x1, x2, x3]) (y0 y1 y2 y3 : Value) :
    Row ((((w.setCell ⟨b, 0, none⟩ y0).setCell ⟨b, 1, none⟩ y1).setCell ⟨b, 2, none⟩ y2).setCell ⟨b, 3, none⟩ y3) b [y0, y1, y2, y3] :=
  (((h.set 0 (by simp) y0).set 1 (by simp) y1).set 2 (by simp) y2).set 3 (by simp) y3
theorem Row.other4 {w : World} {b c : Nat} {vs : List Value} (h : Row w b vs) (hc : c ≠ b) (y0 y1 y2 y3 : Value) :
    Row ((((w.setCell ⟨c, 0, none⟩ y0).setCell ⟨c, 1, none⟩ y1).setCell ⟨c, 2, none⟩ y2).setCell ⟨c, 3, none⟩ y3) b vs :=
  (((h.other (p := ⟨c, 0, none⟩) hc y0).other (p := ⟨c, 1, none⟩) hc y1).other (p := ⟨c, 2, none⟩) hc y2).other (p := ⟨c, 3, none⟩) hc y3
theorem below_put4 {B : Nat} {a w : World} (h : Below B a w) {c : Nat} (hc : B ≤ c) (y0 y1 y2 y3 : Value) :
    Below B a ((((w.setCell ⟨c, 0, none⟩ y0).setCell ⟨c, 1, none⟩ y1).setCell ⟨c, 2, none⟩ y2).setCell ⟨c, 3, none⟩ y3) :=
  (((h.setCell (p := ⟨c, 0, none⟩) hc y0).setCell (p := ⟨c, 1, none⟩) hc y1).setCell (p := ⟨c, 2, none⟩) hc y2).setCell (p := ⟨c, 3, none⟩) hc y3
theorem below_put5 {B : Nat} {a w : World} (h : Below B a w) {c : Nat} (hc : B ≤ c) (y0 y1 y2 y3 y4 : Value) :
    Below B a (((((w.setCell ⟨c, 0, none⟩ y0).setCell ⟨c, 1, none⟩ y1).setCell ⟨c, 2, none⟩ y2).setCell ⟨c, 3, none⟩ y3).setCell ⟨c, 4, none⟩ y4) :=
  ((((h.setCell (p := ⟨c, 0, none⟩) hc y0).setCell (p := ⟨c, 1, none⟩) hc y1).setCell (p := ⟨c, 2, none⟩) hc y2).setCell (p := ⟨c, 3, none⟩) hc y3).setCell (p := ⟨c, 4, none⟩) hc y4
theorem below_put1 {B : Nat} {a w : World} (h : Below B a w) {c : Nat} (hc : B ≤ c) (i : Nat) (y : Value) : Below B a (w.setCell ⟨c, i, none⟩ y) := h.setCell (p := ⟨c, i, none⟩) hc y
theorem Row.put5 {w : World} {b : Nat} {x0 x1 x2 x3 x4 : Value} (h : Row w b [x0, x1, x2, x3, x4]) (y0 y1 y2 y3 y4 : Value) :
    Row (((((w.setCell ⟨b, 0, none⟩ y0).setCell ⟨b, 1, none⟩ y1).setCell ⟨b, 2, none⟩ y2).setCell ⟨b, 3, none⟩ y3).setCell ⟨b, 4, none⟩ y4) b [y0, y1, y2, y3, y4] :=
  ((((h.set 0 (by simp) y0).set 1 (by simp) y1).set 2 (by simp) y2).set 3 (by simp) y3).set 4 (by simp) y4
theorem Row.other5 {w : World} {b c : Nat} {vs : List Value} (h : Row w b vs) (hc : c ≠ b) (y0 y1 y2 y3 y4 : Value) :
    Row (((((w.setCell ⟨c, 0, none⟩ y0).setCell ⟨c, 1, none⟩ y1).setCell ⟨c, 2, none⟩ y2).setCell ⟨c, 3, none⟩ y3).setCell ⟨c, 4, none⟩ y4) b vs :=
  ((((h.other (p := ⟨c, 0, none⟩) hc y0).other (p := ⟨c, 1, none⟩) hc y1).other (p := ⟨c, 2, none⟩) hc y2).other (p := ⟨c, 3, none⟩) hc y3).other (p := ⟨c, 4, none⟩) hc y4
end Go.Proofs.YtlbijchbngnmmaaDoor
