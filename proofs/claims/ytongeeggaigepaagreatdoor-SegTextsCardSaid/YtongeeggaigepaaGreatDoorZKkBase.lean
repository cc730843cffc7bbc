import Derived.Test.YtongeeggaigepaaGreatDoorProg
import Derived.WalkKit
import Derived.WalkSpells
import Derived.WalkLawsBesides
import Derived.Deep.QuietTactic
import Derived.BigQuiet
import Derived.Lib.Hide
import Derived.ChangeKeysEq
namespace Go.Proofs.YtongeeggaigepaaGreatDoor
open Go.RowKit
abbrev wv (a b c d : Int) : Value := .agg #[.int .u64 a, .int .u64 b, .int .u64 c, .int .u64 d]
abbrev iv (n : Bool) (a b c d : Int) : Value := .agg #[.bool n, .int .u64 a, .int .u64 b, .int .u64 c, .int .u64 d]
theorem eqArr (d : Nat) (t : TypeId) (ht : Tryz.prog.underlying t = some (.array 4 39)) (a b c e a' b' c' e' : Int) (w : World) :
 (Op.equalIn (d + 2) t (wv a b c e) (wv a' b' c' e')).run Tryz.prog w = .ok (a == a' && (b == b' && (c == c' && e == e'))) w := by
 have u3 := Tryz.underlying39
 have a3 := Tryz.isAgg39
 have z3 := Tryz.sizeOf39
 rw [show d + 2 = (d + 1) + 1 from rfl, Op.equalIn]
 simp only [Sem.run_bind, run_underlying ht, Result.andThen_ok]
 simp only [Std.Legacy.Range.forIn_eq_forIn_range', Std.Legacy.Range.size, Nat.sub_zero, Nat.add_sub_cancel, Nat.div_one, List.range'_succ, List.range'_zero, List.forIn_cons, List.forIn_nil]
 go_simp
 by_cases h1 : a = a' <;> by_cases h2 : b = b' <;> by_cases h3 : c = c' <;> by_cases h4 : e = e' <;> simp [h1, h2, h3, h4]
theorem eqlArr (t : TypeId) (ht : Tryz.prog.underlying t = some (.array 4 39)) (a b c e a' b' c' e' : Int) (w : World) :
 (binOp .eql t (wv a b c e) (wv a' b' c' e')).run Tryz.prog w = .ok (.bool (a == a' && (b == b' && (c == c' && e == e')))) w := by
 rw [run_eql_struct, show (10000 : Nat) = 9998 + 2 from rfl, eqArr 9998 t ht]; rfl
theorem neqArr (t : TypeId) (ht : Tryz.prog.underlying t = some (.array 4 39)) (a b c e a' b' c' e' : Int) (w : World) :
 (binOp .neq t (wv a b c e) (wv a' b' c' e')).run Tryz.prog w = .ok (.bool (!(a == a' && (b == b' && (c == c' && e == e'))))) w := by
 rw [run_neq_struct, show (10000 : Nat) = 9998 + 2 from rfl, eqArr 9998 t ht]; rfl
theorem calls_cls {P : Program} {f : FuncId} {args : Array Value} {W : World} {v : Value} {C : World → Prop}
 (h : Calls P f args W fun e w' => e = .returned v ∧ W = w') (hC : C W) : Calls P f args W fun e w'' => e = .returned v ∧ C w'' :=
 h.mono fun _ _ ⟨he, hw⟩ => ⟨he, hw ▸ hC⟩
theorem bcell {W w1 : World} (hb : Below W.heap.size W w1) : (∀ b o, b < W.heap.size → w1.cell? ⟨b, o, none⟩ = W.cell? ⟨b, o, none⟩) ∧ (∀ b o, b < W.heap.size → w1.frozen? ⟨b, o, none⟩ = W.frozen? ⟨b, o, none⟩) :=
 ⟨fun b o h => hb.cell (p := ⟨b, o, none⟩) h, fun b o h => hb.frozen (p := ⟨b, o, none⟩) h⟩
def Row (w : World) (b : Nat) (vs : List Value) : Prop := b < w.heap.size ∧ ∀ i v, vs[i]? = some v → w.cell? ⟨b, i, none⟩ = some v ∧ w.frozen? ⟨b, i, none⟩ = false
theorem Row.lt {w : World} {b : Nat} {vs : List Value} (h : Row w b vs) : b < w.heap.size := h.1
theorem Row.c {w : World} {b : Nat} {vs : List Value} (h : Row w b vs) (i : Nat) {v : Value} (hv : vs[i]? = some v) : w.cell? ⟨b, i, none⟩ = some v := (h.2 i v hv).1
theorem Row.f {w : World} {b : Nat} {vs : List Value} (h : Row w b vs) (i : Nat) {v : Value} (hv : vs[i]? = some v) : w.frozen? ⟨b, i, none⟩ = false := (h.2 i v hv).2
theorem Row.new (w : World) (vs : List Value) (t : TypeId) : Row (w.alloc (.cells vs.toArray t)) w.heap.size vs :=
 ⟨by simp, fun i v hv => ⟨by rw [World.cell?_alloc_new]; simpa using hv, by rw [World.frozen?_alloc_new]⟩⟩
theorem Row.at {w : World} {n : Nat} (hn : n = w.heap.size) (vs : List Value) (t : TypeId) : Row (w.alloc (.cells vs.toArray t)) n vs := by
 subst hn; exact Row.new w vs t
theorem Row.alloc {w : World} {b : Nat} {vs : List Value} (h : Row w b vs) (o : Obj) : Row (w.alloc o) b vs :=
 ⟨by have := h.1; simp; omega, fun i v hv => ⟨by rw [World.cell?_alloc_past o b i h.1]; exact h.c i hv, by rw [World.frozen?_alloc_past o b i h.1]; exact h.f i hv⟩⟩
theorem Row.drewN {w : World} {b : Nat} {vs : List Value} (h : Row w b vs) (n : Nat) : Row (w.drewN n) b vs := h
theorem Row.drew {w : World} {b : Nat} {vs : List Value} (h : Row w b vs) : Row w.drew b vs := h
theorem Row.below {w w1 : World} {b B : Nat} {vs : List Value} (h : Row w b vs) (hb : Below B w w1) (hB : b < B) : Row w1 b vs :=
 ⟨Nat.lt_of_lt_of_le h.1 hb.size, fun i _ hv => ⟨(hb.cell (p := ⟨b, i, none⟩) hB).trans (h.c i hv), (hb.frozen (p := ⟨b, i, none⟩) hB).trans (h.f i hv)⟩⟩
theorem Row.after {w w1 : World} {b : Nat} {vs : List Value} (h : Row w b vs) (hb : Below w.heap.size w w1) : Row w1 b vs := h.below hb h.1
theorem Row.other {w : World} {b : Nat} {vs : List Value} (h : Row w b vs) {p : Addr} (hp : p.block ≠ b) (v : Value) : Row (w.setCell p v) b vs :=
 ⟨by have := h.1; simp [World.setCell]; omega, fun i u hu => ⟨by rw [World.cell?_setCell_other _ _ _ _ (fun e => hp (by rw [e]))]; exact h.c i hu, by rw [World.frozen?_setCell]; exact h.f i hu⟩⟩
theorem Row.set {w : World} {b : Nat} {vs : List Value} (h : Row w b vs) (j : Nat) (hj : j < vs.length) (v : Value) : Row (w.setCell ⟨b, j, none⟩ v) b (vs.set j v) := by
 refine ⟨by have := h.1; simp [World.setCell]; omega, fun i u hu => ⟨?_, by rw [World.frozen?_setCell]; by_cases e : i < vs.length; exact h.f i (List.getElem?_eq_getElem e); (simp [e] at hu)⟩⟩
 by_cases e : j = i
 ·subst e
  rw [World.cell?_setCell_same' _ _ _ (by rw [h.c j (List.getElem?_eq_getElem hj)]; rfl)]
  simpa [hj] using hu
 ·rw [World.cell?_setCell_other _ _ _ _ (fun h => e (congrArg Addr.off h))]
  rw [List.getElem?_set_ne e] at hu
  exact h.c i hu
theorem Row.put4 {w : World} {b : Nat} {x0 x1 x2 x3 : Value} (h : Row w b [x0, x1, x2, x3]) (y0 y1 y2 y3 : Value) :
 Row ((((w.setCell ⟨b, 0, none⟩ y0).setCell ⟨b, 1, none⟩ y1).setCell ⟨b, 2, none⟩ y2).setCell ⟨b, 3, none⟩ y3) b [y0, y1, y2, y3] :=
 (((h.set 0 (by simp) y0).set 1 (by simp) y1).set 2 (by simp) y2).set 3 (by simp) y3
theorem Row.other4 {w : World} {b c : Nat} {vs : List Value} (h : Row w b vs) (hc : c ≠ b) (y0 y1 y2 y3 : Value) :
 Row ((((w.setCell ⟨c, 0, none⟩ y0).setCell ⟨c, 1, none⟩ y1).setCell ⟨c, 2, none⟩ y2).setCell ⟨c, 3, none⟩ y3) b vs :=
 (((h.other (p := ⟨c, 0, none⟩) hc y0).other (p := ⟨c, 1, none⟩) hc y1).other (p := ⟨c, 2, none⟩) hc y2).other (p := ⟨c, 3, none⟩) hc y3
theorem below_put4 {B : Nat} {a w : World} (h : Below B a w) {c : Nat} (hc : B ≤ c) (y0 y1 y2 y3 : Value) :
 Below B a ((((w.setCell ⟨c, 0, none⟩ y0).setCell ⟨c, 1, none⟩ y1).setCell ⟨c, 2, none⟩ y2).setCell ⟨c, 3, none⟩ y3) :=
 (((h.setCell (p := ⟨c, 0, none⟩) hc y0).setCell (p := ⟨c, 1, none⟩) hc y1).setCell (p := ⟨c, 2, none⟩) hc y2).setCell (p := ⟨c, 3, none⟩) hc y3
theorem below_put5 {B : Nat} {a w : World} (h : Below B a w) {c : Nat} (hc : B ≤ c) (y0 y1 y2 y3 y4 : Value) :
 Below B a (((((w.setCell ⟨c, 0, none⟩ y0).setCell ⟨c, 1, none⟩ y1).setCell ⟨c, 2, none⟩ y2).setCell ⟨c, 3, none⟩ y3).setCell ⟨c, 4, none⟩ y4) :=
 ((((h.setCell (p := ⟨c, 0, none⟩) hc y0).setCell (p := ⟨c, 1, none⟩) hc y1).setCell (p := ⟨c, 2, none⟩) hc y2).setCell (p := ⟨c, 3, none⟩) hc y3).setCell (p := ⟨c, 4, none⟩) hc y4
theorem below_put1 {B : Nat} {a w : World} (h : Below B a w) {c : Nat} (hc : B ≤ c) (i : Nat) (y : Value) : Below B a (w.setCell ⟨c, i, none⟩ y) := h.setCell (p := ⟨c, i, none⟩) hc y
theorem Row.put5 {w : World} {b : Nat} {x0 x1 x2 x3 x4 : Value} (h : Row w b [x0, x1, x2, x3, x4]) (y0 y1 y2 y3 y4 : Value) :
 Row (((((w.setCell ⟨b, 0, none⟩ y0).setCell ⟨b, 1, none⟩ y1).setCell ⟨b, 2, none⟩ y2).setCell ⟨b, 3, none⟩ y3).setCell ⟨b, 4, none⟩ y4) b [y0, y1, y2, y3, y4] :=
 ((((h.set 0 (by simp) y0).set 1 (by simp) y1).set 2 (by simp) y2).set 3 (by simp) y3).set 4 (by simp) y4
theorem Row.other5 {w : World} {b c : Nat} {vs : List Value} (h : Row w b vs) (hc : c ≠ b) (y0 y1 y2 y3 y4 : Value) :
 Row (((((w.setCell ⟨c, 0, none⟩ y0).setCell ⟨c, 1, none⟩ y1).setCell ⟨c, 2, none⟩ y2).setCell ⟨c, 3, none⟩ y3).setCell ⟨c, 4, none⟩ y4) b vs :=
 ((((h.other (p := ⟨c, 0, none⟩) hc y0).other (p := ⟨c, 1, none⟩) hc y1).other (p := ⟨c, 2, none⟩) hc y2).other (p := ⟨c, 3, none⟩) hc y3).other (p := ⟨c, 4, none⟩) hc y4
end Go.Proofs.YtongeeggaigepaaGreatDoor
namespace Go.Proofs.YtongeeggaigepaaGreatDoor
open Go.RowKit
def zeroB (a b c d : Int) : Bool := a == 0 && (b == 0 && (c == 0 && d == 0))
def errArg (n : Bool) (a b c d : Int) : Int := if (n && zeroB a b c d) = true then 2 else 0
theorem errArg_bad {a b c d : Int} (h : zeroB a b c d = true) : errArg true a b c d = 2 := by simp [errArg, h]
theorem errArg_ok {n : Bool} {a b c d : Int} (h : (n && zeroB a b c d) = false) : errArg n a b c d = 0 := by simp [errArg, h]
theorem zeroB_iff {a b c d : Int} : zeroB a b c d = true ↔ a = 0 ∧ b = 0 ∧ c = 0 ∧ d = 0 := by simp [zeroB]
set_option maxRecDepth 100000 in
set_option maxHeartbeats 400000 in
theorem check_any (n : Bool) (a b c d : Int) (w : World) :
 Calls Tryz.prog 146 #[iv n a b c d] w fun e w' => e = .returned (.int .i64 (errArg n a b c d)) ∧ Below w.heap.size w w' := by
 have hq : ∀ w, (binOp .eql 40 (wv a b c d) (wv 0 0 0 0)).run Tryz.prog w = .ok (.bool (zeroB a b c d)) w := fun w => eqlArr 40 Tryz.underlying40 a b c d 0 0 0 0 w
 cases n
 ·have H := Lib.hid (errArg_ok (n := false) (a := a) (b := b) (c := c) (d := d) rfl)
  go_enter Tryz.func146, Tryz.ntmps146
  go_wp2
  go_ret
  exact ⟨by rw [H.out]; rfl, (Below.refl _ _).alloc (Nat.le_refl _) _⟩
 ·cases hz : zeroB a b c d
  ·have H := Lib.hid (errArg_ok (n := true) (a := a) (b := b) (c := c) (d := d) (by simp [hz]))
   rw [hz] at hq
   clear hz
   go_enter Tryz.func146, Tryz.ntmps146
   go_wp2
   go_ret
   exact ⟨by rw [H.out]; rfl, (Below.refl _ _).alloc (Nat.le_refl _) _⟩
  ·have H := Lib.hid (errArg_bad hz)
   rw [hz] at hq
   clear hz
   go_enter Tryz.func146, Tryz.ntmps146
   go_wp2
   go_ret
   exact ⟨by rw [H.out]; rfl, (Below.refl _ _).alloc (Nat.le_refl _) _⟩
def ofW (n : Int) : Int := if n < 0 then IntKind.u64.wrap (-IntKind.u64.wrap n) else IntKind.u64.wrap n
set_option maxHeartbeats 400000 in
theorem of_any (n : Int) (w : World) :
 Calls Tryz.prog 89 #[.int .i64 n] w fun e w' => e = .returned (iv (decide (n < 0)) (ofW n) 0 0 0) ∧ Below w.heap.size w w' := by
 by_cases h : n < 0
 ·have hw : ofW n = IntKind.u64.wrap (-IntKind.u64.wrap n) := by simp [ofW, h]
  have hd : decide (n < 0) = true := by simp [h]
  rw [hw, hd]; clear hw hd
  go_enter Tryz.func89, Tryz.ntmps89
  go_wp2
  exact bodyPost_ret (by simp [results, Tryz.results89, go_sem]) rfl ⟨rfl, (Below.refl _ _).alloc (Nat.le_refl _) _⟩
 ·have hw : ofW n = IntKind.u64.wrap n := by simp [ofW, h]
  have hd : decide (n < 0) = false := by simp [h]
  rw [hw, hd]; clear hw
  go_enter Tryz.func89, Tryz.ntmps89
  go_wp2
  exact bodyPost_ret (by simp [results, Tryz.results89, go_sem]) rfl ⟨rfl, (Below.refl _ _).alloc (Nat.le_refl _) _⟩
def sgnB (n : Bool) (a b c d : Int) : Int := if zeroB a b c d = true then 0 else if n = true then -1 else 1
set_option maxHeartbeats 400000 in
set_option maxRecDepth 100000 in
theorem sign_any (n : Bool) (a b c d : Int) (w : World) :
 Calls Tryz.prog 139 #[iv n a b c d] w fun e w' => e = .returned (.int .i64 (sgnB n a b c d)) ∧ Below w.heap.size w w' := by
 have hq : ∀ w, (binOp .eql 40 (wv a b c d) (wv 0 0 0 0)).run Tryz.prog w = .ok (.bool (zeroB a b c d)) w := fun w => eqlArr 40 Tryz.underlying40 a b c d 0 0 0 0 w
 have hq2 : ∀ w, (binOp .eql 179 (wv a b c d) (wv 0 0 0 0)).run Tryz.prog w = .ok (.bool (zeroB a b c d)) w := fun w => eqlArr 179 Tryz.underlying179 a b c d 0 0 0 0 w
 cases hz : zeroB a b c d
 ·rw [hz] at hq hq2
  cases n
  ·have H := Lib.hid (show sgnB false a b c d = 1 by simp [sgnB, hz])
   clear hz
   go_enter Tryz.func139, Tryz.ntmps139
   go_wp2
   go_ret
   exact ⟨by rw [H.out]; rfl, (Below.refl _ _).alloc (Nat.le_refl _) _⟩
  ·have H := Lib.hid (show sgnB true a b c d = -1 by simp [sgnB, hz])
   clear hz
   go_enter Tryz.func139, Tryz.ntmps139
   go_wp2
   go_ret
   exact ⟨by rw [H.out]; rfl, (Below.refl _ _).alloc (Nat.le_refl _) _⟩
 ·rw [hz] at hq hq2
  have H := Lib.hid (show sgnB n a b c d = 0 by simp [sgnB, hz])
  clear hz
  go_enter Tryz.func139, Tryz.ntmps139
  go_wp2
  go_ret
  exact ⟨by rw [H.out]; rfl, (Below.refl _ _).alloc (Nat.le_refl _) _⟩
set_option maxHeartbeats 400000 in
set_option maxRecDepth 100000 in
theorem signed_any (n : Bool) (a b c d : Int) (w : World) :
 Calls Tryz.prog 160 #[.bool n, wv a b c d] w fun e w' => e = .returned (iv (n && !zeroB a b c d) a b c d) ∧ Below w.heap.size w w' := by
 have hq2 : ∀ w, (binOp .neq 179 (wv a b c d) (wv 0 0 0 0)).run Tryz.prog w = .ok (.bool (!zeroB a b c d)) w := fun w => neqArr 179 Tryz.underlying179 a b c d 0 0 0 0 w
 generalize zeroB a b c d = z at hq2 ⊢
 cases n
 ·rw [show (false && !z) = false from rfl]
  go_enter Tryz.func160, Tryz.ntmps160
  go_wp2
  go_region
  go_wp2
  exact bodyPost_ret (by simp [results, Tryz.results160, go_sem]) rfl ⟨rfl, (((Below.refl _ _).alloc (Nat.le_refl _) _).alloc (by simp) _).drew⟩
 ·rw [show (true && !z) = !z from rfl]
  generalize (!z) = y at hq2 ⊢
  go_enter Tryz.func160, Tryz.ntmps160
  go_wp2
  go_region
  go_wp2
  exact bodyPost_ret (by simp [results, Tryz.results160, go_sem]) rfl ⟨rfl, (((Below.refl _ _).alloc (Nat.le_refl _) _).alloc (by simp) _).drew⟩
def cmpI (a b : Int) : Int := if a < b then -1 else if b < a then 1 else 0
set_option maxHeartbeats 400000 in
theorem compare_any (a b : Int) (w : World) :
 Calls Tryz.prog 147 #[.int .u64 a, .int .u64 b] w fun e w' => e = .returned (.int .i64 (cmpI a b)) ∧ w = w' := by
 by_cases h : a < b
 ·have H := Lib.hid (show cmpI a b = -1 by simp [cmpI, h])
  go_enter Tryz.func147, Tryz.ntmps147
  go_wp2
  go_ret
  exact ⟨by rw [H.out]; rfl, rfl⟩
 ·by_cases h' : b < a
  ·have H := Lib.hid (show cmpI a b = 1 by simp [cmpI, h, h'])
   go_enter Tryz.func147, Tryz.ntmps147
   go_wp2
   go_ret
   exact ⟨by rw [H.out]; rfl, rfl⟩
  ·have H := Lib.hid (show cmpI a b = 0 by simp [cmpI, h, h'])
   go_enter Tryz.func147, Tryz.ntmps147
   go_wp2
   go_ret
   exact ⟨by rw [H.out]; rfl, rfl⟩
def ordF (x y : Nat → Int) : Nat → Int
 | 0 => 0
 | k + 1 => if cmpI (x k) (y k) = 0 then ordF x y k else cmpI (x k) (y k)
set_option maxHeartbeats 400000 in
theorem order_any (x y : Nat → Int) (n : Nat) (b o b' o' c c' : Nat) (w : World) (hn : n ≤ 1000)
 (hx : ∀ i, i < n → w.cell? ⟨b, o + i, none⟩ = some (.int .u64 (x i))) (hy : ∀ i, i < n → w.cell? ⟨b', o' + i, none⟩ = some (.int .u64 (y i))) :
 Calls Tryz.prog 126 #[.slice (some ⟨b, o, none⟩) n c, .slice (some ⟨b', o', none⟩) n c'] w fun e w' => e = .returned (.int .i64 (ordF x y n)) ∧ ∃ k, w' = w.drewN k := by
 go_enter Tryz.func126, Tryz.ntmps126
 have Hx := Lib.hid hx; clear hx
 have Hy := Lib.hid hy; clear hy
 go_wp2
 go_loopw [5] (fun i wr => ∃ k m : Nat, k ≤ n ∧ i = .int .i64 ((k : Int) - 1) ∧ Hid (ordF x y n = ordF x y k) ∧ wr = w.drewN m) (fun i _ => (intOf i + 1).toNat)
 case atStart => exact ⟨n, 0, Nat.le_refl _, rfl, Lib.hid rfl, rfl⟩
 case round =>
  obtain ⟨k, m, hk, rfl, HO, rfl⟩ := hrel
  cases k with
  | zero =>
    go_wp2
    go_ret
    exact ⟨by rw [HO.out]; rfl, m, rfl⟩
  | succ k =>
    have hcx := Hx.out k (by omega)
    have hcy := Hy.out k (by omega)
    have e1 : ((k + 1 : Nat) : Int) - 1 = (k : Int) := by omega
    rw [e1]; clear e1
    have hk1 : (k : Int) < n := by omega
    have hk0 : (0 : Int) ≤ k := by omega
    by_cases hc : cmpI (x k) (y k) = 0
    ·have HO' : Hid (ordF x y n = ordF x y k) := by rw [HO.out]; exact Lib.hid (by rw [ordF, if_pos hc])
     have HC := Lib.hid hc; clear hc HO
     go_wp2
     go_quiet ((go_at_call 147; exact calls_cls (compare_any _ _ _) ⟨_, rfl⟩))
     rw [HC.out]
     go_wp2
     go_roundw
     case rel => exact ⟨k, _, by omega, rfl, HO', rfl⟩
     case measure => simp [intOf]
    ·have hb : (cmpI (x k) (y k) != 0) = true := by simpa using hc
     have HO' : Hid (ordF x y n = cmpI (x k) (y k)) := by rw [HO.out]; exact Lib.hid (by rw [ordF, if_neg hc])
     clear hc HO
     go_wp2
     go_quiet ((go_at_call 147; exact calls_cls (compare_any _ _ _) ⟨_, rfl⟩))
     go_wp2
     go_ret
     exact ⟨by rw [HO'.out]; rfl, _, rfl⟩
end Go.Proofs.YtongeeggaigepaaGreatDoor
namespace Go.Proofs.YtongeeggaigepaaGreatDoor
open Go.RowKit
def errAll (neg : Nat → Bool) (m : Nat → Nat → Int) : Nat → Int
 | 0 => 0
 | k + 1 => if errAll neg m k = 0 then errArg (neg k) (m k 0) (m k 1) (m k 2) (m k 3) else errAll neg m k
theorem errAll_some {neg : Nat → Bool} {m : Nat → Nat → Int} {k n : Nat} (hk : k < n) (h0 : errAll neg m k = 0) (h : errArg (neg k) (m k 0) (m k 1) (m k 2) (m k 3) ≠ 0) :
 errAll neg m n = errArg (neg k) (m k 0) (m k 1) (m k 2) (m k 3) := by
 induction n with
 | zero => omega
 | succ n ih =>
   by_cases e : k = n
   ·subst e; rw [errAll, if_pos h0]
   ·rw [errAll, ih (by omega), if_neg h]
def IntsAt (w : World) (b o n : Nat) (neg : Nat → Bool) (m : Nat → Nat → Int) : Prop :=
 ∀ i, i < n → w.cell? ⟨b, o + i * 5, none⟩ = some (.bool (neg i)) ∧ w.cell? ⟨b, o + i * 5 + 1, none⟩ = some (.int .u64 (m i 0)) ∧ w.cell? ⟨b, o + i * 5 + 2, none⟩ = some (.int .u64 (m i 1)) ∧
  w.cell? ⟨b, o + i * 5 + 3, none⟩ = some (.int .u64 (m i 2)) ∧ w.cell? ⟨b, o + i * 5 + 4, none⟩ = some (.int .u64 (m i 3))
theorem IntsAt.below {w w1 : World} {b o n : Nat} {neg : Nat → Bool} {m : Nat → Nat → Int} (h : IntsAt w b o n neg m) (hb : Below w.heap.size w w1) (hlt : b < w.heap.size) : IntsAt w1 b o n neg m := by
 intro i hi
 have hc := (bcell hb).1
 rw [hc b _ hlt, hc b _ hlt, hc b _ hlt, hc b _ hlt, hc b _ hlt]
 exact h i hi
set_option maxHeartbeats 400000 in
theorem checkAll_any (neg : Nat → Bool) (m : Nat → Nat → Int) (n b o c : Nat) (w : World) (hn : n ≤ 1000000000000000000) (hlt : b < w.heap.size) (hx : IntsAt w b o n neg m) :
 Calls Tryz.prog 125 #[.slice (some ⟨b, o, none⟩) n c] w fun e w' => e = .returned (.int .i64 (errAll neg m n)) ∧ Below w.heap.size w w' := by
 go_enter Tryz.func125, Tryz.ntmps125
 have Hx := Lib.hid hx; clear hx
 go_wp2
 go_loopw [8] (fun i wr => ∃ k : Nat, k ≤ n ∧ i = .int .i64 k ∧ Hid (errAll neg m k = 0) ∧ Below w.heap.size w wr) (fun i _ => n - (intOf i).toNat)
 case atStart => exact ⟨0, Nat.zero_le _, rfl, Lib.hid rfl, Below.refl _ _⟩
 case round =>
  obtain ⟨k, hk, rfl, HO, hB⟩ := hrel
  by_cases hkn : k < n
  ·obtain ⟨c0, c1, c2, c3, c4⟩ := (Hx.out.below hB hlt) k hkn
   have hk1 : (k : Int) < n := by omega
   by_cases hc : errArg (neg k) (m k 0) (m k 1) (m k 2) (m k 3) = 0
   ·have HO' : Hid (errAll neg m (k + 1) = 0) := Lib.hid (by rw [errAll, if_pos HO.out, hc])
    go_wp2_with fail
    refine (check_any _ _ _ _ _ _).mono ?_
    rintro e w1 ⟨rfl, hb1⟩
    rw [hc]; clear hc
    go_wp2
    go_roundw
    case rel => exact ⟨k + 1, by omega, by go_num, HO', (hB.alloc hB.size _).trans (hb1.mono (by simp; have := hB.size; omega))⟩
    case measure => simp [intOf]; omega
   ·have HO' : Hid (errAll neg m n = errArg (neg k) (m k 0) (m k 1) (m k 2) (m k 3)) := Lib.hid (errAll_some hkn HO.out hc)
    have hne : (errArg (neg k) (m k 0) (m k 1) (m k 2) (m k 3) != 0) = true := by simpa using hc
    clear hc
    go_wp2_with fail
    refine (check_any _ _ _ _ _ _).mono ?_
    rintro e w1 ⟨rfl, hb1⟩
    go_wp2
    go_ret
    exact ⟨by rw [HO'.out]; rfl, (hB.alloc hB.size _).trans (hb1.mono (by simp; have := hB.size; omega))⟩
  ·have hkn' : k = n := by omega
   have HN : Hid (errAll neg m n = 0) := Lib.hid (by rw [← hkn']; exact HO.out)
   clear hkn'
   go_wp2
   go_ret
   exact ⟨by rw [HN.out]; rfl, hB⟩
def sizeF (a b c d : Int) : Int := if d = 0 then (if c = 0 then (if b = 0 then (if a = 0 then 0 else 1) else 2) else 3) else 4
set_option maxHeartbeats 400000 in
theorem size_any (a b c d : Int) (w : World) :
 Calls Tryz.prog 184 #[wv a b c d] w fun e w' => e = .returned (.int .i64 (sizeF a b c d)) ∧ Below w.heap.size w w' := by
 by_cases hd : d = 0
 ·subst hd
  by_cases hc : c = 0
  ·subst hc
   by_cases hb : b = 0
   ·subst hb
    by_cases ha : a = 0
    ·subst ha
     rw [show sizeF 0 0 0 0 = 0 from rfl]
     go_enter Tryz.func184, Tryz.ntmps184
     go_wp2
     refine wp_loop_rounds 5 ?_
     iterate 5 (rw [rounds_succ]; go_wp2)
     go_ret
     exact ⟨rfl, (Below.refl _ _).alloc (Nat.le_refl _) _⟩
    ·have H := Lib.hid (show sizeF a 0 0 0 = 1 by simp [sizeF, ha])
     have hd' : (a == 0) = false := by simpa using ha
     clear ha
     go_enter Tryz.func184, Tryz.ntmps184
     go_wp2
     refine wp_loop_rounds 4 ?_
     iterate 4 (rw [rounds_succ]; go_wp2)
     go_ret
     exact ⟨by rw [H.out]; rfl, (Below.refl _ _).alloc (Nat.le_refl _) _⟩
   ·have H := Lib.hid (show sizeF a b 0 0 = 2 by simp [sizeF, hb])
    have hd' : (b == 0) = false := by simpa using hb
    clear hb
    go_enter Tryz.func184, Tryz.ntmps184
    go_wp2
    refine wp_loop_rounds 3 ?_
    iterate 3 (rw [rounds_succ]; go_wp2)
    go_ret
    exact ⟨by rw [H.out]; rfl, (Below.refl _ _).alloc (Nat.le_refl _) _⟩
  ·have H := Lib.hid (show sizeF a b c 0 = 3 by simp [sizeF, hc])
   have hd' : (c == 0) = false := by simpa using hc
   clear hc
   go_enter Tryz.func184, Tryz.ntmps184
   go_wp2
   refine wp_loop_rounds 2 ?_
   iterate 2 (rw [rounds_succ]; go_wp2)
   go_ret
   exact ⟨by rw [H.out]; rfl, (Below.refl _ _).alloc (Nat.le_refl _) _⟩
 ·have H := Lib.hid (show sizeF a b c d = 4 by simp [sizeF, hd])
  have hd' : (d == 0) = false := by simpa using hd
  clear hd
  go_enter Tryz.func184, Tryz.ntmps184
  go_wp2
  refine wp_loop_rounds 1 ?_
  rw [rounds_succ]
  go_wp2
  go_ret
  exact ⟨by rw [H.out]; rfl, (Below.refl _ _).alloc (Nat.le_refl _) _⟩
end Go.Proofs.YtongeeggaigepaaGreatDoor
namespace Go.Proofs.YtongeeggaigepaaGreatDoor
open Go.RowKit
set_option maxHeartbeats 400000 in
theorem div64_small (a y : Int) (w : World) (ha : 0 ≤ a) (hb : a < 18446744073709551616) (hy : 1 ≤ y) (hy2 : y < 18446744073709551616) :
 Calls Tryz.prog 220 #[.int .u64 0, .int .u64 a, .int .u64 y] w fun e w' => e = .returned (.tuple #[.int .u64 (a / y), .int .u64 (a % y)]) ∧ ∃ k, w' = w.drewN k := by
 go_enter Tryz.func220, Tryz.ntmps220
 go_wp2
 go_quiet (fail)
 go_wp2
 go_ret2
 exact ⟨rfl, _, rfl⟩
end Go.Proofs.YtongeeggaigepaaGreatDoor
namespace Go.Proofs.YtongeeggaigepaaGreatDoor
open Go.RowKit
def ordW (a b c d a' b' c' d' : Int) : Int := if cmpI d d' = 0 then (if cmpI c c' = 0 then (if cmpI b b' = 0 then cmpI a a' else cmpI b b') else cmpI c c') else cmpI d d'
def row4 (a b c d : Int) : Nat → Int
 | 0 => a
 | 1 => b
 | 2 => c
 | _ => d
theorem ordF_row4 (a b c d a' b' c' d' : Int) : ordF (row4 a b c d) (row4 a' b' c' d') 4 = ordW a b c d a' b' c' d' := by
 simp only [ordF, row4, ordW]
 by_cases h : cmpI a a' = 0 <;> simp [h]
theorem order_words (a b c d a' b' c' d' : Int) (p q k k' : Nat) (w : World)
 (h0 : w.cell? ⟨p, 0, none⟩ = some (.int .u64 a)) (h1 : w.cell? ⟨p, 1, none⟩ = some (.int .u64 b)) (h2 : w.cell? ⟨p, 2, none⟩ = some (.int .u64 c)) (h3 : w.cell? ⟨p, 3, none⟩ = some (.int .u64 d))
 (g0 : w.cell? ⟨q, 0, none⟩ = some (.int .u64 a')) (g1 : w.cell? ⟨q, 1, none⟩ = some (.int .u64 b')) (g2 : w.cell? ⟨q, 2, none⟩ = some (.int .u64 c')) (g3 : w.cell? ⟨q, 3, none⟩ = some (.int .u64 d')) :
 Calls Tryz.prog 126 #[.slice (some ⟨p, 0, none⟩) 4 k, .slice (some ⟨q, 0, none⟩) 4 k'] w fun e w' => e = .returned (.int .i64 (ordW a b c d a' b' c' d')) ∧ ∃ k, w' = w.drewN k := by
 rw [← ordF_row4]
 refine order_any _ _ 4 p 0 q 0 k k' w (by omega) (fun i hi => ?_) (fun i hi => ?_)
 ·match i, hi with
  | 0, _ => exact h0
  | 1, _ => exact h1
  | 2, _ => exact h2
  | 3, _ => exact h3
 ·match i, hi with
  | 0, _ => exact g0
  | 1, _ => exact g1
  | 2, _ => exact g2
  | 3, _ => exact g3
end Go.Proofs.YtongeeggaigepaaGreatDoor

namespace Go.Proofs.YtongeeggaigepaaGreatDoor
open Go.RowKit
def rightB (s : Bool) (a b c d : Int) : Bool := !(s && zeroB a b c d)
def cutN (x : Nat → Int) : Nat → Nat
 | 0 => 0
 | k + 1 => if x k = 0 then cutN x k else k + 1
set_option maxHeartbeats 400000 in
theorem cut_any (x : Nat → Int) (n b o c : Nat) (w : World) (hn : n ≤ 1000000) (hc : n ≤ c)
 (hx : ∀ i, i < n → w.cell? ⟨b, o + i, none⟩ = some (.int .i64 (x i))) :
 Calls Tryz.prog 115 #[.slice (some ⟨b, o, none⟩) n c] w fun e w' => e = .returned (.slice (some ⟨b, o, none⟩) (cutN x n) c) ∧ w = w' := by
 go_enter Tryz.func115, Tryz.ntmps115
 have Hx := Lib.hid hx; clear hx
 go_wp2
 go_loopw [0] (fun v wr => ∃ k : Nat, k ≤ n ∧ v = .slice (some ⟨b, o, none⟩) k c ∧ Hid (cutN x n = cutN x k) ∧ wr = w) (fun v _ => match v with | .slice _ k _ => k | _ => 0)
 case atStart => exact ⟨n, Nat.le_refl _, rfl, Lib.hid rfl, rfl⟩
 case round =>
  obtain ⟨k, hk, rfl, HO, rfl⟩ := hrel
  cases k with
  | zero =>
    go_wp2
    go_ret
    exact ⟨by rw [HO.out]; rfl, rfl⟩
  | succ k =>
    have hcx := Hx.out k (by omega)
    have e1 : ((k + 1 : Nat) : Int) - 1 = (k : Int) := by omega
    have e2 : IntKind.i64.wrap (((k + 1 : Nat) : Int) - 1) = (k : Int) := by rw [e1]; exact IntWalk.i64_in _ (by omega)
    have hk1 : (k : Int) < (k + 1 : Nat) := by omega
    have hk0 : (0 : Int) ≤ k := by omega
    have hkp : (0 : Int) < (k + 1 : Nat) := by omega
    by_cases hc0 : x k = 0
    ·have HO' : Hid (cutN x n = cutN x k) := by rw [HO.out]; exact Lib.hid (by rw [cutN, if_pos hc0])
     have hb : (x k == 0) = true := by simpa using hc0
     clear HO hc0
     go_wp2
     exact ⟨⟨k, by omega, rfl, HO', trivial⟩, Nat.lt_succ_self k⟩
    ·have HO' : Hid (cutN x n = k + 1) := by rw [HO.out]; exact Lib.hid (by rw [cutN, if_neg hc0])
     have hb : (x k == 0) = false := by simpa using hc0
     clear HO hc0
     go_wp2
     go_ret
     exact ⟨by rw [HO'.out]; rfl, rfl⟩
end Go.Proofs.YtongeeggaigepaaGreatDoor
namespace Go.Proofs.YtongeeggaigepaaGreatDoor
open Go.RowKit
set_option maxHeartbeats 400000 in
theorem big_of (s : Bool) (x : Nat → Int) (n b o c : Nat) (w : World) (hn : n ≤ 1000000) (hc : n ≤ c)
 (hb : b < w.heap.size) (hx : ∀ i, i < n → w.cell? ⟨b, o + i, none⟩ = some (.int .i64 (x i))) :
 Calls Tryz.prog 111 #[.bool s, .slice (some ⟨b, o, none⟩) n c] w fun e w' => e = .returned (.agg #[.bool (s && decide (0 < cutN x n)), .slice (some ⟨b, o, none⟩) (cutN x n) c]) ∧ Below w.heap.size w w' := by
 have HC := Lib.hid (fun W (hW : Below w.heap.size w W) => cut_any x n b o c W hn hc (fun i hi => (hW.cell (p := ⟨b, o + i, none⟩) hb).trans (hx i hi)))
 clear hx
 generalize cutN x n = k at HC ⊢
 go_enter Tryz.func111, Tryz.ntmps111
 go_wp2_with fail
 have hB : Below w.heap.size w (w.alloc (Obj.cells #[.bool false, .slice none 0 0] 53)) := (Below.refl w.heap.size w).alloc (Nat.le_refl _) _
 refine (HC.out _ hB).mono ?_
 rintro e w1 ⟨rfl, rfl⟩
 clear HC
 have rB : Row (w.alloc (Obj.cells #[.bool false, .slice none 0 0] 53)) w.heap.size [.bool false, .slice none 0 0] := Row.at rfl _ _
 generalize (w.alloc (Obj.cells #[.bool false, .slice none 0 0] 53)) = W1 at hB rB ⊢
 have c0 := rB.c 0 rfl
 have c1 := rB.c 1 rfl
 have f0 := rB.f 0 rfl
 have f1 := rB.f 1 rfl
 cases s
 ·go_wp2_with fail
  generalize hW2 : World.setCell _ _ _ = W2
  have rR : Row W2 w.heap.size [.bool false, .slice (some ⟨b, o, none⟩) k c] := by rw [← hW2]; exact (rB.set 0 (by simp) _).set 1 (by simp) _
  have hB2 : Below w.heap.size w W2 := by rw [← hW2]; exact below_put1 (below_put1 hB (Nat.le_refl _) 0 _) (Nat.le_refl _) 1 _
  exact bodyPost_ret (v := .agg #[.bool false, .slice (some ⟨b, o, none⟩) k c]) (by simp [results, Tryz.results111, go_sem, rR.c 0 rfl, rR.c 1 rfl]) rfl ⟨by simp, hB2⟩
 ·by_cases hk : 0 < k
  ·have hki : (0 : Int) < k := by omega
   go_wp2_with fail
   generalize hW2 : World.setCell _ _ _ = W2
   have rR : Row W2 w.heap.size [.bool true, .slice (some ⟨b, o, none⟩) k c] := by rw [← hW2]; exact (rB.set 0 (by simp) _).set 1 (by simp) _
   have hB2 : Below w.heap.size w W2 := by rw [← hW2]; exact below_put1 (below_put1 hB (Nat.le_refl _) 0 _) (Nat.le_refl _) 1 _
   exact bodyPost_ret (v := .agg #[.bool true, .slice (some ⟨b, o, none⟩) k c]) (by simp [results, Tryz.results111, go_sem, rR.c 0 rfl, rR.c 1 rfl]) rfl ⟨by simp [hk], hB2⟩
  ·obtain rfl : k = 0 := by omega
   go_wp2_with fail
   generalize hW2 : World.setCell _ _ _ = W2
   have rR : Row W2 w.heap.size [.bool false, .slice (some ⟨b, o, none⟩) 0 c] := by rw [← hW2]; exact (rB.set 0 (by simp) _).set 1 (by simp) _
   have hB2 : Below w.heap.size w W2 := by rw [← hW2]; exact below_put1 (below_put1 hB (Nat.le_refl _) 0 _) (Nat.le_refl _) 1 _
   exact bodyPost_ret (v := .agg #[.bool false, .slice (some ⟨b, o, none⟩) 0 c]) (by simp [results, Tryz.results111, go_sem, rR.c 0 rfl, rR.c 1 rfl]) rfl ⟨by simp, hB2⟩
theorem info64 : (Tryz.prog.info? 2).map (fun i => (i.zero, i.size, i.bytes)) = some (some (.int .i64 0), 1, 8) := by kernel_rfl
theorem Row.grown {wr w1 : World} {b : Nat} {vs : List Value} {row : Option Nat} (h : Row wr b vs) (hg : wr.grownBy w1 row) (hne : some b ≠ row) : Row w1 b vs :=
 ⟨Nat.lt_of_lt_of_le h.1 hg.size, fun i _ hv => ⟨(World.cell?_of_block (hg.block b h.1 hne)).trans (h.c i hv), (World.frozen?_of_block (a := ⟨b, i, none⟩) (hg.block b h.1 hne)).trans (h.f i hv)⟩⟩
end Go.Proofs.YtongeeggaigepaaGreatDoor
namespace Go.Proofs.YtongeeggaigepaaGreatDoor
open Go.RowKit
end Go.Proofs.YtongeeggaigepaaGreatDoor
namespace Go.Proofs.YtongeeggaigepaaGreatDoor
open Go.RowKit
end Go.Proofs.YtongeeggaigepaaGreatDoor

namespace Go.Proofs.YtongeeggaigepaaGreatDoor
def D16 (m i : Nat) : Nat := m / 65536 ^ i % 65536
def L16 (m : Nat) : Nat := if _h : m = 0 then 0 else L16 (m / 65536) + 1
termination_by m
decreasing_by omega
theorem D16_lt (m i : Nat) : D16 m i < 65536 := Nat.mod_lt _ (by decide)
theorem D16_first (m : Nat) : D16 m 0 = m % 65536 := by simp [D16]
theorem D16_next (m i : Nat) : D16 m (i + 1) = D16 (m / 65536) i := by
 unfold D16; rw [Nat.pow_succ', Nat.div_div_eq_div_mul]
theorem L16_nought : L16 0 = 0 := by rw [L16]; simp
theorem L16_step {m : Nat} (h : m ≠ 0) : L16 m = L16 (m / 65536) + 1 := by rw [L16]; simp [h]
theorem L16_zero {m : Nat} (h : L16 m = 0) : m = 0 := by
 by_cases e : m = 0
 ·exact e
 ·rw [L16_step e] at h; omega
theorem lt_L16 (m : Nat) : m < 65536 ^ L16 m := by
 induction m using Nat.strongRecOn with
 | _ m ih =>
   by_cases h : m = 0
   ·subst h; rw [L16_nought]; decide
   ·have := ih (m / 65536) (by omega)
    rw [L16_step h, Nat.pow_succ]
    generalize 65536 ^ L16 (m / 65536) = p at *
    omega
theorem L16_le {m n : Nat} (h : m < 65536 ^ n) : L16 m ≤ n := by
 induction n generalizing m with
 | zero => have : m = 0 := by simpa using h
           rw [this, L16_nought]; exact Nat.le_refl _
 | succ n ih =>
   by_cases e : m = 0
   ·rw [e, L16_nought]; omega
   ·rw [L16_step e]
    have := ih (m := m / 65536) (by rw [Nat.pow_succ] at h; generalize 65536 ^ n = p at *; omega)
    omega
theorem D16_over {m i : Nat} (h : L16 m ≤ i) : D16 m i = 0 := by
 have h1 := lt_L16 m
 have h2 : (65536 : Nat) ^ L16 m ≤ 65536 ^ i := Nat.pow_le_pow_right (by decide) h
 unfold D16
 rw [Nat.div_eq_of_lt (by omega)]
theorem D16_top {m : Nat} (h : 0 < L16 m) : D16 m (L16 m - 1) ≠ 0 := by
 induction m using Nat.strongRecOn with
 | _ m ih =>
   by_cases e : m = 0
   ·subst e; rw [L16_nought] at h; omega
   ·rw [L16_step e, Nat.add_sub_cancel]
    by_cases e2 : m / 65536 = 0
    ·rw [e2, L16_nought, D16_first]; omega
    ·have hp : 0 < L16 (m / 65536) := by rw [L16_step e2]; omega
     have := ih (m / 65536) (by omega) hp
     rw [show L16 (m / 65536) = (L16 (m / 65536) - 1) + 1 by omega, D16_next]
     exact this
def digR (m : Nat) (i : Nat) : Int := (D16 m i : Nat)
theorem digR_bd (m i : Nat) : 0 ≤ digR m i ∧ digR m i < 65536 := by have := D16_lt m i; unfold digR; omega
theorem cut_digR {m n : Nat} (h : L16 m ≤ n) : cutN (digR m) n = L16 m := by
 induction n with
 | zero => rw [cutN]; omega
 | succ n ih =>
   rw [cutN]
   by_cases e : L16 m = n + 1
   ·have h1 := D16_top (m := m) (by omega)
    rw [e, Nat.add_sub_cancel] at h1
    rw [if_neg (by unfold digR; omega), e]
   ·rw [if_pos (by unfold digR; rw [D16_over (by omega)]; rfl), ih (by omega)]
theorem div_add_mod_pow (m i : Nat) : m % 65536 ^ (i + 1) = m % 65536 ^ i + D16 m i * 65536 ^ i := by
 unfold D16
 rw [Nat.pow_succ, Nat.mod_mul, Nat.mul_comm]
theorem mod_pow_all {m n : Nat} (h : L16 m ≤ n) : m % 65536 ^ n = m :=
 Nat.mod_eq_of_lt (Nat.lt_of_lt_of_le (lt_L16 m) (Nat.pow_le_pow_right (by decide) h))
def valD (x : Nat → Nat) : Nat → Nat
 | 0 => 0
 | k + 1 => valD x k + x k * 65536 ^ k
theorem valD_lt {x : Nat → Nat} (n : Nat) (hx : ∀ i, i < n → x i < 65536) : valD x n < 65536 ^ n := by
 induction n with
 | zero => simp [valD]
 | succ n ih =>
   have h1 := ih (fun i hi => hx i (by omega))
   have h2 := hx n (by omega)
   rw [valD, Nat.pow_succ]
   generalize 65536 ^ n = p at *
   have : x n * p ≤ 65535 * p := Nat.mul_le_mul_right _ (by omega)
   omega
theorem D16_val {x : Nat → Nat} (n : Nat) (hx : ∀ i, i < n → x i < 65536) : ∀ i, i < n → D16 (valD x n) i = x i := by
 induction n with
 | zero => intro i hi; omega
 | succ n ih =>
   intro i hi
   have hl := valD_lt n (fun i hi => hx i (by omega))
   have hn := hx n (by omega)
   rw [valD]
   by_cases e : i = n
   ·subst e
    unfold D16
    rw [Nat.add_mul_div_right _ _ (Nat.pow_pos (by decide)), Nat.div_eq_of_lt hl, Nat.zero_add, Nat.mod_eq_of_lt hn]
   ·have h1 := ih (fun i hi => hx i (by omega)) i (by omega)
    rw [← h1]
    unfold D16
    obtain ⟨k, rfl⟩ : ∃ k, n = i + 1 + k := ⟨n - i - 1, by omega⟩
    rw [show x (i + 1 + k) * 65536 ^ (i + 1 + k) = (x (i + 1 + k) * 65536 ^ k * 65536) * 65536 ^ i by rw [Nat.pow_add, Nat.pow_add]; simp only [Nat.pow_one, Nat.mul_comm, Nat.mul_left_comm, Nat.mul_assoc],
     Nat.add_mul_div_right _ _ (Nat.pow_pos (by decide)), Nat.add_mul_mod_self_right]
theorem valD_congr {x y : Nat → Nat} (n : Nat) (h : ∀ i, i < n → x i = y i) : valD x n = valD y n := by
 induction n with
 | zero => rfl
 | succ n ih => rw [valD, valD, ih (fun i hi => h i (by omega)), h n (by omega)]
theorem valD_D16 (m n : Nat) : valD (D16 m) n = m % 65536 ^ n := by
 induction n with
 | zero => simp [valD, Nat.mod_one]
 | succ n ih => rw [valD, ih, div_add_mod_pow]
theorem D16_ext {a b : Nat} (h : ∀ i, D16 a i = D16 b i) : a = b := by
 have h1 := mod_pow_all (Nat.le_max_left (L16 a) (L16 b))
 have h2 := mod_pow_all (Nat.le_max_right (L16 a) (L16 b))
 rw [← valD_D16] at h1 h2
 exact h1.symm.trans ((valD_congr _ (fun i _ => h i)).trans h2)
def W64 (m i : Nat) : Nat := m / 18446744073709551616 ^ i % 18446744073709551616
theorem W64_lt (m i : Nat) : W64 m i < 18446744073709551616 := Nat.mod_lt _ (by decide)
def valW (x : Nat → Nat) : Nat → Nat
 | 0 => 0
 | k + 1 => valW x k + x k * 18446744073709551616 ^ k
theorem valW_lt {x : Nat → Nat} (n : Nat) (hx : ∀ i, i < n → x i < 18446744073709551616) : valW x n < 18446744073709551616 ^ n := by
 induction n with
 | zero => simp [valW]
 | succ n ih =>
   have h1 := ih (fun i hi => hx i (by omega))
   have h2 := hx n (by omega)
   rw [valW, Nat.pow_succ]
   generalize 18446744073709551616 ^ n = p at *
   have : x n * p ≤ 18446744073709551615 * p := Nat.mul_le_mul_right _ (by omega)
   omega
theorem W64_val {x : Nat → Nat} (n : Nat) (hx : ∀ i, i < n → x i < 18446744073709551616) : ∀ i, i < n → W64 (valW x n) i = x i := by
 induction n with
 | zero => intro i hi; omega
 | succ n ih =>
   intro i hi
   have hl := valW_lt n (fun i hi => hx i (by omega))
   have hn := hx n (by omega)
   rw [valW]
   by_cases e : i = n
   ·subst e
    unfold W64
    rw [Nat.add_mul_div_right _ _ (Nat.pow_pos (by decide)), Nat.div_eq_of_lt hl, Nat.zero_add, Nat.mod_eq_of_lt hn]
   ·have h1 := ih (fun i hi => hx i (by omega)) i (by omega)
    rw [← h1]
    unfold W64
    obtain ⟨k, rfl⟩ : ∃ k, n = i + 1 + k := ⟨n - i - 1, by omega⟩
    rw [show x (i + 1 + k) * 18446744073709551616 ^ (i + 1 + k) = (x (i + 1 + k) * 18446744073709551616 ^ k * 18446744073709551616) * 18446744073709551616 ^ i by rw [Nat.pow_add, Nat.pow_add]; simp only [Nat.pow_one, Nat.mul_comm, Nat.mul_left_comm, Nat.mul_assoc],
     Nat.add_mul_div_right _ _ (Nat.pow_pos (by decide)), Nat.add_mul_mod_self_right]
theorem valW_congr {x y : Nat → Nat} (n : Nat) (h : ∀ i, i < n → x i = y i) : valW x n = valW y n := by
 induction n with
 | zero => rfl
 | succ n ih => rw [valW, valW, ih (fun i hi => h i (by omega)), h n (by omega)]
theorem W64_mod (m i : Nat) : m % 18446744073709551616 ^ (i + 1) = m % 18446744073709551616 ^ i + W64 m i * 18446744073709551616 ^ i := by
 unfold W64
 rw [Nat.pow_succ, Nat.mod_mul, Nat.mul_comm]
theorem valW_W64 (m n : Nat) : valW (W64 m) n = m % 18446744073709551616 ^ n := by
 induction n with
 | zero => simp [valW, Nat.mod_one]
 | succ n ih => rw [valW, ih, W64_mod]
theorem W64_D16 (m i k : Nat) (hk : k < 4) : D16 (W64 m i) k = D16 m (4 * i + k) := by
 unfold W64 D16
 rw [show (18446744073709551616 : Nat) = 65536 ^ 4 from rfl, ← Nat.pow_mul]
 rw [show (65536 : Nat) ^ 4 = 65536 ^ k * 65536 ^ (4 - k) by rw [← Nat.pow_add, Nat.add_sub_cancel' (by omega)]]
 rw [Nat.mod_mul_right_div_self, Nat.div_div_eq_div_mul, ← Nat.pow_add]
 obtain ⟨j, hj⟩ : ∃ j, 4 - k = j + 1 := ⟨3 - k, by omega⟩
 rw [hj, Nat.pow_succ, Nat.mod_mul_left_mod]
end Go.Proofs.YtongeeggaigepaaGreatDoor
namespace Go.Proofs.YtongeeggaigepaaGreatDoor
open Go.RowKit
def ivz (z : Int) : Value := iv (decide (z < 0)) (W64 z.natAbs 0 : Nat) (W64 z.natAbs 1 : Nat) (W64 z.natAbs 2 : Nat) (W64 z.natAbs 3 : Nat)
def T256 : Nat := 115792089237316195423570985008687907853269984665640564039457584007913129639936
theorem T256_w : T256 = 18446744073709551616 ^ 4 := by decide
theorem T256_d : T256 = 65536 ^ 16 := by decide
theorem L16_int {m : Nat} : m < T256 ↔ L16 m ≤ 16 := by
 rw [T256_d]
 exact ⟨L16_le, fun h => Nat.lt_of_lt_of_le (lt_L16 m) (Nat.pow_le_pow_right (by decide) h)⟩
def nat4 (a b c d : Nat) : Nat → Nat
 | 0 => a
 | 1 => b
 | 2 => c
 | _ => d
theorem zeroB_val (a b c d : Nat) : zeroB (a : Int) (b : Int) (c : Int) (d : Int) = true ↔ valW (nat4 a b c d) 4 = 0 := by
 rw [zeroB_iff]
 simp only [valW, nat4]
 omega
theorem ivz_right (z : Int) (hz : z.natAbs < T256) : (decide (z < 0) && zeroB (W64 z.natAbs 0 : Nat) (W64 z.natAbs 1 : Nat) (W64 z.natAbs 2 : Nat) (W64 z.natAbs 3 : Nat)) = false := by
 by_cases h : zeroB (W64 z.natAbs 0 : Nat) (W64 z.natAbs 1 : Nat) (W64 z.natAbs 2 : Nat) (W64 z.natAbs 3 : Nat) = true
 ·rw [zeroB_val] at h
  have e : valW (nat4 (W64 z.natAbs 0) (W64 z.natAbs 1) (W64 z.natAbs 2) (W64 z.natAbs 3)) 4 = valW (W64 z.natAbs) 4 := rfl
  rw [e, valW_W64, ← T256_w, Nat.mod_eq_of_lt hz] at h
  have : z = 0 := by omega
  subst this
  simp
 ·simp [h]
theorem W64_bd (m i : Nat) : 0 ≤ ((W64 m i : Nat) : Int) ∧ ((W64 m i : Nat) : Int) < 18446744073709551616 := by have := W64_lt m i; omega
theorem row4_W64_bd (m : Nat) : ∀ k, 0 ≤ row4 (W64 m 0 : Nat) (W64 m 1 : Nat) (W64 m 2 : Nat) (W64 m 3 : Nat) k ∧ row4 (W64 m 0 : Nat) (W64 m 1 : Nat) (W64 m 2 : Nat) (W64 m 3 : Nat) k < 18446744073709551616
 | 0 => W64_bd m 0
 | 1 => W64_bd m 1
 | 2 => W64_bd m 2
 | _ + 3 => W64_bd m 3
def DS (w : World) (m : Nat) (A : Option Addr) : Prop := 0 < L16 m → ∃ b, A = some ⟨b, 0, none⟩ ∧ b < w.heap.size ∧ ∀ i, i < L16 m → w.cell? ⟨b, i, none⟩ = some (.int .i64 (digR m i))
theorem DS.below {w w' : World} {m : Nat} {A : Option Addr} (h : DS w m A) (hb : Below w.heap.size w w') : DS w' m A := fun hm => by
 obtain ⟨b, e, hl, hc⟩ := h hm
 exact ⟨b, e, Nat.lt_of_lt_of_le hl hb.size, fun i hi => (hb.cell (p := ⟨b, i, none⟩) hl).trans (hc i hi)⟩
theorem DS.nought {w : World} (A : Option Addr) : DS w 0 A := fun h => by rw [L16_nought] at h; omega
def bigv (z : Int) (A : Option Addr) (c : Nat) : Value := .agg #[.bool (decide (z < 0)), .slice A (L16 z.natAbs) c]
def BigPost (w : World) (z : Int) (e : Ending) (w' : World) : Prop := ∃ A c, e = .returned (bigv z A c) ∧ L16 z.natAbs ≤ c ∧ DS w' z.natAbs A ∧ Below w.heap.size w w'
end Go.Proofs.YtongeeggaigepaaGreatDoor
namespace Go.Proofs.YtongeeggaigepaaGreatDoor
open Go.RowKit
set_option maxHeartbeats 400000 in
theorem cut_nought (A : Option Addr) (c : Nat) (w : World) : Calls Tryz.prog 115 #[.slice A 0 c] w fun e w' => e = .returned (.slice A 0 c) ∧ w = w' := by
 go_enter Tryz.func115, Tryz.ntmps115
 go_wp2
 refine wp_loop_rounds 1 ?_
 iterate 1 (rw [rounds_succ]; go_wp2)
 go_ret
 exact ⟨rfl, rfl⟩
set_option maxHeartbeats 400000 in
theorem of_nought (s : Bool) (A : Option Addr) (c : Nat) (w : World) :
 Calls Tryz.prog 111 #[.bool s, .slice A 0 c] w fun e w' => e = .returned (.agg #[.bool false, .slice A 0 c]) ∧ Below w.heap.size w w' := by
 go_enter Tryz.func111, Tryz.ntmps111
 go_wp2_with fail
 have hB : Below w.heap.size w (w.alloc (Obj.cells #[.bool false, .slice none 0 0] 53)) := (Below.refl w.heap.size w).alloc (Nat.le_refl _) _
 refine (cut_nought A c _).mono ?_
 rintro e w1 ⟨rfl, rfl⟩
 have rB : Row (w.alloc (Obj.cells #[.bool false, .slice none 0 0] 53)) w.heap.size [.bool false, .slice none 0 0] := Row.at rfl _ _
 generalize (w.alloc (Obj.cells #[.bool false, .slice none 0 0] 53)) = W1 at hB rB ⊢
 have c0 := rB.c 0 rfl
 have c1 := rB.c 1 rfl
 have f0 := rB.f 0 rfl
 have f1 := rB.f 1 rfl
 cases s
 all_goals
  go_wp2_with fail
  generalize hW2 : World.setCell _ _ _ = W2
  have rR : Row W2 w.heap.size [.bool false, .slice A 0 c] := by rw [← hW2]; exact (rB.set 0 (by simp) _).set 1 (by simp) _
  have hB2 : Below w.heap.size w W2 := by rw [← hW2]; exact below_put1 (below_put1 hB (Nat.le_refl _) 0 _) (Nat.le_refl _) 1 _
  exact bodyPost_ret (v := .agg #[.bool false, .slice A 0 c]) (by simp [results, Tryz.results111, go_sem, rR.c 0 rfl, rR.c 1 rfl]) rfl ⟨rfl, hB2⟩
def DR (w : World) (x : Nat → Int) (n : Nat) (A : Option Addr) : Prop := 0 < n → ∃ b, A = some ⟨b, 0, none⟩ ∧ b < w.heap.size ∧ ∀ i, i < n → w.cell? ⟨b, i, none⟩ = some (.int .i64 (x i))
theorem DS.set {w : World} {m : Nat} {A : Option Addr} (h : DS w m A) {q : Addr} (hq : ∀ p, A = some p → q.block ≠ p.block) (v : Value) : DS (w.setCell q v) m A := fun hm => by
 obtain ⟨b, e, hl, hc⟩ := h hm
 refine ⟨b, e, by simpa [World.setCell] using hl, fun i hi => ?_⟩
 rw [World.cell?_setCell_other _ _ _ _ (fun e2 => hq _ e (by rw [e2]))]
 exact hc i hi
theorem BigPost.mk {w w' : World} {z : Int} {A : Option Addr} {c : Nat} (hc : L16 z.natAbs ≤ c) (hd : DS w' z.natAbs A) (hb : Below w.heap.size w w') : BigPost w z (.returned (bigv z A c)) w' := ⟨A, c, rfl, hc, hd, hb⟩
theorem of_z (s : Bool) (m n : Nat) (A : Option Addr) (c : Nat) (z : Int) (w : World) (hz : z = if s then -(m : Int) else m) (hm : L16 m ≤ n) (hn : n ≤ 1000000) (hc : n ≤ c) (hd : DR w (digR m) n A) :
 Calls Tryz.prog 111 #[.bool s, .slice A n c] w fun e w' => e = .returned (bigv z A c) ∧ L16 z.natAbs ≤ c ∧ DS w' z.natAbs A ∧ Below w.heap.size w w' := by
 have ha : z.natAbs = m := by rw [hz]; split <;> omega
 rcases Nat.eq_zero_or_pos n with rfl | hp
 ·have h0 : m = 0 := L16_zero (by omega)
  subst h0
  have : z = 0 := by omega
  subst this
  refine (of_nought s A c w).mono ?_
  rintro e w' ⟨rfl, hb⟩
  refine ⟨by rw [bigv]; simp [L16_nought], ?_, DS.nought A, hb⟩
  show L16 0 ≤ c
  rw [L16_nought]; omega
 ·obtain ⟨b, rfl, hl, hx⟩ := hd hp
  refine (big_of s (digR m) n b 0 c w hn hc hl (fun i hi => by rw [Nat.zero_add]; exact hx i hi)).mono ?_
  rintro e w' ⟨rfl, hb⟩
  rw [cut_digR hm]
  refine ⟨?_, by rw [ha]; omega, ?_, hb⟩
  ·rw [bigv, ha]
   congr 4
   rw [hz]
   cases s
   ·simp
   ·by_cases h0 : m = 0
    ·subst h0; simp [L16_nought]
    ·have : 0 < L16 m := Nat.pos_of_ne_zero (fun h => h0 (L16_zero h))
     simp [this]; omega
  ·rw [ha]
   exact fun _ => ⟨b, rfl, Nat.lt_of_lt_of_le hl hb.size, fun i hi => (hb.cell (p := ⟨b, i, none⟩) hl).trans (hx i (by omega))⟩
end Go.Proofs.YtongeeggaigepaaGreatDoor
namespace Go.Proofs.YtongeeggaigepaaGreatDoor
open Go.RowKit
def digV (m : Nat) : Nat → List Value
 | 0 => []
 | k + 1 => digV m k ++ [.int .i64 (digR m k)]
theorem digV_len (m k : Nat) : (digV m k).length = k := by
 induction k with
 | zero => rfl
 | succ k ih => simp [digV, ih]
theorem digV_at (m : Nat) {k i : Nat} (h : i < k) : (digV m k)[i]? = some (.int .i64 (digR m i)) := by
 induction k with
 | zero => omega
 | succ k ih =>
   rw [digV]
   by_cases e : i = k
   ·subst e; rw [List.getElem?_append_right (by rw [digV_len]; exact Nat.le_refl _), digV_len]; simp
   ·rw [List.getElem?_append_left (by rw [digV_len]; omega)]; exact ih (by omega)
def NuS (w : World) (t : Nat) (vs : List Value) (n : Nat) (xs : List Value) (v : Value) (wr : World) : Prop :=
 wr.ownsRow (w.heap.size + t) 2 1 v n xs ∧ Row wr w.heap.size vs ∧ Below w.heap.size w wr ∧ w.heap.size + t ≤ wr.heap.size ∧ 0 < t
theorem NuS.step {w wr w1 : World} {t : Nat} {vs xs : List Value} {n : Nat} {v v' d : Value} {o : Obj} (h : NuS w t vs n xs v wr)
 (hown : w1.ownsRow (w.heap.size + t) 2 1 v' (n + 1) (xs ++ [d])) (hg : (wr.alloc o).grownBy w1 v.ownBlock) : NuS w t vs (n + 1) (xs ++ [d]) v' w1 := by
 obtain ⟨h1, h2, h4, h5, h6⟩ := h
 have hne : ∀ j, j < w.heap.size + t → some j ≠ v.ownBlock := fun j hj e => by have := h1.lt j e.symm; omega
 exact ⟨hown, (h2.alloc o).grown hg (hne _ (by omega)), (h4.alloc (by omega) o).grown hg (by simp; omega) (fun j hj => by have := (h1.lt j hj).1; omega),
  Nat.le_trans h5 (Nat.le_trans (by simp) hg.size), h6⟩
theorem NuS.own {w wr : World} {t : Nat} {vs xs : List Value} {n : Nat} {v : Value} (h : NuS w t vs n xs v wr) : wr.ownsRow (w.heap.size + t) 2 1 v n xs := h.1
theorem NuS.size {w wr : World} {t : Nat} {vs xs : List Value} {n : Nat} {v : Value} (h : NuS w t vs n xs v wr) : w.heap.size + t ≤ wr.heap.size := h.2.2.2.1
theorem NuS.row {w wr : World} {t : Nat} {vs xs : List Value} {n : Nat} {v : Value} (h : NuS w t vs n xs v wr) : Row wr w.heap.size vs := h.2.1
theorem NuS.below {w wr : World} {t : Nat} {vs xs : List Value} {n : Nat} {v : Value} (h : NuS w t vs n xs v wr) : Below w.heap.size w wr := h.2.2.1
theorem NuS.form {w wr : World} {t : Nat} {vs : List Value} {x : Nat → Int} {xs : List Value} {n : Nat} {v : Value} (h : NuS w t vs n xs v wr) (hx : ∀ i, i < n → xs[i]? = some (.int .i64 (x i))) :
 ∃ A c, v = .slice A n c ∧ n ≤ c ∧ DR wr x n A ∧ ∀ p, A = some p → w.heap.size + t ≤ p.block := by
 obtain ⟨hl, ho⟩ := h.1
 rcases ho with ⟨hv, h0⟩ | ⟨g, cap, cur, hv, hbs, hg, hn, _, hs, ht⟩
 ·exact ⟨none, 0, by rw [hv, h0], by omega, fun hp => by omega, fun p hp => by cases hp⟩
 ·refine ⟨some ⟨g, 0, none⟩, cap, hv, hn, fun _ => ⟨g, rfl, (Array.getElem?_eq_some_iff.mp hg).1, fun i hi => ?_⟩, fun p hp => by cases hp; exact hbs⟩
  have h1 := hx i hi
  rw [← ht, List.getElem?_take] at h1
  rw [if_pos (by omega)] at h1
  simp [World.cell?, hg]
  simpa using h1
theorem div_pos_lt {m k : Nat} (hm : m < 18446744073709551616) (h : m / 65536 ^ k ≠ 0) : k < 4 := by
 apply Nat.lt_of_not_le
 intro h4
 apply h
 exact Nat.div_eq_of_lt (Nat.lt_of_lt_of_le hm (Nat.le_trans (by decide) (Nat.pow_le_pow_right (n := 65536) (by decide) h4)))
set_option maxRecDepth 100000 in
set_option maxHeartbeats 800000 in
theorem num_z (n : Int) (w : World) (h1 : -9223372036854775808 ≤ n) (h2 : n ≤ 9223372036854775807) :
 Calls Tryz.prog 80 #[.int .i64 n] w (BigPost w n) := by
 obtain ⟨i0, hi, hz0, hz1, hz2⟩ := info_parts info64
 by_cases hmin : n = -9223372036854775808
 ·subst hmin
  clear h1 h2
  go_enter Tryz.func80, Tryz.ntmps80
  go_wp2_with fail
  generalize hW : World.alloc _ _ = W0
  have rR : Row W0 w.heap.size [.bool true, .slice (some ⟨w.heap.size + 1, 0, none⟩) 4 4] := by rw [← hW]; exact (Row.at rfl _ _).alloc _
  have rD : Row W0 (w.heap.size + 1) [.int .i64 0, .int .i64 0, .int .i64 0, .int .i64 32768] := by rw [← hW]; exact Row.at (by simp) _ _
  have hB : Below w.heap.size w W0 := by rw [← hW]; exact ((Below.refl w.heap.size w).alloc (Nat.le_refl _) _).alloc (by simp) _
  have hL : L16 (-9223372036854775808 : Int).natAbs = 4 := by
   show L16 9223372036854775808 = 4
   rw [L16_step (by decide), L16_step (by decide), L16_step (by decide), L16_step (by decide), show 9223372036854775808 / 65536 / 65536 / 65536 / 65536 = 0 from rfl, L16_nought]
  refine bodyPost_ret (v := .agg #[.bool true, .slice (some ⟨w.heap.size + 1, 0, none⟩) 4 4]) (by simp [results, Tryz.results80, go_sem, rR.c 0 rfl, rR.c 1 rfl]) rfl ⟨some ⟨w.heap.size + 1, 0, none⟩, 4, by rw [bigv, hL]; rfl, by rw [hL]; exact Nat.le_refl _, fun _ => ⟨_, rfl, rD.lt, fun i hi => ?_⟩, hB⟩
  rw [hL] at hi
  match i, hi with
  | 0, _ => exact rD.c 0 rfl
  | 1, _ => exact rD.c 1 rfl
  | 2, _ => exact rD.c 2 rfl
  | 3, _ => exact rD.c 3 rfl
 ·obtain ⟨m, s, hn, hms⟩ : ∃ (m : Nat) (s : Bool), n = (if s then -(m : Int) else m) ∧ (s = true → 0 < m) := by
   by_cases hneg : n < 0
   ·exact ⟨n.natAbs, true, by rw [if_pos rfl]; omega, fun _ => by omega⟩
   ·exact ⟨n.natAbs, false, by rw [if_neg (by decide)]; omega, fun h => by cases h⟩
  have hm63 : m ≤ 9223372036854775807 := by
   have : n.natAbs = m := by rw [hn]; split <;> omega
   omega
  have HZ := Lib.hid hn
  have hcase : (s = false ∧ n = m) ∨ (s = true ∧ 0 < m ∧ n = -(m : Int)) := by
   cases s
   ·exact .inl ⟨rfl, by simpa using hn⟩
   ·exact .inr ⟨rfl, hms rfl, by simpa using hn⟩
  clear hn hms
  rcases hcase with ⟨rfl, rfl⟩ | ⟨rfl, hmp, rfl⟩
  all_goals
   clear h1 h2 hmin
   first
    | (have hmi : ((m : Int) == -9223372036854775808) = false := by rw [beq_eq_false_iff_ne]; omega
       have hm0 : (0 : Int) ≤ m := by omega
       have hm1 : (m : Int) ≤ 9223372036854775807 := by omega
       have hm3 : decide ((m : Int) < 0) = false := by rw [decide_eq_false_iff_not]; omega
       go_enter Tryz.func80, Tryz.ntmps80
       go_wp2_with fail
       generalize hbb : ((m : Int) == -9223372036854775808) = bb
       generalize hsg : decide ((m : Int) < 0) = sg
       have HSG := Lib.hid (hsg.symm.trans hm3)
       clear hbb hsg
       clear hmi hm0 hm1 hm3)
    | (have hmi : (-(m : Int) == -9223372036854775808) = false := by rw [beq_eq_false_iff_ne]; omega
       have hm0 : -9223372036854775807 ≤ -(m : Int) := by omega
       have hm1 : -(m : Int) < 0 := by omega
       have hm3 : decide (-(m : Int) < 0) = true := by simpa using hm1
       have hm4 : wrap64 (- -(m : Int)) = m := by simp only [wrap64]; omega
       go_enter Tryz.func80, Tryz.ntmps80
       go_wp2_with fail
       clear hmi hm0 hm1 hm3 hm4)
   generalize hW : World.alloc _ _ = W0
   have hS : NuS w 1 [.bool false, .slice none 0 0] 0 (digV m 0) (.slice none 0 0) W0 := by
    rw [← hW]
    exact ⟨World.ownsRow_nil _ _ _ _, Row.at rfl _ _, (Below.refl w.heap.size w).alloc (Nat.le_refl _) _, by simp, by omega⟩
   clear hW
   have HS := Lib.hid hS
   clear hS
   go_loopw [0, 4] (fun nn d wr => ∃ k : Nat, k ≤ 4 ∧ nn = .int .i64 ((m / 65536 ^ k : Nat) : Int) ∧ Hid (NuS w 1 [.bool false, .slice none 0 0] k (digV m k) d wr)) (fun nn _ _ => (intOf nn).toNat)
   case atStart => exact ⟨0, by omega, by rw [Nat.pow_zero, Nat.div_one], HS⟩
   case round =>
    obtain ⟨k, hk, rfl, HK⟩ := hrel
    have Hq := Lib.hid (show m / 65536 ^ k = m / 65536 ^ k from rfl)
    have HD := Lib.hid (show D16 m k = m / 65536 ^ k % 65536 from rfl)
    have HN := Lib.hid (show m / 65536 ^ (k + 1) = m / 65536 ^ k / 65536 by rw [Nat.pow_succ, Nat.div_div_eq_div_mul])
    have HL := Lib.hid (fun h : m / 65536 ^ k ≠ 0 => div_pos_lt (by omega) h)
    have HE := Lib.hid (fun h : m / 65536 ^ k = 0 => L16_le (m := m) (n := k) ((Nat.div_eq_zero_iff_lt (Nat.pow_pos (by decide))).1 h))
    have hqm : m / 65536 ^ k ≤ m := Nat.div_le_self _ _
    generalize m / 65536 ^ k = q at *
    clear Hq
    by_cases hq : q = 0
    ·subst hq
     obtain ⟨A, c, rfl, hc, hd, hA⟩ := HK.out.form (fun i hi => digV_at m hi)
     have hB := HK.out.below
     have rB := HK.out.row
     have hL := HE.out rfl
     clear HK HS HE HL HN HD
     go_wp2_with fail
     refine (of_z _ m k A c _ wr (by first | exact HZ.out | (have h1 := HZ.out; split <;> omega)) hL (by omega) hc hd).mono ?_
     rintro e w1 ⟨rfl, hcc, hds, hb1⟩
     have rB1 := rB.after hb1
     have hB1 := hB.trans (hb1.mono hB.size)
     clear rB hB hd hL
     have c0 := rB1.c 0 rfl
     have c1 := rB1.c 1 rfl
     have f0 := rB1.f 0 rfl
     have f1 := rB1.f 1 rfl
     have HP := Lib.hid (fun W' (h1 : DS W' _ A) h2 => BigPost.mk (w := w) hcc h1 h2)
     have HA := Lib.hid hA
     have HDS := Lib.hid hds
     clear hA hds hcc hb1 HZ
     rw [bigv] at HP ⊢
     generalize L16 _ = kk at HP ⊢
     generalize decide ((_ : Int) < _) = sg at HP ⊢
     go_wp2_with fail
     clear c0 c1 f0 f1
     generalize hW2 : World.setCell _ _ _ = W2
     have rR : Row W2 w.heap.size [.bool sg, .slice A kk c] := by rw [← hW2]; exact (rB1.set 0 (by simp) _).set 1 (by simp) _
     have hB2 : Below w.heap.size w W2 := by rw [← hW2]; exact below_put1 (below_put1 hB1 (Nat.le_refl _) 0 _) (Nat.le_refl _) 1 _
     have hD2 := Lib.hid ((HDS.out.set (q := ⟨w.heap.size, 0, none⟩) (fun p hp => by have := HA.out p hp; simp; omega) (.bool sg)).set (q := ⟨w.heap.size, 1, none⟩) (fun p hp => by have := HA.out p hp; simp; omega) (.slice A kk c))
     rw [hW2] at hD2
     exact bodyPost_ret (v := .agg #[.bool sg, .slice A kk c]) (by simp [results, Tryz.results80, go_sem, rR.c 0 rfl, rR.c 1 rfl]) rfl (HP.out W2 hD2.out hB2)
    ·have hq0 : (0 : Int) < q := by omega
     have hq1 : (q : Int) ≤ 9223372036854775807 := by omega
     have hk4 := HL.out hq
     have hd0 : 0 ≤ digR m k := (digR_bd m k).1
     have hd1 : digR m k < 65536 := (digR_bd m k).2
     have t0 : ((q : Nat) : Int).tmod 65536 = digR m k := by unfold digR; rw [HD.out, Int.tmod_eq_emod_of_nonneg (by omega)]; rfl
     have t1 : ((q : Nat) : Int) % 65536 = digR m k := by unfold digR; rw [HD.out]; rfl
     have u0 : wrap64 (digR m k) = digR m k := by simp only [wrap64]; omega
     have hV := Lib.hid (show digV m (k + 1) = digV m k ++ [.int .i64 (digR m k)] from rfl)
     clear hq HL HE HD
     generalize digR m k = d at *
     go_wp2_with (first
      | (at_builtin; refine wpList_append_own_at _ rfl _ _ 51 rfl (w.heap.size + 1) 2 i0 (.int .i64 0) 1 8 Tryz.underlying51 hi hz0 hz1 hz2 rfl (by decide) _ _ _ rfl (HK.out.own.alloc _) ⟨wr.heap.size, 0, none⟩ 1 1 [.int .i64 d] rfl rfl ?c1 ?c2 ?c3 ?c4 ?c5 ?_)
      | go_in)
     case c1 => exact cell_one_new _ _ _
     case c2 => exact ints_oneCell .i64 [d]
     case c3 => unfold maxLen; omega
     case c4 => omega
     case c5 => have := HK.out.size; simp; omega
     intro v1 w1 hown1 hgrow1 _ _
     have H1 := Lib.hid (HK.out.step (v' := v1) (d := .int .i64 d) hown1 hgrow1)
     clear hgrow1 hown1 HK
     go_wp2
     exact ⟨⟨k + 1, by omega, congrArg (Value.int .i64) (by rw [HN.out]; omega), by rw [hV.out]; exact H1⟩, by simp [intOf]; omega⟩
end Go.Proofs.YtongeeggaigepaaGreatDoor
namespace Go.Proofs.YtongeeggaigepaaGreatDoor
def Pm (a b i : Nat) : Nat := a % 65536 ^ i * b
def Qm (a b i k : Nat) : Nat := Pm a b i % 65536 ^ (i + k) + D16 a i * (b % 65536 ^ k) * 65536 ^ i
def rM (a b i k j : Nat) : Nat := if j < i + k then D16 (Qm a b i k) j else D16 (Pm a b i) j
end Go.Proofs.YtongeeggaigepaaGreatDoor

namespace Go.Proofs.YtongeeggaigepaaGreatDoor
open Go.RowKit
def toV (z : Int) : Value := if z.natAbs < T256 then .tuple #[ivz z, .bool true] else .tuple #[iv false 0 0 0 0, .bool false]
theorem word_low (m j r : Nat) (_hr : r < 4) : W64 (m % 65536 ^ (4 * j + r)) j < 65536 ^ r := by
 unfold W64
 refine Nat.lt_of_le_of_lt (Nat.mod_le _ _) ?_
 rw [Nat.div_lt_iff_lt_mul (Nat.pow_pos (by decide))]
 have := Nat.mod_lt m (Nat.pow_pos (n := 4 * j + r) (show 0 < 65536 by decide))
 rw [show (18446744073709551616 : Nat) = 65536 ^ 4 from rfl, ← Nat.pow_mul, ← Nat.pow_add, Nat.add_comm r]
 exact this
theorem word_new (m j r : Nat) (hr : r < 4) : W64 (m % 65536 ^ (4 * j + r + 1)) j = W64 (m % 65536 ^ (4 * j + r)) j + D16 m (4 * j + r) * 65536 ^ r := by
 have hl := word_low m j r hr
 have hd := D16_lt m (4 * j + r)
 have hu := Nat.mod_lt m (Nat.pow_pos (n := 4 * j + r) (show 0 < 65536 by decide))
 have e : (65536 : Nat) ^ (4 * j + r) = 65536 ^ r * 18446744073709551616 ^ j := by
  rw [show (18446744073709551616 : Nat) = 65536 ^ 4 from rfl, ← Nat.pow_mul, ← Nat.pow_add, Nat.add_comm]
 rw [div_add_mod_pow]
 unfold W64 at hl ⊢
 generalize m % 65536 ^ (4 * j + r) = u at *
 generalize D16 m (4 * j + r) = d at *
 rw [e] at hu ⊢
 have hp : 0 < 18446744073709551616 ^ j := Nat.pow_pos (by decide)
 rw [← Nat.mul_assoc, Nat.add_mul_div_right _ _ hp]
 have h1 : u / 18446744073709551616 ^ j < 65536 ^ r := by rw [Nat.div_lt_iff_lt_mul hp]; exact hu
 have h2 : 65536 ^ (r + 1) ≤ 18446744073709551616 := by rw [show (18446744073709551616 : Nat) = 65536 ^ 4 from rfl]; exact Nat.pow_le_pow_right (by decide) (by omega)
 rw [Nat.pow_succ] at h2
 generalize u / 18446744073709551616 ^ j = v at *
 generalize 65536 ^ r = p at *
 have h3 : d * p ≤ 65535 * p := Nat.mul_le_mul_right _ (by omega)
 rw [Nat.mod_eq_of_lt (by omega), Nat.mod_eq_of_lt (by omega)]
theorem word_same (m j r k : Nat) (hr : r < 4) (hk : k ≠ j) : W64 (m % 65536 ^ (4 * j + r + 1)) k = W64 (m % 65536 ^ (4 * j + r)) k := by
 have E : ∀ n i, i < 4 → D16 (W64 (m % 65536 ^ n) k) i = if 4 * k + i < n then D16 m (4 * k + i) else 0 := fun n i hi => by
  rw [W64_D16 _ _ _ hi]
  by_cases h : 4 * k + i < n
  ·rw [if_pos h, ← valD_D16]
   exact D16_val n (fun i _ => D16_lt m i) _ h
  ·rw [if_neg h]
   exact D16_over (L16_le (Nat.lt_of_lt_of_le (Nat.mod_lt m (Nat.pow_pos (by decide))) (Nat.pow_le_pow_right (by decide) (by omega))))
 have hb : ∀ n i, 4 ≤ i → D16 (W64 (m % 65536 ^ n) k) i = 0 := fun n i hi =>
  D16_over (L16_le (Nat.lt_of_lt_of_le (W64_lt _ _) (Nat.le_trans (by decide) (Nat.pow_le_pow_right (n := 65536) (by decide) hi))))
 apply D16_ext
 intro i
 by_cases hi : i < 4
 ·rw [E _ _ hi, E _ _ hi]
  by_cases h1 : 4 * k + i < 4 * j + r
  ·rw [if_pos (by omega), if_pos h1]
  ·rw [if_neg (by omega), if_neg h1]
 ·rw [hb _ _ (by omega), hb _ _ (by omega)]
theorem or_add (x d r : Nat) (hx : x < 65536 ^ r) : x ||| d * 65536 ^ r = x + d * 65536 ^ r := by
 have e : (65536 : Nat) ^ r = 2 ^ (16 * r) := by rw [show (65536 : Nat) = 2 ^ 16 from rfl, ← Nat.pow_mul]
 rw [e] at hx ⊢
 rw [Nat.or_comm, ← Nat.shiftLeft_eq, ← Nat.shiftLeft_add_eq_or_of_lt hx, Nat.add_comm]
def ToS (w : World) (s : Bool) (A : Option Addr) (n c m k : Nat) (wr : World) : Prop :=
 Row wr w.heap.size [.bool s, .slice A n c] ∧ Row wr (w.heap.size + 1) [.bool false, .int .u64 0, .int .u64 0, .int .u64 0, .int .u64 0] ∧
  Row wr (w.heap.size + 2) [.bool s, .int .u64 (W64 (m % 65536 ^ k) 0 : Nat), .int .u64 (W64 (m % 65536 ^ k) 1 : Nat), .int .u64 (W64 (m % 65536 ^ k) 2 : Nat), .int .u64 (W64 (m % 65536 ^ k) 3 : Nat)] ∧ Below w.heap.size w wr
theorem ToS.word {w wr : World} {s : Bool} {A : Option Addr} {n c m k : Nat} (h : ToS w s A n c m k wr) (j : Nat) (hj : j < 4) :
 wr.cell? ⟨w.heap.size + 2, 1 + j, none⟩ = some (.int .u64 (W64 (m % 65536 ^ k) j : Nat)) ∧ wr.frozen? ⟨w.heap.size + 2, 1 + j, none⟩ = false := by
 have r := h.2.2.1
 match j, hj with
 | 0, _ => exact ⟨r.c 1 rfl, r.f 1 rfl⟩
 | 1, _ => exact ⟨r.c 2 rfl, r.f 2 rfl⟩
 | 2, _ => exact ⟨r.c 3 rfl, r.f 3 rfl⟩
 | 3, _ => exact ⟨r.c 4 rfl, r.f 4 rfl⟩
theorem word_or (m j r : Nat) (hr : r < 4) :
 bits BinOp.or IntKind.u64 (W64 (m % 65536 ^ (4 * j + r)) j : Nat) (IntKind.u64.wrap (digR m (4 * j + r) * 2 ^ (16 * r))) = (W64 (m % 65536 ^ (4 * j + r + 1)) j : Nat) := by
 have e : (digR m (4 * j + r) * 2 ^ (16 * r) : Int) = ((D16 m (4 * j + r) * 65536 ^ r : Nat) : Int) := by
  unfold digR
  rw [Int.natCast_mul, show (65536 : Nat) ^ r = 2 ^ (16 * r) by rw [show (65536 : Nat) = 2 ^ 16 from rfl, ← Nat.pow_mul], Int.natCast_pow]
  rfl
 have hl := word_low m j r hr
 have hn := word_new m j r hr
 have hb := W64_lt (m % 65536 ^ (4 * j + r + 1)) j
 rw [e, IntKind.wrap_u64]
 rw [show (((D16 m (4 * j + r) * 65536 ^ r : Nat) : Int) % 18446744073709551616) = ((D16 m (4 * j + r) * 65536 ^ r : Nat) : Int) by omega]
 rw [bits_or_u64_nat _ _ (W64_lt _ _) (by omega), or_add _ _ _ hl, hn]
theorem ToS.step {w wr : World} {s : Bool} {A : Option Addr} {n c m j r : Nat} (h : ToS w s A n c m (4 * j + r) wr) (hj : j < 4) (hr : r < 4) {y : Int} (hy : y = (W64 (m % 65536 ^ (4 * j + r + 1)) j : Nat)) :
 ToS w s A n c m (4 * j + r + 1) (wr.setCell ⟨w.heap.size + 1 + 1, 1 + j, none⟩ (.int .u64 y)).drew := by
 subst hy
 obtain ⟨h1, h2, h3, h4⟩ := h
 refine ⟨(h1.other (p := ⟨w.heap.size + 1 + 1, 1 + j, none⟩) (by simp; omega) _).drew, (h2.other (p := ⟨w.heap.size + 1 + 1, 1 + j, none⟩) (by simp) _).drew, ?_, (below_put1 h4 (by omega) _ _).drew⟩
 have hs := (h3.set (1 + j) (by simp; omega) (.int .u64 (W64 (m % 65536 ^ (4 * j + r + 1)) j : Nat))).drew
 have e : ∀ k, k ≠ j → W64 (m % 65536 ^ (4 * j + r + 1)) k = W64 (m % 65536 ^ (4 * j + r)) k := fun k hk => word_same m j r k hr hk
 match j, hj with
 | 0, _ => rw [e 1 (by omega), e 2 (by omega), e 3 (by omega)]; exact hs
 | 1, _ => rw [e 0 (by omega), e 2 (by omega), e 3 (by omega)]; exact hs
 | 2, _ => rw [e 0 (by omega), e 1 (by omega), e 3 (by omega)]; exact hs
 | 3, _ => rw [e 0 (by omega), e 1 (by omega), e 2 (by omega)]; exact hs
set_option maxRecDepth 100000 in
set_option maxHeartbeats 800000 in
theorem to_z (z : Int) (A : Option Addr) (c : Nat) (w : World) (hd : DS w z.natAbs A) :
 Calls Tryz.prog 110 #[bigv z A c] w fun e w' => e = .returned (toV z) ∧ Below w.heap.size w w' := by
 by_cases hz : L16 z.natAbs ≤ 16
 ·have HT := Lib.hid (show toV z = .tuple #[ivz z, .bool true] by rw [toV, if_pos (L16_int.2 hz)])
  rw [HT.out, bigv, ivz]
  have HD := Lib.hid hd; clear hd
  generalize decide (z < 0) = s at *
  generalize z.natAbs = m at *
  clear HT
  generalize hn : L16 m = n at hz ⊢
  have Hn := Lib.hid hn
  clear hn
  have hz1 : (n : Int) ≤ 16 := by omega
  have hz2 : decide ((16 : Int) < n) = false := by rw [decide_eq_false_iff_not]; omega
  go_enter Tryz.func110, Tryz.ntmps110
  go_wp2_with fail
  clear hz2
  generalize hW : World.alloc _ _ = W0
  have hS : ToS w s A n c m 0 W0 := by
   rw [← hW]
   have z : ∀ i, W64 (m % 65536 ^ 0) i = 0 := fun i => by rw [Nat.pow_zero, Nat.mod_one]; simp [W64]
   exact ⟨((Row.at rfl _ _).alloc _).alloc _, (Row.at (by simp) _ _).alloc _, by rw [z, z, z, z]; exact Row.at (by simp) _ _, (((Below.refl w.heap.size w).alloc (Nat.le_refl _) _).alloc (by simp) _).alloc (by simp; omega) _⟩
  clear hW
  have HS := Lib.hid hS
  clear hS
  go_loopw [5] (fun i wr => ∃ k : Nat, k ≤ n ∧ i = .int .i64 k ∧ Hid (ToS w s A n c m k wr)) (fun i _ => n - (intOf i).toNat)
  case atStart => exact ⟨0, by omega, rfl, HS⟩
  case round =>
   obtain ⟨k, hk, rfl, HK⟩ := hrel
   have g1 := HK.out.1.c 1 rfl
   by_cases hkn : k < n
   ·obtain ⟨b, rfl, hl, hx⟩ := HD.out (by rw [Hn.out]; omega)
    have hcd := ((HK.out.2.2.2).cell (p := ⟨b, k, none⟩) hl).trans (hx k (by rw [Hn.out]; exact hkn))
    obtain ⟨j, r, hr, hkjr⟩ : ∃ j r, r < 4 ∧ k = 4 * j + r := ⟨k / 4, k % 4, by omega, by omega⟩
    have hj : j < 4 := by omega
    obtain ⟨hcw, hcf⟩ := HK.out.word j hj
    have q1 : (k : Int) / 4 = (j : Nat) := by omega
    have q2 : (k : Int).tdiv 4 = (j : Nat) := by rw [Int.tdiv_eq_ediv_of_nonneg (by omega)]; omega
    have q3 : (k : Int) % 4 = (r : Nat) := by omega
    have q4 : (k : Int).tmod 4 = (r : Nat) := by rw [Int.tmod_eq_emod_of_nonneg (by omega)]; omega
    have hk1 : (k : Int) < n := by omega
    have hj0 : (0 : Int) ≤ j := by omega
    have hj1 : (j : Int) < 4 := by omega
    have hr0 : (0 : Int) ≤ r := by omega
    have hr1 : (r : Int) < 4 := by omega
    have hd0 : 0 ≤ digR m k := (digR_bd m k).1
    have hd1 : digR m k < 65536 := (digR_bd m k).2
    have HV : Hid (bits BinOp.or IntKind.u64 (W64 (m % 65536 ^ k) j : Nat) (IntKind.u64.wrap (digR m k * 2 ^ (16 * r))) = (W64 (m % 65536 ^ (k + 1)) j : Nat)) := Lib.hid (by subst hkjr; exact word_or m j r hr)
    have HJ := Lib.hid hkjr
    clear hkjr hx
    generalize digR m k = d at *
    generalize hx : W64 (m % 65536 ^ k) j = x at *
    clear hx
    go_wp2_with fail
    go_region
    clear q1 q2 q3 q4
    have HK2 : Hid (ToS w s (some ⟨b, 0, none⟩) n c m (k + 1) (wr.setCell ⟨w.heap.size + 1 + 1, 1 + j, none⟩ (.int .u64 (bits BinOp.or IntKind.u64 (x : Nat) (IntKind.u64.wrap (d * 2 ^ (16 * r)))))).drew) := by
     refine Lib.hid ?_
     have h1 := HK.out
     have h2 := HV.out
     rw [HJ.out] at h1 h2 ⊢
     exact h1.step hj hr h2
    clear HK HV hcw hcf g1 hcd
    generalize World.drew _ = W5 at HK2 ⊢
    go_wp2_with fail
    go_roundw
    case rel => exact ⟨k + 1, by omega, by go_num, HK2⟩
    case measure => simp [intOf]; omega
   ·obtain rfl : k = n := by omega
    obtain ⟨h1, h2, h3, h4⟩ := HK.out
    have e : m % 65536 ^ k = m := mod_pow_all (by rw [Hn.out]; exact Nat.le_refl _)
    rw [e] at h3
    clear HK HS e HD
    have a0 := h2.c 0 rfl
    have a1 := h2.c 1 rfl
    have a2 := h2.c 2 rfl
    have a3 := h2.c 3 rfl
    have a4 := h2.c 4 rfl
    have b0 := h2.f 0 rfl
    have b1 := h2.f 1 rfl
    have b2 := h2.f 2 rfl
    have b3 := h2.f 3 rfl
    have b4 := h2.f 4 rfl
    have c0 := h3.c 0 rfl
    have c1 := h3.c 1 rfl
    have c2 := h3.c 2 rfl
    have c3 := h3.c 3 rfl
    have c4 := h3.c 4 rfl
    go_wp2_with fail
    clear a0 a1 a2 a3 a4 b0 b1 b2 b3 b4 c0 c1 c2 c3 c4
    generalize hW2 : World.setCell _ _ _ = W2
    have rR : Row W2 (w.heap.size + 1) [.bool s, .int .u64 (W64 m 0 : Nat), .int .u64 (W64 m 1 : Nat), .int .u64 (W64 m 2 : Nat), .int .u64 (W64 m 3 : Nat)] := by rw [← hW2]; exact h2.put5 _ _ _ _ _
    have hB2 : Below w.heap.size w W2 := by rw [← hW2]; exact below_put5 h4 (by omega) _ _ _ _ _
    exact bodyPost_ret (v := .tuple #[iv s (W64 m 0 : Nat) (W64 m 1 : Nat) (W64 m 2 : Nat) (W64 m 3 : Nat), .bool true]) (by simp [results, Tryz.results110, go_sem, rR.c 0 rfl, rR.c 1 rfl, rR.c 2 rfl, rR.c 3 rfl, rR.c 4 rfl]) rfl ⟨rfl, hB2⟩
 ·have HT := Lib.hid (show toV z = .tuple #[iv false 0 0 0 0, .bool false] by rw [toV, if_neg (fun h => hz (L16_int.1 h))])
  rw [HT.out, bigv]
  clear HT hd
  generalize decide (z < 0) = s at *
  generalize L16 z.natAbs = n at hz ⊢
  have hz1 : (16 : Int) < n := by omega
  have hz2 : decide ((16 : Int) < n) = true := by rw [decide_eq_true_iff]; omega
  go_enter Tryz.func110, Tryz.ntmps110
  go_wp2_with fail
  generalize hW2 : World.alloc _ _ = W2
  have rR : Row W2 (w.heap.size + 1) [.bool false, .int .u64 0, .int .u64 0, .int .u64 0, .int .u64 0] := by rw [← hW2]; exact Row.at (by simp) _ _
  have hB2 : Below w.heap.size w W2 := by rw [← hW2]; exact ((Below.refl w.heap.size w).alloc (Nat.le_refl _) _).alloc (by simp) _
  exact bodyPost_ret (v := .tuple #[iv false 0 0 0 0, .bool false]) (by simp [results, Tryz.results110, go_sem, rR.c 0 rfl, rR.c 1 rfl, rR.c 2 rfl, rR.c 3 rfl, rR.c 4 rfl]) rfl ⟨rfl, hB2⟩
end Go.Proofs.YtongeeggaigepaaGreatDoor

namespace Go.Proofs.YtongeeggaigepaaGreatDoor
open Go.RowKit
end Go.Proofs.YtongeeggaigepaaGreatDoor
namespace Go.Proofs.YtongeeggaigepaaGreatDoor
open Go.RowKit
end Go.Proofs.YtongeeggaigepaaGreatDoor
namespace Go.Proofs.YtongeeggaigepaaGreatDoor
open Go.RowKit
def ordD (x y : Nat → Int) : Nat → Int
 | 0 => 0
 | k + 1 => if x k < y k then -1 else if y k < x k then 1 else ordD x y k
def magsF (x y : Nat → Int) (n m : Nat) : Int := if n = m then ordD x y n else if n < m then -1 else 1
set_option maxHeartbeats 400000 in
theorem mags_any (x y : Nat → Int) (n m b o c b' o' c' : Nat) (w : World) (hn : n ≤ 1000000) (hm : m ≤ 1000000)
 (hx : ∀ i, i < n → w.cell? ⟨b, o + i, none⟩ = some (.int .i64 (x i))) (hy : ∀ i, i < m → w.cell? ⟨b', o' + i, none⟩ = some (.int .i64 (y i))) :
 Calls Tryz.prog 112 #[.slice (some ⟨b, o, none⟩) n c, .slice (some ⟨b', o', none⟩) m c'] w fun e w' => e = .returned (.int .i64 (magsF x y n m)) ∧ ∃ k, w' = w.drewN k := by
 by_cases hnm : n = m
 ·subst hnm
  have HM := Lib.hid (show magsF x y n n = ordD x y n by simp [magsF])
  have Hx := Lib.hid hx; clear hx
  have Hy := Lib.hid hy; clear hy
  rw [HM.out]
  clear HM
  go_enter Tryz.func112, Tryz.ntmps112
  go_wp2
  go_loopw [5] (fun i wr => ∃ k r : Nat, k ≤ n ∧ i = .int .i64 ((k : Int) - 1) ∧ Hid (ordD x y n = ordD x y k) ∧ wr = w.drewN r) (fun i _ => (intOf i + 1).toNat)
  case atStart => exact ⟨n, 0, Nat.le_refl _, rfl, Lib.hid rfl, rfl⟩
  case round =>
   obtain ⟨k, r, hk, rfl, HO, rfl⟩ := hrel
   cases k with
   | zero =>
     go_wp2
     go_ret
     exact ⟨by rw [HO.out]; rfl, r, rfl⟩
   | succ k =>
     have hcx := Hx.out k (by omega)
     have hcy := Hy.out k (by omega)
     have e1 : ((k + 1 : Nat) : Int) - 1 = (k : Int) := by omega
     rw [e1]; clear e1
     have hk1 : (k : Int) < n := by omega
     have hk0 : (0 : Int) ≤ k := by omega
     by_cases hc : x k < y k
     ·have HO' : Hid (ordD x y n = -1) := by rw [HO.out]; exact Lib.hid (by rw [ordD, if_pos hc])
      clear HO
      go_wp2
      go_quiet (fail)
      go_wp2
      go_ret
      refine ⟨by rw [HO'.out]; rfl, ?_⟩
      rw [World.drewN_drewN]
      exact ⟨_, rfl⟩
     ·by_cases hd : y k < x k
      ·have HO' : Hid (ordD x y n = 1) := by rw [HO.out]; exact Lib.hid (by rw [ordD, if_neg hc, if_pos hd])
       have hc' : decide (x k < y k) = false := by simpa using hc
       clear HO
       go_wp2
       go_quiet (fail)
       go_wp2
       go_quiet (fail)
       go_wp2
       go_ret
       refine ⟨by rw [HO'.out]; rfl, ?_⟩
       rw [World.drewN_drewN, World.drewN_drewN]
       exact ⟨_, rfl⟩
      ·have HO' : Hid (ordD x y n = ordD x y k) := by rw [HO.out]; exact Lib.hid (by rw [ordD, if_neg hc, if_neg hd])
       have hc' : decide (x k < y k) = false := by simpa using hc
       have hd' : decide (y k < x k) = false := by simpa using hd
       clear HO
       go_wp2
       go_quiet (fail)
       go_wp2
       go_quiet (fail)
       go_wp2
       go_roundw
       case rel => exact ⟨k, _, by omega, rfl, HO', rfl⟩
       case measure => simp [intOf]
 ·by_cases hl : n < m
  ·have HM := Lib.hid (show magsF x y n m = -1 by simp [magsF, hnm, hl])
   have h1 : (n : Int) ≠ m := by omega
   have h2 : (n : Int) < m := by omega
   rw [HM.out]
   clear HM hx hy
   go_enter Tryz.func112, Tryz.ntmps112
   go_wp2
   go_ret
   exact ⟨rfl, 0, rfl⟩
  ·have HM := Lib.hid (show magsF x y n m = 1 by simp [magsF, hnm, hl])
   have h1 : (n : Int) ≠ m := by omega
   have h2 : ¬ (n : Int) < m := by omega
   rw [HM.out]
   clear HM hx hy
   go_enter Tryz.func112, Tryz.ntmps112
   go_wp2
   go_ret
   exact ⟨rfl, 0, rfl⟩
end Go.Proofs.YtongeeggaigepaaGreatDoor
namespace Go.Proofs.YtongeeggaigepaaGreatDoor
open Go.RowKit
theorem cutN_le (x : Nat → Int) (n : Nat) : cutN x n ≤ n := by
 induction n with
 | zero => exact Nat.le_refl _
 | succ n ih => rw [cutN]; split <;> omega
theorem mags_cut (x y : Nat → Int) (hx : ∀ i, 0 ≤ x i) (hy : ∀ i, 0 ≤ y i) (n : Nat) : magsF x y (cutN x n) (cutN y n) = ordD x y n := by
 induction n with
 | zero => rfl
 | succ n ih =>
   have h1 := cutN_le x n
   have h2 := cutN_le y n
   have p := hx n
   have q := hy n
   by_cases a : x n = 0 <;> by_cases b : y n = 0
   ·rw [cutN, if_pos a, cutN, if_pos b, ih, ordD, if_neg (by omega), if_neg (by omega)]
   ·rw [cutN, if_pos a, cutN, if_neg b, ordD, if_pos (by omega), magsF, if_neg (by omega), if_pos (by omega)]
   ·rw [cutN, if_neg a, cutN, if_pos b, ordD, if_neg (by omega), if_pos (by omega), magsF, if_neg (by omega), if_neg (by omega)]
   ·rw [cutN, if_neg a, cutN, if_neg b, magsF, if_pos rfl]
end Go.Proofs.YtongeeggaigepaaGreatDoor

namespace Go.Proofs.YtongeeggaigepaaGreatDoor
theorem L16_mono {m n : Nat} (h : m ≤ n) : L16 m ≤ L16 n := L16_le (Nat.lt_of_le_of_lt h (lt_L16 n))
def carD (a b i : Nat) : Nat := (a % 65536 ^ i + b % 65536 ^ i) / 65536 ^ i
theorem carD_first (a b : Nat) : carD a b 0 = 0 := by simp [carD, Nat.mod_one]
theorem carD_le (a b i : Nat) : carD a b i ≤ 1 := by
 unfold carD
 have h1 := Nat.mod_lt a (Nat.pow_pos (n := i) (show 0 < 65536 by decide))
 have h2 := Nat.mod_lt b (Nat.pow_pos (n := i) (show 0 < 65536 by decide))
 have : (a % 65536 ^ i + b % 65536 ^ i) / 65536 ^ i < 2 := (Nat.div_lt_iff_lt_mul (Nat.pow_pos (by decide))).2 (by omega)
 omega
theorem carD_next (a b i : Nat) : carD a b (i + 1) = (D16 a i + D16 b i + carD a b i) / 65536 := by
 unfold carD
 rw [div_add_mod_pow, div_add_mod_pow, Nat.pow_succ, ← Nat.div_div_eq_div_mul]
 have hp : 0 < 65536 ^ i := Nat.pow_pos (by decide)
 rw [show a % 65536 ^ i + D16 a i * 65536 ^ i + (b % 65536 ^ i + D16 b i * 65536 ^ i) = (a % 65536 ^ i + b % 65536 ^ i) + (D16 a i + D16 b i) * 65536 ^ i by rw [Nat.add_mul]; omega,
  Nat.add_mul_div_right _ _ hp, Nat.add_comm]
theorem D16_add (a b i : Nat) : D16 (a + b) i = (D16 a i + D16 b i + carD a b i) % 65536 := by
 have hp : 0 < 65536 ^ i := Nat.pow_pos (by decide)
 have h : (a + b) / 65536 ^ i = a / 65536 ^ i + b / 65536 ^ i + carD a b i := by
  unfold carD
  have h1 := Nat.div_add_mod a (65536 ^ i)
  have h2 := Nat.div_add_mod b (65536 ^ i)
  rw [show a + b = (a % 65536 ^ i + b % 65536 ^ i) + (a / 65536 ^ i + b / 65536 ^ i) * 65536 ^ i by rw [Nat.add_mul, Nat.mul_comm (a / _), Nat.mul_comm (b / _)]; omega,
   Nat.add_mul_div_right _ _ hp]
  omega
 unfold D16
 rw [h]
 omega
def borD (a b i : Nat) : Nat := if a % 65536 ^ i < b % 65536 ^ i then 1 else 0
theorem borD_first (a b : Nat) : borD a b 0 = 0 := by simp [borD, Nat.mod_one]
theorem borD_le (a b i : Nat) : borD a b i ≤ 1 := by unfold borD; split <;> omega
theorem borD_next (a b i : Nat) : borD a b (i + 1) = if D16 a i < D16 b i + borD a b i then 1 else 0 := by
 unfold borD
 rw [div_add_mod_pow, div_add_mod_pow]
 have h1 := Nat.mod_lt a (Nat.pow_pos (n := i) (show 0 < 65536 by decide))
 have h2 := Nat.mod_lt b (Nat.pow_pos (n := i) (show 0 < 65536 by decide))
 generalize a % 65536 ^ i = α at *
 generalize b % 65536 ^ i = β at *
 generalize 65536 ^ i = p at *
 generalize D16 a i = x
 generalize D16 b i = y
 have key : (α + x * p < β + y * p) ↔ x < y + (if α < β then 1 else 0) := by
  rcases Nat.lt_trichotomy x y with h | h | h
  ·have : (x + 1) * p ≤ y * p := Nat.mul_le_mul_right _ h
   rw [Nat.add_mul] at this
   constructor <;> intro _ <;> (try split) <;> omega
  ·subst h
   by_cases e : α < β
   ·simp [e]
   ·simp [e]
  ·have : (y + 1) * p ≤ x * p := Nat.mul_le_mul_right _ h
   rw [Nat.add_mul] at this
   constructor <;> intro h3
   ·omega
   ·split at h3 <;> omega
 by_cases h : x < y + (if α < β then 1 else 0)
 ·rw [if_pos h, if_pos (key.2 h)]
 ·rw [if_neg h, if_neg (fun h' => h (key.1 h'))]
theorem D16_sub {a b : Nat} (h : b ≤ a) (i : Nat) : (D16 (a - b) i : Int) = if D16 a i < D16 b i + borD a b i then (D16 a i : Int) - D16 b i - borD a b i + 65536 else (D16 a i : Int) - D16 b i - borD a b i := by
 have hp : 0 < 65536 ^ i := Nat.pow_pos (by decide)
 have h1 := Nat.mod_lt a hp
 have h2 := Nat.mod_lt b hp
 have d : (a - b) / 65536 ^ i + b / 65536 ^ i + borD a b i = a / 65536 ^ i := by
  unfold borD
  have e1 := Nat.div_add_mod a (65536 ^ i)
  have e2 := Nat.div_add_mod b (65536 ^ i)
  generalize a / 65536 ^ i = qa at *
  generalize b / 65536 ^ i = qb at *
  generalize a % 65536 ^ i = α at *
  generalize b % 65536 ^ i = β at *
  generalize 65536 ^ i = p at *
  subst e1 e2
  by_cases e : α < β
  ·have hlt : qb < qa := by
    apply Nat.lt_of_not_le
    intro hle
    have := Nat.mul_le_mul_left p hle
    omega
   obtain ⟨k, rfl⟩ : ∃ k, qa = qb + k + 1 := ⟨qa - qb - 1, by omega⟩
   rw [if_pos e, show p * (qb + k + 1) + α - (p * qb + β) = (p + α - β) + k * p by rw [Nat.mul_add, Nat.mul_add, Nat.mul_one, Nat.mul_comm p k]; omega, Nat.add_mul_div_right _ _ hp, Nat.div_eq_of_lt (by omega)]
   omega
  ·have hle : qb ≤ qa := by
    apply Nat.le_of_not_lt
    intro hlt
    have := Nat.mul_le_mul_left p (show qa + 1 ≤ qb from hlt)
    rw [Nat.mul_add, Nat.mul_one] at this
    omega
   obtain ⟨k, rfl⟩ : ∃ k, qa = qb + k := ⟨qa - qb, by omega⟩
   rw [if_neg e, show p * (qb + k) + α - (p * qb + β) = (α - β) + k * p by rw [Nat.mul_add, Nat.mul_comm p k]; omega, Nat.add_mul_div_right _ _ hp, Nat.div_eq_of_lt (by omega)]
   omega
 have hb := borD_le a b i
 unfold D16
 rw [← d]
 generalize (a - b) / 65536 ^ i = u
 generalize b / 65536 ^ i = v
 generalize borD a b i = c at *
 split <;> omega
end Go.Proofs.YtongeeggaigepaaGreatDoor
namespace Go.Proofs.YtongeeggaigepaaGreatDoor
open Go.RowKit
end Go.Proofs.YtongeeggaigepaaGreatDoor
namespace Go.Proofs.YtongeeggaigepaaGreatDoor
open Go.RowKit
end Go.Proofs.YtongeeggaigepaaGreatDoor
namespace Go.Proofs.YtongeeggaigepaaGreatDoor
open Go.RowKit
end Go.Proofs.YtongeeggaigepaaGreatDoor
namespace Go.Proofs.YtongeeggaigepaaGreatDoor
end Go.Proofs.YtongeeggaigepaaGreatDoor

namespace Go.Proofs.YtongeeggaigepaaGreatDoor
open Go.RowKit
theorem assert_errno (c : Int) (w : World) : (Instr.typeAssert (.iface 26 (.int .i64 c)) 20 26 true).run Tryz.prog w = .ok (.tuple #[.int .i64 c, .bool true]) w := by kernel_rfl
set_option maxRecDepth 100000 in
theorem catch_panicking (p : Addr) (x c : Int) (older : List PanicEntry) (w : World) (hc : w.cell? p = some (.int .i64 x)) (hz : w.frozen? p = false) :
 CallsD Tryz.prog 162 #[.pointer (some p)] (.panicking ({ v := .iface 26 (.int .i64 c), recovered := false } :: older)) w fun e u' w' =>
  e = .returned (.tuple #[]) ∧ u' = .panicking ({ v := .iface 26 (.int .i64 c), recovered := true } :: older) ∧ w' = w.setCell p (.int .i64 c) := by
 refine callsD_of_wpS Tryz.func162 rfl fun c₀ cs hu => ?_
 apply wpS_seq
 apply wpS_region
 simp [wpOpsS, go_sem, recoverD, hu, Tryz.ntmps162, Exit.thenS]
 change Code.wpS _ _ _ { tmps := #[.pointer (some p), .iface 26 (.int .i64 c), undef, undef, .iface 26 (.int .i64 c), undef, undef, undef, undef, undef, undef, undef, undef, undef, undef, undef], defers := [] } _ _
 have hta : ∀ w, (Instr.typeAssert (.iface 26 (.int .i64 c)) 20 26 true).run Tryz.prog w = .ok (.tuple #[.int .i64 c, .bool true]) w := assert_errno c
 have hnot : ∀ (x : Bool) (w : World), (Op.unary .not (.bool x)).run Tryz.prog w = .ok (.bool (!x)) w := fun _ _ => rfl
 refine wpS_of_wp ?_
 go_wp2
 simp [bodyPostS, results, Tryz.results162]
theorem catch_idle (p : Addr) (w : World) :
 CallsD Tryz.prog 162 #[.pointer (some p)] .returning w fun e u' w' => e = .returned (.tuple #[]) ∧ u' = .returning ∧ w' = w := by
 refine callsD_of_wpS Tryz.func162 rfl fun c₀ cs hu => ?_
 apply wpS_seq
 apply wpS_region
 simp [wpOpsS, go_sem, recoverD, hu, Tryz.ntmps162, Exit.thenS]
 change Code.wpS _ _ _ { tmps := #[.pointer (some p), .nilIface, undef, undef, .nilIface, undef, undef, undef, undef, undef, undef, undef, undef, undef, undef, undef], defers := [] } _ _
 refine wpS_of_wp ?_
 go_wp2
 cases c₀
 simp_all [bodyPostS, results, Tryz.results162]
theorem for_gives (c : Int) (w : World) (hc : c ≠ 0) :
 Calls Tryz.prog 75 #[.int .i64 c] w fun e w' => e = .panicked [{ v := .iface 26 (.int .i64 c), recovered := false }] ∧ w = w' := by
 have hc' : (c != 0) = true := by simpa using hc
 clear hc
 go_enter Tryz.func75, Tryz.ntmps75
 go_wp2
 exact ⟨rfl, rfl, rfl⟩
set_option maxHeartbeats 400000 in
theorem settle_over (N : Nat) (s : Bool) (m0 m1 m2 m3 o : Int) (w : World) (ho : o ≠ 0) (hr : Row w N [.bool s, .int .u64 m0, .int .u64 m1, .int .u64 m2, .int .u64 m3, .int .u64 o]) :
 Calls Tryz.prog 143 #[.pointer (some ⟨N, 0, none⟩)] w fun e w' => e = .panicked [{ v := .iface 26 (.int .i64 110), recovered := false }] ∧ w = w' := by
 have h5 := hr.c 5 rfl
 have ho' : (o != 0) = true := by simpa using ho
 clear ho hr
 go_enter Tryz.func143, Tryz.ntmps143
 go_wp2_with fail
 refine (for_gives 110 w (by decide)).mono ?_
 rintro e w1 ⟨rfl, rfl⟩
 go_wp2
 exact ⟨rfl, rfl, rfl⟩
set_option maxHeartbeats 400000 in
theorem settle_ok (N : Nat) (s : Bool) (m0 m1 m2 m3 : Int) (w : World) (hr : Row w N [.bool s, .int .u64 m0, .int .u64 m1, .int .u64 m2, .int .u64 m3, .int .u64 0]) :
 Calls Tryz.prog 143 #[.pointer (some ⟨N, 0, none⟩)] w fun e w' => e = .returned (.tuple #[]) ∧ w' = w.setCell ⟨N, 0, none⟩ (.bool (s && !zeroB m0 m1 m2 m3)) := by
 have hq2 : ∀ w, (binOp .neq 40 (wv m0 m1 m2 m3) (wv 0 0 0 0)).run Tryz.prog w = .ok (.bool (!zeroB m0 m1 m2 m3)) w := fun w => neqArr 40 Tryz.underlying40 m0 m1 m2 m3 0 0 0 0 w
 have h0 := hr.c 0 rfl
 have h1 := hr.c 1 rfl
 have h2 := hr.c 2 rfl
 have h3 := hr.c 3 rfl
 have h4 := hr.c 4 rfl
 have h5 := hr.c 5 rfl
 have f0 := hr.f 0 rfl
 cases s
 ·rw [show (false && !zeroB m0 m1 m2 m3) = false from rfl]
  go_enter Tryz.func143, Tryz.ntmps143
  go_wp2
  go_end0
  exact ⟨rfl, rfl⟩
 ·rw [show (true && !zeroB m0 m1 m2 m3) = !zeroB m0 m1 m2 m3 from rfl]
  generalize (!zeroB m0 m1 m2 m3) = y at hq2 ⊢
  go_enter Tryz.func143, Tryz.ntmps143
  go_wp2
  go_end0
  exact ⟨rfl, rfl⟩
end Go.Proofs.YtongeeggaigepaaGreatDoor

namespace Go.Proofs.YtongeeggaigepaaGreatDoor
open Go.RowKit

theorem eqInt (d : Nat) (s t : Bool) (a b c e a' b' c' e' : Int) (w : World) :
 (Op.equalIn (d + 3) 42 (iv s a b c e) (iv t a' b' c' e')).run Tryz.prog w = .ok (s == t && (a == a' && (b == b' && (c == c' && e == e')))) w := by
 have u := Tryz.underlying42
 have h := eqArr d
 rw [show d + 3 = (d + 2) + 1 from rfl, Op.equalIn]
 simp only [Sem.run_bind, run_underlying u, Result.andThen_ok]
 go_simp
 by_cases h0 : s = t <;> by_cases h1 : a = a' <;> by_cases h2 : b = b' <;> by_cases h3 : c = c' <;> by_cases h4 : e = e' <;> simp [h0, h1, h2, h3, h4]
theorem eqlInt (s t : Bool) (a b c e a' b' c' e' : Int) (w : World) :
 (binOp .eql 42 (iv s a b c e) (iv t a' b' c' e')).run Tryz.prog w = .ok (.bool (s == t && (a == a' && (b == b' && (c == c' && e == e'))))) w := by
 rw [run_eql_struct, show (10000 : Nat) = 9997 + 3 from rfl, eqInt 9997]; rfl
theorem neqInt (s t : Bool) (a b c e a' b' c' e' : Int) (w : World) :
 (binOp .neq 42 (iv s a b c e) (iv t a' b' c' e')).run Tryz.prog w = .ok (.bool (!(s == t && (a == a' && (b == b' && (c == c' && e == e')))))) w := by
 rw [run_neq_struct, show (10000 : Nat) = 9997 + 3 from rfl, eqInt 9997]; rfl

end Go.Proofs.YtongeeggaigepaaGreatDoor

namespace Go.Proofs.YtongeeggaigepaaGreatDoor
open Go.RowKit
def nodeV (x y : Int) : Value := .agg #[.int .i64 x, .int .i64 y]
def segV (ax ay bx bY : Int) : Value := .agg #[.int .i64 ax, .int .i64 ay, .int .i64 bx, .int .i64 bY]
def inB (x : Int) : Bool := !decide (x < -67108864) && !decide (67108864 < x)
theorem at_two0 (x y : Int) (W : World) : (Instr.index 125 (.agg #[.int .i64 x, .int .i64 y]) (.int .i64 0)).run Tryz.prog W = .ok (.int .i64 x) W := by kernel_rfl
theorem at_two1 (x y : Int) (W : World) : (Instr.index 125 (.agg #[.int .i64 x, .int .i64 y]) (.int .i64 1)).run Tryz.prog W = .ok (.int .i64 y) W := by kernel_rfl
set_option maxRecDepth 100000 in
set_option maxHeartbeats 800000 in
theorem nodes_any (x y : Int) (w : World) :
 Calls Tryz.prog 37 #[nodeV x y] w fun e w' => e = .returned (.int .i64 (if (inB x && inB y) = true then 0 else 2)) ∧ Below w.heap.size w w' := by
 have HB := Lib.hid (fun o => (Below.refl w.heap.size w).alloc (Nat.le_refl _) o)
 have ix0 := at_two0 x y
 have ix1 := at_two1 x y
 have HK : Hid (∃ k : Int, (if (inB x && inB y) = true then (0 : Int) else 2) = k ∧ (k = 0 ∧ ¬ x < -67108864 ∧ ¬ 67108864 < x ∧ ¬ y < -67108864 ∧ ¬ 67108864 < y ∨ k = 2 ∧ (x < -67108864 ∨ 67108864 < x ∨ y < -67108864 ∨ 67108864 < y))) := by
  refine Lib.hid ⟨_, rfl, ?_⟩
  by_cases h1 : x < -67108864 <;> by_cases h2 : 67108864 < x <;> by_cases h3 : y < -67108864 <;> by_cases h4 : 67108864 < y <;> simp [inB, h1, h2, h3, h4]
 obtain ⟨k, hk, hc⟩ := HK.out
 rw [hk]
 clear hk HK
 unfold nodeV
 have HC := Lib.hid hc
 clear hc
 go_enter Tryz.func37, Tryz.ntmps37
 go_wp2
 refine wp_loop_rounds 3 ?_
 rw [rounds_succ]
 go_wp2
 all_goals
  first
   | (go_ret; exact ⟨by have hk := HC.out; obtain rfl : k = 2 := by omega
                        rfl, HB.out _⟩)
   | (rw [rounds_succ]; go_wp2
      all_goals
       first
        | (go_ret; exact ⟨by have hk := HC.out; obtain rfl : k = 2 := by omega
                             rfl, HB.out _⟩)
        | (rw [rounds_succ]; go_wp2
           go_ret
           exact ⟨by have hk := HC.out; obtain rfl : k = 0 := by omega
                     rfl, HB.out _⟩))
def Bd (x : Int) : Prop := -67108864 ≤ x ∧ x ≤ 67108864
theorem inB_iff (x : Int) : inB x = true ↔ Bd x := by
 unfold inB Bd
 rw [Bool.and_eq_true_iff, Bool.not_eq_true', Bool.not_eq_true', decide_eq_false_iff_not, decide_eq_false_iff_not]
 omega
theorem wrap_in {z : Int} (h0 : -9223372036854775808 ≤ z) (h1 : z ≤ 9223372036854775807) : wrap64 z = z := by unfold wrap64; omega
theorem mul_bd {a b : Int} (ha : -134217728 ≤ a ∧ a ≤ 134217728) (hb : -134217728 ≤ b ∧ b ≤ 134217728) : -18014398509481984 ≤ a * b ∧ a * b ≤ 18014398509481984 := by
 have h1 : a.natAbs ≤ 134217728 := by omega
 have h2 : b.natAbs ≤ 134217728 := by omega
 have h3 : (a * b).natAbs ≤ 134217728 * 134217728 := by rw [Int.natAbs_mul]; exact Nat.mul_le_mul h1 h2
 have h4 : (134217728 * 134217728 : Nat) = 18014398509481984 := by decide
 rw [h4] at h3
 omega
end Go.Proofs.YtongeeggaigepaaGreatDoor
