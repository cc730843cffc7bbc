import Derived.Test.YtcabndpmfkimgaaGreatDoorProg
import Derived.WalkKit
import Derived.WalkSpells
import Derived.WalkLawsBesides
import Derived.Deep.QuietTactic
import Derived.BigQuiet
import Derived.Lib.Hide
import Derived.ChangeKeysEq
namespace Go.Proofs.YtcabndpmfkimgaaGreatDoor
open Go.RowKit
abbrev wv (a b c d : Int) : Value := .agg #[.int .u64 a, .int .u64 b, .int .u64 c, .int .u64 d]
abbrev iv (n : Bool) (a b c d : Int) : Value := .agg #[.bool n, .int .u64 a, .int .u64 b, .int .u64 c, .int .u64 d]
theorem eqArr (d : Nat) (t : TypeId) (ht : Tryz.prog.underlying t = some (.array 4 27)) (a b c e a' b' c' e' : Int) (w : World) :
 (Op.equalIn (d + 2) t (wv a b c e) (wv a' b' c' e')).run Tryz.prog w = .ok (a == a' && (b == b' && (c == c' && e == e'))) w := by
 have u3 := Tryz.underlying27
 have a3 := Tryz.isAgg27
 have z3 := Tryz.sizeOf27
 rw [show d + 2 = (d + 1) + 1 from rfl, Op.equalIn]
 simp only [Sem.run_bind, run_underlying ht, Result.andThen_ok]
 simp only [Std.Legacy.Range.forIn_eq_forIn_range', Std.Legacy.Range.size, Nat.sub_zero, Nat.add_sub_cancel, Nat.div_one, List.range'_succ, List.range'_zero, List.forIn_cons, List.forIn_nil]
 go_simp
 by_cases h1 : a = a' <;> by_cases h2 : b = b' <;> by_cases h3 : c = c' <;> by_cases h4 : e = e' <;> simp [h1, h2, h3, h4]
theorem eqlArr (t : TypeId) (ht : Tryz.prog.underlying t = some (.array 4 27)) (a b c e a' b' c' e' : Int) (w : World) :
 (binOp .eql t (wv a b c e) (wv a' b' c' e')).run Tryz.prog w = .ok (.bool (a == a' && (b == b' && (c == c' && e == e')))) w := by
 rw [run_eql_struct, show (10000 : Nat) = 9998 + 2 from rfl, eqArr 9998 t ht]; rfl
theorem neqArr (t : TypeId) (ht : Tryz.prog.underlying t = some (.array 4 27)) (a b c e a' b' c' e' : Int) (w : World) :
 (binOp .neq t (wv a b c e) (wv a' b' c' e')).run Tryz.prog w = .ok (.bool (!(a == a' && (b == b' && (c == c' && e == e'))))) w := by
 rw [run_neq_struct, show (10000 : Nat) = 9998 + 2 from rfl, eqArr 9998 t ht]; rfl
theorem calls_cls {P : Program} {f : FuncId} {args : Array Value} {W : World} {v : Value} {C : World → Prop}
 (h : Calls P f args W fun e w' => e = .returned v ∧ W = w') (hC : C W) : Calls P f args W fun e w'' => e = .returned v ∧ C w'' :=
 h.mono fun _ _ ⟨he, hw⟩ => ⟨he, hw ▸ hC⟩
theorem bcell {W w1 : World} (hb : Below W.heap.size W w1) : (∀ b o, b < W.heap.size → w1.cell? ⟨b, o, none⟩ = W.cell? ⟨b, o, none⟩) ∧ (∀ b o, b < W.heap.size → w1.frozen? ⟨b, o, none⟩ = W.frozen? ⟨b, o, none⟩) :=
 ⟨fun b o h => hb.cell (p := ⟨b, o, none⟩) h, fun b o h => hb.frozen (p := ⟨b, o, none⟩) h⟩
def Row (w : World) (b : Nat) (vs : List Value) : Prop := b < w.heap.size ∧ ∀ i v, vs[i]? = some v → w.cell? ⟨b, i, none⟩ = some v ∧ w.frozen? ⟨b, i, none⟩ = false
theorem Row.lt {w : World} {b : Nat} {vs : List Value} (h : Row w b vs) : b < w.heap.size := h.1
theorem Row.c {w : World} {b : Nat} {vs : List Value} (h : Row w b vs) (i : Nat) {v : Value} (hv : vs[i]? = some v) : w.cell? ⟨b, i, none⟩ = some v := (h.2 i v hv).1
theorem Row.f {w : World} {b : Nat} {vs : List Value} (h : Row w b vs) (i : Nat) {v : Value} (hv : vs[i]? = some v) : w.frozen? ⟨b, i, none⟩ = false := (h.2 i v hv).2
theorem Row.new (w : World) (vs : List Value) (t : TypeId) : Row (w.alloc (.cells vs.toArray t)) w.heap.size vs :=
 ⟨by simp, fun i v hv => ⟨by rw [World.cell?_alloc_new]; simpa using hv, by rw [World.frozen?_alloc_new]⟩⟩
theorem Row.at {w : World} {n : Nat} (hn : n = w.heap.size) (vs : List Value) (t : TypeId) : Row (w.alloc (.cells vs.toArray t)) n vs := by
 subst hn; exact Row.new w vs t
theorem Row.alloc {w : World} {b : Nat} {vs : List Value} (h : Row w b vs) (o : Obj) : Row (w.alloc o) b vs :=
 ⟨by have := h.1; simp; omega, fun i v hv => ⟨by rw [World.cell?_alloc_past o b i h.1]; exact h.c i hv, by rw [World.frozen?_alloc_past o b i h.1]; exact h.f i hv⟩⟩
theorem Row.drewN {w : World} {b : Nat} {vs : List Value} (h : Row w b vs) (n : Nat) : Row (w.drewN n) b vs := h
theorem Row.drew {w : World} {b : Nat} {vs : List Value} (h : Row w b vs) : Row w.drew b vs := h
theorem Row.below {w w1 : World} {b B : Nat} {vs : List Value} (h : Row w b vs) (hb : Below B w w1) (hB : b < B) : Row w1 b vs :=
 ⟨Nat.lt_of_lt_of_le h.1 hb.size, fun i _ hv => ⟨(hb.cell (p := ⟨b, i, none⟩) hB).trans (h.c i hv), (hb.frozen (p := ⟨b, i, none⟩) hB).trans (h.f i hv)⟩⟩
theorem Row.after {w w1 : World} {b : Nat} {vs : List Value} (h : Row w b vs) (hb : Below w.heap.size w w1) : Row w1 b vs := h.below hb h.1
theorem Row.other {w : World} {b : Nat} {vs : List Value} (h : Row w b vs) {p : Addr} (hp : p.block ≠ b) (v : Value) : Row (w.setCell p v) b vs :=
 ⟨by have := h.1; simp [World.setCell]; omega, fun i u hu => ⟨by rw [World.cell?_setCell_other _ _ _ _ (fun e => hp (by rw [e]))]; exact h.c i hu, by rw [World.frozen?_setCell]; exact h.f i hu⟩⟩
theorem Row.set {w : World} {b : Nat} {vs : List Value} (h : Row w b vs) (j : Nat) (hj : j < vs.length) (v : Value) : Row (w.setCell ⟨b, j, none⟩ v) b (vs.set j v) := by
 refine ⟨by have := h.1; simp [World.setCell]; omega, fun i u hu => ⟨?_, by rw [World.frozen?_setCell]; by_cases e : i < vs.length; exact h.f i (List.getElem?_eq_getElem e); (simp [e] at hu)⟩⟩
 by_cases e : j = i
 ·subst e
  rw [World.cell?_setCell_same' _ _ _ (by rw [h.c j (List.getElem?_eq_getElem hj)]; rfl)]
  simpa [hj] using hu
 ·rw [World.cell?_setCell_other _ _ _ _ (fun h => e (congrArg Addr.off h))]
  rw [List.getElem?_set_ne e] at hu
  exact h.c i hu
theorem Row.put4 {w : World} {b : Nat} {x0 x1 x2 x3 : Value} (h : Row w b [x0, x1, x2, x3]) (y0 y1 y2 y3 : Value) :
 Row ((((w.setCell ⟨b, 0, none⟩ y0).setCell ⟨b, 1, none⟩ y1).setCell ⟨b, 2, none⟩ y2).setCell ⟨b, 3, none⟩ y3) b [y0, y1, y2, y3] :=
 (((h.set 0 (by simp) y0).set 1 (by simp) y1).set 2 (by simp) y2).set 3 (by simp) y3
theorem below_put4 {B : Nat} {a w : World} (h : Below B a w) {c : Nat} (hc : B ≤ c) (y0 y1 y2 y3 : Value) :
 Below B a ((((w.setCell ⟨c, 0, none⟩ y0).setCell ⟨c, 1, none⟩ y1).setCell ⟨c, 2, none⟩ y2).setCell ⟨c, 3, none⟩ y3) :=
 (((h.setCell (p := ⟨c, 0, none⟩) hc y0).setCell (p := ⟨c, 1, none⟩) hc y1).setCell (p := ⟨c, 2, none⟩) hc y2).setCell (p := ⟨c, 3, none⟩) hc y3
theorem below_put5 {B : Nat} {a w : World} (h : Below B a w) {c : Nat} (hc : B ≤ c) (y0 y1 y2 y3 y4 : Value) :
 Below B a (((((w.setCell ⟨c, 0, none⟩ y0).setCell ⟨c, 1, none⟩ y1).setCell ⟨c, 2, none⟩ y2).setCell ⟨c, 3, none⟩ y3).setCell ⟨c, 4, none⟩ y4) :=
 ((((h.setCell (p := ⟨c, 0, none⟩) hc y0).setCell (p := ⟨c, 1, none⟩) hc y1).setCell (p := ⟨c, 2, none⟩) hc y2).setCell (p := ⟨c, 3, none⟩) hc y3).setCell (p := ⟨c, 4, none⟩) hc y4
theorem below_put1 {B : Nat} {a w : World} (h : Below B a w) {c : Nat} (hc : B ≤ c) (i : Nat) (y : Value) : Below B a (w.setCell ⟨c, i, none⟩ y) := h.setCell (p := ⟨c, i, none⟩) hc y
theorem Row.put5 {w : World} {b : Nat} {x0 x1 x2 x3 x4 : Value} (h : Row w b [x0, x1, x2, x3, x4]) (y0 y1 y2 y3 y4 : Value) :
 Row (((((w.setCell ⟨b, 0, none⟩ y0).setCell ⟨b, 1, none⟩ y1).setCell ⟨b, 2, none⟩ y2).setCell ⟨b, 3, none⟩ y3).setCell ⟨b, 4, none⟩ y4) b [y0, y1, y2, y3, y4] :=
 ((((h.set 0 (by simp) y0).set 1 (by simp) y1).set 2 (by simp) y2).set 3 (by simp) y3).set 4 (by simp) y4
theorem Row.other5 {w : World} {b c : Nat} {vs : List Value} (h : Row w b vs) (hc : c ≠ b) (y0 y1 y2 y3 y4 : Value) :
 Row (((((w.setCell ⟨c, 0, none⟩ y0).setCell ⟨c, 1, none⟩ y1).setCell ⟨c, 2, none⟩ y2).setCell ⟨c, 3, none⟩ y3).setCell ⟨c, 4, none⟩ y4) b vs :=
 ((((h.other (p := ⟨c, 0, none⟩) hc y0).other (p := ⟨c, 1, none⟩) hc y1).other (p := ⟨c, 2, none⟩) hc y2).other (p := ⟨c, 3, none⟩) hc y3).other (p := ⟨c, 4, none⟩) hc y4
end Go.Proofs.YtcabndpmfkimgaaGreatDoor
namespace Go.Proofs.YtcabndpmfkimgaaGreatDoor
open Go.RowKit
def zeroB (a b c d : Int) : Bool := a == 0 && (b == 0 && (c == 0 && d == 0))
def errArg (n : Bool) (a b c d : Int) : Int := if (n && zeroB a b c d) = true then 2 else 0
theorem errArg_bad {a b c d : Int} (h : zeroB a b c d = true) : errArg true a b c d = 2 := by simp [errArg, h]
theorem errArg_ok {n : Bool} {a b c d : Int} (h : (n && zeroB a b c d) = false) : errArg n a b c d = 0 := by simp [errArg, h]
theorem zeroB_iff {a b c d : Int} : zeroB a b c d = true ↔ a = 0 ∧ b = 0 ∧ c = 0 ∧ d = 0 := by simp [zeroB]
set_option maxRecDepth 100000 in
set_option maxHeartbeats 400000 in
theorem check_any (n : Bool) (a b c d : Int) (w : World) :
 Calls Tryz.prog 133 #[iv n a b c d] w fun e w' => e = .returned (.int .i64 (errArg n a b c d)) ∧ Below w.heap.size w w' := by
 have hq : ∀ w, (binOp .eql 28 (wv a b c d) (wv 0 0 0 0)).run Tryz.prog w = .ok (.bool (zeroB a b c d)) w := fun w => eqlArr 28 Tryz.underlying28 a b c d 0 0 0 0 w
 cases n
 ·have H := Lib.hid (errArg_ok (n := false) (a := a) (b := b) (c := c) (d := d) rfl)
  go_enter Tryz.func133, Tryz.ntmps133
  go_wp2
  go_ret
  exact ⟨by rw [H.out]; rfl, (Below.refl _ _).alloc (Nat.le_refl _) _⟩
 ·cases hz : zeroB a b c d
  ·have H := Lib.hid (errArg_ok (n := true) (a := a) (b := b) (c := c) (d := d) (by simp [hz]))
   rw [hz] at hq
   clear hz
   go_enter Tryz.func133, Tryz.ntmps133
   go_wp2
   go_ret
   exact ⟨by rw [H.out]; rfl, (Below.refl _ _).alloc (Nat.le_refl _) _⟩
  ·have H := Lib.hid (errArg_bad hz)
   rw [hz] at hq
   clear hz
   go_enter Tryz.func133, Tryz.ntmps133
   go_wp2
   go_ret
   exact ⟨by rw [H.out]; rfl, (Below.refl _ _).alloc (Nat.le_refl _) _⟩
def ofW (n : Int) : Int := if n < 0 then IntKind.u64.wrap (-IntKind.u64.wrap n) else IntKind.u64.wrap n
set_option maxHeartbeats 400000 in
theorem of_any (n : Int) (w : World) :
 Calls Tryz.prog 78 #[.int .i64 n] w fun e w' => e = .returned (iv (decide (n < 0)) (ofW n) 0 0 0) ∧ Below w.heap.size w w' := by
 by_cases h : n < 0
 ·have hw : ofW n = IntKind.u64.wrap (-IntKind.u64.wrap n) := by simp [ofW, h]
  have hd : decide (n < 0) = true := by simp [h]
  rw [hw, hd]; clear hw hd
  go_enter Tryz.func78, Tryz.ntmps78
  go_wp2
  exact bodyPost_ret (by simp [results, Tryz.results78, go_sem]) rfl ⟨rfl, (Below.refl _ _).alloc (Nat.le_refl _) _⟩
 ·have hw : ofW n = IntKind.u64.wrap n := by simp [ofW, h]
  have hd : decide (n < 0) = false := by simp [h]
  rw [hw, hd]; clear hw
  go_enter Tryz.func78, Tryz.ntmps78
  go_wp2
  exact bodyPost_ret (by simp [results, Tryz.results78, go_sem]) rfl ⟨rfl, (Below.refl _ _).alloc (Nat.le_refl _) _⟩
def sgnB (n : Bool) (a b c d : Int) : Int := if zeroB a b c d = true then 0 else if n = true then -1 else 1
set_option maxHeartbeats 400000 in
set_option maxRecDepth 100000 in
theorem sign_any (n : Bool) (a b c d : Int) (w : World) :
 Calls Tryz.prog 128 #[iv n a b c d] w fun e w' => e = .returned (.int .i64 (sgnB n a b c d)) ∧ Below w.heap.size w w' := by
 have hq : ∀ w, (binOp .eql 28 (wv a b c d) (wv 0 0 0 0)).run Tryz.prog w = .ok (.bool (zeroB a b c d)) w := fun w => eqlArr 28 Tryz.underlying28 a b c d 0 0 0 0 w
 have hq2 : ∀ w, (binOp .eql 172 (wv a b c d) (wv 0 0 0 0)).run Tryz.prog w = .ok (.bool (zeroB a b c d)) w := fun w => eqlArr 172 Tryz.underlying172 a b c d 0 0 0 0 w
 cases hz : zeroB a b c d
 ·rw [hz] at hq hq2
  cases n
  ·have H := Lib.hid (show sgnB false a b c d = 1 by simp [sgnB, hz])
   clear hz
   go_enter Tryz.func128, Tryz.ntmps128
   go_wp2
   go_ret
   exact ⟨by rw [H.out]; rfl, (Below.refl _ _).alloc (Nat.le_refl _) _⟩
  ·have H := Lib.hid (show sgnB true a b c d = -1 by simp [sgnB, hz])
   clear hz
   go_enter Tryz.func128, Tryz.ntmps128
   go_wp2
   go_ret
   exact ⟨by rw [H.out]; rfl, (Below.refl _ _).alloc (Nat.le_refl _) _⟩
 ·rw [hz] at hq hq2
  have H := Lib.hid (show sgnB n a b c d = 0 by simp [sgnB, hz])
  clear hz
  go_enter Tryz.func128, Tryz.ntmps128
  go_wp2
  go_ret
  exact ⟨by rw [H.out]; rfl, (Below.refl _ _).alloc (Nat.le_refl _) _⟩
set_option maxHeartbeats 400000 in
set_option maxRecDepth 100000 in
theorem signed_any (n : Bool) (a b c d : Int) (w : World) :
 Calls Tryz.prog 140 #[.bool n, wv a b c d] w fun e w' => e = .returned (iv (n && !zeroB a b c d) a b c d) ∧ Below w.heap.size w w' := by
 have hq2 : ∀ w, (binOp .neq 172 (wv a b c d) (wv 0 0 0 0)).run Tryz.prog w = .ok (.bool (!zeroB a b c d)) w := fun w => neqArr 172 Tryz.underlying172 a b c d 0 0 0 0 w
 generalize zeroB a b c d = z at hq2 ⊢
 cases n
 ·rw [show (false && !z) = false from rfl]
  go_enter Tryz.func140, Tryz.ntmps140
  go_wp2
  go_region
  go_wp2
  exact bodyPost_ret (by simp [results, Tryz.results140, go_sem]) rfl ⟨rfl, (((Below.refl _ _).alloc (Nat.le_refl _) _).alloc (by simp) _).drew⟩
 ·rw [show (true && !z) = !z from rfl]
  generalize (!z) = y at hq2 ⊢
  go_enter Tryz.func140, Tryz.ntmps140
  go_wp2
  go_region
  go_wp2
  exact bodyPost_ret (by simp [results, Tryz.results140, go_sem]) rfl ⟨rfl, (((Below.refl _ _).alloc (Nat.le_refl _) _).alloc (by simp) _).drew⟩
def cmpI (a b : Int) : Int := if a < b then -1 else if b < a then 1 else 0
set_option maxHeartbeats 400000 in
theorem compare_any (a b : Int) (w : World) :
 Calls Tryz.prog 134 #[.int .u64 a, .int .u64 b] w fun e w' => e = .returned (.int .i64 (cmpI a b)) ∧ w = w' := by
 by_cases h : a < b
 ·have H := Lib.hid (show cmpI a b = -1 by simp [cmpI, h])
  go_enter Tryz.func134, Tryz.ntmps134
  go_wp2
  go_ret
  exact ⟨by rw [H.out]; rfl, rfl⟩
 ·by_cases h' : b < a
  ·have H := Lib.hid (show cmpI a b = 1 by simp [cmpI, h, h'])
   go_enter Tryz.func134, Tryz.ntmps134
   go_wp2
   go_ret
   exact ⟨by rw [H.out]; rfl, rfl⟩
  ·have H := Lib.hid (show cmpI a b = 0 by simp [cmpI, h, h'])
   go_enter Tryz.func134, Tryz.ntmps134
   go_wp2
   go_ret
   exact ⟨by rw [H.out]; rfl, rfl⟩
def ordF (x y : Nat → Int) : Nat → Int
 | 0 => 0
 | k + 1 => if cmpI (x k) (y k) = 0 then ordF x y k else cmpI (x k) (y k)
set_option maxHeartbeats 400000 in
theorem order_any (x y : Nat → Int) (n : Nat) (b o b' o' c c' : Nat) (w : World) (hn : n ≤ 1000)
 (hx : ∀ i, i < n → w.cell? ⟨b, o + i, none⟩ = some (.int .u64 (x i))) (hy : ∀ i, i < n → w.cell? ⟨b', o' + i, none⟩ = some (.int .u64 (y i))) :
 Calls Tryz.prog 114 #[.slice (some ⟨b, o, none⟩) n c, .slice (some ⟨b', o', none⟩) n c'] w fun e w' => e = .returned (.int .i64 (ordF x y n)) ∧ ∃ k, w' = w.drewN k := by
 go_enter Tryz.func114, Tryz.ntmps114
 have Hx := Lib.hid hx; clear hx
 have Hy := Lib.hid hy; clear hy
 go_wp2
 go_loopw [5] (fun i wr => ∃ k m : Nat, k ≤ n ∧ i = .int .i64 ((k : Int) - 1) ∧ Hid (ordF x y n = ordF x y k) ∧ wr = w.drewN m) (fun i _ => (intOf i + 1).toNat)
 case atStart => exact ⟨n, 0, Nat.le_refl _, rfl, Lib.hid rfl, rfl⟩
 case round =>
  obtain ⟨k, m, hk, rfl, HO, rfl⟩ := hrel
  cases k with
  | zero =>
    go_wp2
    go_ret
    exact ⟨by rw [HO.out]; rfl, m, rfl⟩
  | succ k =>
    have hcx := Hx.out k (by omega)
    have hcy := Hy.out k (by omega)
    have e1 : ((k + 1 : Nat) : Int) - 1 = (k : Int) := by omega
    rw [e1]; clear e1
    have hk1 : (k : Int) < n := by omega
    have hk0 : (0 : Int) ≤ k := by omega
    by_cases hc : cmpI (x k) (y k) = 0
    ·have HO' : Hid (ordF x y n = ordF x y k) := by rw [HO.out]; exact Lib.hid (by rw [ordF, if_pos hc])
     have HC := Lib.hid hc; clear hc HO
     go_wp2
     go_quiet ((go_at_call 134; exact calls_cls (compare_any _ _ _) ⟨_, rfl⟩))
     rw [HC.out]
     go_wp2
     go_roundw
     case rel => exact ⟨k, _, by omega, rfl, HO', rfl⟩
     case measure => simp [intOf]
    ·have hb : (cmpI (x k) (y k) != 0) = true := by simpa using hc
     have HO' : Hid (ordF x y n = cmpI (x k) (y k)) := by rw [HO.out]; exact Lib.hid (by rw [ordF, if_neg hc])
     clear hc HO
     go_wp2
     go_quiet ((go_at_call 134; exact calls_cls (compare_any _ _ _) ⟨_, rfl⟩))
     go_wp2
     go_ret
     exact ⟨by rw [HO'.out]; rfl, _, rfl⟩
end Go.Proofs.YtcabndpmfkimgaaGreatDoor
namespace Go.Proofs.YtcabndpmfkimgaaGreatDoor
open Go.RowKit
def errAll (neg : Nat → Bool) (m : Nat → Nat → Int) : Nat → Int
 | 0 => 0
 | k + 1 => if errAll neg m k = 0 then errArg (neg k) (m k 0) (m k 1) (m k 2) (m k 3) else errAll neg m k
theorem errAll_some {neg : Nat → Bool} {m : Nat → Nat → Int} {k n : Nat} (hk : k < n) (h0 : errAll neg m k = 0) (h : errArg (neg k) (m k 0) (m k 1) (m k 2) (m k 3) ≠ 0) :
 errAll neg m n = errArg (neg k) (m k 0) (m k 1) (m k 2) (m k 3) := by
 induction n with
 | zero => omega
 | succ n ih =>
   by_cases e : k = n
   ·subst e; rw [errAll, if_pos h0]
   ·rw [errAll, ih (by omega), if_neg h]
def IntsAt (w : World) (b o n : Nat) (neg : Nat → Bool) (m : Nat → Nat → Int) : Prop :=
 ∀ i, i < n → w.cell? ⟨b, o + i * 5, none⟩ = some (.bool (neg i)) ∧ w.cell? ⟨b, o + i * 5 + 1, none⟩ = some (.int .u64 (m i 0)) ∧ w.cell? ⟨b, o + i * 5 + 2, none⟩ = some (.int .u64 (m i 1)) ∧
  w.cell? ⟨b, o + i * 5 + 3, none⟩ = some (.int .u64 (m i 2)) ∧ w.cell? ⟨b, o + i * 5 + 4, none⟩ = some (.int .u64 (m i 3))
theorem IntsAt.below {w w1 : World} {b o n : Nat} {neg : Nat → Bool} {m : Nat → Nat → Int} (h : IntsAt w b o n neg m) (hb : Below w.heap.size w w1) (hlt : b < w.heap.size) : IntsAt w1 b o n neg m := by
 intro i hi
 have hc := (bcell hb).1
 rw [hc b _ hlt, hc b _ hlt, hc b _ hlt, hc b _ hlt, hc b _ hlt]
 exact h i hi
set_option maxHeartbeats 400000 in
theorem checkAll_any (neg : Nat → Bool) (m : Nat → Nat → Int) (n b o c : Nat) (w : World) (hn : n ≤ 1000000000000000000) (hlt : b < w.heap.size) (hx : IntsAt w b o n neg m) :
 Calls Tryz.prog 113 #[.slice (some ⟨b, o, none⟩) n c] w fun e w' => e = .returned (.int .i64 (errAll neg m n)) ∧ Below w.heap.size w w' := by
 go_enter Tryz.func113, Tryz.ntmps113
 have Hx := Lib.hid hx; clear hx
 go_wp2
 go_loopw [8] (fun i wr => ∃ k : Nat, k ≤ n ∧ i = .int .i64 k ∧ Hid (errAll neg m k = 0) ∧ Below w.heap.size w wr) (fun i _ => n - (intOf i).toNat)
 case atStart => exact ⟨0, Nat.zero_le _, rfl, Lib.hid rfl, Below.refl _ _⟩
 case round =>
  obtain ⟨k, hk, rfl, HO, hB⟩ := hrel
  by_cases hkn : k < n
  ·obtain ⟨c0, c1, c2, c3, c4⟩ := (Hx.out.below hB hlt) k hkn
   have hk1 : (k : Int) < n := by omega
   by_cases hc : errArg (neg k) (m k 0) (m k 1) (m k 2) (m k 3) = 0
   ·have HO' : Hid (errAll neg m (k + 1) = 0) := Lib.hid (by rw [errAll, if_pos HO.out, hc])
    go_wp2_with fail
    refine (check_any _ _ _ _ _ _).mono ?_
    rintro e w1 ⟨rfl, hb1⟩
    rw [hc]; clear hc
    go_wp2
    go_roundw
    case rel => exact ⟨k + 1, by omega, by go_num, HO', (hB.alloc hB.size _).trans (hb1.mono (by simp; have := hB.size; omega))⟩
    case measure => simp [intOf]; omega
   ·have HO' : Hid (errAll neg m n = errArg (neg k) (m k 0) (m k 1) (m k 2) (m k 3)) := Lib.hid (errAll_some hkn HO.out hc)
    have hne : (errArg (neg k) (m k 0) (m k 1) (m k 2) (m k 3) != 0) = true := by simpa using hc
    clear hc
    go_wp2_with fail
    refine (check_any _ _ _ _ _ _).mono ?_
    rintro e w1 ⟨rfl, hb1⟩
    go_wp2
    go_ret
    exact ⟨by rw [HO'.out]; rfl, (hB.alloc hB.size _).trans (hb1.mono (by simp; have := hB.size; omega))⟩
  ·have hkn' : k = n := by omega
   have HN : Hid (errAll neg m n = 0) := Lib.hid (by rw [← hkn']; exact HO.out)
   clear hkn'
   go_wp2
   go_ret
   exact ⟨by rw [HN.out]; rfl, hB⟩
def sizeF (a b c d : Int) : Int := if d = 0 then (if c = 0 then (if b = 0 then (if a = 0 then 0 else 1) else 2) else 3) else 4
set_option maxHeartbeats 400000 in
theorem size_any (a b c d : Int) (w : World) :
 Calls Tryz.prog 155 #[wv a b c d] w fun e w' => e = .returned (.int .i64 (sizeF a b c d)) ∧ Below w.heap.size w w' := by
 by_cases hd : d = 0
 ·subst hd
  by_cases hc : c = 0
  ·subst hc
   by_cases hb : b = 0
   ·subst hb
    by_cases ha : a = 0
    ·subst ha
     rw [show sizeF 0 0 0 0 = 0 from rfl]
     go_enter Tryz.func155, Tryz.ntmps155
     go_wp2
     refine wp_loop_rounds 5 ?_
     iterate 5 (rw [rounds_succ]; go_wp2)
     go_ret
     exact ⟨rfl, (Below.refl _ _).alloc (Nat.le_refl _) _⟩
    ·have H := Lib.hid (show sizeF a 0 0 0 = 1 by simp [sizeF, ha])
     have hd' : (a == 0) = false := by simpa using ha
     clear ha
     go_enter Tryz.func155, Tryz.ntmps155
     go_wp2
     refine wp_loop_rounds 4 ?_
     iterate 4 (rw [rounds_succ]; go_wp2)
     go_ret
     exact ⟨by rw [H.out]; rfl, (Below.refl _ _).alloc (Nat.le_refl _) _⟩
   ·have H := Lib.hid (show sizeF a b 0 0 = 2 by simp [sizeF, hb])
    have hd' : (b == 0) = false := by simpa using hb
    clear hb
    go_enter Tryz.func155, Tryz.ntmps155
    go_wp2
    refine wp_loop_rounds 3 ?_
    iterate 3 (rw [rounds_succ]; go_wp2)
    go_ret
    exact ⟨by rw [H.out]; rfl, (Below.refl _ _).alloc (Nat.le_refl _) _⟩
  ·have H := Lib.hid (show sizeF a b c 0 = 3 by simp [sizeF, hc])
   have hd' : (c == 0) = false := by simpa using hc
   clear hc
   go_enter Tryz.func155, Tryz.ntmps155
   go_wp2
   refine wp_loop_rounds 2 ?_
   iterate 2 (rw [rounds_succ]; go_wp2)
   go_ret
   exact ⟨by rw [H.out]; rfl, (Below.refl _ _).alloc (Nat.le_refl _) _⟩
 ·have H := Lib.hid (show sizeF a b c d = 4 by simp [sizeF, hd])
  have hd' : (d == 0) = false := by simpa using hd
  clear hd
  go_enter Tryz.func155, Tryz.ntmps155
  go_wp2
  refine wp_loop_rounds 1 ?_
  rw [rounds_succ]
  go_wp2
  go_ret
  exact ⟨by rw [H.out]; rfl, (Below.refl _ _).alloc (Nat.le_refl _) _⟩
end Go.Proofs.YtcabndpmfkimgaaGreatDoor
namespace Go.Proofs.YtcabndpmfkimgaaGreatDoor
open Go.RowKit
set_option maxHeartbeats 400000 in
theorem div64_small (a y : Int) (w : World) (ha : 0 ≤ a) (hb : a < 18446744073709551616) (hy : 1 ≤ y) (hy2 : y < 18446744073709551616) :
 Calls Tryz.prog 172 #[.int .u64 0, .int .u64 a, .int .u64 y] w fun e w' => e = .returned (.tuple #[.int .u64 (a / y), .int .u64 (a % y)]) ∧ ∃ k, w' = w.drewN k := by
 go_enter Tryz.func172, Tryz.ntmps172
 go_wp2
 go_quiet (fail)
 go_wp2
 go_ret2
 exact ⟨rfl, _, rfl⟩
end Go.Proofs.YtcabndpmfkimgaaGreatDoor
namespace Go.Proofs.YtcabndpmfkimgaaGreatDoor
open Go.RowKit
def ordW (a b c d a' b' c' d' : Int) : Int := if cmpI d d' = 0 then (if cmpI c c' = 0 then (if cmpI b b' = 0 then cmpI a a' else cmpI b b') else cmpI c c') else cmpI d d'
def row4 (a b c d : Int) : Nat → Int
 | 0 => a
 | 1 => b
 | 2 => c
 | _ => d
theorem ordF_row4 (a b c d a' b' c' d' : Int) : ordF (row4 a b c d) (row4 a' b' c' d') 4 = ordW a b c d a' b' c' d' := by
 simp only [ordF, row4, ordW]
 by_cases h : cmpI a a' = 0 <;> simp [h]
theorem order_words (a b c d a' b' c' d' : Int) (p q k k' : Nat) (w : World)
 (h0 : w.cell? ⟨p, 0, none⟩ = some (.int .u64 a)) (h1 : w.cell? ⟨p, 1, none⟩ = some (.int .u64 b)) (h2 : w.cell? ⟨p, 2, none⟩ = some (.int .u64 c)) (h3 : w.cell? ⟨p, 3, none⟩ = some (.int .u64 d))
 (g0 : w.cell? ⟨q, 0, none⟩ = some (.int .u64 a')) (g1 : w.cell? ⟨q, 1, none⟩ = some (.int .u64 b')) (g2 : w.cell? ⟨q, 2, none⟩ = some (.int .u64 c')) (g3 : w.cell? ⟨q, 3, none⟩ = some (.int .u64 d')) :
 Calls Tryz.prog 114 #[.slice (some ⟨p, 0, none⟩) 4 k, .slice (some ⟨q, 0, none⟩) 4 k'] w fun e w' => e = .returned (.int .i64 (ordW a b c d a' b' c' d')) ∧ ∃ k, w' = w.drewN k := by
 rw [← ordF_row4]
 refine order_any _ _ 4 p 0 q 0 k k' w (by omega) (fun i hi => ?_) (fun i hi => ?_)
 ·match i, hi with
  | 0, _ => exact h0
  | 1, _ => exact h1
  | 2, _ => exact h2
  | 3, _ => exact h3
 ·match i, hi with
  | 0, _ => exact g0
  | 1, _ => exact g1
  | 2, _ => exact g2
  | 3, _ => exact g3
end Go.Proofs.YtcabndpmfkimgaaGreatDoor
