import Derived.Test.YtongeeggaigepaaGreatDoorZKkBase
import Derived.Test.YtongeeggaigepaaGreatDoorZKkCar
import Derived.Test.YtongeeggaigepaaGreatDoorZKkE
import Derived.Deep.MidRow
namespace Go.Proofs.YtongeeggaigepaaGreatDoor
open Go.RowKit
def AggTy (P : Program) (ty : TypeId) (n : Nat) : Prop := (∃ d, P.underlying ty = some d ∧ d.isRow = true) ∧ (P.info? ty).map (·.size) = some n
def OneC (cs : Array Value) : Prop := cs.all (·.oneCell') = true
theorem Row.range {w : World} {b : Nat} {vs : List Value} (h : Row w b vs) (o : Nat) (cs : List Value) (hs : ∀ j v, cs[j]? = some v → vs[o + j]? = some v) : w.rangeAt b o cs :=
 fun j v hv => h.c _ (hs j v hv)
theorem Row.whole {w : World} {b : Nat} {cs : Array Value} (h : Row w b cs.toList) : w.rangeAt b 0 cs.toList := fun j v hv => by
 rw [Nat.zero_add]; exact h.c j hv
theorem Row.there {w : World} {b : Nat} {vs : List Value} (h : Row w b vs) (o n : Nat) (hn : o + n ≤ vs.length) : w.there b o n := fun j hj => by
 have hv := List.getElem?_eq_getElem (l := vs) (i := o + j) (by omega)
 exact ⟨by rw [h.c _ hv]; rfl, h.f _ hv⟩
section
variable {P : Program} {ops : Array Oper} {rest : List Oper} {op : Oper} {a : Act} {w : World} {Q : Exit → Act → World → Prop}
theorem wpList_load_M (hgd : op.guard = none) (ty : TypeId) (x : Operand) (ho : op.op = .load ty x) (b o : Nat) (hx : a.eval x = .pointer (some ⟨b, o, none⟩)) (cs : Array Value) (h : w.rangeAt b o cs.toList) (hT : AggTy P ty cs.size)
 (k : wpList P ops Q rest (a.put op.dst (.agg cs)) w) : wpList P ops Q (op :: rest) a w := by
 obtain ⟨⟨d, hu, hd⟩, hi⟩ := hT
 exact wpList_load_mid hgd ty x ho b o hx cs.toList d h hu hd (by simpa using hi) (by simpa using k)
theorem wpList_load_R (hgd : op.guard = none) (ty : TypeId) (x : Operand) (ho : op.op = .load ty x) (b : Nat) (hx : a.eval x = .pointer (some ⟨b, 0, none⟩)) (cs : Array Value) (h : Row w b cs.toList) (hT : AggTy P ty cs.size)
 (k : wpList P ops Q rest (a.put op.dst (.agg cs)) w) : wpList P ops Q (op :: rest) a w :=
 wpList_load_M hgd ty x ho b 0 hx cs h.whole hT k
theorem On.setCells (w : World) (b : Nat) : ∀ (vs : List Value) (o : Nat) (w' : World), On w w' b → On w (w'.setCells b o vs) b
 | [], _, _, h => h
 | v :: r, o, _, h => On.setCells w b r (o + 1) _ (h.put o v)
theorem Row.putAll {b : Nat} {us : List Value} (h : Row w b us) (cs : List Value) (hl : us.length = cs.length) : Row (w.setCells b 0 cs) b cs := by
 refine ⟨by rw [(On.setCells w b cs 0 w (On.refl w b)).size]; exact h.lt, fun i v hv => ⟨?_, ?_⟩⟩
 ·have hi : i < cs.length := (List.getElem?_eq_some_iff.1 hv).1
  have := World.cell?_setCells_in b cs 0 w (fun j hj => by
   have hu := List.getElem?_eq_getElem (l := us) (i := 0 + j) (by omega)
   rw [h.c _ hu]; rfl) i hi
  rw [Nat.zero_add] at this
  rw [this, ← hv, List.getElem?_eq_getElem hi]
 ·rw [World.frozen?_setCells]
  have hi : i < cs.length := (List.getElem?_eq_some_iff.1 hv).1
  exact h.f i (List.getElem?_eq_getElem (l := us) (i := i) (by omega))
theorem stored_all {b : Nat} {us : List Value} (h : Row w b us) (cs : Array Value) (hl : us.length = cs.size) (h1 : OneC cs) : (storeCells ⟨b, 0, none⟩ cs.toList 0).run P w = .ok () (w.setCells b 0 cs.toList) := by
 have ht := h.there 0 cs.size (by omega)
 have := run_storeCells_cells (P := P) b 0 cs.toList 0 w (fun j hj => by simpa using (ht j (by simpa using hj)).1) (fun j hj => by simpa using (ht j (by simpa using hj)).2)
  (fun v hv => (Array.all_eq_true_iff_forall_mem.1 h1) v (by simpa using hv))
 exact this
theorem wpList_store_R (hgd : op.guard = none) (ty : TypeId) (x y : Operand) (ho : op.op = .store ty x y) (b : Nat) (cs : Array Value) (hx : a.eval x = .pointer (some ⟨b, 0, none⟩)) (hy : a.eval y = .agg cs) (us : List Value) (h : Row w b us)
 (hl : us.length = cs.size) (hT : AggTy P ty cs.size) (h1 : OneC cs)
 (k : ∀ w', Row w' b cs.toList → On w w' b → wpList P ops Q rest (a.put op.dst undef) w') : wpList P ops Q (op :: rest) a w :=
 wpList_store_mid hgd ty x y ho b 0 cs hx hy (h.there 0 cs.size (by omega)) hT.2 h1 (k _ (h.putAll cs.toList (by simpa using hl)) (On.setCells w b _ 0 w (On.refl w b)))
end
theorem below_on {B b : Nat} {a w w' : World} (h : Below B a w) (ho : On w w' b) (hb : B ≤ b) : Below B a w' := h.trans ((ho.below (Nat.le_refl b)).mono hb)
section
variable {P : Program} {fn : Func} {p u q : Tmp} {ty ty2 : TypeId} {tmps : Array Value} {w : World} {b : Nat} {cs : Array Value}
theorem loadVar_R (h : Row w b cs.toList) (hT : AggTy P ty cs.size) : (loadVar ty ⟨b, 0, none⟩).run P w = .ok (.agg cs) w := by
 obtain ⟨⟨d, hu, hd⟩, hi⟩ := hT
 have := run_loadVar_mid (P := P) w b 0 ty cs.toList d h.whole hu hd (by simpa using hi)
 simpa using this
theorem results_R1 (hf : fn.results = #[.cell p ty]) (hp : tmps.getD p undef = .pointer (some ⟨b, 0, none⟩)) (h : Row w b cs.toList) (hT : AggTy P ty cs.size) : (results fn tmps).run P w = .ok (.agg cs) w := by
 have hp' : tmps[p]?.getD undef = .pointer (some ⟨b, 0, none⟩) := by simpa using hp
 simp [results, hf, hp', asAddr, loadVar_R h hT]
theorem results_R2 (hf : fn.results = #[.cell p ty, .tmp u]) (hp : tmps.getD p undef = .pointer (some ⟨b, 0, none⟩)) (h : Row w b cs.toList) (hT : AggTy P ty cs.size) : (results fn tmps).run P w = .ok (.tuple #[.agg cs, tmps.getD u undef]) w := by
 have hp' : tmps[p]?.getD undef = .pointer (some ⟨b, 0, none⟩) := by simpa using hp
 simp [results, hf, hp', asAddr, loadVar_R h hT]
end
def Th (w : World) (b n : Nat) : Prop := b < w.heap.size ∧ ∀ j, j < n → (w.cell? ⟨b, j, none⟩).isSome = true ∧ w.frozen? ⟨b, j, none⟩ = false
theorem Row.th {w : World} {b n : Nat} {vs : List Value} (h : Row w b vs) (hn : n = vs.length) : Th w b n := by
 subst hn
 exact ⟨h.lt, fun j hj => ⟨by rw [h.c j (List.getElem?_eq_getElem hj)]; rfl, h.f j (List.getElem?_eq_getElem hj)⟩⟩
theorem Th.row_of {w : World} {b n : Nat} (h : Th w b n) : ∃ vs : List Value, vs.length = n ∧ Row w b vs := by
 refine ⟨(List.range n).map fun j => (w.cell? ⟨b, j, none⟩).getD undef, by simp, h.1, fun i v hv => ?_⟩
 have hi : i < n := by
  have := (List.getElem?_eq_some_iff.1 hv).1
  simpa using this
 obtain ⟨u, hu⟩ := Option.isSome_iff_exists.1 (h.2 i hi).1
 refine ⟨?_, (h.2 i hi).2⟩
 simp [hi, hu] at hv
 rw [hu, hv]
theorem Th.set {w : World} {b n : Nat} (h : Th w b n) (p : Addr) (v : Value) : Th (w.setCell p v) b n :=
 ⟨by simpa [World.setCell] using h.1, fun j hj => ⟨by rw [isSome_setCell]; exact (h.2 j hj).1, by rw [World.frozen?_setCell]; exact (h.2 j hj).2⟩⟩
theorem Th.of_set {w : World} {b n : Nat} {p : Addr} {v : Value} (h : Th (w.setCell p v) b n) : Th w b n :=
 ⟨by have := h.1; simpa [World.setCell] using this, fun j hj => ⟨by rw [← isSome_setCell w p ⟨b, j, none⟩ v]; exact (h.2 j hj).1, by rw [← World.frozen?_setCell w p ⟨b, j, none⟩ v]; exact (h.2 j hj).2⟩⟩
theorem Th.sets {b n c : Nat} : ∀ (vs : List Value) (o : Nat) {w : World}, Th w b n → Th (w.setCells c o vs) b n
 | [], _, _, h => h
 | v :: r, o, _, h => Th.sets r (o + 1) (h.set ⟨c, o, none⟩ v)
theorem Th.of_sets {b n c : Nat} : ∀ (vs : List Value) (o : Nat) {w : World}, Th (w.setCells c o vs) b n → Th w b n
 | [], _, _, h => h
 | _ :: r, o, _, h => (Th.of_sets r (o + 1) h).of_set
theorem Th.after {w w1 : World} {b n : Nat} (h : Th w b n) (hb : Below w.heap.size w w1) : Th w1 b n := by
 obtain ⟨vs, hl, hr⟩ := h.row_of
 exact (hr.after hb).th hl.symm
theorem Th.drew {w : World} {b n : Nat} (h : Th w b n) : Th w.drew b n := h
theorem Th.row {w : World} {b n : Nat} (h : Th w b n) (cs : List Value) (hn : cs.length = n) : Row (w.setCells b 0 cs) b cs := by
 obtain ⟨vs, hl, hr⟩ := h.row_of
 exact hr.putAll cs (by omega)
theorem Th.store {P : Program} {w : World} {b n : Nat} (h : Th w b n) (cs : Array Value) (hn : cs.size = n) (h1 : OneC cs) : (storeCells ⟨b, 0, none⟩ cs.toList 0).run P w = .ok () (w.setCells b 0 cs.toList) := by
 obtain ⟨vs, hl, hr⟩ := h.row_of
 exact stored_all hr cs (by omega) h1
def KS (w : World) (L : List (Nat × Array Value)) (W : World) : Prop := (∀ p, p ∈ L → Row W p.1 p.2.toList) ∧ Below w.heap.size w W
section
variable {w W W1 : World} {L : List (Nat × Array Value)}
theorem KS.drew (h : KS w L W) : KS w L W.drew := ⟨fun p hp => (h.1 p hp).drew, h.2.drew⟩
theorem KS.after (h : KS w L W) (hb : Below W.heap.size W W1) : KS w L W1 := ⟨fun p hp => (h.1 p hp).after hb, h.2.trans (hb.mono h.2.size)⟩
theorem KS.alloc (h : KS w L W) (o : Obj) : KS w L (W.alloc o) := h.after ((Below.refl _ _).alloc (Nat.le_refl _) o)
theorem KS.row (h : KS w L W) (k : Nat) {b : Nat} {cs : Array Value} (hk : L[k]? = some (b, cs)) : Row W b cs.toList := h.1 (b, cs) (List.mem_of_getElem? hk)
theorem KS.c (h : KS w L W) (k : Nat) {b : Nat} {cs : Array Value} (hk : L[k]? = some (b, cs)) (i : Nat) {v : Value} (hv : cs[i]? = some v) : W.cell? ⟨b, i, none⟩ = some v := (h.row k hk).c i (by simpa using hv)
theorem KS.nil (w : World) : KS w [] w := ⟨fun _ hp => absurd hp (by simp), Below.refl _ _⟩
theorem KS.more (h : KS w L W) {b : Nat} {cs : Array Value} (hr : Row W b cs.toList) : KS w (L ++ [(b, cs)]) W :=
 ⟨fun p hp => by
  rcases List.mem_append.1 hp with h1 | h1
  ·exact h.1 p h1
  ·obtain rfl := List.mem_singleton.1 h1
   exact hr, h.2⟩
theorem KS.boxed (h : KS w L W) {k : Nat} (hk : k = W.heap.size) (cs : Array Value) (t : TypeId) : KS w (L ++ [(k, cs)]) (W.alloc (.cells cs t)) := by
 subst hk; exact (h.alloc _).more (Row.at rfl _ _)
def KT (w : World) (L : List (Nat × Array Value)) (M : List (Nat × Nat)) (W : World) : Prop := KS w L W ∧ ∀ p, p ∈ M → Th W p.1 p.2 ∧ w.heap.size ≤ p.1 ∧ ∀ q, q ∈ L → q.1 ≠ p.1
variable {M : List (Nat × Nat)}
theorem KT.drew (h : KT w L M W) : KT w L M W.drew := ⟨h.1.drew, fun p hp => ⟨(h.2 p hp).1.drew, (h.2 p hp).2⟩⟩
theorem KT.after (h : KT w L M W) (hb : Below W.heap.size W W1) : KT w L M W1 := ⟨h.1.after hb, fun p hp => ⟨(h.2 p hp).1.after hb, (h.2 p hp).2⟩⟩
theorem KT.alloc (h : KT w L M W) (o : Obj) : KT w L M (W.alloc o) := h.after ((Below.refl _ _).alloc (Nat.le_refl _) o)
theorem KT.c (h : KT w L M W) (k : Nat) {b : Nat} {cs : Array Value} (hk : L[k]? = some (b, cs)) (i : Nat) {v : Value} (hv : cs[i]? = some v) : W.cell? ⟨b, i, none⟩ = some v := h.1.c k hk i hv
theorem KT.put (h : KT w L M W) {b n : Nat} (hm : (b, n) ∈ M) (cs : List Value) : KT w L M (W.setCells b 0 cs) := by
 have hq := h.2 (b, n) hm
 have ho := On.setCells W b cs 0 W (On.refl W b)
 exact ⟨⟨fun p hp => ho.row (hq.2.2 p hp) (h.1.1 p hp), h.1.2.trans ((ho.below (Nat.le_refl b)).mono hq.2.1)⟩, fun p hp => ⟨(h.2 p hp).1.sets cs 0, (h.2 p hp).2⟩⟩
theorem KT.of (h : KS w L W) : KT w L [] W := ⟨h, fun _ hp => absurd hp (by simp)⟩
theorem KT.open (h : KT w L M W) {b n : Nat} (ht : Th W b n) (hb : w.heap.size ≤ b) (hq : ∀ q, q ∈ L → q.1 ≠ b) : KT w L (M ++ [(b, n)]) W :=
 ⟨h.1, fun p hp => by
  rcases List.mem_append.1 hp with h1 | h1
  ·exact h.2 p h1
  ·obtain rfl := List.mem_singleton.1 h1
   exact ⟨ht, hb, hq⟩⟩
theorem KT.made (h : KT w L M W) {k n : Nat} (hk : k = W.heap.size) (cs : Array Value) (t : TypeId) (hn : n = cs.size) : KT w L (M ++ [(k, n)]) (W.alloc (.cells cs t)) := by
 subst hk
 refine (h.alloc _).open ((Row.at rfl cs.toList t).th (by simpa using hn)) h.1.2.size (fun q hq => ?_)
 have := (h.1.1 q hq).lt
 omega
theorem KT.put_row {b n : Nat} {cs : List Value} (h : KT w L M (W.setCells b 0 cs)) (hm : (b, n) ∈ M) (hn : cs.length = n) : Row (W.setCells b 0 cs) b cs := ((h.2 _ hm).1.of_sets cs 0).row cs hn
end
theorem AggTy.of {P : Program} {ty : TypeId} {n : Nat} (d : TypeDesc) (hu : P.underlying ty = some d) (hd : d.isRow = true) (hi : (P.info? ty).map (·.size) = some n) : AggTy P ty n := ⟨⟨d, hu, hd⟩, hi⟩
theorem aggRat : AggTy Tryz.prog 44 10 := .of _ Tryz.underlying44 rfl (by kernel_rfl)
end Go.Proofs.YtongeeggaigepaaGreatDoor
