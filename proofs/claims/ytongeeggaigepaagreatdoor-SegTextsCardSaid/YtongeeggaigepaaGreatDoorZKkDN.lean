import Derived.Test.YtongeeggaigepaaGreatDoorZKkBX
import Derived.Deep.AppendLies
import Derived.Deep.RegionLaw
namespace Go.Proofs.YtongeeggaigepaaGreatDoor
open Go.RowKit
theorem ownsRow_below {w w' : World} {base : Nat} {e : TypeId} {size : Nat} {v : Value} {n : Nat} {xs : List Value} (h : w.ownsRow base e size v n xs) (hb : Below w.heap.size w w') : w'.ownsRow base e size v n xs := by
 obtain ⟨h1, h2⟩ := h
 refine ⟨h1, ?_⟩
 rcases h2 with h2 | ⟨g, cap, cur, hv, hg, hh, r⟩
 ·exact Or.inl h2
 ·exact Or.inr ⟨g, cap, cur, hv, hg, (hb.block g (Array.getElem?_eq_some_iff.mp hh).1).trans hh, r⟩
theorem ownsRow_at {w : World} {base : Nat} {e : TypeId} {v : Value} {n : Nat} {xs : List Value} (h : w.ownsRow base e 1 v n xs) (hn : 0 < n) :
 ∃ g cap, v = .slice (some ⟨g, 0, none⟩) n cap ∧ base ≤ g ∧ g < w.heap.size ∧ ∀ i u, xs[i]? = some u → w.cell? ⟨g, i, none⟩ = some u := by
 obtain ⟨hl, ho⟩ := h
 rcases ho with ⟨hv, h0⟩ | ⟨g, cap, cur, hv, hbs, hg, hn, _, hs, ht⟩
 ·omega
 ·refine ⟨g, cap, hv, hbs, (Array.getElem?_eq_some_iff.mp hg).1, fun i u hu => ?_⟩
  have hi : i < n := by
   have := (List.getElem?_eq_some_iff.1 hu).1
   omega
  rw [← ht, List.getElem?_take, if_pos (by omega)] at hu
  simp [World.cell?, hg]
  simpa using hu
theorem DS.grown {W W2 : World} {m : Nat} {A : Option Addr} {row : Option Nat} (h : DS W m A) (hg : W.grownBy W2 row) (hne : ∀ p, A = some p → 0 < L16 m → some p.block ≠ row) : DS W2 m A := fun hm => by
 obtain ⟨b, e, hl, hc⟩ := h hm
 exact ⟨b, e, Nat.lt_of_lt_of_le hl hg.size, fun i hi => hg.cell (a := ⟨b, i, none⟩) (hc i hi) (hne ⟨b, 0, none⟩ e hm)⟩
theorem DS.apart {W : World} {m g : Nat} {A : Option Addr} {a : Option Addr} {n c : Nat} (h : DS W m A) (hc : W.cell? ⟨g, 0, none⟩ = some (.slice a n c)) : ∀ p, A = some p → 0 < L16 m → p.block ≠ g := fun p hp hm => by
 obtain ⟨b, e, hl, hx⟩ := h hm
 rintro rfl
 rw [e] at hp
 cases hp
 have := hx 0 hm
 rw [hc] at this
 cases this
def DbF (b k : Nat) (es : List Value) (W : World) : Prop := ∀ i, i < k → ∃ A c, es[i]? = some (.slice A (L16 (b * 2 ^ i)) c) ∧ DS W (b * 2 ^ i) A
def D1 (w : World) (b : Nat) (xs ys : List Value) (k : Nat) (v : Value) (es : List Value) (W : World) : Prop :=
 QB w xs ys [.bool false, .slice none 0 0] [.bool false, .slice none 0 0] W ∧ W.ownsRow (w.heap.size + 4) 51 1 v k es ∧ DbF b k es W ∧ 0 < k
section
variable {w W W1 W2 : World} {b k : Nat} {xs ys es : List Value} {v v' : Value}
theorem QB.size (h : QB w xs ys [.bool false, .slice none 0 0] [.bool false, .slice none 0 0] W) : w.heap.size + 4 ≤ W.heap.size := h.2.2.2.1.lt
theorem D1.after (h : D1 w b xs ys k v es W) (hb : Below W.heap.size W W1) : D1 w b xs ys k v es W1 :=
 ⟨h.1.after hb, ownsRow_below h.2.1 hb, fun i hi => by
  obtain ⟨A, c, h1, h2⟩ := h.2.2.1 i hi
  exact ⟨A, c, h1, h2.below hb⟩, h.2.2.2⟩
theorem QB.grown {us vs : List Value} (h : QB w xs ys us vs W) (hg : W.grownBy W1 v.ownBlock) (hb : ∀ j, v.ownBlock = some j → w.heap.size + 4 ≤ j) (hs : w.heap.size ≤ W.heap.size) : QB w xs ys us vs W1 := by
 have hne : ∀ j, j < w.heap.size + 4 → some j ≠ v.ownBlock := fun j hj e => by have := hb j e.symm; omega
 exact ⟨h.1.grown hg (hne _ (by omega)), h.2.1.grown hg (hne _ (by omega)), h.2.2.1.grown hg (hne _ (by omega)), h.2.2.2.1.grown hg (hne _ (by omega)), h.2.2.2.2.grown hg hs (fun j hj => by have := hb j hj; omega)⟩
theorem D1.step (h : D1 w b xs ys k v es W) {A : Option Addr} {c : Nat} (hd : DS W (b * 2 ^ k) A)
 (hown : W2.ownsRow (w.heap.size + 4) 51 1 v' (k + 1) (es ++ [.slice A (L16 (b * 2 ^ k)) c])) (hg : (W.alloc (.cells #[.slice A (L16 (b * 2 ^ k)) c] 51)).grownBy W2 v.ownBlock) :
 D1 w b xs ys (k + 1) v' (es ++ [.slice A (L16 (b * 2 ^ k)) c]) W2 := by
 have hlen : es.length = k := by have := h.2.1.1; omega
 obtain ⟨g, cap, rfl, hgb, hgl, hat⟩ := ownsRow_at h.2.1 h.2.2.2
 obtain ⟨A0, c0, h01, _⟩ := h.2.2.1 0 h.2.2.2
 have hc0 := hat 0 _ h01
 have key : ∀ m B, DS W m B → DS W2 m B := fun m B hB => (hB.below ((Below.refl _ _).alloc (Nat.le_refl _) _)).grown hg (fun p hp hm e => by
  have := hB.apart hc0 p hp hm
  simp [Value.ownBlock] at e
  exact this e)
 refine ⟨(h.1.alloc _).grown hg (fun j hj => by simp [Value.ownBlock] at hj; omega) (by have := h.1.2.2.2.2.size; simp; omega), hown, fun i hi => ?_, by omega⟩
 by_cases e : i < k
 ·obtain ⟨B, d, h1, h2⟩ := h.2.2.1 i e
  exact ⟨B, d, by rw [List.getElem?_append_left (by omega)]; exact h1, key _ _ h2⟩
 ·obtain rfl : i = k := by omega
  exact ⟨A, c, by rw [List.getElem?_append_right (by omega), hlen]; simp, key _ _ hd⟩
end
def Q2 (w : World) (b : Nat) (xs ys : List Value) (g N Bq : Nat) (qf : Nat → Nat) (W : World) : Prop :=
 QB w xs ys [.bool false, .slice none 0 0] [.bool false, .slice none 0 0] W ∧ (∀ i, i < 16 → ∃ A c, W.cell? ⟨g, i, none⟩ = some (.slice A (L16 (b * 2 ^ i)) c) ∧ DS W (b * 2 ^ i) A ∧ ∀ p, A = some p → 0 < L16 (b * 2 ^ i) → p.block < Bq) ∧ g < Bq ∧ w.heap.size + 4 ≤ g ∧ RF W Bq N qf
def RV (Bq rv : Nat) (v : Value) (W : World) : Prop := ∃ A c, v = .slice A (L16 rv) c ∧ L16 rv ≤ c ∧ DS W rv A ∧ ∀ p, A = some p → Bq < p.block
section
variable {w W W1 : World} {b g N Bq rv : Nat} {xs ys : List Value} {qf qf' : Nat → Nat} {v : Value}
theorem RF.after (h : RF W Bq N qf) (hb : Below W.heap.size W W1) : RF W1 Bq N qf :=
 ⟨Nat.lt_of_lt_of_le h.1 hb.size, fun i hi => ⟨(hb.cell (p := ⟨Bq, i, none⟩) h.1).trans (h.2 i hi).1, (hb.frozen (p := ⟨Bq, i, none⟩) h.1).trans (h.2 i hi).2⟩⟩
theorem Q2.after (h : Q2 w b xs ys g N Bq qf W) (hb : Below W.heap.size W W1) : Q2 w b xs ys g N Bq qf W1 :=
 ⟨h.1.after hb, fun i hi => by
  obtain ⟨A, c, h1, h2, h3⟩ := h.2.1 i hi
  exact ⟨A, c, (hb.cell (p := ⟨g, i, none⟩) (Nat.lt_trans h.2.2.1 h.2.2.2.2.1)).trans h1, h2.below hb, h3⟩, h.2.2.1, h.2.2.2.1, h.2.2.2.2.after hb⟩
theorem Q2.drewN (h : Q2 w b xs ys g N Bq qf W) (k : Nat) : Q2 w b xs ys g N Bq qf (W.drewN k) := h.after (below_drewN (Below.refl _ _) k)
theorem Q2.alloc (h : Q2 w b xs ys g N Bq qf W) (o : Obj) : Q2 w b xs ys g N Bq qf (W.alloc o) := h.after ((Below.refl _ _).alloc (Nat.le_refl _) _)
theorem Q2.congr (h : Q2 w b xs ys g N Bq qf W) (hq : ∀ i, qf i = qf' i) : Q2 w b xs ys g N Bq qf' W := ⟨h.1, h.2.1, h.2.2.1, h.2.2.2.1, h.2.2.2.2.congr hq⟩
theorem Q2.put (h : Q2 w b xs ys g N Bq qf W) (j u : Nat) (hj : j < N) : Q2 w b xs ys g N Bq (fun i => if i = j then u else qf i) (W.setCell ⟨Bq, j, none⟩ (.int .i64 (u : Nat))) := by
 obtain ⟨⟨a1, a2, a3, a4, a5⟩, h2, h3, h4, h5⟩ := h
 refine ⟨⟨a1.other (p := ⟨Bq, j, none⟩) (by show Bq ≠ w.heap.size; omega) _, a2.other (p := ⟨Bq, j, none⟩) (by show Bq ≠ w.heap.size + 1; omega) _, a3.other (p := ⟨Bq, j, none⟩) (by show Bq ≠ w.heap.size + 1 + 1; omega) _, a4.other (p := ⟨Bq, j, none⟩) (by show Bq ≠ w.heap.size + 1 + 1 + 1; omega) _, below_put1 a5 (by omega) _ _⟩, fun i hi => ?_, h3, h4, h5.put j u hj⟩
 obtain ⟨A, c, e1, e2, e3⟩ := h2 i hi
 refine ⟨A, c, ?_, fun hm => (DS.set (fun _ => e2 hm) (q := ⟨Bq, j, none⟩) (fun p hp => by have := e3 p hp hm; show Bq ≠ p.block; omega) _) hm, e3⟩
 rw [World.cell?_setCell_other _ _ _ _ (fun e => by have := congrArg Addr.block e; simp at this; omega), e1]
theorem RV.after (h : RV Bq rv v W) (hb : Below W.heap.size W W1) : RV Bq rv v W1 := by
 obtain ⟨A, c, h1, h2, h3, h4⟩ := h
 exact ⟨A, c, h1, h2, h3.below hb, h4⟩
theorem RV.drewN (h : RV Bq rv v W) (k : Nat) : RV Bq rv v (W.drewN k) := h.after (below_drewN (Below.refl _ _) k)
theorem RV.put (h : RV Bq rv v W) (j : Nat) (u : Value) : RV Bq rv v (W.setCell ⟨Bq, j, none⟩ u) := by
 obtain ⟨A, c, h1, h2, h3, h4⟩ := h
 exact ⟨A, c, h1, h2, DS.set h3 (q := ⟨Bq, j, none⟩) (fun p hp => by have := h4 p hp; show Bq ≠ p.block; omega) _, h4⟩
end
theorem DS.cells {W : World} {m : Nat} {p : Addr} (h : DS W m (some p)) : ∀ j u, (digV m (L16 m))[j]? = some u → W.cell? (p.add j) = some u := fun j u hu => by
 have hj : j < L16 m := by
  have := (List.getElem?_eq_some_iff.1 hu).1
  rwa [digV_len] at this
 obtain ⟨b', e, _, hx⟩ := h (by omega)
 cases e
 rw [digV_at m hj] at hu
 have e0 : (⟨b', 0, none⟩ : Addr).add j = ⟨b', j, none⟩ := by unfold Addr.add; split <;> simp_all
 rw [e0, hx j hj]
 exact hu
end Go.Proofs.YtongeeggaigepaaGreatDoor

namespace Go.Proofs.YtongeeggaigepaaGreatDoor
open Go.RowKit
theorem infoSl : (Tryz.prog.info? 51).map (fun i => (i.zero, i.size, i.bytes)) = some (some (.slice none 0 0), 1, 24) := by kernel_rfl
theorem ownsRow_new {w : World} {base : Nat} (h : base ≤ w.heap.size) (e : TypeId) (u : Value) : (w.alloc (.cells #[u] e)).ownsRow base e 1 (.slice (some ⟨w.heap.size, 0, none⟩) 1 1) 1 [u] :=
 ⟨rfl, Or.inr ⟨w.heap.size, 1, #[u], rfl, h, heap_alloc_new w _, Nat.le_refl _, by unfold maxLen; decide, rfl, rfl⟩⟩
section
variable {w W W1 W2 : World} {b k : Nat} {xs ys es : List Value} {v v' : Value}
end
section
variable {w W W1 : World} {b g N Bq rv : Nat} {xs ys : List Value} {qf qf' : Nat → Nat} {v : Value}
end
theorem run_append_none {P : Program} (w : World) (base : Nat) (t ty e : TypeId) (i : TypeInfo) (size : Nat) (ht : P.underlying t = some (.slice e)) (hi : P.info? e = some i)
 (v : Value) (n : Nat) (xs : List Value) (hown : w.ownsRow base e size v n xs) (c : Nat) :
 (Builtin.append_ #[t, t] ty #[v, .slice none 0 c]).run P w = .ok v w := by
 rcases hown.2 with ⟨rfl, rfl⟩ | ⟨g, cap, cur, rfl, _, _, hnc, _⟩ <;>
  simp [Builtin.append_, run_underlying ht, sizeOf, typeInfo, Builtin.lenOf, Builtin.firstCells, storeCells, *]
theorem wpList_append_none {P : Program} (w : World) {ops : Array Oper} {rest : List Oper} {o : Oper} {a : Act} {Q : Exit → Act → World → Prop}
 (hg : o.guard = none) (s x : Operand) (t : TypeId) (hop : o.op = Op.call { callee := Callee.builtin Builtin.append, args := #[s, x], argTypes := #[t, t] })
 (base : Nat) (e : TypeId) (i : TypeInfo) (size : Nat) (h1 : P.underlying t = some (.slice e)) (h2 : P.info? e = some i)
 (v : Value) (n : Nat) (xs : List Value) (hs : a.eval s = v) (hown : w.ownsRow base e size v n xs) (c : Nat) (hx : a.eval x = .slice none 0 c)
 (hK : wpList P ops Q rest (a.put o.dst v) w) : wpList P ops Q (o :: rest) a w := by
 refine wpList_plain hg fun K hK' => ?_
 have hrun := run_append_none (P := P) w base t o.type e i size h1 h2 v n xs hown c
 unfold Oper.wp
 simp [execOp, hop, resolve, invoke, builtin, hs, hx, hrun, Result.andThen]
 exact hK' _ _ hK
theorem wrap64_small {x : Int} (h0 : 0 ≤ x) (h1 : x < 1000000) : wrap64 x = x := by simp only [wrap64]; omega
theorem wrap_sum (q l : Nat) (h : q + 2 ^ l < 65536) : wrap64 ((q : Int) + wrap64 (2 ^ l)) = ((q + 2 ^ l : Nat) : Int) := by
 have e1 : ((2 : Int) ^ l) = ((2 ^ l : Nat) : Int) := by simp
 rw [e1]
 generalize 2 ^ l = z at *
 rw [wrap64_small (x := (z : Int)) (by omega) (by omega), wrap64_small (by omega) (by omega)]
 simp
theorem D16_join (r d i : Nat) (hd : d < 65536) : D16 (r * 65536 + d) (i + 1) = D16 r i ∧ D16 (r * 65536 + d) 0 = d := by
 rw [D16_next, D16_first]
 constructor
 ·congr 1; omega
 ·omega
theorem L16_join (r d : Nat) (hd : d < 65536) : L16 (r * 65536 + d) ≤ 1 + L16 r := by
 apply L16_le
 rw [Nat.add_comm 1, Nat.pow_succ]
 have h := lt_L16 r
 generalize 65536 ^ L16 r = p at *
 omega
theorem join_form {W w3 : World} {r d : Nat} {v : Value} (hd : d < 65536) (h : PlS W (1 + L16 r) ([.int .i64 (d : Nat)] ++ digV r (L16 r)) v w3) :
 ∃ A c, v = .slice A (1 + L16 r) c ∧ 1 + L16 r ≤ c ∧ DR w3 (digR (r * 65536 + d)) (1 + L16 r) A ∧ ∀ p, A = some p → W.heap.size ≤ p.block :=
 h.form (fun i hi => by
  match i with
  | 0 => rw [digR, (D16_join r d 0 hd).2]; rfl
  | i + 1 =>
    rw [List.getElem?_append_right (by simp), show i + 1 - [Value.int .i64 (d : Nat)].length = i by simp, digV_at r (by omega), digR, digR, (D16_join r d i hd).1])
theorem digV_one (m : Nat) : ∀ k, ∀ u ∈ digV m k, u.oneCell' = true
 | 0, u, hu => by cases hu
 | k + 1, u, hu => by
   rw [digV] at hu
   rcases List.mem_append.1 hu with h | h
   ·exact digV_one m k u h
   ·obtain rfl := List.mem_singleton.1 h
    rfl
set_option maxRecDepth 100000 in
set_option maxHeartbeats 4000000 in
theorem quo_big (x y : Int) (A B : Option Addr) (c d : Nat) (w : World) (ha : DS w x.natAbs A) (hb : DS w y.natAbs B) (la : L16 x.natAbs ≤ 1000) (lb : L16 y.natAbs ≤ 1000) (hbig : ¬ (L16 x.natAbs ≤ 3 ∧ L16 y.natAbs ≤ 3)) (hy : y ≠ 0) :
 Calls Tryz.prog 82 #[bigv x A c, bigv y B d] w (QuoPost w (x.tdiv y) (x.tmod y)) := by
 obtain ⟨i0, hi, hz0, hz1, hz2⟩ := info_parts infoSl
 have hn0 : 0 < y.natAbs := by omega
 have S1 := tdiv_sign x y
 have S2 := tmod_sign x y
 have A1 := tdiv_abs x y
 have A2 := tmod_abs x y
 generalize x.tdiv y = Z1 at *
 generalize x.tmod y = Z2 at *
 have HO1 := Lib.hid (fun n A1 c1 W (h1 : DR W (digR (x.natAbs / y.natAbs)) n A1) (h2 : n ≤ c1) (h3 : L16 (x.natAbs / y.natAbs) ≤ n) (h4 : n ≤ 1000000) => of_z (!(decide (x < 0) == decide (y < 0))) (x.natAbs / y.natAbs) n A1 c1 Z1 W S1 h3 h4 h2 h1)
 have HO2 := Lib.hid (fun A1 c1 W (h1 : DS W (x.natAbs % y.natAbs) A1) (h2 : L16 (x.natAbs % y.natAbs) ≤ c1) (h3 : L16 (x.natAbs % y.natAbs) ≤ 1000000) => of_z (decide (x < 0)) (x.natAbs % y.natAbs) (L16 (x.natAbs % y.natAbs)) A1 c1 Z2 W S2 (Nat.le_refl _) h3 h2 h1)
 clear S1 S2
 unfold QuoPost
 simp only [bigv, A1, A2] at HO1 HO2 ⊢
 clear A1 A2 hy
 generalize decide (x < 0) = s at *
 generalize decide (y < 0) = t at *
 generalize decide (Z1 < 0) = s1 at *
 generalize decide (Z2 < 0) = s2 at *
 generalize x.natAbs = a at *
 generalize y.natAbs = b at *
 have HA := Lib.hid ha
 have HB := Lib.hid hb
 clear ha hb
 have hL0 : L16 (b * 2 ^ 0) = L16 b := by rw [Nat.pow_zero, Nat.mul_one]
 have HB0 : Hid (DS w (b * 2 ^ 0) B) := Lib.hid (by rw [Nat.pow_zero, Nat.mul_one]; exact HB.out)
 have HL := Lib.hid (fun k (hk : k < 16) => Nat.le_trans (L16_double (b := b) hk) (show L16 b + 1 ≤ 10000 by omega))
 have HP := Lib.hid (fun k A3 c3 W (hk : k < 16) (h : DS W (b * 2 ^ k) A3) => by
  have h1 := plus_z (b * 2 ^ k) (b * 2 ^ k) A3 A3 c3 c3 W h h (HL.out k hk) (HL.out k hk)
  rw [show b * 2 ^ k + b * 2 ^ k = b * 2 ^ (k + 1) by rw [Nat.pow_succ, ← Nat.mul_assoc]; omega] at h1
  exact h1)
 unfold SlPost at HP
 have hbi : ¬ (((L16 a : Nat) : Int) ≤ 3 ∧ ((L16 b : Nat) : Int) ≤ 3) := by omega
 clear hbig
 rw [← hL0] at *
 have HL0 := Lib.hid hL0
 clear hL0
 generalize hna : L16 a = n at *
 generalize hmb : L16 (b * 2 ^ 0) = m at *
 have HNA := Lib.hid hna
 have HMB := Lib.hid hmb
 clear hna hmb
 go_enter Tryz.func82, Tryz.ntmps82
 go_upto_region 1 with fail
 have hQ := QB.first w s t A B n m c d 53 53 53 53
 generalize World.alloc _ _ = W0 at hQ ⊢
 have HQ := Lib.hid hQ
 have i1 := hQ.1.c 1 rfl
 have j1 := hQ.2.1.c 1 rfl
 clear hQ
 go_cut [23] from 14 (fun q wx => q = .bool false ∧ wx = W0)
 case first =>
  by_cases h3 : ((n : Nat) : Int) ≤ 3
  ·have h4 : ¬ ((m : Nat) : Int) ≤ 3 := by omega
   clear hbi
   go_wp2_with fail
   go_meet
   exact ⟨rfl, rfl⟩
  ·clear hbi
   go_wp2_with fail
   go_meet
   exact ⟨rfl, rfl⟩
 case rest =>
  obtain ⟨rfl, rfl⟩ := hcut
  clear hbi
  go_upto_block 0 with fail
  have hD : D1 w b [.bool s, .slice A n c] [.bool t, .slice B m d] 1 (.slice (some ⟨wc.heap.size, 0, none⟩) 1 1) [.slice B m d] (wc.alloc (.cells #[.slice B m d] 51)) :=
   ⟨HQ.out.alloc _, ownsRow_new HQ.out.size _ _, fun i hi => by
    obtain rfl : i = 0 := by omega
    exact ⟨B, d, by rw [HMB.out]; rfl, (HB0.out.below HQ.out.2.2.2.2).below ((Below.refl _ _).alloc (Nat.le_refl _) _)⟩, by decide⟩
  have HD := Lib.hid hD
  clear hD i1 j1
  generalize World.alloc _ _ = W1 at HD ⊢
  clear HQ
  go_cut [8] from 9 (fun v wx => ∃ es, Hid (D1 w b [.bool s, .slice A n c] [.bool t, .slice B m d] 16 v es wx))
  case first =>
   go_wp2_with fail
   go_loopw [8, 9] (fun v i wr => ∃ j : Nat, j ≤ 15 ∧ i = .int .i64 ((j : Int) + 1) ∧ ∃ es, Hid (D1 w b [.bool s, .slice A n c] [.bool t, .slice B m d] (j + 1) v es wr)) (fun _ i _ => 16 - (intOf i).toNat)
   case atStart => exact ⟨0, by omega, rfl, _, HD⟩
   case round =>
    obtain ⟨j, hj, rfl, es, HK⟩ := hrel
    clear HD
    obtain ⟨g, cap, rfl, hgb, hgl, hat⟩ := ownsRow_at HK.out.2.1 HK.out.2.2.2
    by_cases hjn : j < 15
    ·obtain ⟨A3, c3, hes, hds⟩ := HK.out.2.2.1 j (by omega)
     have hcell := hat _ _ hes
     have hj1 : (j : Int) < 15 := by omega
     have ew : IntKind.i64.wrap ((j : Int) + 1 - 1) = (j : Int) := by rw [Int.add_sub_cancel]; exact IntWalk.i64_in _ (by omega)
     have ew2 : IntKind.i64.wrap (j : Int) = (j : Int) := IntWalk.i64_in _ (by omega)
     have hlt : (j : Int) < (j : Int) + 1 := by omega
     have HP1 := Lib.hid (fun W (h : DS W (b * 2 ^ j) A3) => HP.out j A3 c3 W (by omega) h)
     have HDS := Lib.hid hds
     clear hat hes hds
     go_wp2_with fail
     go_region_law (first
      | (refine step_append_lies _ rfl (.tmp 56) (.tmp 68) 165 rfl (w.heap.size + 4) 51 i0 (.slice none 0 0) 1 24 Tryz.underlying165 hi hz0 hz1 hz2 rfl (by decide) (.slice (some ⟨g, 0, none⟩) (j + 1) cap) (j + 1) es rfl (HK1.out.2.1.alloc _) ⟨w1.heap.size, 0, none⟩ 1 1 [.slice A4 (L16 (b * 2 ^ (j + 1))) c4] rfl rfl (cell_one_new _ _ _) (by simp [Value.oneCell']) (by decide) (by unfold maxLen; omega) (by omega) (by have := HK1.out.1.size; simp; omega) _ rfl ?_; intro g2 cap2 w2 hown2 hgrow2 _ _; have HK2 := Lib.hid (HK1.out.step HD4.out hown2 hgrow2); clear hown2 hgrow2)
      | (go_simp; go_at_call 114; (with_reducible refine (HP1.out _ (HDS.out.below (Below.refl _ _).drew)).mono ?_); rintro e w1 ⟨A4, c4, rfl, hc4, hd4, hb4, _⟩; have HK1 := Lib.hid (HK.out.after ((Below.refl _ _).drew.trans hb4)); have HD4 := Lib.hid hd4; clear hd4 hb4; go_wp2_with fail))
     all_goals
      clear ew ew2 hcell hlt
      go_wp2_with fail
      exact ⟨⟨j + 1, by omega, congrArg (Value.int .i64) (by omega), _, HK2⟩, by simp [intOf]; omega⟩
    ·obtain rfl : j = 15 := by omega
     clear hat
     go_wp2_with fail
     go_meet
     exact ⟨es, HK⟩
  case rest =>
   obtain ⟨es, HK⟩ := hcut
   clear HD HP HB0
   obtain ⟨g, cap, rfl, hgb, hgl, hat⟩ := ownsRow_at HK.out.2.1 HK.out.2.2.2
   obtain ⟨j0, hj1', hj2, hj3⟩ := info_parts info64
   have q1 := HK.out.1.1.c 1 rfl
   have hn0' : 0 ≤ n := Nat.zero_le _
   have HAt := Lib.hid hat
   clear hat
   go_wp2_with (first
    | (at_make; refine wpList_make_full _ rfl _ _ 51 rfl w.heap.size 2 j0 (.int .i64 0) 1 Tryz.underlying51 hj1' hj2 hj3.1 .i64 .i64 _ _ n rfl rfl (by omega) (by omega) (by rw [hj3.2]; omega) (by unfold maxLen; omega) (by have := HK.out.1.2.2.2.2.size; omega) ?_)
    | (fail))
   intro w2 hown2 hg2
   have hB2 : Below wc.heap.size wc w2 := (Below.refl _ _).grown hg2 (Nat.le_refl _) (fun j hj => by cases hj)
   have hl2 : wc.heap.size < w2.heap.size := by
    rcases hown2.2 with ⟨e, _⟩ | ⟨g', _, _, e, _, hh, _⟩
    ·cases e
    ·have := (Array.getElem?_eq_some_iff.mp hh).1
     cases e
     exact this
   have hD2 := HK.out.after hB2
   have hQ2 : Q2 w b [.bool s, .slice A n c] [.bool t, .slice B m d] g n wc.heap.size (fun j => if n ≤ j then D16 (a / b) j else 0) w2 := by
    refine ⟨hD2.1, fun i hi => ?_, hgl, hgb, hl2, fun i hi => ⟨?_, hown2.frozenAt i⟩⟩
    ·obtain ⟨Ai, ci, e1, e2⟩ := HK.out.2.2.1 i hi
     refine ⟨Ai, ci, (hB2.cell (p := ⟨g, i, none⟩) hgl).trans (HAt.out i _ e1), e2.below hB2, fun p hp hm => ?_⟩
     obtain ⟨b', eb, hlb, _⟩ := e2 hm
     rw [eb] at hp
     cases hp
     exact hlb
    ·have e0 : (fun j => if n ≤ j then D16 (a / b) j else 0) i = 0 := if_neg (by omega)
     rw [hown2.cellAt i (by omega), toList_madeCells_one, e0]
     exact List.getElem?_replicate_of_lt hi
   have HQ := Lib.hid hQ2
   have q1 := hD2.1.1.c 1 rfl
   clear hQ2 hD2 hown2 hg2 hB2 hl2 HK HAt hgl hgb
   generalize wc.heap.size = Bq at HQ ⊢
   go_wp2_with fail
   have HN : Hid (rQ a b n = 0) := Lib.hid (by
    have h := lt_L16 a
    rw [HNA.out] at h
    rw [rQ, Nat.div_eq_of_lt h, Nat.zero_mod])
   go_loopw [11, 12] (fun v i wr => ∃ k : Nat, k ≤ n ∧ i = .int .i64 ((k : Int) - 1) ∧ Hid (Q2 w b [.bool s, .slice A n c] [.bool t, .slice B m d] g n Bq (fun j => if k ≤ j then D16 (a / b) j else 0) wr) ∧ Hid (RV Bq (rQ a b k) v wr)) (fun _ i _ => (intOf i + 1).toNat)
   case atStart => exact ⟨n, Nat.le_refl _, rfl, HQ, Lib.hid ⟨none, 0, by rw [HN.out, L16_nought], by rw [HN.out, L16_nought]; omega, by rw [HN.out]; exact DS.nought _, fun p hp => by cases hp⟩⟩
   case round =>
    obtain ⟨k, hk, rfl, HK, HR⟩ := hrel
    clear HQ q1
    rcases Nat.eq_zero_or_pos k with rfl | hkp
    ·rw [show (((0 : Nat) : Int) - 1) = -1 from rfl]
     obtain ⟨Ar, cr, rfl, hcr, hdr, hpr⟩ := HR.out
     have hr0 : rQ a b 0 = a % b := by rw [rQ, Nat.pow_zero, Nat.div_one]
     rw [hr0] at hcr hdr ⊢
     have HDR := Lib.hid hdr
     have HCR := Lib.hid hcr
     clear hdr hcr hpr hr0 HR
     have hdq : DR wr (digR (a / b)) n (some ⟨Bq, 0, none⟩) := fun _ => ⟨Bq, rfl, HK.out.2.2.2.2.1, fun i hi => by
      rw [(HK.out.2.2.2.2.2 i hi).1]
      show some (Value.int .i64 ((if 0 ≤ i then D16 (a / b) i else 0 : Nat) : Int)) = _
      rw [if_pos (Nat.zero_le _)]; rfl⟩
     have HLq : L16 (a / b) ≤ n := by rw [← HNA.out]; exact L16_mono (Nat.div_le_self _ _)
     have HLr : L16 (a % b) ≤ 1000000 := by
      have := L16_mono (Nat.le_of_lt (Nat.mod_lt a hn0))
      omega
     have HC1 := Lib.hid (fun W (hb : Below wr.heap.size wr W) => HO1.out n (some ⟨Bq, 0, none⟩) n W (fun hn => by
      obtain ⟨b', e, hl, hx⟩ := hdq hn
      exact ⟨b', e, Nat.lt_of_lt_of_le hl hb.size, fun i hi => (hb.cell (p := ⟨b', i, none⟩) hl).trans (hx i hi)⟩) (Nat.le_refl _) HLq (by omega))
     have HC2 := Lib.hid (fun W (hb : Below wr.heap.size wr W) => HO2.out Ar cr W (HDR.out.below hb) HCR.out HLr)
     have HQB := Lib.hid HK.out.1
     clear HK HO1 HO2 HDR hdq HLq HLr
     go_wp2_with fail
     have hpz : QS w [.bool s, .slice A n c] [.bool t, .slice B m d] wr := ⟨_, _, rfl, rfl, HQB.out⟩
     have i0 : ∀ W, QS w [.bool s, .slice A n c] [.bool t, .slice B m d] W → W.cell? ⟨w.heap.size, 0, none⟩ = some (.bool s) := fun W h => h.at.1.c 0 rfl
     have jj0 : ∀ W, QS w [.bool s, .slice A n c] [.bool t, .slice B m d] W → W.cell? ⟨w.heap.size + 1, 0, none⟩ = some (.bool t) := fun W h => h.at.2.c 0 rfl
     have k0 : ∀ W, QS w [.bool s, .slice A n c] [.bool t, .slice B m d] W → W.cell? ⟨w.heap.size + 1 + 1, 0, none⟩ = some (cellV W (w.heap.size + 1 + 1) 0) := fun W h => cellV_some (h.two 0 (by decide)).1.1
     have k1 : ∀ W, QS w [.bool s, .slice A n c] [.bool t, .slice B m d] W → W.cell? ⟨w.heap.size + 1 + 1, 1, none⟩ = some (cellV W (w.heap.size + 1 + 1) 1) := fun W h => cellV_some (h.two 1 (by decide)).1.1
     have k2 : ∀ W, QS w [.bool s, .slice A n c] [.bool t, .slice B m d] W → W.frozen? ⟨w.heap.size + 1 + 1, 0, none⟩ = false := fun W h => (h.two 0 (by decide)).1.2
     have k3 : ∀ W, QS w [.bool s, .slice A n c] [.bool t, .slice B m d] W → W.frozen? ⟨w.heap.size + 1 + 1, 1, none⟩ = false := fun W h => (h.two 1 (by decide)).1.2
     have l0 : ∀ W, QS w [.bool s, .slice A n c] [.bool t, .slice B m d] W → W.cell? ⟨w.heap.size + 1 + 1 + 1, 0, none⟩ = some (cellV W (w.heap.size + 1 + 1 + 1) 0) := fun W h => cellV_some (h.two 0 (by decide)).2.1
     have l1 : ∀ W, QS w [.bool s, .slice A n c] [.bool t, .slice B m d] W → W.cell? ⟨w.heap.size + 1 + 1 + 1, 1, none⟩ = some (cellV W (w.heap.size + 1 + 1 + 1) 1) := fun W h => cellV_some (h.two 1 (by decide)).2.1
     have l2 : ∀ W, QS w [.bool s, .slice A n c] [.bool t, .slice B m d] W → W.frozen? ⟨w.heap.size + 1 + 1 + 1, 0, none⟩ = false := fun W h => (h.two 0 (by decide)).2.2
     have l3 : ∀ W, QS w [.bool s, .slice A n c] [.bool t, .slice B m d] W → W.frozen? ⟨w.heap.size + 1 + 1 + 1, 1, none⟩ = false := fun W h => (h.two 1 (by decide)).2.2
     have hp0 := hpz.drew
     go_region_held3 (fun w' : World => QS w [.bool s, .slice A n c] [.bool t, .slice B m d] w')
      (first
        | (with_reducible assumption)
        | (with_reducible refine QS.drew ?_; with_reducible assumption)
        | (with_reducible exact QS.drewN hpz _)
        | (with_reducible refine QS.after ?_ hb; with_reducible assumption)
        | (with_reducible refine QS.put2 ?_ _ _; with_reducible assumption)
        | (with_reducible refine QS.put3 ?_ _ _; with_reducible assumption))
      (first
        | (go_at_call 111; refine Calls.mono (by with_reducible exact HC1.out _ (Below.refl _ _).drew) ?_; rintro e v2 ⟨rfl, hc2, hd2, hb⟩; have HD2 := Lib.hid hd2; have HL2 := Lib.hid hc2; clear hd2 hc2; have HQ2 := Lib.hid (HQB.out.drew.after hb); have HB2 := Lib.hid ((Below.refl wr.heap.size wr).drew.trans hb); have hp2 := QS.after (xs := [.bool s, .slice A n c]) (ys := [.bool t, .slice B m d]) (w := w) hp0 hb)
        | (go_at_call 111; refine Calls.mono (by with_reducible exact HC2.out _ HB2.out) ?_; clear hb; rintro e v4 ⟨rfl, hc4, hd4, hb⟩; have HD2c := Lib.hid (HD2.out.below hb); have HD4 := Lib.hid hd4; have HL4 := Lib.hid hc4; clear hd4 hc4; have HQ4 := Lib.hid (HQ2.out.after hb); have hp4 := QS.after (xs := [.bool s, .slice A n c]) (ys := [.bool t, .slice B m d]) (w := w) hp2 hb))
     all_goals
      clear i0 jj0 k0 k1 k2 k3 l0 l1 l2 l3
      have hfin := (HQ4.out.put2 (u0 := .bool s1) (u1 := .slice (some ⟨Bq, 0, none⟩) (L16 (a / b)) n) rfl).put3 (u0 := .bool s2) (u1 := .slice Ar (L16 (a % b)) cr) rfl
      have hds := DS.put4 HQ4.out HD2c.out (u0 := s1) (u1 := .slice (some ⟨Bq, 0, none⟩) (L16 (a / b)) n) (v0 := s2) (v1 := .slice Ar (L16 (a % b)) cr)
      have hds2 := DS.put4 HQ4.out HD4.out (u0 := s1) (u1 := .slice (some ⟨Bq, 0, none⟩) (L16 (a / b)) n) (v0 := s2) (v1 := .slice Ar (L16 (a % b)) cr)
      generalize World.setCell _ _ _ = W9 at hfin hds hds2 ⊢
      have r2 := hfin.2.2.1
      have r3 := hfin.2.2.2.1
      go_wp2_with fail
      exact bodyPost_ret (v := .tuple #[.agg #[.bool s1, .slice (some ⟨Bq, 0, none⟩) (L16 (a / b)) n], .agg #[.bool s2, .slice Ar (L16 (a % b)) cr]]) (by simp [results, Tryz.results82, go_sem, r2.c 0 rfl, r2.c 1 rfl, r3.c 0 rfl, r3.c 1 rfl]) rfl ⟨_, n, Ar, cr, rfl, HL2.out, HL4.out, hds, hds2, hfin.2.2.2.2⟩
    ·obtain ⟨j, rfl⟩ : ∃ j, k = j + 1 := ⟨k - 1, by omega⟩
     rw [show (((j + 1 : Nat) : Int) - 1) = (j : Int) by omega]
     have q1 := HK.out.1.1.c 1 rfl
     have hj1 : (j : Int) < n := by omega
     go_upto_region 14 with fail
     go_cut [11] from 78 to 118 (fun v wx => Hid (Q2 w b [.bool s, .slice A n c] [.bool t, .slice B m d] g n Bq (fun i => if j + 1 ≤ i then D16 (a / b) i else 0) wx) ∧ Hid (RV Bq (mQ a b j) v wx))
     case first =>
      obtain ⟨Ar, cr, rfl, hcr, hdr, hpr⟩ := HR.out
      have HDR := Lib.hid hdr
      clear hpr
      obtain ⟨pa, rfl, hpl, hpx⟩ := (HA.out.below HK.out.1.2.2.2.2) (by rw [HNA.out]; omega)
      have cx := hpx j (by rw [HNA.out]; omega)
      clear hpx
      have hdl := D16_lt a j
      have HM := Lib.hid (show rQ a b (j + 1) * 65536 + D16 a j = mQ a b j from rfl)
      have hrl : L16 (rQ a b (j + 1)) ≤ 2000 := by
       have h1 : rQ a b (j + 1) < b := Nat.mod_lt _ hn0
       have := L16_mono (Nat.le_of_lt h1)
       omega
      have hBq : Bq < wr.heap.size := HK.out.2.2.2.2.1
      unfold digR at cx
      generalize D16 a j = dj at *
      generalize rQ a b (j + 1) = r at *
      cases Ar with
      | none =>
        have hr0 : L16 r = 0 := by
         rcases Nat.eq_zero_or_pos (L16 r) with h | h
         ·exact h
         ·obtain ⟨_, e, _⟩ := HDR.out h
          cases e
        have HR0 := Lib.hid hr0
        rw [hr0]
        clear hr0
        have hP : PlS wr 1 [.int .i64 (dj : Nat)] (.slice (some ⟨wr.heap.size, 0, none⟩) 1 1) (wr.alloc (.cells #[.int .i64 (dj : Nat)] 2)) := ⟨ownsRow_new (Nat.le_refl _) _ _, (Below.refl _ _).alloc (Nat.le_refl _) _⟩
        have HP := Lib.hid hP
        clear hP
        go_wp2_with (first
         | (at_builtin; refine wpList_append_none _ rfl _ _ 51 rfl wr.heap.size 2 j0 1 Tryz.underlying51 hj1' (.slice (some ⟨wr.heap.size, 0, none⟩) 1 1) 1 _ rfl HP.out.1 _ rfl ?_)
         | (fail))
        obtain ⟨A', c', e', h1, h2, h3⟩ := join_form (r := r) (W := wr) hdl (by rw [HR0.out]; exact HP.out)
        rw [HR0.out] at e' h1 h2
        cases e'
        refine (cut_z (r * 65536 + dj) (1 + 0) _ _ _ (by have := L16_join r dj hdl; rw [HR0.out] at this; exact this) (by decide) h1 h2).mono ?_
        rintro e w4 ⟨rfl, hcc, hds, rfl⟩
        have HV := Lib.hid (show RV Bq (r * 65536 + dj) _ _ from ⟨_, _, rfl, hcc, hds, fun p hp => Nat.lt_of_lt_of_le hBq (h3 p hp)⟩)
        clear hcc hds h1 h2 h3
        rw [HM.out] at HV ⊢
        go_wp2_with fail
        go_meet
        exact ⟨Lib.hid (HK.out.alloc _), HV⟩
      | some pr =>
        go_wp2_with (first
         | (at_builtin; refine wpList_append_own_at _ rfl _ _ 51 rfl wr.heap.size 2 j0 (.int .i64 0) 1 8 Tryz.underlying51 hj1' hj2 hj3.1 hj3.2 rfl (by decide) (.slice (some ⟨wr.heap.size, 0, none⟩) 1 1) 1 [.int .i64 (dj : Nat)] rfl (ownsRow_new (Nat.le_refl _) _ _) pr (L16 r) cr (digV r (L16 r)) rfl (by rw [digV_len, Nat.mul_one]) (HDR.out.below ((Below.refl _ _).alloc (Nat.le_refl _) _)).cells (digV_one r _) (by unfold maxLen; omega) (by omega) (by simp) ?_)
         | (fail))
        intro v1 w3 hown1 hg1 _ _
        have hP : PlS wr (1 + L16 r) ([.int .i64 (dj : Nat)] ++ digV r (L16 r)) v1 w3 := ⟨hown1, ((Below.refl _ _).alloc (Nat.le_refl _) _).grown hg1 (by simp) (fun k hk => by simp [Value.ownBlock] at hk; omega)⟩
        have HB3 := Lib.hid hP.2
        obtain ⟨A', c', rfl, h1, h2, h3⟩ := join_form (r := r) (W := wr) hdl hP
        have H1 := Lib.hid h1
        have H2 := Lib.hid h2
        have H3 := Lib.hid h3
        clear hP hown1 hg1 h1 h2 h3
        go_wp2_with fail
        refine (cut_z (r * 65536 + dj) (1 + L16 r) _ _ _ (L16_join r dj hdl) (by omega) H1.out H2.out).mono ?_
        rintro e w4 ⟨rfl, hcc, hds, rfl⟩
        have HV := Lib.hid (show RV Bq (r * 65536 + dj) _ _ from ⟨_, _, rfl, hcc, hds, fun p hp => Nat.lt_of_lt_of_le hBq (H3.out p hp)⟩)
        clear hcc hds
        rw [HM.out] at HV ⊢
        go_wp2_with fail
        go_meet
        exact ⟨Lib.hid (HK.out.after HB3.out), HV⟩
     case rest =>
      obtain ⟨HK1, HR1⟩ := hcut
      clear HK HR q1
      obtain ⟨mq, HMQ⟩ : ∃ mq, Hid (mQ a b j = mq) := ⟨_, Lib.hid rfl⟩
      have hml := mQ_lt (a := a) j hn0
      have HMd := Lib.hid (mQ_mod a b j)
      have HMv := Lib.hid (mQ_div (a := a) j hn0)
      rw [HMQ.out] at HR1 hml HMd HMv
      have HML := Lib.hid hml
      have hjn : j < n := by omega
      clear hml hj1
      go_wp2_with fail
      go_loopw [11, 13] (fun v kk wr => ∃ k : Nat, k ≤ 16 ∧ kk = .int .i64 ((k : Int) - 1) ∧ Hid (Q2 w b [.bool s, .slice A n c] [.bool t, .slice B m d] g n Bq (fun i => if i = j then dQ mq b k else if j + 1 ≤ i then D16 (a / b) i else 0) wr) ∧ Hid (RV Bq (mq % (b * 2 ^ k)) v wr)) (fun _ kk _ => (intOf kk + 1).toNat)
      case atStart =>
       refine ⟨16, Nat.le_refl _, rfl, Lib.hid (HK1.out.congr (fun i => ?_)), ?_⟩
       ·show (if j + 1 ≤ i then D16 (a / b) i else 0) = if i = j then dQ mq b 16 else if j + 1 ≤ i then D16 (a / b) i else 0
        by_cases e : i = j
        ·rw [if_pos e, (dQ_first HML.out).2, if_neg (by omega)]
        ·rw [if_neg e]
       ·rw [(dQ_first HML.out).1]
        exact HR1
      case round =>
       obtain ⟨k, hk, rfl, HK2, HR2⟩ := hrel
       rcases Nat.eq_zero_or_pos k with rfl | hkp
       ·rw [show (((0 : Nat) : Int) - 1) = -1 from rfl]
        have HK3 : Hid (Q2 w b [.bool s, .slice A n c] [.bool t, .slice B m d] g n Bq (fun i => if j ≤ i then D16 (a / b) i else 0) wr) := Lib.hid (HK2.out.congr (fun i => by
         show (if i = j then dQ mq b 0 else if j + 1 ≤ i then D16 (a / b) i else 0) = if j ≤ i then D16 (a / b) i else 0
         by_cases e : i = j
         ·rw [if_pos e, (dQ_last mq b).2, HMv.out, if_pos (by omega), e]
         ·by_cases e2 : j + 1 ≤ i
          ·rw [if_neg e, if_pos e2, if_pos (by omega)]
          ·rw [if_neg e, if_neg e2, if_neg (by omega)]))
        have HR3 := HR2
        rw [(dQ_last mq b).1, HMd.out] at HR3
        clear HK2 HR2
        go_wp2_with fail
        exact ⟨⟨j, by omega, rfl, HK3, HR3⟩, by simp [intOf]⟩
       ·obtain ⟨l, rfl⟩ : ∃ l, k = l + 1 := ⟨k - 1, by omega⟩
        rw [show (((l + 1 : Nat) : Int) - 1) = (l : Int) by omega]
        obtain ⟨Ar, cr, rfl, hcr, hdr, hpr⟩ := HR2.out
        obtain ⟨Al, cl, hcl, hdl, hpl⟩ := HK2.out.2.1 l (by omega)
        have HDR := Lib.hid hdr
        have HDL := Lib.hid hdl
        have HPR := Lib.hid hpr
        clear hcr hdr hdl hpl hpr
        have hl0 : (l : Int) < 16 := by omega
        have HLl := HL.out l (by omega)
        have HLr : L16 (mq % (b * 2 ^ (l + 1))) ≤ 10000 := by
         have h1 : mq % (b * 2 ^ (l + 1)) ≤ mq := Nat.mod_le _ _
         have h2 := L16_mono h1
         have h3 := L16_rest HML.out
         omega
        have HMg := Lib.hid (fun W (h1 : DS W (mq % (b * 2 ^ (l + 1))) Ar) (h2 : DS W (b * 2 ^ l) Al) => mags_z (mq % (b * 2 ^ (l + 1))) (b * 2 ^ l) Ar Al cr cl W h1 h2 (by omega) (by omega))
        have HLs := Lib.hid (fun W (hge : b * 2 ^ l ≤ mq % (b * 2 ^ (l + 1))) (h1 : DS W (mq % (b * 2 ^ (l + 1))) Ar) (h2 : DS W (b * 2 ^ l) Al) => less_z (mq % (b * 2 ^ (l + 1))) (b * 2 ^ l) Ar Al cr cl W hge h1 h2 HLr)
        have HSt := Lib.hid (dQ_step mq b l hn0)
        have hqc := (HK2.out.2.2.2.2.2 j hjn).1
        have hqf := (HK2.out.2.2.2.2.2 j hjn).2
        simp only [if_true] at hqc
        have hqb := dQ_lt (l + 1) hn0 HML.out
        have hqb2 := dQ_lt l hn0 HML.out
        unfold SlPost at HLs
        have hjn1 : (j : Int) < n := by omega
        by_cases hge : b * 2 ^ l ≤ mq % (b * 2 ^ (l + 1))
        ·obtain ⟨e1, e2⟩ := HSt.out.1 hge
         have E1 := Lib.hid e1
         have E2 := Lib.hid e2
         have HLs2 := Lib.hid (fun W h1 h2 => HLs.out W hge h1 h2)
         have hcm : cmpN (mq % (b * 2 ^ (l + 1))) (b * 2 ^ l) = 0 ∨ cmpN (mq % (b * 2 ^ (l + 1))) (b * 2 ^ l) = 1 := by
          unfold cmpN
          rw [if_neg (by omega)]
          split
          ·exact .inr rfl
          ·exact .inl rfl
         have hcm0 : ¬ cmpN (mq % (b * 2 ^ (l + 1))) (b * 2 ^ l) < 0 := by omega
         have hcm1 : 0 ≤ cmpN (mq % (b * 2 ^ (l + 1))) (b * 2 ^ l) := by omega
         rw [e2] at hqb2
         clear e1 e2 HSt hge HLs hcm HLr HLl
         generalize mq % (b * 2 ^ (l + 1)) = r at *
         generalize hdb : b * 2 ^ l = db at *
         have HDB := Lib.hid hdb
         clear hdb
         generalize dQ mq b (l + 1) = dq at *
         generalize cmpN r db = cm at *
         generalize L16 r = lr at *
         generalize L16 db = ldb at *
         go_wp2_with fail
         refine (HMg.out _ HDR.out HDL.out).mono ?_
         rintro e w3 ⟨rfl, kk, rfl⟩
         go_wp2_with fail
         refine (HLs2.out _ (HDR.out.below (below_drewN (Below.refl _ _) _)) (HDL.out.below (below_drewN (Below.refl _ _) _))).mono ?_
         rintro e w4 ⟨A5, c5, rfl, hc5, hd5, hb5, hp5⟩
         have HB4 := Lib.hid ((below_drewN (Below.refl wr.heap.size wr) kk).trans hb5)
         have HK4 := Lib.hid (HK2.out.after HB4.out)
         have HD5 := Lib.hid hd5
         have HC5 := Lib.hid hc5
         have HP5 := Lib.hid hp5
         clear hd5 hb5 hp5 hc5 hqc hqf hcl
         have hqc := (HK4.out.2.2.2.2.2 j hjn).1
         have hqf := (HK4.out.2.2.2.2.2 j hjn).2
         simp only [if_true] at hqc
         go_wp2_with fail
         have hw := wrap_sum dq l (by omega)
         rw [hw]
         have hBq : Bq < wr.heap.size := HK2.out.2.2.2.2.1
         refine ⟨⟨l, by omega, rfl, Lib.hid ((HK4.out.put j (dq + 2 ^ l) hjn).congr (fun i => ?_)), Lib.hid ?_⟩, by simp [intOf]⟩
         ·show (if i = j then dq + 2 ^ l else if i = j then dq else if j + 1 ≤ i then D16 (a / b) i else 0) = if i = j then dQ mq b l else if j + 1 ≤ i then D16 (a / b) i else 0
          rw [E2.out]
          by_cases e : i = j
          ·rw [if_pos e, if_pos e]
          ·rw [if_neg e, if_neg e, if_neg e]
         ·rw [HDB.out, E1.out]
          exact RV.put ⟨A5, c5, rfl, HC5.out, HD5.out, fun p hp => Nat.lt_of_lt_of_le hBq (HP5.out p hp)⟩ j _
        ·obtain ⟨e1, e2⟩ := HSt.out.2 hge
         have E1 := Lib.hid e1
         have E2 := Lib.hid e2
         have hcm0 : cmpN (mq % (b * 2 ^ (l + 1))) (b * 2 ^ l) < 0 := by
          unfold cmpN
          rw [if_pos (by omega)]
          decide
         have hcm1 : ¬ 0 ≤ cmpN (mq % (b * 2 ^ (l + 1))) (b * 2 ^ l) := by omega
         clear e1 e2 HSt hge HLs HLr HLl hqc hqf
         generalize mq % (b * 2 ^ (l + 1)) = r at *
         generalize hdb : b * 2 ^ l = db at *
         have HDB := Lib.hid hdb
         clear hdb
         generalize dQ mq b (l + 1) = dq at *
         generalize cmpN r db = cm at *
         generalize L16 r = lr at *
         generalize L16 db = ldb at *
         go_wp2_with fail
         refine (HMg.out _ HDR.out HDL.out).mono ?_
         rintro e w3 ⟨rfl, kk, rfl⟩
         go_wp2_with fail
         refine ⟨⟨l, by omega, rfl, Lib.hid ((HK2.out.drewN kk).congr (fun i => ?_)), ?_⟩, by simp [intOf]⟩
         ·show (if i = j then dq else if j + 1 ≤ i then D16 (a / b) i else 0) = if i = j then dQ mq b l else if j + 1 ≤ i then D16 (a / b) i else 0
          rw [E2.out]
         ·rw [HDB.out, E1.out]
          exact Lib.hid (HR2.out.drewN kk)
theorem refquo_z (x y : Int) (A B : Option Addr) (c d : Nat) (w : World) (ha : DS w x.natAbs A) (hb : DS w y.natAbs B) (la : L16 x.natAbs ≤ 1000) (lb : L16 y.natAbs ≤ 1000) (hy : y ≠ 0) :
 Calls Tryz.prog 82 #[bigv x A c, bigv y B d] w (QuoPost w (x.tdiv y) (x.tmod y)) := by
 by_cases h : L16 x.natAbs ≤ 3 ∧ L16 y.natAbs ≤ 3
 ·exact quo_small x y A B c d w ha hb h.1 h.2 hy
 ·exact quo_big x y A B c d w ha hb la lb h hy
end Go.Proofs.YtongeeggaigepaaGreatDoor
