/- The law's walk: CrossMoves over what its calls answer. -/
import Derived.Test.YthmobcpdbgmbeaaGreatDoorMUB
import Derived.Test.YthmobcpdbgmbeaaGreatDoorMRI
import Derived.Test.YthmobcpdbgmbeaaGreatDoorMWE
namespace Go.Proofs.YthmobcpdbgmbeaaGreatDoor
open Go.RowKit CrossMath

theorem Row.mids {w : World} {b : Nat} {cs : List Value} (h : Row w b cs) (o : Nat) (vs : List Value) (hs : ∀ (j : Nat) (v : Value), vs[j]? = some v → cs[o + j]? = some v) : w.rangeAt b o vs := fun j v hv => h.c _ (hs j v hv)
theorem meetF_fst (k : Int) (p q : Array Value) : ∀ (j : Nat) (v : Value), p.toList[j]? = some v → (meetA k p q).toList[1 + j]? = some v := by
  intro j v h
  have hj : j < p.toList.length := (List.getElem?_eq_some_iff.1 h).1
  simp only [meetA, Array.toList_append]
  rw [List.getElem?_append_right (by simp), List.getElem?_append_left (by simpa using hj)]
  simpa using h
theorem meetF_snd (k : Int) (p q : Array Value) (hp : p.size = 20) : ∀ (j : Nat) (v : Value), q.toList[j]? = some v → (meetA k p q).toList[21 + j]? = some v := by
  intro j v h
  simp only [meetA, Array.toList_append]
  rw [List.getElem?_append_right (by simp; omega), List.getElem?_append_right (by simp; omega)]
  rw [show 21 + j - [Value.int IntKind.i64 k].toArray.toList.length - p.toList.length = j by simp; omega]
  exact h
theorem meetF_knd (k : Int) (p q : Array Value) : (meetA k p q).toList[0]? = some (.int .i64 k) := by simp [meetA]
theorem wp_loadW {P : Program} {op : Oper} {a : Act} {w : World} {K : Act → World → Prop} {Q : Exit → Act → World → Prop} (ty : TypeId) (x : Operand) (ho : op.op = .load ty x) (b o : Nat) (hx : a.eval x = .pointer (some ⟨b, o, none⟩)) (cs : Array Value) (h : w.rangeAt b o cs.toList) (hT : AggTy P ty cs.size)
    (k : K (a.put op.dst (.agg cs)) w) : op.wp P a w K Q := by
  obtain ⟨⟨d, hu, hd⟩, hi⟩ := hT
  exact wp_load_mid ty x ho b o hx cs.toList d h hu hd (by simpa using hi) (by simpa using k)
theorem eqg_pt (x y : Operand) (u v : Array Value) (w : World) : (eqGuard .eql 34 x y (.agg u) (.agg v)).run Tryz.prog w = .ok () w := by
  have h : Tryz.prog.eqGuardType Tryz.prog.depth 34 = false := by kernel_rfl
  simp [eqGuard, go_sem, h]

set_option maxRecDepth 100000 in
set_option maxHeartbeats 6400000 in
theorem moves_wrong (ax ay bx bY cx cy dx dY mx my u0 u1 u2 u3 v0 v1 v2 v3 : Int) (bU bV : Bool) (w : World) (hb12 : (bU && bV) = false)
    (hU : ∀ W, Calls Tryz.prog 18 #[.agg (segA ax ay bx bY), .int .i64 mx, .int .i64 my] W fun e w' => e = .returned (.tuple #[.agg (segA u0 u1 u2 u3), .bool bU]) ∧ Below W.heap.size W w')
    (hV : ∀ W, Calls Tryz.prog 18 #[.agg (segA cx cy dx dY), .int .i64 mx, .int .i64 my] W fun e w' => e = .returned (.tuple #[.agg (segA v0 v1 v2 v3), .bool bV]) ∧ Below W.heap.size W w')
    (hW : ∀ W, Below w.heap.size w W → Calls Tryz.prog 11 #[] W fun e w' => e = .returned (.bool true) ∧ Below W.heap.size W w') :
    Calls Tryz.prog 5 #[.agg (segA ax ay bx bY), .agg (segA cx cy dx dY), .int .i64 mx, .int .i64 my] w fun e w' => e = .returned (.bool true) ∧ Below w.heap.size w w' := by
  have H_hU := Lib.hid hU; clear hU
  have H_hV := Lib.hid hV; clear hV
  have H_hW := Lib.hid hW; clear hW
  have HB12 := Lib.hid hb12; clear hb12
  go_enter Tryz.func5, Tryz.ntmps5
  go_upto_region 1 with fail
  generalize hW0 : World.alloc _ _ = W0
  have hK : KS w ([] ++ [(w.heap.size, segA ax ay bx bY)] ++ [(w.heap.size + 1, segA cx cy dx dY)]) W0 := by rw [← hW0]; exact ((KS.nil w).boxed rfl _ _).boxed (by simp) _ _
  clear hW0
  generalize hL : [] ++ [(w.heap.size, segA ax ay bx bY)] ++ [(w.heap.size + 1, segA cx cy dx dY)] = L at hK
  have HL := Lib.hid hL; clear hL
  have oU : OneC (segA u0 u1 u2 u3) := by simp [OneC, Value.oneCell']
  have oV : OneC (segA v0 v1 v2 v3) := by simp [OneC, Value.oneCell']
  have x0 := hK.c 0 (b := w.heap.size) (cs := segA ax ay bx bY) (by rw [← HL.out]; rfl) 0 rfl
  have x1 := hK.c 0 (b := w.heap.size) (cs := segA ax ay bx bY) (by rw [← HL.out]; rfl) 1 rfl
  have x2 := hK.c 0 (b := w.heap.size) (cs := segA ax ay bx bY) (by rw [← HL.out]; rfl) 2 rfl
  have x3 := hK.c 0 (b := w.heap.size) (cs := segA ax ay bx bY) (by rw [← HL.out]; rfl) 3 rfl
  go_wp2_with fail
  refine (H_hU.out _).mono ?_
  rintro e w1 ⟨rfl, hb⟩
  replace hK := hK.after hb
  clear hb
  clear x0 x1 x2 x3
  go_upto_region 2 with (refine wpList_store_R rfl _ _ _ rfl _ (segA u0 u1 u2 u3) rfl rfl _ (Row.at rfl zero_seg.toList _) (by rfl) agg_seg oU ?_; intro w2 r2 o2)
  replace hK := hK.wroteB o2 r2
  clear r2 o2
  generalize w1.heap.size = bu at *
  rw [← HL.out] at hK
  clear HL
  generalize hL : [] ++ [(w.heap.size, segA ax ay bx bY)] ++ [(w.heap.size + 1, segA cx cy dx dY)] ++ [(bu, segA u0 u1 u2 u3)] = L at hK
  have HL := Lib.hid hL; clear hL
  have x0 := hK.c 1 (b := w.heap.size + 1) (cs := segA cx cy dx dY) (by rw [← HL.out]; rfl) 0 rfl
  have x1 := hK.c 1 (b := w.heap.size + 1) (cs := segA cx cy dx dY) (by rw [← HL.out]; rfl) 1 rfl
  have x2 := hK.c 1 (b := w.heap.size + 1) (cs := segA cx cy dx dY) (by rw [← HL.out]; rfl) 2 rfl
  have x3 := hK.c 1 (b := w.heap.size + 1) (cs := segA cx cy dx dY) (by rw [← HL.out]; rfl) 3 rfl
  go_wp2_with fail
  refine (H_hV.out _).mono ?_
  rintro e w1 ⟨rfl, hb⟩
  replace hK := hK.after hb
  clear hb
  clear x0 x1 x2 x3
  go_upto_region 3 with (refine wpList_store_R rfl _ _ _ rfl _ (segA v0 v1 v2 v3) rfl rfl _ (Row.at rfl zero_seg.toList _) (by rfl) agg_seg oV ?_; intro w2 r2 o2)
  replace hK := hK.wroteB o2 r2
  clear r2 o2
  generalize w1.heap.size = bv at *
  rw [← HL.out] at hK
  clear HL
  generalize hL : [] ++ [(w.heap.size, segA ax ay bx bY)] ++ [(w.heap.size + 1, segA cx cy dx dY)] ++ [(bu, segA u0 u1 u2 u3)] ++ [(bv, segA v0 v1 v2 v3)] = L at hK
  have HL := Lib.hid hL; clear hL
  have hB := Lib.hid hK.2
  clear hK HL oU oV
  cases bU
  · go_wp2_with fail
    refine (H_hW.out _ hB.out).mono ?_
    rintro e w2 ⟨rfl, hb⟩
    go_wp2_with fail
    go_ret
    exact ⟨rfl, hB.out.trans (hb.mono hB.out.size)⟩
  · obtain rfl : bV = false := by have := HB12.out; revert this; cases bV <;> decide
    go_wp2_with fail
    refine (H_hW.out _ hB.out).mono ?_
    rintro e w2 ⟨rfl, hb⟩
    go_wp2_with fail
    go_ret
    exact ⟨rfl, hB.out.trans (hb.mono hB.out.size)⟩
set_option maxRecDepth 100000 in
set_option maxHeartbeats 6400000 in
theorem moves_none (ax ay bx bY cx cy dx dY mx my u0 u1 u2 u3 v0 v1 v2 v3 k : Int) (p q p' q' : Array Value) (f : Bool) (w : World) (hp : p.size = 20 ∧ q.size = 20 ∧ p'.size = 20 ∧ q'.size = 20) (op : OneC p ∧ OneC q ∧ OneC p' ∧ OneC q')
    (hk : (k == 0) = true)
    (hU : ∀ W, Calls Tryz.prog 18 #[.agg (segA ax ay bx bY), .int .i64 mx, .int .i64 my] W fun e w' => e = .returned (.tuple #[.agg (segA u0 u1 u2 u3), .bool true]) ∧ Below W.heap.size W w')
    (hV : ∀ W, Calls Tryz.prog 18 #[.agg (segA cx cy dx dY), .int .i64 mx, .int .i64 my] W fun e w' => e = .returned (.tuple #[.agg (segA v0 v1 v2 v3), .bool true]) ∧ Below W.heap.size W w')
    (hW : ∀ W, Below w.heap.size w W → Calls Tryz.prog 11 #[] W fun e w' => e = .returned (.bool true) ∧ Below W.heap.size W w')
    (hM1 : ∀ W, Below w.heap.size w W → Calls Tryz.prog 7 #[.agg (segA ax ay bx bY), .agg (segA cx cy dx dY)] W fun e w' => e = .returned (.tuple #[.agg (meetA k p q), .int .i64 0]) ∧ Below W.heap.size W w')
    (hM2 : ∀ W, Below w.heap.size w W → Calls Tryz.prog 7 #[.agg (segA u0 u1 u2 u3), .agg (segA v0 v1 v2 v3)] W fun e w' => e = .returned (.tuple #[.agg (meetA k p' q'), .int .i64 0]) ∧ Below W.heap.size W w')
    (hC1 : ∀ W, Calls Tryz.prog 8 #[.agg (segA ax ay bx bY), .agg (segA cx cy dx dY)] W fun e w' => e = .returned (.tuple #[.bool f, .int .i64 0]) ∧ Below W.heap.size W w')
    (hC2 : ∀ W, Calls Tryz.prog 8 #[.agg (segA u0 u1 u2 u3), .agg (segA v0 v1 v2 v3)] W fun e w' => e = .returned (.tuple #[.bool f, .int .i64 0]) ∧ Below W.heap.size W w') :
    Calls Tryz.prog 5 #[.agg (segA ax ay bx bY), .agg (segA cx cy dx dY), .int .i64 mx, .int .i64 my] w fun e w' => e = .returned (.bool true) ∧ Below w.heap.size w w' := by
  have H_hU := Lib.hid hU; clear hU
  have H_hV := Lib.hid hV; clear hV
  have H_hW := Lib.hid hW; clear hW
  have H_hM1 := Lib.hid hM1; clear hM1
  have H_hM2 := Lib.hid hM2; clear hM2
  have H_hC1 := Lib.hid hC1; clear hC1
  have H_hC2 := Lib.hid hC2; clear hC2
  have zM : (meetA k p q).size = 41 := meetA_size k p q hp.1 hp.2.1
  have zN : (meetA k p' q').size = 41 := meetA_size k p' q' hp.2.2.1 hp.2.2.2
  have tM : AggTy Tryz.prog 36 (meetA k p q).size := by rw [zM]; exact agg_meet
  have tN : AggTy Tryz.prog 36 (meetA k p' q').size := by rw [zN]; exact agg_meet
  have H_mM := Lib.hid (meetA_one k p q op.1 op.2.1); have H_mN := Lib.hid (meetA_one k p' q' op.2.2.1 op.2.2.2)
  have M_fst := Lib.hid (meetF_fst k p q); have M_snd := Lib.hid (meetF_snd k p q hp.1); have M_knd := Lib.hid (meetF_knd k p q)
  have N_fst := Lib.hid (meetF_fst k p' q'); have N_snd := Lib.hid (meetF_snd k p' q' hp.2.2.1); have N_knd := Lib.hid (meetF_knd k p' q')
  have H_zM := Lib.hid zM; have H_zN := Lib.hid zN; have H_tM := Lib.hid tM; have H_tN := Lib.hid tN
  have H_hp := Lib.hid hp
  clear zM zN tM tN hp op
  generalize meetA k p q = m at *
  generalize meetA k p' q' = n at *
  have HNum := Lib.hid lawnum_any
  go_enter Tryz.func5, Tryz.ntmps5
  go_upto_region 1 with fail
  generalize hW0 : World.alloc _ _ = W0
  have hK : KS w ([] ++ [(w.heap.size, segA ax ay bx bY)] ++ [(w.heap.size + 1, segA cx cy dx dY)]) W0 := by rw [← hW0]; exact ((KS.nil w).boxed rfl _ _).boxed (by simp) _ _
  clear hW0
  generalize hL : [] ++ [(w.heap.size, segA ax ay bx bY)] ++ [(w.heap.size + 1, segA cx cy dx dY)] = L at hK
  have HL := Lib.hid hL; clear hL
  have oU : OneC (segA u0 u1 u2 u3) := by simp [OneC, Value.oneCell']
  have oV : OneC (segA v0 v1 v2 v3) := by simp [OneC, Value.oneCell']
  have x0 := hK.c 0 (b := w.heap.size) (cs := segA ax ay bx bY) (by rw [← HL.out]; rfl) 0 rfl
  have x1 := hK.c 0 (b := w.heap.size) (cs := segA ax ay bx bY) (by rw [← HL.out]; rfl) 1 rfl
  have x2 := hK.c 0 (b := w.heap.size) (cs := segA ax ay bx bY) (by rw [← HL.out]; rfl) 2 rfl
  have x3 := hK.c 0 (b := w.heap.size) (cs := segA ax ay bx bY) (by rw [← HL.out]; rfl) 3 rfl
  go_wp2_with fail
  refine (H_hU.out _).mono ?_
  rintro e w1 ⟨rfl, hb⟩
  replace hK := hK.after hb
  clear hb
  clear x0 x1 x2 x3
  go_upto_region 2 with (refine wpList_store_R rfl _ _ _ rfl _ (segA u0 u1 u2 u3) rfl rfl _ (Row.at rfl zero_seg.toList _) (by rfl) agg_seg oU ?_; intro w2 r2 o2)
  replace hK := hK.wroteB o2 r2
  clear r2 o2
  generalize w1.heap.size = bu at *
  rw [← HL.out] at hK
  clear HL
  generalize hL : [] ++ [(w.heap.size, segA ax ay bx bY)] ++ [(w.heap.size + 1, segA cx cy dx dY)] ++ [(bu, segA u0 u1 u2 u3)] = L at hK
  have HL := Lib.hid hL; clear hL
  have x0 := hK.c 1 (b := w.heap.size + 1) (cs := segA cx cy dx dY) (by rw [← HL.out]; rfl) 0 rfl
  have x1 := hK.c 1 (b := w.heap.size + 1) (cs := segA cx cy dx dY) (by rw [← HL.out]; rfl) 1 rfl
  have x2 := hK.c 1 (b := w.heap.size + 1) (cs := segA cx cy dx dY) (by rw [← HL.out]; rfl) 2 rfl
  have x3 := hK.c 1 (b := w.heap.size + 1) (cs := segA cx cy dx dY) (by rw [← HL.out]; rfl) 3 rfl
  go_wp2_with fail
  refine (H_hV.out _).mono ?_
  rintro e w1 ⟨rfl, hb⟩
  replace hK := hK.after hb
  clear hb
  clear x0 x1 x2 x3
  go_upto_region 3 with (refine wpList_store_R rfl _ _ _ rfl _ (segA v0 v1 v2 v3) rfl rfl _ (Row.at rfl zero_seg.toList _) (by rfl) agg_seg oV ?_; intro w2 r2 o2)
  replace hK := hK.wroteB o2 r2
  clear r2 o2
  generalize w1.heap.size = bv at *
  rw [← HL.out] at hK
  clear HL
  generalize hL : [] ++ [(w.heap.size, segA ax ay bx bY)] ++ [(w.heap.size + 1, segA cx cy dx dY)] ++ [(bu, segA u0 u1 u2 u3)] ++ [(bv, segA v0 v1 v2 v3)] = L at hK
  have HL := Lib.hid hL; clear hL
  clear oU oV
  have x0 := hK.c 0 (b := w.heap.size) (cs := segA ax ay bx bY) (by rw [← HL.out]; rfl) 0 rfl
  have x1 := hK.c 0 (b := w.heap.size) (cs := segA ax ay bx bY) (by rw [← HL.out]; rfl) 1 rfl
  have x2 := hK.c 0 (b := w.heap.size) (cs := segA ax ay bx bY) (by rw [← HL.out]; rfl) 2 rfl
  have x3 := hK.c 0 (b := w.heap.size) (cs := segA ax ay bx bY) (by rw [← HL.out]; rfl) 3 rfl
  have z0 := hK.c 1 (b := w.heap.size + 1) (cs := segA cx cy dx dY) (by rw [← HL.out]; rfl) 0 rfl
  have z1 := hK.c 1 (b := w.heap.size + 1) (cs := segA cx cy dx dY) (by rw [← HL.out]; rfl) 1 rfl
  have z2 := hK.c 1 (b := w.heap.size + 1) (cs := segA cx cy dx dY) (by rw [← HL.out]; rfl) 2 rfl
  have z3 := hK.c 1 (b := w.heap.size + 1) (cs := segA cx cy dx dY) (by rw [← HL.out]; rfl) 3 rfl
  go_wp2_with fail
  refine (H_hM1.out _ hK.2).mono ?_
  rintro e w1 ⟨rfl, hb⟩
  replace hK := hK.after hb
  clear hb
  clear x0 x1 x2 x3 z0 z1 z2 z3
  go_upto_region 6 with (refine wpList_store_R rfl _ _ _ rfl _ m rfl rfl _ (Row.at rfl zero_meet.toList _) (by rw [H_zM.out]; rfl) H_tM.out H_mM.out ?_; intro w2 r2 o2)
  replace hK := hK.wroteB o2 r2
  clear r2 o2
  generalize w1.heap.size = bm at *
  rw [← HL.out] at hK
  clear HL
  generalize hL : [] ++ [(w.heap.size, segA ax ay bx bY)] ++ [(w.heap.size + 1, segA cx cy dx dY)] ++ [(bu, segA u0 u1 u2 u3)] ++ [(bv, segA v0 v1 v2 v3)] ++ [(bm, m)] = L at hK
  have HL := Lib.hid hL; clear hL
  have x0 := hK.c 2 (b := bu) (cs := segA u0 u1 u2 u3) (by rw [← HL.out]; rfl) 0 rfl
  have x1 := hK.c 2 (b := bu) (cs := segA u0 u1 u2 u3) (by rw [← HL.out]; rfl) 1 rfl
  have x2 := hK.c 2 (b := bu) (cs := segA u0 u1 u2 u3) (by rw [← HL.out]; rfl) 2 rfl
  have x3 := hK.c 2 (b := bu) (cs := segA u0 u1 u2 u3) (by rw [← HL.out]; rfl) 3 rfl
  have z0 := hK.c 3 (b := bv) (cs := segA v0 v1 v2 v3) (by rw [← HL.out]; rfl) 0 rfl
  have z1 := hK.c 3 (b := bv) (cs := segA v0 v1 v2 v3) (by rw [← HL.out]; rfl) 1 rfl
  have z2 := hK.c 3 (b := bv) (cs := segA v0 v1 v2 v3) (by rw [← HL.out]; rfl) 2 rfl
  have z3 := hK.c 3 (b := bv) (cs := segA v0 v1 v2 v3) (by rw [← HL.out]; rfl) 3 rfl
  go_wp2_with fail
  refine (H_hM2.out _ hK.2).mono ?_
  rintro e w1 ⟨rfl, hb⟩
  replace hK := hK.after hb
  clear hb
  clear x0 x1 x2 x3 z0 z1 z2 z3
  go_upto_region 7 with (refine wpList_store_R rfl _ _ _ rfl _ n rfl rfl _ (Row.at rfl zero_meet.toList _) (by rw [H_zN.out]; rfl) H_tN.out H_mN.out ?_; intro w2 r2 o2)
  replace hK := hK.wroteB o2 r2
  clear r2 o2
  generalize w1.heap.size = bn at *
  rw [← HL.out] at hK
  clear HL
  generalize hL : [] ++ [(w.heap.size, segA ax ay bx bY)] ++ [(w.heap.size + 1, segA cx cy dx dY)] ++ [(bu, segA u0 u1 u2 u3)] ++ [(bv, segA v0 v1 v2 v3)] ++ [(bm, m)] ++ [(bn, n)] = L at hK
  have HL := Lib.hid hL; clear hL
  have x0 := hK.c 0 (b := w.heap.size) (cs := segA ax ay bx bY) (by rw [← HL.out]; rfl) 0 rfl
  have x1 := hK.c 0 (b := w.heap.size) (cs := segA ax ay bx bY) (by rw [← HL.out]; rfl) 1 rfl
  have x2 := hK.c 0 (b := w.heap.size) (cs := segA ax ay bx bY) (by rw [← HL.out]; rfl) 2 rfl
  have x3 := hK.c 0 (b := w.heap.size) (cs := segA ax ay bx bY) (by rw [← HL.out]; rfl) 3 rfl
  have z0 := hK.c 1 (b := w.heap.size + 1) (cs := segA cx cy dx dY) (by rw [← HL.out]; rfl) 0 rfl
  have z1 := hK.c 1 (b := w.heap.size + 1) (cs := segA cx cy dx dY) (by rw [← HL.out]; rfl) 1 rfl
  have z2 := hK.c 1 (b := w.heap.size + 1) (cs := segA cx cy dx dY) (by rw [← HL.out]; rfl) 2 rfl
  have z3 := hK.c 1 (b := w.heap.size + 1) (cs := segA cx cy dx dY) (by rw [← HL.out]; rfl) 3 rfl
  go_wp2_with fail
  refine (H_hC1.out _).mono ?_
  rintro e w1 ⟨rfl, hb⟩
  replace hK := hK.after hb
  clear hb
  clear x0 x1 x2 x3 z0 z1 z2 z3
  have x0 := hK.c 2 (b := bu) (cs := segA u0 u1 u2 u3) (by rw [← HL.out]; rfl) 0 rfl
  have x1 := hK.c 2 (b := bu) (cs := segA u0 u1 u2 u3) (by rw [← HL.out]; rfl) 1 rfl
  have x2 := hK.c 2 (b := bu) (cs := segA u0 u1 u2 u3) (by rw [← HL.out]; rfl) 2 rfl
  have x3 := hK.c 2 (b := bu) (cs := segA u0 u1 u2 u3) (by rw [← HL.out]; rfl) 3 rfl
  have z0 := hK.c 3 (b := bv) (cs := segA v0 v1 v2 v3) (by rw [← HL.out]; rfl) 0 rfl
  have z1 := hK.c 3 (b := bv) (cs := segA v0 v1 v2 v3) (by rw [← HL.out]; rfl) 1 rfl
  have z2 := hK.c 3 (b := bv) (cs := segA v0 v1 v2 v3) (by rw [← HL.out]; rfl) 2 rfl
  have z3 := hK.c 3 (b := bv) (cs := segA v0 v1 v2 v3) (by rw [← HL.out]; rfl) 3 rfl
  go_wp2_with fail
  refine (H_hC2.out _).mono ?_
  rintro e w1 ⟨rfl, hb⟩
  replace hK := hK.after hb
  clear hb
  clear x0 x1 x2 x3 z0 z1 z2 z3
  go_wp2_with fail
  refine (HNum.out _ _).mono ?_
  rintro e w1 ⟨rfl, hb⟩
  replace hK := hK.after hb
  clear hb
  go_wp2_with fail
  refine (HNum.out _ _).mono ?_
  rintro e w1 ⟨rfl, hb⟩
  replace hK := hK.after hb
  clear hb
  go_wp2_with fail
  refine (HNum.out _ _).mono ?_
  rintro e w1 ⟨rfl, hb⟩
  replace hK := hK.after hb
  clear hb
  go_wp2_with fail
  refine (HNum.out _ _).mono ?_
  rintro e w1 ⟨rfl, hb⟩
  replace hK := hK.after hb
  clear hb
  have c0 := (hK.row 4 (b := bm) (cs := m) (by rw [← HL.out]; rfl)).c 0 M_knd.out
  have c1 := (hK.row 5 (b := bn) (cs := n) (by rw [← HL.out]; rfl)).c 0 N_knd.out
  have lf : (!(f == f)) = false := by cases f <;> rfl
  have hB := Lib.hid hK.2
  clear hK HL
  go_wp2_with fail
  refine (H_hW.out _ hB.out).mono ?_
  rintro e w2 ⟨rfl, hb⟩
  go_wp2_with fail
  go_ret
  exact ⟨rfl, hB.out.trans (hb.mono hB.out.size)⟩
set_option maxRecDepth 100000 in
set_option maxHeartbeats 6400000 in
theorem moves_some (ax ay bx bY cx cy dx dY mx my u0 u1 u2 u3 v0 v1 v2 v3 k : Int) (p q p' q' sp sq : Array Value) (f : Bool) (w : World) (hp : p.size = 20 ∧ q.size = 20 ∧ p'.size = 20 ∧ q'.size = 20) (op : OneC p ∧ OneC q ∧ OneC p' ∧ OneC q') (hs : sp.size = 20 ∧ sq.size = 20) (os : OneC sp ∧ OneC sq)
    (hk : (k == 0) = false)
    (hU : ∀ W, Calls Tryz.prog 18 #[.agg (segA ax ay bx bY), .int .i64 mx, .int .i64 my] W fun e w' => e = .returned (.tuple #[.agg (segA u0 u1 u2 u3), .bool true]) ∧ Below W.heap.size W w')
    (hV : ∀ W, Calls Tryz.prog 18 #[.agg (segA cx cy dx dY), .int .i64 mx, .int .i64 my] W fun e w' => e = .returned (.tuple #[.agg (segA v0 v1 v2 v3), .bool true]) ∧ Below W.heap.size W w')
    (hW : ∀ W, Below w.heap.size w W → Calls Tryz.prog 11 #[] W fun e w' => e = .returned (.bool true) ∧ Below W.heap.size W w')
    (hM1 : ∀ W, Below w.heap.size w W → Calls Tryz.prog 7 #[.agg (segA ax ay bx bY), .agg (segA cx cy dx dY)] W fun e w' => e = .returned (.tuple #[.agg (meetA k p q), .int .i64 0]) ∧ Below W.heap.size W w')
    (hM2 : ∀ W, Below w.heap.size w W → Calls Tryz.prog 7 #[.agg (segA u0 u1 u2 u3), .agg (segA v0 v1 v2 v3)] W fun e w' => e = .returned (.tuple #[.agg (meetA k p' q'), .int .i64 0]) ∧ Below W.heap.size W w')
    (hC1 : ∀ W, Calls Tryz.prog 8 #[.agg (segA ax ay bx bY), .agg (segA cx cy dx dY)] W fun e w' => e = .returned (.tuple #[.bool f, .int .i64 0]) ∧ Below W.heap.size W w')
    (hC2 : ∀ W, Calls Tryz.prog 8 #[.agg (segA u0 u1 u2 u3), .agg (segA v0 v1 v2 v3)] W fun e w' => e = .returned (.tuple #[.bool f, .int .i64 0]) ∧ Below W.heap.size W w')
    (hP : ∀ W, Calls Tryz.prog 19 #[.agg p, .int .i64 mx, .int .i64 my] W fun e w' => e = .returned (.tuple #[.agg sp, .bool true]) ∧ Below W.heap.size W w')
    (hQ : ∀ W, Calls Tryz.prog 19 #[.agg q, .int .i64 mx, .int .i64 my] W fun e w' => e = .returned (.tuple #[.agg sq, .bool true]) ∧ Below W.heap.size W w')
    (h1 : ∀ W, (binOp .eql 34 (.agg sp) (.agg p')).run Tryz.prog W = .ok (.bool true) W)
    (h2 : ∀ W, (binOp .eql 34 (.agg sq) (.agg q')).run Tryz.prog W = .ok (.bool true) W) :
    Calls Tryz.prog 5 #[.agg (segA ax ay bx bY), .agg (segA cx cy dx dY), .int .i64 mx, .int .i64 my] w fun e w' => e = .returned (.bool true) ∧ Below w.heap.size w w' := by
  have H_hU := Lib.hid hU; clear hU
  have H_hV := Lib.hid hV; clear hV
  have H_hW := Lib.hid hW; clear hW
  have H_hM1 := Lib.hid hM1; clear hM1
  have H_hM2 := Lib.hid hM2; clear hM2
  have H_hC1 := Lib.hid hC1; clear hC1
  have H_hC2 := Lib.hid hC2; clear hC2
  have H_hP := Lib.hid hP; clear hP
  have H_hQ := Lib.hid hQ; clear hQ
  have H_h1 := Lib.hid h1; clear h1
  have H_h2 := Lib.hid h2; clear h2
  have H_hs := Lib.hid hs; clear hs
  have H_os := Lib.hid os; clear os
  have zM : (meetA k p q).size = 41 := meetA_size k p q hp.1 hp.2.1
  have zN : (meetA k p' q').size = 41 := meetA_size k p' q' hp.2.2.1 hp.2.2.2
  have tM : AggTy Tryz.prog 36 (meetA k p q).size := by rw [zM]; exact agg_meet
  have tN : AggTy Tryz.prog 36 (meetA k p' q').size := by rw [zN]; exact agg_meet
  have H_mM := Lib.hid (meetA_one k p q op.1 op.2.1); have H_mN := Lib.hid (meetA_one k p' q' op.2.2.1 op.2.2.2)
  have M_fst := Lib.hid (meetF_fst k p q); have M_snd := Lib.hid (meetF_snd k p q hp.1); have M_knd := Lib.hid (meetF_knd k p q)
  have N_fst := Lib.hid (meetF_fst k p' q'); have N_snd := Lib.hid (meetF_snd k p' q' hp.2.2.1); have N_knd := Lib.hid (meetF_knd k p' q')
  have H_zM := Lib.hid zM; have H_zN := Lib.hid zN; have H_tM := Lib.hid tM; have H_tN := Lib.hid tN
  have H_hp := Lib.hid hp
  clear zM zN tM tN hp op
  generalize meetA k p q = m at *
  generalize meetA k p' q' = n at *
  have HNum := Lib.hid lawnum_any
  go_enter Tryz.func5, Tryz.ntmps5
  go_upto_region 1 with fail
  generalize hW0 : World.alloc _ _ = W0
  have hK : KS w ([] ++ [(w.heap.size, segA ax ay bx bY)] ++ [(w.heap.size + 1, segA cx cy dx dY)]) W0 := by rw [← hW0]; exact ((KS.nil w).boxed rfl _ _).boxed (by simp) _ _
  clear hW0
  generalize hL : [] ++ [(w.heap.size, segA ax ay bx bY)] ++ [(w.heap.size + 1, segA cx cy dx dY)] = L at hK
  have HL := Lib.hid hL; clear hL
  have oU : OneC (segA u0 u1 u2 u3) := by simp [OneC, Value.oneCell']
  have oV : OneC (segA v0 v1 v2 v3) := by simp [OneC, Value.oneCell']
  have x0 := hK.c 0 (b := w.heap.size) (cs := segA ax ay bx bY) (by rw [← HL.out]; rfl) 0 rfl
  have x1 := hK.c 0 (b := w.heap.size) (cs := segA ax ay bx bY) (by rw [← HL.out]; rfl) 1 rfl
  have x2 := hK.c 0 (b := w.heap.size) (cs := segA ax ay bx bY) (by rw [← HL.out]; rfl) 2 rfl
  have x3 := hK.c 0 (b := w.heap.size) (cs := segA ax ay bx bY) (by rw [← HL.out]; rfl) 3 rfl
  go_wp2_with fail
  refine (H_hU.out _).mono ?_
  rintro e w1 ⟨rfl, hb⟩
  replace hK := hK.after hb
  clear hb
  clear x0 x1 x2 x3
  go_upto_region 2 with (refine wpList_store_R rfl _ _ _ rfl _ (segA u0 u1 u2 u3) rfl rfl _ (Row.at rfl zero_seg.toList _) (by rfl) agg_seg oU ?_; intro w2 r2 o2)
  replace hK := hK.wroteB o2 r2
  clear r2 o2
  generalize w1.heap.size = bu at *
  rw [← HL.out] at hK
  clear HL
  generalize hL : [] ++ [(w.heap.size, segA ax ay bx bY)] ++ [(w.heap.size + 1, segA cx cy dx dY)] ++ [(bu, segA u0 u1 u2 u3)] = L at hK
  have HL := Lib.hid hL; clear hL
  have x0 := hK.c 1 (b := w.heap.size + 1) (cs := segA cx cy dx dY) (by rw [← HL.out]; rfl) 0 rfl
  have x1 := hK.c 1 (b := w.heap.size + 1) (cs := segA cx cy dx dY) (by rw [← HL.out]; rfl) 1 rfl
  have x2 := hK.c 1 (b := w.heap.size + 1) (cs := segA cx cy dx dY) (by rw [← HL.out]; rfl) 2 rfl
  have x3 := hK.c 1 (b := w.heap.size + 1) (cs := segA cx cy dx dY) (by rw [← HL.out]; rfl) 3 rfl
  go_wp2_with fail
  refine (H_hV.out _).mono ?_
  rintro e w1 ⟨rfl, hb⟩
  replace hK := hK.after hb
  clear hb
  clear x0 x1 x2 x3
  go_upto_region 3 with (refine wpList_store_R rfl _ _ _ rfl _ (segA v0 v1 v2 v3) rfl rfl _ (Row.at rfl zero_seg.toList _) (by rfl) agg_seg oV ?_; intro w2 r2 o2)
  replace hK := hK.wroteB o2 r2
  clear r2 o2
  generalize w1.heap.size = bv at *
  rw [← HL.out] at hK
  clear HL
  generalize hL : [] ++ [(w.heap.size, segA ax ay bx bY)] ++ [(w.heap.size + 1, segA cx cy dx dY)] ++ [(bu, segA u0 u1 u2 u3)] ++ [(bv, segA v0 v1 v2 v3)] = L at hK
  have HL := Lib.hid hL; clear hL
  clear oU oV
  have x0 := hK.c 0 (b := w.heap.size) (cs := segA ax ay bx bY) (by rw [← HL.out]; rfl) 0 rfl
  have x1 := hK.c 0 (b := w.heap.size) (cs := segA ax ay bx bY) (by rw [← HL.out]; rfl) 1 rfl
  have x2 := hK.c 0 (b := w.heap.size) (cs := segA ax ay bx bY) (by rw [← HL.out]; rfl) 2 rfl
  have x3 := hK.c 0 (b := w.heap.size) (cs := segA ax ay bx bY) (by rw [← HL.out]; rfl) 3 rfl
  have z0 := hK.c 1 (b := w.heap.size + 1) (cs := segA cx cy dx dY) (by rw [← HL.out]; rfl) 0 rfl
  have z1 := hK.c 1 (b := w.heap.size + 1) (cs := segA cx cy dx dY) (by rw [← HL.out]; rfl) 1 rfl
  have z2 := hK.c 1 (b := w.heap.size + 1) (cs := segA cx cy dx dY) (by rw [← HL.out]; rfl) 2 rfl
  have z3 := hK.c 1 (b := w.heap.size + 1) (cs := segA cx cy dx dY) (by rw [← HL.out]; rfl) 3 rfl
  go_wp2_with fail
  refine (H_hM1.out _ hK.2).mono ?_
  rintro e w1 ⟨rfl, hb⟩
  replace hK := hK.after hb
  clear hb
  clear x0 x1 x2 x3 z0 z1 z2 z3
  go_upto_region 6 with (refine wpList_store_R rfl _ _ _ rfl _ m rfl rfl _ (Row.at rfl zero_meet.toList _) (by rw [H_zM.out]; rfl) H_tM.out H_mM.out ?_; intro w2 r2 o2)
  replace hK := hK.wroteB o2 r2
  clear r2 o2
  generalize w1.heap.size = bm at *
  rw [← HL.out] at hK
  clear HL
  generalize hL : [] ++ [(w.heap.size, segA ax ay bx bY)] ++ [(w.heap.size + 1, segA cx cy dx dY)] ++ [(bu, segA u0 u1 u2 u3)] ++ [(bv, segA v0 v1 v2 v3)] ++ [(bm, m)] = L at hK
  have HL := Lib.hid hL; clear hL
  have x0 := hK.c 2 (b := bu) (cs := segA u0 u1 u2 u3) (by rw [← HL.out]; rfl) 0 rfl
  have x1 := hK.c 2 (b := bu) (cs := segA u0 u1 u2 u3) (by rw [← HL.out]; rfl) 1 rfl
  have x2 := hK.c 2 (b := bu) (cs := segA u0 u1 u2 u3) (by rw [← HL.out]; rfl) 2 rfl
  have x3 := hK.c 2 (b := bu) (cs := segA u0 u1 u2 u3) (by rw [← HL.out]; rfl) 3 rfl
  have z0 := hK.c 3 (b := bv) (cs := segA v0 v1 v2 v3) (by rw [← HL.out]; rfl) 0 rfl
  have z1 := hK.c 3 (b := bv) (cs := segA v0 v1 v2 v3) (by rw [← HL.out]; rfl) 1 rfl
  have z2 := hK.c 3 (b := bv) (cs := segA v0 v1 v2 v3) (by rw [← HL.out]; rfl) 2 rfl
  have z3 := hK.c 3 (b := bv) (cs := segA v0 v1 v2 v3) (by rw [← HL.out]; rfl) 3 rfl
  go_wp2_with fail
  refine (H_hM2.out _ hK.2).mono ?_
  rintro e w1 ⟨rfl, hb⟩
  replace hK := hK.after hb
  clear hb
  clear x0 x1 x2 x3 z0 z1 z2 z3
  go_upto_region 7 with (refine wpList_store_R rfl _ _ _ rfl _ n rfl rfl _ (Row.at rfl zero_meet.toList _) (by rw [H_zN.out]; rfl) H_tN.out H_mN.out ?_; intro w2 r2 o2)
  replace hK := hK.wroteB o2 r2
  clear r2 o2
  generalize w1.heap.size = bn at *
  rw [← HL.out] at hK
  clear HL
  generalize hL : [] ++ [(w.heap.size, segA ax ay bx bY)] ++ [(w.heap.size + 1, segA cx cy dx dY)] ++ [(bu, segA u0 u1 u2 u3)] ++ [(bv, segA v0 v1 v2 v3)] ++ [(bm, m)] ++ [(bn, n)] = L at hK
  have HL := Lib.hid hL; clear hL
  have x0 := hK.c 0 (b := w.heap.size) (cs := segA ax ay bx bY) (by rw [← HL.out]; rfl) 0 rfl
  have x1 := hK.c 0 (b := w.heap.size) (cs := segA ax ay bx bY) (by rw [← HL.out]; rfl) 1 rfl
  have x2 := hK.c 0 (b := w.heap.size) (cs := segA ax ay bx bY) (by rw [← HL.out]; rfl) 2 rfl
  have x3 := hK.c 0 (b := w.heap.size) (cs := segA ax ay bx bY) (by rw [← HL.out]; rfl) 3 rfl
  have z0 := hK.c 1 (b := w.heap.size + 1) (cs := segA cx cy dx dY) (by rw [← HL.out]; rfl) 0 rfl
  have z1 := hK.c 1 (b := w.heap.size + 1) (cs := segA cx cy dx dY) (by rw [← HL.out]; rfl) 1 rfl
  have z2 := hK.c 1 (b := w.heap.size + 1) (cs := segA cx cy dx dY) (by rw [← HL.out]; rfl) 2 rfl
  have z3 := hK.c 1 (b := w.heap.size + 1) (cs := segA cx cy dx dY) (by rw [← HL.out]; rfl) 3 rfl
  go_wp2_with fail
  refine (H_hC1.out _).mono ?_
  rintro e w1 ⟨rfl, hb⟩
  replace hK := hK.after hb
  clear hb
  clear x0 x1 x2 x3 z0 z1 z2 z3
  have x0 := hK.c 2 (b := bu) (cs := segA u0 u1 u2 u3) (by rw [← HL.out]; rfl) 0 rfl
  have x1 := hK.c 2 (b := bu) (cs := segA u0 u1 u2 u3) (by rw [← HL.out]; rfl) 1 rfl
  have x2 := hK.c 2 (b := bu) (cs := segA u0 u1 u2 u3) (by rw [← HL.out]; rfl) 2 rfl
  have x3 := hK.c 2 (b := bu) (cs := segA u0 u1 u2 u3) (by rw [← HL.out]; rfl) 3 rfl
  have z0 := hK.c 3 (b := bv) (cs := segA v0 v1 v2 v3) (by rw [← HL.out]; rfl) 0 rfl
  have z1 := hK.c 3 (b := bv) (cs := segA v0 v1 v2 v3) (by rw [← HL.out]; rfl) 1 rfl
  have z2 := hK.c 3 (b := bv) (cs := segA v0 v1 v2 v3) (by rw [← HL.out]; rfl) 2 rfl
  have z3 := hK.c 3 (b := bv) (cs := segA v0 v1 v2 v3) (by rw [← HL.out]; rfl) 3 rfl
  go_wp2_with fail
  refine (H_hC2.out _).mono ?_
  rintro e w1 ⟨rfl, hb⟩
  replace hK := hK.after hb
  clear hb
  clear x0 x1 x2 x3 z0 z1 z2 z3
  go_wp2_with fail
  refine (HNum.out _ _).mono ?_
  rintro e w1 ⟨rfl, hb⟩
  replace hK := hK.after hb
  clear hb
  go_wp2_with fail
  refine (HNum.out _ _).mono ?_
  rintro e w1 ⟨rfl, hb⟩
  replace hK := hK.after hb
  clear hb
  go_wp2_with fail
  refine (HNum.out _ _).mono ?_
  rintro e w1 ⟨rfl, hb⟩
  replace hK := hK.after hb
  clear hb
  go_wp2_with fail
  refine (HNum.out _ _).mono ?_
  rintro e w1 ⟨rfl, hb⟩
  replace hK := hK.after hb
  clear hb
  have c0 := (hK.row 4 (b := bm) (cs := m) (by rw [← HL.out]; rfl)).c 0 M_knd.out
  have c1 := (hK.row 5 (b := bn) (cs := n) (by rw [← HL.out]; rfl)).c 0 N_knd.out
  have lf : (!(f == f)) = false := by cases f <;> rfl
  go_upto_region 13 with fail
  clear c0 c1 lf
  have tp : AggTy Tryz.prog 34 p.size := by rw [H_hp.out.1]; exact agg_point
  have tq : AggTy Tryz.prog 34 q.size := by rw [H_hp.out.2.1]; exact agg_point
  have tp' : AggTy Tryz.prog 34 p'.size := by rw [H_hp.out.2.2.1]; exact agg_point
  have tq' : AggTy Tryz.prog 34 q'.size := by rw [H_hp.out.2.2.2]; exact agg_point
  have tsp : AggTy Tryz.prog 34 sp.size := by rw [H_hs.out.1]; exact agg_point
  have tsq : AggTy Tryz.prog 34 sq.size := by rw [H_hs.out.2]; exact agg_point
  have rm := (hK.row 4 (b := bm) (cs := m) (by rw [← HL.out]; rfl)).mids 1 p.toList M_fst.out
  go_wp2_with (refine wpList_load_M rfl _ _ rfl bm 1 rfl p rm tp ?_)
  clear rm
  refine (H_hP.out _).mono ?_
  rintro e w1 ⟨rfl, hb⟩
  replace hK := hK.after hb
  clear hb
  go_upto_region 14 with (refine wpList_store_R rfl _ _ _ rfl _ sp rfl rfl _ (Row.at rfl zero_point.toList _) (by rw [H_hs.out.1]; rfl) tsp H_os.out.1 ?_; intro w2 r2 o2)
  replace hK := hK.wroteB o2 r2
  clear r2 o2
  generalize w1.heap.size = bp at *
  rw [← HL.out] at hK
  clear HL
  generalize hL : [] ++ [(w.heap.size, segA ax ay bx bY)] ++ [(w.heap.size + 1, segA cx cy dx dY)] ++ [(bu, segA u0 u1 u2 u3)] ++ [(bv, segA v0 v1 v2 v3)] ++ [(bm, m)] ++ [(bn, n)] ++ [(bp, sp)] = L at hK
  have HL := Lib.hid hL; clear hL
  have rm := (hK.row 4 (b := bm) (cs := m) (by rw [← HL.out]; rfl)).mids 21 q.toList M_snd.out
  go_wp2_with (refine wpList_load_M rfl _ _ rfl bm 21 rfl q rm tq ?_)
  clear rm
  refine (H_hQ.out _).mono ?_
  rintro e w1 ⟨rfl, hb⟩
  replace hK := hK.after hb
  clear hb
  go_upto_region 15 with (refine wpList_store_R rfl _ _ _ rfl _ sq rfl rfl _ (Row.at rfl zero_point.toList _) (by rw [H_hs.out.2]; rfl) tsq H_os.out.2 ?_; intro w2 r2 o2)
  replace hK := hK.wroteB o2 r2
  clear r2 o2
  generalize w1.heap.size = bq at *
  rw [← HL.out] at hK
  clear HL
  generalize hL : [] ++ [(w.heap.size, segA ax ay bx bY)] ++ [(w.heap.size + 1, segA cx cy dx dY)] ++ [(bu, segA u0 u1 u2 u3)] ++ [(bv, segA v0 v1 v2 v3)] ++ [(bm, m)] ++ [(bn, n)] ++ [(bp, sp)] ++ [(bq, sq)] = L at hK
  have HL := Lib.hid hL; clear hL
  have rn := hK.row 5 (b := bn) (cs := n) (by rw [← HL.out]; rfl)
  have rp := hK.row 6 (b := bp) (cs := sp) (by rw [← HL.out]; rfl)
  have rq := hK.row 7 (b := bq) (cs := sq) (by rw [← HL.out]; rfl)
  have hB := Lib.hid hK.2
  clear hK HL
  refine wp_region_txt (fun ix => match ix with | 1 => some true | 4 => some true | 10 => some true | 16 => some true | _ => none) (fun ix => match ix with
    | 0 => some (.bool true)
    | 1 => some (.bool true)
    | 2 => some (.bool true)
    | 3 => some (.bool true)
    | 4 => some (.bool true)
    | 5 => some (.agg sp)
    | 6 => some (.pointer (some ⟨bn, 1, none⟩))
    | 7 => some (.agg p')
    | 8 => some (.bool true)
    | 9 => some (.bool true)
    | 10 => some (.bool true)
    | 11 => some (.agg sq)
    | 12 => some (.pointer (some ⟨bn, 21, none⟩))
    | 13 => some (.agg q')
    | 14 => some (.bool true)
    | 15 => some (.bool true)
    | 16 => some (.bool true)
    | 17 => some (.bool true)
    | 18 => some (.bool true)
    | 19 => some (.bool true)
    | _ => none) [] [] ?_ ?_ (fun W => Below w.heap.size w W ∧ Row W bp sp.toList ∧ Row W bq sq.toList ∧ Row W bn n.toList) (by kernel_rfl) ?_ ⟨hB.out, rp, rq, rn⟩ ?_ ?_
  · intro j b hj
    split at hj <;> first | (cases hj; done) | (cases (Option.some.inj hj : _ = b); rfl)
  · intro j hj
    cases hj
  · intro j hj
    cases hj
  · intro a W ix o hI ho hw K hK'
    have hi : ix < 20 := (Array.getElem?_eq_some_iff.1 ho).1
    obtain ⟨hS, rp, rq, rn⟩ := hI.world
    have q15 : a.tmps[15]?.getD undef = .pointer (some ⟨bn, 0, none⟩) := hI.old 15 (noDst_spec (by kernel_rfl))
    have q21 : a.tmps[21]?.getD undef = .pointer (some ⟨bp, 0, none⟩) := hI.old 21 (noDst_spec (by kernel_rfl))
    have q22 : a.tmps[22]?.getD undef = .bool true := hI.old 22 (noDst_spec (by kernel_rfl))
    have q23 : a.tmps[23]?.getD undef = .pointer (some ⟨bq, 0, none⟩) := hI.old 23 (noDst_spec (by kernel_rfl))
    have q24 : a.tmps[24]?.getD undef = .bool true := hI.old 24 (noDst_spec (by kernel_rfl))
    have hcase : ix = 0 ∨ ix = 1 ∨ ix = 2 ∨ ix = 3 ∨ ix = 4 ∨ ix = 5 ∨ ix = 6 ∨ ix = 7 ∨ ix = 8 ∨ ix = 9 ∨ ix = 10 ∨ ix = 11 ∨ ix = 12 ∨ ix = 13 ∨ ix = 14 ∨ ix = 15 ∨ ix = 16 ∨ ix = 17 ∨ ix = 18 ∨ ix = 19 := by omega
    clear hi
    rcases hcase with rfl | rfl | rfl | rfl | rfl | rfl | rfl | rfl | rfl | rfl | rfl | rfl | rfl | rfl | rfl | rfl | rfl | rfl | rfl | rfl
    · obtain rfl := Option.some.inj (show some _ = some o from ho)
      clear hI ho hw
      go_simp
      exact hK' (.bool true) _ (fun u hu => Option.some.inj (show some _ = some u from hu)) ⟨hS, rp, rq, rn⟩
    · obtain rfl := Option.some.inj (show some _ = some o from ho)
      have q114 : a.tmps[114]?.getD undef = .bool true := hI.val 0 _ 114 _ (by decide) rfl rfl rfl
      clear hI ho hw
      go_simp
      exact hK' (.bool true) _ (fun u hu => Option.some.inj (show some _ = some u from hu)) ⟨hS, rp, rq, rn⟩
    · obtain rfl := Option.some.inj (show some _ = some o from ho)
      clear hI ho hw
      go_simp
      exact hK' (.bool true) _ (fun u hu => Option.some.inj (show some _ = some u from hu)) ⟨hS, rp, rq, rn⟩
    · obtain rfl := Option.some.inj (show some _ = some o from ho)
      have q115 : a.tmps[115]?.getD undef = .bool true := hI.val 1 _ 115 _ (by decide) rfl rfl rfl
      have q116 : a.tmps[116]?.getD undef = .bool true := hI.val 2 _ 116 _ (by decide) rfl rfl rfl
      clear hI ho hw
      go_simp
      exact hK' (.bool true) _ (fun u hu => Option.some.inj (show some _ = some u from hu)) ⟨hS, rp, rq, rn⟩
    · obtain rfl := Option.some.inj (show some _ = some o from ho)
      have q117 : a.tmps[117]?.getD undef = .bool true := hI.val 3 _ 117 _ (by decide) rfl rfl rfl
      clear hI ho hw
      go_simp
      exact hK' (.bool true) _ (fun u hu => Option.some.inj (show some _ = some u from hu)) ⟨hS, rp, rq, rn⟩
    · obtain rfl := Option.some.inj (show some _ = some o from ho)
      have e1 : a.eval (.tmp 21) = .pointer (some ⟨bp, 0, none⟩) := by rw [act_tmp]; exact q21
      exact wp_loadW _ _ rfl bp 0 e1 sp rp.whole tsp (hK' (.agg sp) _ (fun u hu => Option.some.inj (show some _ = some u from hu)) ⟨hS, rp, rq, rn⟩)
    · obtain rfl := Option.some.inj (show some _ = some o from ho)
      clear hI ho hw
      go_simp
      exact hK' (.pointer (some ⟨bn, 1, none⟩)) _ (fun u hu => Option.some.inj (show some _ = some u from hu)) ⟨hS, rp, rq, rn⟩
    · obtain rfl := Option.some.inj (show some _ = some o from ho)
      have q120 : a.tmps[120]?.getD undef = .pointer (some ⟨bn, 1, none⟩) := hI.val 6 _ 120 _ (by decide) rfl rfl rfl
      have e1 : a.eval (.tmp 120) = .pointer (some ⟨bn, 1, none⟩) := by rw [act_tmp]; exact q120
      exact wp_loadW _ _ rfl bn 1 e1 p' (rn.mids 1 p'.toList N_fst.out) tp' (hK' (.agg p') _ (fun u hu => Option.some.inj (show some _ = some u from hu)) ⟨hS, rp, rq, rn⟩)
    · obtain rfl := Option.some.inj (show some _ = some o from ho)
      have q119 : a.tmps[119]?.getD undef = .agg sp := hI.val 5 _ 119 _ (by decide) rfl rfl rfl
      have q121 : a.tmps[121]?.getD undef = .agg p' := hI.val 7 _ 121 _ (by decide) rfl rfl rfl
      have e1 : a.eval (.tmp 119) = .agg sp := by rw [act_tmp]; exact q119
      have e2 : a.eval (.tmp 121) = .agg p' := by rw [act_tmp]; exact q121
      exact wp_eqlM _ _ _ _ rfl sp p' _ e1 e2 (eqg_pt _ _ _ _ _) (H_h1.out _) (hK' (.bool true) _ (fun u hu => Option.some.inj (show some _ = some u from hu)) ⟨hS, rp, rq, rn⟩)
    · obtain rfl := Option.some.inj (show some _ = some o from ho)
      have q118 : a.tmps[118]?.getD undef = .bool true := hI.val 4 _ 118 _ (by decide) rfl rfl rfl
      have q122 : a.tmps[122]?.getD undef = .bool true := hI.val 8 _ 122 _ (by decide) rfl rfl rfl
      clear hI ho hw
      go_simp
      exact hK' (.bool true) _ (fun u hu => Option.some.inj (show some _ = some u from hu)) ⟨hS, rp, rq, rn⟩
    · obtain rfl := Option.some.inj (show some _ = some o from ho)
      have q123 : a.tmps[123]?.getD undef = .bool true := hI.val 9 _ 123 _ (by decide) rfl rfl rfl
      clear hI ho hw
      go_simp
      exact hK' (.bool true) _ (fun u hu => Option.some.inj (show some _ = some u from hu)) ⟨hS, rp, rq, rn⟩
    · obtain rfl := Option.some.inj (show some _ = some o from ho)
      have e1 : a.eval (.tmp 23) = .pointer (some ⟨bq, 0, none⟩) := by rw [act_tmp]; exact q23
      exact wp_loadW _ _ rfl bq 0 e1 sq rq.whole tsq (hK' (.agg sq) _ (fun u hu => Option.some.inj (show some _ = some u from hu)) ⟨hS, rp, rq, rn⟩)
    · obtain rfl := Option.some.inj (show some _ = some o from ho)
      clear hI ho hw
      go_simp
      exact hK' (.pointer (some ⟨bn, 21, none⟩)) _ (fun u hu => Option.some.inj (show some _ = some u from hu)) ⟨hS, rp, rq, rn⟩
    · obtain rfl := Option.some.inj (show some _ = some o from ho)
      have q126 : a.tmps[126]?.getD undef = .pointer (some ⟨bn, 21, none⟩) := hI.val 12 _ 126 _ (by decide) rfl rfl rfl
      have e1 : a.eval (.tmp 126) = .pointer (some ⟨bn, 21, none⟩) := by rw [act_tmp]; exact q126
      exact wp_loadW _ _ rfl bn 21 e1 q' (rn.mids 21 q'.toList N_snd.out) tq' (hK' (.agg q') _ (fun u hu => Option.some.inj (show some _ = some u from hu)) ⟨hS, rp, rq, rn⟩)
    · obtain rfl := Option.some.inj (show some _ = some o from ho)
      have q125 : a.tmps[125]?.getD undef = .agg sq := hI.val 11 _ 125 _ (by decide) rfl rfl rfl
      have q127 : a.tmps[127]?.getD undef = .agg q' := hI.val 13 _ 127 _ (by decide) rfl rfl rfl
      have e1 : a.eval (.tmp 125) = .agg sq := by rw [act_tmp]; exact q125
      have e2 : a.eval (.tmp 127) = .agg q' := by rw [act_tmp]; exact q127
      exact wp_eqlM _ _ _ _ rfl sq q' _ e1 e2 (eqg_pt _ _ _ _ _) (H_h2.out _) (hK' (.bool true) _ (fun u hu => Option.some.inj (show some _ = some u from hu)) ⟨hS, rp, rq, rn⟩)
    · obtain rfl := Option.some.inj (show some _ = some o from ho)
      have q124 : a.tmps[124]?.getD undef = .bool true := hI.val 10 _ 124 _ (by decide) rfl rfl rfl
      have q128 : a.tmps[128]?.getD undef = .bool true := hI.val 14 _ 128 _ (by decide) rfl rfl rfl
      clear hI ho hw
      go_simp
      exact hK' (.bool true) _ (fun u hu => Option.some.inj (show some _ = some u from hu)) ⟨hS, rp, rq, rn⟩
    · obtain rfl := Option.some.inj (show some _ = some o from ho)
      have q129 : a.tmps[129]?.getD undef = .bool true := hI.val 15 _ 129 _ (by decide) rfl rfl rfl
      clear hI ho hw
      go_simp
      exact hK' (.bool true) _ (fun u hu => Option.some.inj (show some _ = some u from hu)) ⟨hS, rp, rq, rn⟩
    · obtain rfl := Option.some.inj (show some _ = some o from ho)
      clear hI ho hw
      go_simp
      refine (H_hW.out _ hS).mono ?_
      rintro e W1 ⟨rfl, hb⟩
      exact hK' (.bool true) W1 (fun u hu => Option.some.inj (show some _ = some u from hu)) ⟨hS.trans (hb.mono hS.size), rp.after hb, rq.after hb, rn.after hb⟩
    · obtain rfl := Option.some.inj (show some _ = some o from ho)
      have q130 : a.tmps[130]?.getD undef = .bool true := hI.val 16 _ 130 _ (by decide) rfl rfl rfl
      have q131 : a.tmps[131]?.getD undef = .bool true := hI.val 17 _ 131 _ (by decide) rfl rfl rfl
      clear hI ho hw
      go_simp
      exact hK' (.bool true) _ (fun u hu => Option.some.inj (show some _ = some u from hu)) ⟨hS, rp, rq, rn⟩
    · obtain rfl := Option.some.inj (show some _ = some o from ho)
      have q132 : a.tmps[132]?.getD undef = .bool true := hI.val 18 _ 132 _ (by decide) rfl rfl rfl
      clear hI ho hw
      go_simp
      exact hK' (.bool true) _ (fun u hu => Option.some.inj (show some _ = some u from hu)) ⟨hS, rp, rq, rn⟩
  · intro a W hI
    have h8 : slotOf a 8 = .bool true := hI.val 19 _ 8 _ (by decide) rfl rfl rfl
    have hB2 := Lib.hid hI.world.1
    obtain ⟨f, hf⟩ : ∃ f : Nat → Value, ∀ t, slotOf a t = f t := ⟨_, fun _ => rfl⟩
    have ha := hI.frame [114, 115, 116, 117, 118, 119, 120, 121, 122, 123, 124, 125, 126, 127, 128, 129, 130, 131, 132, 8] (by kernel_rfl) f hf
    have e8 : f 8 = .bool true := (hf 8).symm.trans h8
    clear hf hI h8
    subst ha
    simp only [setAll, List.foldl_cons, List.foldl_nil, List.setIfInBounds_toArray, List.set_cons_zero, List.set_cons_succ, e8]
    go_wp2_with fail
    go_ret
    exact ⟨rfl, hB2.out⟩
end Go.Proofs.YthmobcpdbgmbeaaGreatDoor
