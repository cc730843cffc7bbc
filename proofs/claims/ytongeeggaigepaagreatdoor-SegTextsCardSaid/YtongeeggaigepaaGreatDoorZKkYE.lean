import Derived.Test.YtongeeggaigepaaGreatDoorZKkSD
import Derived.Test.YtongeeggaigepaaGreatDoorZKkSH
import Derived.Test.YtongeeggaigepaaGreatDoorZKkSQ
import Derived.Great.BuildSlice
namespace Go.Proofs.YtongeeggaigepaaGreatDoor
open Go.RowKit Go.Sort
theorem zero_point_one : OneC zero_point := by simp [OneC, zero_point, Value.oneCell']
set_option maxRecDepth 100000 in
set_option maxHeartbeats 1600000 in
theorem pointof_bad (x y : Int) (w : World) (h : (inB x && inB y) = false) :
 Calls Tryz.prog 119 #[nodeV x y] w fun e w' => e = .returned (.tuple #[.agg zero_point, .int .i64 2]) ∧ Below w.heap.size w w' := by
 have HC : Hid (∀ W, Calls Tryz.prog 37 #[nodeV x y] W fun e w' => e = .returned (.int .i64 2) ∧ Below W.heap.size W w') := Lib.hid (fun W => by
  have h9 := nodes_any x y W
  rw [h] at h9
  exact h9)
 clear h
 unfold nodeV at *
 go_enter Tryz.func119, Tryz.ntmps119
 go_wp2_with fail
 refine (HC.out _).mono ?_
 rintro e w1 ⟨rfl, hb⟩
 have r0 : Row w1 (w.heap.size + 1) zero_point.toList := (Row.at (by simp) zero_point.toList 46).after hb
 have hB : Below w.heap.size w w1 := (((Below.refl w.heap.size w).alloc (Nat.le_refl _) _).alloc (by simp) _).trans (hb.mono (by simp; omega))
 clear hb HC
 go_upto_region 3 with fail
 refine wp_region_list ?_
 refine wpList_buildTo rfl _ _ rfl _ rfl zero_point (by kernel_rfl) ?_
 go_wp2_with (first | (refine wpList_store_R rfl _ _ _ rfl (w.heap.size + 1) zero_point rfl rfl _ r0 rfl agg_point zero_point_one ?_; intro w2 hr ho))
 exact bodyPost_ret (results_R2 (cs := zero_point) rfl rfl hr agg_point) rfl ⟨rfl, below_on hB ho (by omega)⟩
theorem wpList_unguard {P : Program} {ops : Array Oper} {rest : List Oper} {op : Oper} {a : Act} {w : World} {Q : Exit → Act → World → Prop} (hw : Region.wanted op (yielded ops a.tmps) = true) (h : wpList P ops Q ({ op with guard := none } :: rest) a w) : wpList P ops Q (op :: rest) a w := by
 unfold wpList at h ⊢
 rw [if_pos hw]
 exact h
theorem pO_fst {w : World} {k : Nat} {a b c d : Option Int} (h : Row w k (pO a b c d).toList) : w.rangeAt k 0 (oA a).toList := fun j v hv => by
 rw [Nat.zero_add]
 match j, hv with
 | 0, hv => exact h.c 0 hv
 | 1, hv => exact h.c 1 hv
 | 2, hv => exact h.c 2 hv
 | 3, hv => exact h.c 3 hv
 | 4, hv => exact h.c 4 hv
 | _ + 5, hv => simp [oA] at hv
theorem pO_thd {w : World} {k : Nat} {a b c d : Option Int} (h : Row w k (pO a b c d).toList) : w.rangeAt k 10 (oA c).toList := fun j v hv => by
 match j, hv with
 | 0, hv => exact h.c 10 hv
 | 1, hv => exact h.c 11 hv
 | 2, hv => exact h.c 12 hv
 | 3, hv => exact h.c 13 hv
 | 4, hv => exact h.c 14 hv
 | _ + 5, hv => simp [oA] at hv
theorem pO_size (a b c d : Option Int) : (pO a b c d).size = 20 := rfl
set_option maxRecDepth 100000 in
set_option maxHeartbeats 3200000 in
theorem grid_core (a b c d : Option Int) (x y er gx gy : Int) (bx bz nb g : Bool) (Q : Array Value) (hQ : Q.size = 20) (hQ1 : OneC Q) (w : World)
 (H1 : Hid (∀ W, Calls Tryz.prog 118 #[.agg (oA a)] W fun e w' => e = .returned (.tuple #[.int .i64 x, .bool bx]) ∧ Below W.heap.size W w'))
 (H2 : Hid (∀ W, Calls Tryz.prog 118 #[.agg (oA c)] W fun e w' => e = .returned (.tuple #[.int .i64 y, .bool bz]) ∧ Below W.heap.size W w'))
 (HO : Hid (∀ W, Calls Tryz.prog 119 #[nodeV x y] W fun e w' => e = .returned (.tuple #[.agg Q, .int .i64 er]) ∧ Below W.heap.size W w'))
 (eP : ∀ W, (binOp .neq 46 (.agg Q) (.agg (pO a b c d))).run Tryz.prog W = .ok (.bool nb) W)
 (hway : ((er != 0) = true ∧ gx = 0 ∧ gy = 0 ∧ g = false) ∨ ((er != 0) = false ∧ nb = true ∧ gx = 0 ∧ gy = 0 ∧ g = false) ∨ ((er != 0) = false ∧ nb = false ∧ gx = x ∧ gy = y ∧ g = true)) :
 Calls Tryz.prog 85 #[.agg (pO a b c d)] w fun e w' => e = .returned (.tuple #[nodeV gx gy, .bool g]) ∧ Below w.heap.size w w' := by
 have hsz := pO_size a b c d
 have h1p := pO_one a b c d
 have agP : AggTy Tryz.prog 46 (pO a b c d).size := by rw [hsz]; exact agg_point
 have agQ : AggTy Tryz.prog 46 Q.size := by rw [hQ]; exact agg_point
 have rA := fun t => Row.at (w := w) rfl (pO a b c d).toList t
 have HW := Lib.hid hway
 have agA1 : AggTy Tryz.prog 42 (oA a).size := agg_int
 have agA3 : AggTy Tryz.prog 42 (oA c).size := agg_int
 have HRng : Hid (∀ W, Row W w.heap.size (pO a b c d).toList → W.rangeAt w.heap.size 0 (oA a).toList ∧ W.rangeAt w.heap.size 10 (oA c).toList) := Lib.hid (fun W h => ⟨pO_fst h, pO_thd h⟩)
 clear hway
 unfold nodeV at *
 generalize pO a b c d = P at *
 generalize oA a = A1 at *
 generalize oA c = A3 at *
 go_enter Tryz.func85, Tryz.ntmps85
 go_upto_region 1 with fail
 generalize hW : World.alloc _ _ = W0
 have hR : Row W0 w.heap.size P.toList := by rw [← hW]; exact (Row.at rfl P.toList _).alloc _
 have hN : Row W0 (w.heap.size + 1) [.int .i64 0, .int .i64 0] := by rw [← hW]; exact Row.at (by simp) [_, _] _
 have hB : Below w.heap.size w W0 := by rw [← hW]; exact ((Below.refl _ _).alloc (Nat.le_refl _) _).alloc (by simp) _
 clear hW rA
 have hr1 := (HRng.out _ hR).1
 go_wp2_with (first | (refine wpList_load_M rfl _ _ rfl _ 0 rfl A1 hr1 agA1 ?_))
 refine (H1.out _).mono ?_
 rintro e W1 ⟨rfl, hb⟩
 replace hR := hR.after hb
 replace hN := hN.after hb
 replace hB := hB.trans (hb.mono hB.size)
 clear hb hr1
 go_upto_region 2 with fail
 have hr3 := (HRng.out _ hR).2
 go_wp2_with (first | (refine wpList_load_M rfl _ _ rfl _ 10 rfl A3 hr3 agA3 ?_))
 refine (H2.out _).mono ?_
 rintro e W2 ⟨rfl, hb⟩
 replace hR := hR.after hb
 replace hN := hN.after hb
 replace hB := hB.trans (hb.mono hB.size)
 clear hb hr3
 go_upto_region 4 with fail
 generalize hW : World.alloc _ _ = W3
 have hX : Row W3 W2.heap.size [.int .i64 x, .int .i64 y] := by rw [← hW]; exact Row.at rfl [_, _] _
 have hu : Below W2.heap.size W2 W3 := by rw [← hW]; exact (Below.refl _ _).alloc (Nat.le_refl _) _
 replace hR := hR.after hu
 replace hN := hN.after hu
 replace hB := hB.trans (hu.mono hB.size)
 have hnl := hN.lt
 clear hW hu
 generalize hk8 : W2.heap.size = k8 at *
 have x0 := hX.c 0 rfl
 have x1 := hX.c 1 rfl
 go_wp2_with fail
 refine (HO.out _).mono ?_
 rintro e W4 ⟨rfl, hb⟩
 replace hR := hR.after hb
 replace hN := hN.after hb
 replace hX := hX.after hb
 replace hB := hB.trans (hb.mono hB.size)
 clear hb x0 x1
 have hB5 := hB.size
 have hk9 : W4.heap.size ≠ w.heap.size + 1 := by have := hN.lt; omega
 go_upto_region 5 with (first | (refine wpList_store_R rfl _ _ _ rfl W4.heap.size Q rfl rfl zero_point.toList (Row.at rfl zero_point.toList _) (by rw [hQ]; rfl) agQ hQ1 ?_; intro W5 hq ho))
 have hu : Below W4.heap.size W4 W5 := below_on ((Below.refl _ _).alloc (Nat.le_refl _) _) ho (Nat.le_refl _)
 replace hR := hR.after hu
 replace hN := hN.after hu
 replace hX := hX.after hu
 replace hB := hB.trans (hu.mono hB.size)
 clear hu ho
 generalize W4.heap.size = k9 at *
 have y0 := hX.c 0 rfl
 have y1 := hX.c 1 rfl
 have n0 := hN.f 0 rfl
 have n1 := (hN.set 0 (by simp) (.int .i64 x)).f 1 rfl
 have n1' := hN.f 1 rfl
 have m0 := hN.c 0 rfl
 have m1 := hN.c 1 rfl
 have m1' := (hN.set 0 (by simp) (.int .i64 x)).c 1 rfl
 rcases HW.out with ⟨q1, rfl, rfl, rfl⟩ | ⟨q1, rfl, rfl, rfl, rfl⟩ | ⟨q1, rfl, h3, h4, rfl⟩
 case' inr.inr =>
  replace h3 := h3.symm
  replace h4 := h4.symm
  subst h3
  subst h4
 all_goals
  go_wp2_with (first | (refine wpList_unguard rfl ?_; refine wpList_load_R rfl _ _ rfl k9 rfl Q hq agQ ?_) | (refine wpList_unguard rfl ?_; refine wpList_load_R rfl _ _ rfl w.heap.size rfl P hR agP ?_))
  first
   | (have rr := (hN.set 0 (by simp) (.int .i64 x)).set 1 (by simp) (.int .i64 y)
      have p0 := rr.c 0 rfl
      have p1 := rr.c 1 rfl
      refine bodyPost_ret (v := .tuple #[.agg #[.int .i64 x, .int .i64 y], .bool true]) (by simp [results, Tryz.results85, go_sem, p0, p1]) rfl ⟨rfl, below_put1 (below_put1 hB (by omega) 0 _) (by omega) 1 _⟩)
   | (have rr := (hN.set 0 (by simp) (.int .i64 0)).set 1 (by simp) (.int .i64 0)
      have p0 := rr.c 0 rfl
      have p1 := rr.c 1 rfl
      refine bodyPost_ret (v := .tuple #[.agg #[.int .i64 0, .int .i64 0], .bool false]) (by simp [results, Tryz.results85, go_sem, p0, p1]) rfl ⟨rfl, below_put1 (below_put1 hB (by omega) 0 _) (by omega) 1 _⟩)
def gridB : Option Int → Option Int → Option Int → Option Int → Bool
 | some x, some b, some y, some d => inB x && inB y && decide (b = 1) && decide (d = 1)
 | _, _, _, _ => false
theorem words_inj {m k : Nat} (hm : m < T256) (hk : k < T256) (h0 : ((W64 m 0 : Nat) : Int) = (W64 k 0 : Nat)) (h1 : ((W64 m 1 : Nat) : Int) = (W64 k 1 : Nat)) (h2 : ((W64 m 2 : Nat) : Int) = (W64 k 2 : Nat)) (h3 : ((W64 m 3 : Nat) : Int) = (W64 k 3 : Nat)) : m = k := by
 have e1 := valW_W64 m 4
 have e2 := valW_W64 k 4
 simp only [valW] at e1 e2
 rw [Nat.mod_eq_of_lt (Nat.lt_of_lt_of_le hm (by decide))] at e1
 rw [Nat.mod_eq_of_lt (Nat.lt_of_lt_of_le hk (by decide))] at e2
 rw [← e1, ← e2, Int.ofNat.inj h0, Int.ofNat.inj h1, Int.ofNat.inj h2, Int.ofNat.inj h3]
theorem eqI_O (x : Int) (o : Option Int) (hx : x.natAbs < T256) (ho : oM o < T256) : eqI (decide (x < 0)) (oS o) (W64 x.natAbs 0 : Nat) (W64 x.natAbs 1 : Nat) (W64 x.natAbs 2 : Nat) (W64 x.natAbs 3 : Nat) (W64 (oM o) 0 : Nat) (W64 (oM o) 1 : Nat) (W64 (oM o) 2 : Nat) (W64 (oM o) 3 : Nat) = decide (o = some x) := by
 rw [Bool.eq_iff_iff]
 unfold eqI
 simp only [Bool.and_eq_true, beq_iff_eq, decide_eq_true_eq]
 constructor
 ·rintro ⟨hs, h0, h1, h2, h3⟩
  have hm := words_inj hx ho h0 h1 h2 h3
  cases o with
  | none =>
    simp only [oS, oM] at hs hm
    have := of_decide_eq_true hs
    omega
  | some z =>
    simp only [oS, oM] at hs hm
    have hq := decide_eq_decide.1 hs
    congr 1
    omega
 ·rintro rfl
  exact ⟨rfl, rfl, rfl, rfl, rfl⟩
end Go.Proofs.YtongeeggaigepaaGreatDoor

namespace Go.Proofs.YtongeeggaigepaaGreatDoor
open Go.RowKit Go.Sort
theorem dotA_lit (x y : Int) : dotA x y = #[.bool (decide (x < 0)), .int .u64 (W64 x.natAbs 0 : Nat), .int .u64 (W64 x.natAbs 1 : Nat), .int .u64 (W64 x.natAbs 2 : Nat), .int .u64 (W64 x.natAbs 3 : Nat), .bool (decide ((1 : Int) < 0)), .int .u64 (W64 (1 : Int).natAbs 0 : Nat), .int .u64 (W64 (1 : Int).natAbs 1 : Nat), .int .u64 (W64 (1 : Int).natAbs 2 : Nat), .int .u64 (W64 (1 : Int).natAbs 3 : Nat), .bool (decide (y < 0)), .int .u64 (W64 y.natAbs 0 : Nat), .int .u64 (W64 y.natAbs 1 : Nat), .int .u64 (W64 y.natAbs 2 : Nat), .int .u64 (W64 y.natAbs 3 : Nat), .bool (decide ((1 : Int) < 0)), .int .u64 (W64 (1 : Int).natAbs 0 : Nat), .int .u64 (W64 (1 : Int).natAbs 1 : Nat), .int .u64 (W64 (1 : Int).natAbs 2 : Nat), .int .u64 (W64 (1 : Int).natAbs 3 : Nat)] := rfl
theorem neqDot (x y : Int) (a b c d : Option Int) (hx : x.natAbs < T256) (hy : y.natAbs < T256) (ha : oM a < T256) (hb : oM b < T256) (hc : oM c < T256) (hd : oM d < T256) (W : World) :
 (binOp .neq 46 (.agg (dotA x y)) (.agg (pO a b c d))).run Tryz.prog W = .ok (.bool (!((decide (a = some x) && decide (b = some 1)) && (decide (c = some y) && decide (d = some 1))))) W := by
 have h1 : (1 : Int).natAbs < T256 := by decide
 rw [dotA_lit, pO, run_neq_struct, show (10000 : Nat) = 9995 + 5 from rfl, eqPtI 9995, eqI_O x a hx ha, eqI_O 1 b h1 hb, eqI_O y c hy hc, eqI_O 1 d h1 hd]
 rfl
theorem inB_T {x : Int} (h : inB x = true) : x.natAbs < T256 := by
 have := (inB_iff x).1 h
 unfold Bd at this
 exact Nat.lt_of_le_of_lt (show x.natAbs ≤ 67108864 by omega) (by decide)
theorem sm_in {x : Int} (h : inB x = true) : smZ (some x) = x := by
 have := (inB_iff x).1 h
 unfold Bd at this
 show (if -9223372036854775808 ≤ x ∧ x < 9223372036854775808 then x else 0) = x
 rw [if_pos (by omega)]
theorem gridB_true {a b c d : Option Int} (h : gridB a b c d = true) : ∃ x y, a = some x ∧ b = some 1 ∧ c = some y ∧ d = some 1 ∧ inB x = true ∧ inB y = true := by
 match a, b, c, d, h with
 | some x, some b, some y, some d, h =>
   have h : (inB x && inB y && decide (b = 1) && decide (d = 1)) = true := h
   simp only [Bool.and_eq_true, decide_eq_true_eq] at h
   obtain ⟨⟨⟨i1, i2⟩, rfl⟩, rfl⟩ := h
   exact ⟨x, y, rfl, rfl, rfl, rfl, i1, i2⟩
 | none, _, _, _, h => cases h
 | some _, none, _, _, h => cases h
 | some _, some _, none, _, h => cases h
 | some _, some _, some _, none, h => cases h
theorem grid_O (a b c d : Option Int) (ha : oM a < T256) (hb : oM b < T256) (hc : oM c < T256) (hd : oM d < T256) (w : World) :
 Calls Tryz.prog 85 #[.agg (pO a b c d)] w fun e w' => e = .returned (.tuple #[nodeV (if gridB a b c d = true then smZ a else 0) (if gridB a b c d = true then smZ c else 0), .bool (gridB a b c d)]) ∧ Below w.heap.size w w' := by
 have H1 := Lib.hid (fun W => small_O a ha W)
 have H2 := Lib.hid (fun W => small_O c hc W)
 by_cases hg : (inB (smZ a) && inB (smZ c)) = true
 ·obtain ⟨h1, h2⟩ := Bool.and_eq_true_iff.1 hg
  refine grid_core a b c d _ _ 0 _ _ _ _ _ _ (dotA (smZ a) (smZ c)) rfl (dotA_one _ _) w H1 H2 (Lib.hid (fun W => pointof_num _ _ W ((inB_iff _).1 h1) ((inB_iff _).1 h2))) (fun W => neqDot _ _ a b c d (inB_T h1) (inB_T h2) ha hb hc hd W) ?_
  right
  by_cases he : (a = some (smZ a) ∧ b = some 1) ∧ (c = some (smZ c) ∧ d = some 1)
  ·have hG : gridB a b c d = true := by
    obtain ⟨⟨e1, rfl⟩, e2, rfl⟩ := he
    rw [e1, e2]
    show (inB (smZ a) && inB (smZ c) && decide ((1 : Int) = 1) && decide ((1 : Int) = 1)) = true
    rw [h1, h2]
    rfl
   right
   rw [hG]
   exact ⟨rfl, by rw [decide_eq_true he.1.1, decide_eq_true he.1.2, decide_eq_true he.2.1, decide_eq_true he.2.2]; rfl, rfl, rfl, rfl⟩
  ·have hG : gridB a b c d = false := by
    cases hq : gridB a b c d with
    | false => rfl
    | true =>
      exfalso
      apply he
      obtain ⟨x, y, rfl, rfl, rfl, rfl, i1, i2⟩ := gridB_true hq
      rw [sm_in i1, sm_in i2]
      exact ⟨⟨rfl, rfl⟩, rfl, rfl⟩
   left
   rw [hG]
   refine ⟨rfl, ?_, rfl, rfl, rfl⟩
   rw [Bool.not_eq_true']
   simp only [Bool.and_eq_false_iff, decide_eq_false_iff_not]
   by_cases q1 : a = some (smZ a)
   ·by_cases q2 : b = some 1
    ·by_cases q3 : c = some (smZ c)
     ·exact .inr (.inr (fun q4 => he ⟨⟨q1, q2⟩, q3, q4⟩))
     ·exact .inr (.inl q3)
    ·exact .inl (.inr q2)
   ·exact .inl (.inl q1)
 ·have hg : (inB (smZ a) && inB (smZ c)) = false := by simpa using hg
  have hG : gridB a b c d = false := by
   cases hq : gridB a b c d with
   | false => rfl
   | true =>
     exfalso
     obtain ⟨x, y, rfl, rfl, rfl, rfl, i1, i2⟩ := gridB_true hq
     rw [sm_in i1, sm_in i2, i1, i2] at hg
     cases hg
  rw [hG]
  by_cases he : ∃ nb, ∀ W, (binOp .neq 46 (.agg zero_point) (.agg (pO a b c d))).run Tryz.prog W = .ok (.bool nb) W
  ·obtain ⟨nb, he⟩ := he
   exact grid_core a b c d _ _ 2 _ _ _ _ nb _ zero_point rfl zero_point_one w H1 H2 (Lib.hid (fun W => pointof_bad _ _ W hg)) he (.inl ⟨rfl, rfl, rfl, rfl⟩)
  ·exact absurd ⟨_, fun W => by unfold zero_point pO; rw [run_neq_struct, show (10000 : Nat) = 9995 + 5 from rfl, eqPtI 9995]; rfl⟩ he
end Go.Proofs.YtongeeggaigepaaGreatDoor
