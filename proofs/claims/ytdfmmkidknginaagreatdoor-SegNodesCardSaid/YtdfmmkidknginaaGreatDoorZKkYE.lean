import Derived.Test.YtdfmmkidknginaaGreatDoorZKkSD
import Derived.Test.YtdfmmkidknginaaGreatDoorZKkSI
import Derived.Great.BuildSlice
import Derived.Test.YtdfmmkidknginaaGreatDoorZKkUA
namespace Go.Proofs.YtdfmmkidknginaaGreatDoor
open Go.RowKit Go.Sort
theorem zero_point_one : OneC zero_point := by simp [OneC, zero_point, Value.oneCell']
set_option maxRecDepth 100000 in
set_option maxHeartbeats 1600000 in
theorem pointof_bad (x y : Int) (w : World) (h : (inB x && inB y) = false) :
 Calls Tryz.prog 119 #[nodeV x y] w fun e w' => e = .returned (.tuple #[.agg zero_point, .int .i64 2]) ∧ Below w.heap.size w w' := by
 have HC : Hid (∀ W, Calls Tryz.prog 37 #[nodeV x y] W fun e w' => e = .returned (.int .i64 2) ∧ Below W.heap.size W w') := Lib.hid (fun W => by
  have h9 := nodes_any x y W
  rw [h] at h9
  exact h9)
 clear h
 unfold nodeV at *
 go_enter Tryz.func119, Tryz.ntmps119
 go_wp2_with fail
 refine (HC.out _).mono ?_
 rintro e w1 ⟨rfl, hb⟩
 have r0 : Row w1 (w.heap.size + 1) zero_point.toList := (Row.at (by simp) zero_point.toList 46).after hb
 have hB : Below w.heap.size w w1 := (((Below.refl w.heap.size w).alloc (Nat.le_refl _) _).alloc (by simp) _).trans (hb.mono (by simp; omega))
 clear hb HC
 go_upto_region 3 with fail
 refine wp_region_list ?_
 refine wpList_buildTo rfl _ _ rfl _ rfl zero_point (by kernel_rfl) ?_
 go_wp2_with (first | (refine wpList_store_R rfl _ _ _ rfl (w.heap.size + 1) zero_point rfl rfl _ r0 rfl agg_point zero_point_one ?_; intro w2 hr ho))
 exact bodyPost_ret (results_R2 (cs := zero_point) rfl rfl hr agg_point) rfl ⟨rfl, below_on hB ho (by omega)⟩
theorem wpList_unguard {P : Program} {ops : Array Oper} {rest : List Oper} {op : Oper} {a : Act} {w : World} {Q : Exit → Act → World → Prop} (hw : Region.wanted op (yielded ops a.tmps) = true) (h : wpList P ops Q ({ op with guard := none } :: rest) a w) : wpList P ops Q (op :: rest) a w := by
 unfold wpList at h ⊢
 rw [if_pos hw]
 exact h
theorem pO_fst {w : World} {k : Nat} {a b c d : Option Int} (h : Row w k (pO a b c d).toList) : w.rangeAt k 0 (oA a).toList := fun j v hv => by
 rw [Nat.zero_add]
 match j, hv with
 | 0, hv => exact h.c 0 hv
 | 1, hv => exact h.c 1 hv
 | 2, hv => exact h.c 2 hv
 | 3, hv => exact h.c 3 hv
 | 4, hv => exact h.c 4 hv
 | _ + 5, hv => simp [oA] at hv
theorem pO_thd {w : World} {k : Nat} {a b c d : Option Int} (h : Row w k (pO a b c d).toList) : w.rangeAt k 10 (oA c).toList := fun j v hv => by
 match j, hv with
 | 0, hv => exact h.c 10 hv
 | 1, hv => exact h.c 11 hv
 | 2, hv => exact h.c 12 hv
 | 3, hv => exact h.c 13 hv
 | 4, hv => exact h.c 14 hv
 | _ + 5, hv => simp [oA] at hv
theorem pO_size (a b c d : Option Int) : (pO a b c d).size = 20 := rfl
set_option maxRecDepth 100000 in
set_option maxHeartbeats 3200000 in
theorem grid_core (a b c d : Option Int) (x y er gx gy : Int) (bx bz nb g : Bool) (Q : Array Value) (hQ : Q.size = 20) (hQ1 : OneC Q) (w : World)
 (H1 : Hid (∀ W, Calls Tryz.prog 118 #[.agg (oA a)] W fun e w' => e = .returned (.tuple #[.int .i64 x, .bool bx]) ∧ Below W.heap.size W w'))
 (H2 : Hid (∀ W, Calls Tryz.prog 118 #[.agg (oA c)] W fun e w' => e = .returned (.tuple #[.int .i64 y, .bool bz]) ∧ Below W.heap.size W w'))
 (HO : Hid (∀ W, Calls Tryz.prog 119 #[nodeV x y] W fun e w' => e = .returned (.tuple #[.agg Q, .int .i64 er]) ∧ Below W.heap.size W w'))
 (eP : ∀ W, (binOp .neq 46 (.agg Q) (.agg (pO a b c d))).run Tryz.prog W = .ok (.bool nb) W)
 (hway : ((er != 0) = true ∧ gx = 0 ∧ gy = 0 ∧ g = false) ∨ ((er != 0) = false ∧ nb = true ∧ gx = 0 ∧ gy = 0 ∧ g = false) ∨ ((er != 0) = false ∧ nb = false ∧ gx = x ∧ gy = y ∧ g = true)) :
 Calls Tryz.prog 85 #[.agg (pO a b c d)] w fun e w' => e = .returned (.tuple #[nodeV gx gy, .bool g]) ∧ Below w.heap.size w w' := by
 have hsz := pO_size a b c d
 have h1p := pO_one a b c d
 have agP : AggTy Tryz.prog 46 (pO a b c d).size := by rw [hsz]; exact agg_point
 have agQ : AggTy Tryz.prog 46 Q.size := by rw [hQ]; exact agg_point
 have rA := fun t => Row.at (w := w) rfl (pO a b c d).toList t
 have HW := Lib.hid hway
 have agA1 : AggTy Tryz.prog 42 (oA a).size := agg_int
 have agA3 : AggTy Tryz.prog 42 (oA c).size := agg_int
 have HRng : Hid (∀ W, Row W w.heap.size (pO a b c d).toList → W.rangeAt w.heap.size 0 (oA a).toList ∧ W.rangeAt w.heap.size 10 (oA c).toList) := Lib.hid (fun W h => ⟨pO_fst h, pO_thd h⟩)
 clear hway
 unfold nodeV at *
 generalize pO a b c d = P at *
 generalize oA a = A1 at *
 generalize oA c = A3 at *
 go_enter Tryz.func85, Tryz.ntmps85
 go_upto_region 1 with fail
 generalize hW : World.alloc _ _ = W0
 have hR : Row W0 w.heap.size P.toList := by rw [← hW]; exact (Row.at rfl P.toList _).alloc _
 have hN : Row W0 (w.heap.size + 1) [.int .i64 0, .int .i64 0] := by rw [← hW]; exact Row.at (by simp) [_, _] _
 have hB : Below w.heap.size w W0 := by rw [← hW]; exact ((Below.refl _ _).alloc (Nat.le_refl _) _).alloc (by simp) _
 clear hW rA
 have hr1 := (HRng.out _ hR).1
 go_wp2_with (first | (refine wpList_load_M rfl _ _ rfl _ 0 rfl A1 hr1 agA1 ?_))
 refine (H1.out _).mono ?_
 rintro e W1 ⟨rfl, hb⟩
 replace hR := hR.after hb
 replace hN := hN.after hb
 replace hB := hB.trans (hb.mono hB.size)
 clear hb hr1
 go_upto_region 2 with fail
 have hr3 := (HRng.out _ hR).2
 go_wp2_with (first | (refine wpList_load_M rfl _ _ rfl _ 10 rfl A3 hr3 agA3 ?_))
 refine (H2.out _).mono ?_
 rintro e W2 ⟨rfl, hb⟩
 replace hR := hR.after hb
 replace hN := hN.after hb
 replace hB := hB.trans (hb.mono hB.size)
 clear hb hr3
 go_upto_region 4 with fail
 generalize hW : World.alloc _ _ = W3
 have hX : Row W3 W2.heap.size [.int .i64 x, .int .i64 y] := by rw [← hW]; exact Row.at rfl [_, _] _
 have hu : Below W2.heap.size W2 W3 := by rw [← hW]; exact (Below.refl _ _).alloc (Nat.le_refl _) _
 replace hR := hR.after hu
 replace hN := hN.after hu
 replace hB := hB.trans (hu.mono hB.size)
 have hnl := hN.lt
 clear hW hu
 generalize hk8 : W2.heap.size = k8 at *
 have x0 := hX.c 0 rfl
 have x1 := hX.c 1 rfl
 go_wp2_with fail
 refine (HO.out _).mono ?_
 rintro e W4 ⟨rfl, hb⟩
 replace hR := hR.after hb
 replace hN := hN.after hb
 replace hX := hX.after hb
 replace hB := hB.trans (hb.mono hB.size)
 clear hb x0 x1
 have hB5 := hB.size
 have hk9 : W4.heap.size ≠ w.heap.size + 1 := by have := hN.lt; omega
 go_upto_region 5 with (first | (refine wpList_store_R rfl _ _ _ rfl W4.heap.size Q rfl rfl zero_point.toList (Row.at rfl zero_point.toList _) (by rw [hQ]; rfl) agQ hQ1 ?_; intro W5 hq ho))
 have hu : Below W4.heap.size W4 W5 := below_on ((Below.refl _ _).alloc (Nat.le_refl _) _) ho (Nat.le_refl _)
 replace hR := hR.after hu
 replace hN := hN.after hu
 replace hX := hX.after hu
 replace hB := hB.trans (hu.mono hB.size)
 clear hu ho
 generalize W4.heap.size = k9 at *
 have y0 := hX.c 0 rfl
 have y1 := hX.c 1 rfl
 have n0 := hN.f 0 rfl
 have n1 := (hN.set 0 (by simp) (.int .i64 x)).f 1 rfl
 have n1' := hN.f 1 rfl
 have m0 := hN.c 0 rfl
 have m1 := hN.c 1 rfl
 have m1' := (hN.set 0 (by simp) (.int .i64 x)).c 1 rfl
 rcases HW.out with ⟨q1, rfl, rfl, rfl⟩ | ⟨q1, rfl, rfl, rfl, rfl⟩ | ⟨q1, rfl, h3, h4, rfl⟩
 case' inr.inr =>
  replace h3 := h3.symm
  replace h4 := h4.symm
  subst h3
  subst h4
 all_goals
  go_wp2_with (first | (refine wpList_unguard rfl ?_; refine wpList_load_R rfl _ _ rfl k9 rfl Q hq agQ ?_) | (refine wpList_unguard rfl ?_; refine wpList_load_R rfl _ _ rfl w.heap.size rfl P hR agP ?_))
  first
   | (have rr := (hN.set 0 (by simp) (.int .i64 x)).set 1 (by simp) (.int .i64 y)
      have p0 := rr.c 0 rfl
      have p1 := rr.c 1 rfl
      refine bodyPost_ret (v := .tuple #[.agg #[.int .i64 x, .int .i64 y], .bool true]) (by simp [results, Tryz.results85, go_sem, p0, p1]) rfl ⟨rfl, below_put1 (below_put1 hB (by omega) 0 _) (by omega) 1 _⟩)
   | (have rr := (hN.set 0 (by simp) (.int .i64 0)).set 1 (by simp) (.int .i64 0)
      have p0 := rr.c 0 rfl
      have p1 := rr.c 1 rfl
      refine bodyPost_ret (v := .tuple #[.agg #[.int .i64 0, .int .i64 0], .bool false]) (by simp [results, Tryz.results85, go_sem, p0, p1]) rfl ⟨rfl, below_put1 (below_put1 hB (by omega) 0 _) (by omega) 1 _⟩)
def gridB : Option Int → Option Int → Option Int → Option Int → Bool
 | some x, some b, some y, some d => inB x && inB y && decide (b = 1) && decide (d = 1)
 | _, _, _, _ => false
theorem words_inj {m k : Nat} (hm : m < T256) (hk : k < T256) (h0 : ((W64 m 0 : Nat) : Int) = (W64 k 0 : Nat)) (h1 : ((W64 m 1 : Nat) : Int) = (W64 k 1 : Nat)) (h2 : ((W64 m 2 : Nat) : Int) = (W64 k 2 : Nat)) (h3 : ((W64 m 3 : Nat) : Int) = (W64 k 3 : Nat)) : m = k := by
 have e1 := valW_W64 m 4
 have e2 := valW_W64 k 4
 simp only [valW] at e1 e2
 rw [Nat.mod_eq_of_lt (Nat.lt_of_lt_of_le hm (by decide))] at e1
 rw [Nat.mod_eq_of_lt (Nat.lt_of_lt_of_le hk (by decide))] at e2
 rw [← e1, ← e2, Int.ofNat.inj h0, Int.ofNat.inj h1, Int.ofNat.inj h2, Int.ofNat.inj h3]
theorem eqI_O (x : Int) (o : Option Int) (hx : x.natAbs < T256) (ho : oM o < T256) : eqI (decide (x < 0)) (oS o) (W64 x.natAbs 0 : Nat) (W64 x.natAbs 1 : Nat) (W64 x.natAbs 2 : Nat) (W64 x.natAbs 3 : Nat) (W64 (oM o) 0 : Nat) (W64 (oM o) 1 : Nat) (W64 (oM o) 2 : Nat) (W64 (oM o) 3 : Nat) = decide (o = some x) := by
 rw [Bool.eq_iff_iff]
 unfold eqI
 simp only [Bool.and_eq_true, beq_iff_eq, decide_eq_true_eq]
 constructor
 ·rintro ⟨hs, h0, h1, h2, h3⟩
  have hm := words_inj hx ho h0 h1 h2 h3
  cases o with
  | none =>
    simp only [oS, oM] at hs hm
    have := of_decide_eq_true hs
    omega
  | some z =>
    simp only [oS, oM] at hs hm
    have hq := decide_eq_decide.1 hs
    congr 1
    omega
 ·rintro rfl
  exact ⟨rfl, rfl, rfl, rfl, rfl⟩
end Go.Proofs.YtdfmmkidknginaaGreatDoor

namespace Go.Proofs.YtdfmmkidknginaaGreatDoor
open Go.RowKit Go.Sort
theorem dotA_lit (x y : Int) : dotA x y = #[.bool (decide (x < 0)), .int .u64 (W64 x.natAbs 0 : Nat), .int .u64 (W64 x.natAbs 1 : Nat), .int .u64 (W64 x.natAbs 2 : Nat), .int .u64 (W64 x.natAbs 3 : Nat), .bool (decide ((1 : Int) < 0)), .int .u64 (W64 (1 : Int).natAbs 0 : Nat), .int .u64 (W64 (1 : Int).natAbs 1 : Nat), .int .u64 (W64 (1 : Int).natAbs 2 : Nat), .int .u64 (W64 (1 : Int).natAbs 3 : Nat), .bool (decide (y < 0)), .int .u64 (W64 y.natAbs 0 : Nat), .int .u64 (W64 y.natAbs 1 : Nat), .int .u64 (W64 y.natAbs 2 : Nat), .int .u64 (W64 y.natAbs 3 : Nat), .bool (decide ((1 : Int) < 0)), .int .u64 (W64 (1 : Int).natAbs 0 : Nat), .int .u64 (W64 (1 : Int).natAbs 1 : Nat), .int .u64 (W64 (1 : Int).natAbs 2 : Nat), .int .u64 (W64 (1 : Int).natAbs 3 : Nat)] := rfl
theorem neqDot (x y : Int) (a b c d : Option Int) (hx : x.natAbs < T256) (hy : y.natAbs < T256) (ha : oM a < T256) (hb : oM b < T256) (hc : oM c < T256) (hd : oM d < T256) (W : World) :
 (binOp .neq 46 (.agg (dotA x y)) (.agg (pO a b c d))).run Tryz.prog W = .ok (.bool (!((decide (a = some x) && decide (b = some 1)) && (decide (c = some y) && decide (d = some 1))))) W := by
 have h1 : (1 : Int).natAbs < T256 := by decide
 rw [dotA_lit, pO, run_neq_struct, show (10000 : Nat) = 9995 + 5 from rfl, eqPtI 9995, eqI_O x a hx ha, eqI_O 1 b h1 hb, eqI_O y c hy hc, eqI_O 1 d h1 hd]
 rfl
theorem inB_T {x : Int} (h : inB x = true) : x.natAbs < T256 := by
 have := (inB_iff x).1 h
 unfold Bd at this
 exact Nat.lt_of_le_of_lt (show x.natAbs ≤ 67108864 by omega) (by decide)
theorem sm_in {x : Int} (h : inB x = true) : smZ (some x) = x := by
 have := (inB_iff x).1 h
 unfold Bd at this
 show (if -9223372036854775808 ≤ x ∧ x < 9223372036854775808 then x else 0) = x
 rw [if_pos (by omega)]
theorem gridB_true {a b c d : Option Int} (h : gridB a b c d = true) : ∃ x y, a = some x ∧ b = some 1 ∧ c = some y ∧ d = some 1 ∧ inB x = true ∧ inB y = true := by
 match a, b, c, d, h with
 | some x, some b, some y, some d, h =>
   have h : (inB x && inB y && decide (b = 1) && decide (d = 1)) = true := h
   simp only [Bool.and_eq_true, decide_eq_true_eq] at h
   obtain ⟨⟨⟨i1, i2⟩, rfl⟩, rfl⟩ := h
   exact ⟨x, y, rfl, rfl, rfl, rfl, i1, i2⟩
 | none, _, _, _, h => cases h
 | some _, none, _, _, h => cases h
 | some _, some _, none, _, h => cases h
 | some _, some _, some _, none, h => cases h
theorem grid_O (a b c d : Option Int) (ha : oM a < T256) (hb : oM b < T256) (hc : oM c < T256) (hd : oM d < T256) (w : World) :
 Calls Tryz.prog 85 #[.agg (pO a b c d)] w fun e w' => e = .returned (.tuple #[nodeV (if gridB a b c d = true then smZ a else 0) (if gridB a b c d = true then smZ c else 0), .bool (gridB a b c d)]) ∧ Below w.heap.size w w' := by
 have H1 := Lib.hid (fun W => small_O a ha W)
 have H2 := Lib.hid (fun W => small_O c hc W)
 by_cases hg : (inB (smZ a) && inB (smZ c)) = true
 ·obtain ⟨h1, h2⟩ := Bool.and_eq_true_iff.1 hg
  refine grid_core a b c d _ _ 0 _ _ _ _ _ _ (dotA (smZ a) (smZ c)) rfl (dotA_one _ _) w H1 H2 (Lib.hid (fun W => pointof_num _ _ W ((inB_iff _).1 h1) ((inB_iff _).1 h2))) (fun W => neqDot _ _ a b c d (inB_T h1) (inB_T h2) ha hb hc hd W) ?_
  right
  by_cases he : (a = some (smZ a) ∧ b = some 1) ∧ (c = some (smZ c) ∧ d = some 1)
  ·have hG : gridB a b c d = true := by
    obtain ⟨⟨e1, rfl⟩, e2, rfl⟩ := he
    rw [e1, e2]
    show (inB (smZ a) && inB (smZ c) && decide ((1 : Int) = 1) && decide ((1 : Int) = 1)) = true
    rw [h1, h2]
    rfl
   right
   rw [hG]
   exact ⟨rfl, by rw [decide_eq_true he.1.1, decide_eq_true he.1.2, decide_eq_true he.2.1, decide_eq_true he.2.2]; rfl, rfl, rfl, rfl⟩
  ·have hG : gridB a b c d = false := by
    cases hq : gridB a b c d with
    | false => rfl
    | true =>
      exfalso
      apply he
      obtain ⟨x, y, rfl, rfl, rfl, rfl, i1, i2⟩ := gridB_true hq
      rw [sm_in i1, sm_in i2]
      exact ⟨⟨rfl, rfl⟩, rfl, rfl⟩
   left
   rw [hG]
   refine ⟨rfl, ?_, rfl, rfl, rfl⟩
   rw [Bool.not_eq_true']
   simp only [Bool.and_eq_false_iff, decide_eq_false_iff_not]
   by_cases q1 : a = some (smZ a)
   ·by_cases q2 : b = some 1
    ·by_cases q3 : c = some (smZ c)
     ·exact .inr (.inr (fun q4 => he ⟨⟨q1, q2⟩, q3, q4⟩))
     ·exact .inr (.inl q3)
    ·exact .inl (.inr q2)
   ·exact .inl (.inl q1)
 ·have hg : (inB (smZ a) && inB (smZ c)) = false := by simpa using hg
  have hG : gridB a b c d = false := by
   cases hq : gridB a b c d with
   | false => rfl
   | true =>
     exfalso
     obtain ⟨x, y, rfl, rfl, rfl, rfl, i1, i2⟩ := gridB_true hq
     rw [sm_in i1, sm_in i2, i1, i2] at hg
     cases hg
  rw [hG]
  by_cases he : ∃ nb, ∀ W, (binOp .neq 46 (.agg zero_point) (.agg (pO a b c d))).run Tryz.prog W = .ok (.bool nb) W
  ·obtain ⟨nb, he⟩ := he
   exact grid_core a b c d _ _ 2 _ _ _ _ nb _ zero_point rfl zero_point_one w H1 H2 (Lib.hid (fun W => pointof_bad _ _ W hg)) he (.inl ⟨rfl, rfl, rfl, rfl⟩)
  ·exact absurd ⟨_, fun W => by unfold zero_point pO; rw [run_neq_struct, show (10000 : Nat) = 9995 + 5 from rfl, eqPtI 9995]; rfl⟩ he
end Go.Proofs.YtdfmmkidknginaaGreatDoor

namespace Go.Proofs.YtdfmmkidknginaaGreatDoor
open Go.RowKit
attribute [local go_sem] Oper.semAt_some
set_option maxRecDepth 100000 in
set_option maxHeartbeats 800000 in
theorem ends_any (ax ay bx bY : Int) (w : World) : Calls Tryz.prog 42 #[segV ax ay bx bY] w fun e w' => ∃ E, e = .returned (.func (.func 76) #[] #[.pointer (some ⟨E, 0, none⟩)]) ∧ w.heap.size ≤ E ∧ Row w' E [.int .i64 ax, .int .i64 ay, .int .i64 bx, .int .i64 bY] ∧ Below w.heap.size w w' := by
 have hmf : ∀ (fn : Fn) (first cap : Array Value) (w : World), (Instr.makeFunc fn first cap).run Tryz.prog w = .ok (.func fn first cap) w := fun _ _ _ _ => rfl
 unfold segV
 go_enter Tryz.func42, Tryz.ntmps42
 go_wp2
 go_ret
 exact ⟨_, rfl, Nat.le_refl _, Row.at rfl _ _, (Below.refl _ _).alloc (Nat.le_refl _) _⟩
set_option maxRecDepth 100000 in
set_option maxHeartbeats 4000000 in
theorem check_seg (ax ay bx bY : Int) (w : World) (h1 : Bd ax) (h2 : Bd ay) (h3 : Bd bx) (h4 : Bd bY) (hne : ¬ (ax = bx ∧ ay = bY)) :
 Calls Tryz.prog 14 #[segV ax ay bx bY] w fun e w' => e = .returned (.int .i64 0) ∧ Below w.heap.size w w' := by
 have HT : Hid (∀ x : Int × Int, x ∈ [(ax, ay), (bx, bY)] → ∀ W, Calls Tryz.prog 37 #[nodeV x.1 x.2] W fun e w' => e = .returned (.int .i64 0) ∧ Below W.heap.size W w') := Lib.hid (fun x hx W => by
  have hb : inB x.1 = true ∧ inB x.2 = true := by
   rcases (by simpa using hx : x = (ax, ay) ∨ x = (bx, bY)) with rfl | rfl
   ·exact ⟨(inB_iff _).2 h1, (inB_iff _).2 h2⟩
   ·exact ⟨(inB_iff _).2 h3, (inB_iff _).2 h4⟩
  have := nodes_any x.1 x.2 W
  rwa [hb.1, hb.2] at this)
 have hE : (ax == bx && ay == bY) = false := by
  cases h : (ax == bx && ay == bY)
  ·rfl
  ·simp at h; exact absurd h hne
 clear hne h1 h2 h3 h4
 have n1 : ∀ W, (binOp .eql 23 (.agg #[.int .i64 ax, .int .i64 ay]) (.agg #[.int .i64 bx, .int .i64 bY])).run Tryz.prog W = .ok (.bool (ax == bx && ay == bY)) W := fun W => eqlNode ax ay bx bY W
 rw [hE] at n1
 have HN := Lib.hid n1
 clear n1 hE
 unfold segV
 refine (callsIn_wide (n := 9)).1 ?_
 refine callsIn_of_wp_marks Tryz.func14 rfl trivial ?_ rfl
 simp only [Tryz.ntmps14, List.size_toArray, List.length_cons, List.length_nil, Nat.reduceAdd, Nat.reduceSub, Array.replicate_succ, Array.replicate_zero, List.push_toArray, List.append_toArray, List.nil_append, List.cons_append]
 refine wpIn_wide.2 ?_
 go_wp2_with fail
 generalize hW : World.alloc _ _ = W0
 have hR : Row W0 w.heap.size [.int .i64 ax, .int .i64 ay, .int .i64 bx, .int .i64 bY] := by rw [← hW]; exact (Row.at rfl _ _).alloc _
 have hR2 : Row W0 (w.heap.size + 1) [.int .i64 0] := by rw [← hW]; exact Row.at (by simp) _ _
 have hB : Below w.heap.size w W0 := by rw [← hW]; exact ((Below.refl _ _).alloc (Nat.le_refl _) _).alloc (by simp) _
 clear hW
 refine (ends_any ax ay bx bY _).mono ?_
 rintro e W1 ⟨E, rfl, hEs, hRE, hb⟩
 replace hR := hR.after hb
 replace hR2 := hR2.after hb
 replace hB := hB.trans (hb.mono hB.size)
 have hW0 := hb.size
 clear hb
 go_wp2_with fail
 refine (wpIn_wide (n := 9)).1 ?_
 refine wpIn_range_u (α := Int × Int) rfl (by omega) (gf := 76) (lb := #[.pointer (some ⟨E, 0, none⟩)]) rfl trivial (enters_of Tryz.func76 (by kernel_rfl) rfl)
  (ends_u 7 E ax ay bx bY W1 hRE) KeepsB.trans (fun _ l W _ o' h _ _ _ => KeepsB.turn W o' (by have := hRE.1; omega)) (fun _ _ _ h => KeepsB.below h) (Below.refl _ _) (fun _ => rfl)
  (fun _ W => Row W w.heap.size [.int .i64 ax, .int .i64 ay, .int .i64 bx, .int .i64 bY] ∧ Row W (w.heap.size + 1) [.int .i64 0] ∧ Below w.heap.size w W) (fun _ _ _ => False)
  (fun _ X Y h hb => ⟨h.1.below hb hR.1, h.2.1.below hb hR2.1, h.2.2.trans (hb.mono hB.size)⟩) (fun _ _ _ _ h _ => h.elim) ⟨hR, hR2, hB⟩
  (fun x a' W => ∃ Ba, W1.heap.size + 2 ≤ Ba ∧ Row W Ba [.int .i64 x.1, .int .i64 x.2] ∧ a' = { tmps := #[.agg #[.int .i64 ax, .int .i64 ay, .int .i64 bx, .int .i64 bY], .pointer (some ⟨w.heap.size, 0, none⟩), .pointer (some ⟨w.heap.size + 1, 0, none⟩), .pointer (some ⟨Ba, 0, none⟩), undef, .agg #[.int .i64 ax, .int .i64 ay, .int .i64 bx, .int .i64 bY], .func (.func 76) #[] #[.pointer (some ⟨E, 0, none⟩)], .agg #[.int .i64 x.1, .int .i64 x.2], undef, undef, undef, undef, undef, undef, undef, undef, undef, undef], defers := [] })
  (fun x a' W lo o h1 h2 ⟨Ba, ha, r1, e⟩ => ⟨Ba, ha, r1.turn (by omega) o, e⟩) ?assign ?body ?done ?stop
 case assign =>
  intro l' pre x W K hI hW hK
  clear hI
  unfold encN
  gi_wp2
  exact hK _ _ ((Below.refl _ _).alloc (Nat.le_refl _) _) ⟨W.heap.size, hW, Row.at rfl _ _, rfl⟩
 case body =>
  rintro l' pre x a' W ⟨hI1, hI2, hI3⟩ hW hp ⟨Ba, hBa, r1, rfl⟩
  have hx : x ∈ [(ax, ay), (bx, bY)] := hp.subset (by simp)
  have HC := Lib.hid (HT.out x hx)
  have a0 := r1.c 0 rfl
  have a1 := r1.c 1 rfl
  have HI := Lib.hid (And.intro hI1 (And.intro hI2 hI3))
  clear hx hp hI1 hI2 hI3 r1
  gi_wp2_with fail
  refine ⟨trivial, callsIn_wide.2 ((HC.out _).mono ?_)⟩
  rintro e W3 ⟨rfl, hb⟩
  clear a0 a1
  gi_wp2_with fail
  exact ⟨(keeps_below hb).from _, KeepsB.below hb, HI.out.1.after hb, HI.out.2.1.after hb, HI.out.2.2.trans (hb.mono HI.out.2.2.size)⟩
 case stop => exact fun _ _ _ _ _ _ h => h.elim
 case done =>
  rintro D V hD ⟨hI1, hI2, hI3⟩ hK
  have x0 := hI1.c 0 rfl
  have x1 := hI1.c 1 rfl
  have x2 := hI1.c 2 rfl
  have x3 := hI1.c 3 rfl
  have y0 := hI2.c 0 rfl
  have f0 := hI2.f 0 rfl
  have n1 := HN.out
  have HI := Lib.hid (And.intro hI2 hI3)
  have hD1 : D < V.heap.size := (Array.getElem?_eq_some_iff.1 hK).1
  have hs1 := hR2.1
  have HK := Lib.hid hK
  clear hI1 hI2 hI3 hK hR hR2 hRE
  go_wp2_with fail
  have hM : Marks W1.heap.size [D] (V.setCell ⟨w.heap.size + 1, 0, none⟩ (.int .i64 0)) := ⟨hD, (Below.heap_setCell _ _ _ _ (by show D ≠ w.heap.size + 1; omega)).trans HK.out, by simp, trivial⟩
  have r7 := HI.out.1.set 0 (by simp) (.int .i64 0)
  have hb7 : Below w.heap.size w (V.setCell ⟨w.heap.size + 1, 0, none⟩ (.int .i64 0)) := below_put1 HI.out.2 (by omega) _ _
  generalize V.setCell ⟨w.heap.size + 1, 0, none⟩ (.int .i64 0) = V4 at *
  refine leaves_marks [D] V4 hM fun V5 hV => ?_
  have c1 := (r7.below hV hs1).c 0 rfl
  exact ⟨.int .i64 0, by simp [results, Tryz.results14, go_sem, c1], rfl, hb7.trans (hV.mono hB.size)⟩
abbrev lineA (ax ay bx bY r u : Int) : Array Value := #[.int .i64 ax, .int .i64 ay, .int .i64 bx, .int .i64 bY, .int .i64 r, .int .i64 u]
theorem agg_sline : AggTy Tryz.prog 89 6 := .of _ Tryz.underlying89 rfl (by kernel_rfl)
set_option maxRecDepth 100000 in
set_option maxHeartbeats 1600000 in
theorem segfrom_any (ax ay bx bY : Int) (w : World) (h1 : Bd ax) (h2 : Bd ay) (h3 : Bd bx) (h4 : Bd bY) :
 Calls Tryz.prog 38 #[.agg (segA ax ay bx bY)] w fun e w' => e = .returned (.agg (lineA ax ay bx bY (bx - ax) (bY - ay))) ∧ Below w.heap.size w w' := by
 have e1 : wrap64 (bx - ax) = bx - ax := by unfold Bd at h1 h3; exact wrap_in (by omega) (by omega)
 have e2 : wrap64 (bY - ay) = bY - ay := by unfold Bd at h2 h4; exact wrap_in (by omega) (by omega)
 clear h1 h2 h3 h4
 have HB := Lib.hid (fun o o2 => ((Below.refl w.heap.size w).alloc (Nat.le_refl _) o).alloc (by simp) o2)
 go_enter Tryz.func38, Tryz.ntmps38
 go_wp2_with fail
 exact bodyPost_ret (results_R1 (cs := lineA ax ay bx bY (bx - ax) (bY - ay)) rfl rfl (Row.at (by simp) _ _) agg_sline) rfl ⟨rfl, HB.out _ _⟩
def turnB (r u : Int) : Bool := decide (r < 0) || (decide (r = 0) && decide (u < 0))
set_option maxRecDepth 100000 in
set_option maxHeartbeats 1600000 in
theorem laid_any (ax ay bx bY r u : Int) (w : World) :
 Calls Tryz.prog 41 #[.agg (lineA ax ay bx bY r u)] w fun e w' => e = .returned (.agg (if turnB r u = true then segA bx bY ax ay else segA ax ay bx bY)) ∧ Below w.heap.size w w' := by
 have HB := Lib.hid (fun o o2 => ((Below.refl w.heap.size w).alloc (Nat.le_refl _) o).alloc (by simp) o2)
 by_cases h1 : r < 0
 ·have HT := Lib.hid (show turnB r u = true by simp [turnB, h1])
  rw [HT.out, if_pos rfl]
  go_enter Tryz.func41, Tryz.ntmps41
  go_wp2_with fail
  exact bodyPost_ret (results_R1 (cs := segA bx bY ax ay) rfl rfl (Row.at (by simp) _ _) agg_seg) rfl ⟨rfl, HB.out _ _⟩
 ·by_cases h2 : r = 0
  ·subst h2
   by_cases h3 : u < 0
   ·have HT := Lib.hid (show turnB 0 u = true by simp [turnB, h3])
    rw [HT.out, if_pos rfl]
    go_enter Tryz.func41, Tryz.ntmps41
    go_wp2_with fail
    exact bodyPost_ret (results_R1 (cs := segA bx bY ax ay) rfl rfl (Row.at (by simp) _ _) agg_seg) rfl ⟨rfl, HB.out _ _⟩
   ·have HT := Lib.hid (show turnB 0 u = false by simp [turnB, h3])
    rw [HT.out, if_neg (by decide)]
    go_enter Tryz.func41, Tryz.ntmps41
    go_wp2_with fail
    exact bodyPost_ret (results_R1 (cs := segA ax ay bx bY) rfl rfl (Row.at (by simp) _ _) agg_seg) rfl ⟨rfl, HB.out _ _⟩
  ·have HT := Lib.hid (show turnB r u = false by simp [turnB, h1, h2])
   rw [HT.out, if_neg (by decide)]
   go_enter Tryz.func41, Tryz.ntmps41
   go_wp2_with fail
   exact bodyPost_ret (results_R1 (cs := segA ax ay bx bY) rfl rfl (Row.at (by simp) _ _) agg_seg) rfl ⟨rfl, HB.out _ _⟩
end Go.Proofs.YtdfmmkidknginaaGreatDoor

namespace Go.Proofs.YtdfmmkidknginaaGreatDoor
open Go.RowKit
theorem KB.toBelow' {B N : Nat} {a w : World} (h : KB B N a w) (hN : B ≤ N) : Below B a w := ⟨h.os, h.tape, h.output, h.size, fun k hk => h.block k hk (by omega)⟩
theorem KB.ofBelow {B N : Nat} {a w : World} (h : Below B a w) : KB B N a w := ⟨h.os, h.tape, h.output, h.size, fun k hk _ => h.block k hk⟩
abbrev laidA (ax ay bx bY : Int) : Array Value := if turnB (bx - ax) (bY - ay) = true then segA bx bY ax ay else segA ax ay bx bY
theorem laidA_four (ax ay bx bY : Int) : ∃ p0 p1 p2 p3, laidA ax ay bx bY = segA p0 p1 p2 p3 := by unfold laidA; split <;> exact ⟨_, _, _, _, rfl⟩
theorem KT.put4 {w W : World} {L : List (Nat × Array Value)} {M : List (Nat × Nat)} {b n : Nat} (h : KT w L M W) (hm : (b, n) ∈ M) (y0 y1 y2 y3 : Value) : KT w L M ((((W.setCell ⟨b, 0, none⟩ y0).setCell ⟨b, 1, none⟩ y1).setCell ⟨b, 2, none⟩ y2).setCell ⟨b, 3, none⟩ y3) := h.put hm [y0, y1, y2, y3]
set_option maxRecDepth 100000 in
set_option maxHeartbeats 3200000 in
theorem told1_seg (S A : Nat) (ax ay bx bY : Int) (w : World) (h1 : Bd ax) (h2 : Bd ay) (h3 : Bd bx) (h4 : Bd bY) (hne : ¬ (ax = bx ∧ ay = bY)) (hS : Row w S (segA ax ay bx bY).toList) (hA : Row w A [.func (.func 41) #[] #[]]) :
 Calls Tryz.prog 74 #[.pointer (some ⟨S, 0, none⟩), .pointer (some ⟨A, 0, none⟩)] w fun e w' => e = .returned (.agg (laidA ax ay bx bY)) ∧ Below w.heap.size w w' := by
 have H1 := Lib.hid (fun W => check_seg ax ay bx bY W h1 h2 h3 h4 hne)
 have H2 := Lib.hid (fun W => segfrom_any ax ay bx bY W h1 h2 h3 h4)
 have H3 := Lib.hid (fun W => laid_any ax ay bx bY (bx - ax) (bY - ay) W)
 have HL3 : Hid (∀ W, Calls Tryz.prog 41 #[.agg (lineA ax ay bx bY (bx - ax) (bY - ay))] W fun e w' => e = .returned (.agg (laidA ax ay bx bY)) ∧ Below W.heap.size W w') := H3
 clear h1 h2 h3 h4 hne H3
 obtain ⟨p0, p1, p2, p3, hcs⟩ := laidA_four ax ay bx bY
 rw [hcs] at HL3 ⊢
 clear hcs
 generalize bx - ax = r at H2 HL3
 generalize bY - ay = u at H2 HL3
 unfold segV at H1
 have eL : ∀ (args : Array Value) (w : World), (callFunc 41 args).run Tryz.prog w = .ok (.enter 41 args) w := fun args w => Tryz.call41 args w
 have hK : KT w ([] ++ [(S, segA ax ay bx bY)] ++ [(A, #[.func (.func 41) #[] #[]])]) ([] ++ [(w.heap.size, 4)]) (w.alloc (.cells (segA 0 0 0 0) 25)) := (KT.of (((KS.nil w).more hS).more hA)).made rfl (segA 0 0 0 0) _ rfl
 have x0 := hS.c 0 rfl
 have x1 := hS.c 1 rfl
 have x2 := hS.c 2 rfl
 have x3 := hS.c 3 rfl
 have lS := hS.1
 clear hS hA
 generalize hL : [] ++ [(S, segA ax ay bx bY)] ++ [(A, #[Value.func (.func 41) #[] #[]])] = L at hK
 generalize hM : [] ++ [(w.heap.size, 4)] = M at hK
 have HL := Lib.hid hL; clear hL
 have HM := Lib.hid (show (w.heap.size, 4) ∈ M by rw [← hM]; simp); clear hM
 have HK := Lib.hid hK; clear hK
 go_enter Tryz.func74, Tryz.ntmps74
 go_wp2_with fail
 refine (H1.out _).mono ?_
 rintro e w1 ⟨rfl, hb⟩
 have hK := HK.out.after hb
 clear HK hb x0 x1 x2 x3 lS
 go_wp2_with fail
 refine (for_okS _).mono ?_
 rintro e w2 ⟨rfl, rfl⟩
 have l0 : ∀ W, KT w L M W → W.cell? ⟨S, 0, none⟩ = some (.int .i64 ax) := fun W h => h.c 0 (by rw [← HL.out]; rfl) 0 rfl
 have l1 : ∀ W, KT w L M W → W.cell? ⟨S, 1, none⟩ = some (.int .i64 ay) := fun W h => h.c 0 (by rw [← HL.out]; rfl) 1 rfl
 have l2 : ∀ W, KT w L M W → W.cell? ⟨S, 2, none⟩ = some (.int .i64 bx) := fun W h => h.c 0 (by rw [← HL.out]; rfl) 2 rfl
 have l3 : ∀ W, KT w L M W → W.cell? ⟨S, 3, none⟩ = some (.int .i64 bY) := fun W h => h.c 0 (by rw [← HL.out]; rfl) 3 rfl
 have m0 : ∀ W, KT w L M W → W.cell? ⟨A, 0, none⟩ = some (.func (.func 41) #[] #[]) := fun W h => h.c 1 (by rw [← HL.out]; rfl) 0 rfl
 have qc0 : ∀ W, KT w L M W → W.cell? ⟨w.heap.size, 0, none⟩ = some (cellAt W w.heap.size 0) := fun W h => h.here HM.out 0 (by decide)
 have qf0 : ∀ W, KT w L M W → W.frozen? ⟨w.heap.size, 0, none⟩ = false := fun W h => h.free HM.out 0 (by decide)
 have qc1 : ∀ W, KT w L M W → W.cell? ⟨w.heap.size, 1, none⟩ = some (cellAt W w.heap.size 1) := fun W h => h.here HM.out 1 (by decide)
 have qf1 : ∀ W, KT w L M W → W.frozen? ⟨w.heap.size, 1, none⟩ = false := fun W h => h.free HM.out 1 (by decide)
 have qc2 : ∀ W, KT w L M W → W.cell? ⟨w.heap.size, 2, none⟩ = some (cellAt W w.heap.size 2) := fun W h => h.here HM.out 2 (by decide)
 have qf2 : ∀ W, KT w L M W → W.frozen? ⟨w.heap.size, 2, none⟩ = false := fun W h => h.free HM.out 2 (by decide)
 have qc3 : ∀ W, KT w L M W → W.cell? ⟨w.heap.size, 3, none⟩ = some (cellAt W w.heap.size 3) := fun W h => h.here HM.out 3 (by decide)
 have qf3 : ∀ W, KT w L M W → W.frozen? ⟨w.heap.size, 3, none⟩ = false := fun W h => h.free HM.out 3 (by decide)
 go_wp2_with fail
 have hk0 := hK.drew
 go_region_held3 (fun w' : World => KT w L M w')
  (first
    | (with_reducible assumption)
    | (with_reducible refine KT.drew ?_; with_reducible assumption)
    | (with_reducible refine KT.put4 ?_ HM.out _ _ _ _; with_reducible assumption)
    | (with_reducible refine KT.alloc ?_ _; with_reducible assumption)
    | (with_reducible refine KT.after ?_ hb; with_reducible assumption))
  (first
    | (go_at_call 38; (with_reducible refine (H2.out _).mono ?_); rintro e w' ⟨rfl, hb⟩)
    | (go_at_call 41; (with_reducible refine (HL3.out _).mono ?_); rintro e w' ⟨rfl, hb⟩))
 all_goals
  have hq := ‹KT w L M _›
  have hr := hq.put_row (cs := [_, _, _, _]) HM.out rfl
  clear l0 l1 l2 l3 m0 qc0 qc1 qf0 qf1 qc2 qc3 qf2 qf3
  go_wp2
  exact bodyPost_ret (results_R1 (cs := segA p0 p1 p2 p3) rfl rfl hr agg_seg) rfl ⟨rfl, hq.1.2⟩
set_option maxRecDepth 100000 in
set_option maxHeartbeats 1600000 in
theorem toldseg_any (ax ay bx bY : Int) (w : World) (h1 : Bd ax) (h2 : Bd ay) (h3 : Bd bx) (h4 : Bd bY) (hne : ¬ (ax = bx ∧ ay = bY)) :
 Calls Tryz.prog 40 #[.agg (segA ax ay bx bY), .func (.func 41) #[] #[]] w fun e w' => e = .returned (.tuple #[.agg (laidA ax ay bx bY), .int .i64 0]) ∧ Below w.heap.size w w' := by
 have hmf : ∀ (fn : Fn) (first cap : Array Value) (w : World), (Instr.makeFunc fn first cap).run Tryz.prog w = .ok (.func fn first cap) w := fun _ _ _ _ => rfl
 have H1 := Lib.hid (fun S A W hS hA => told1_seg S A ax ay bx bY W h1 h2 h3 h4 hne hS hA)
 clear h1 h2 h3 h4 hne
 obtain ⟨p0, p1, p2, p3, hcs⟩ := laidA_four ax ay bx bY
 rw [hcs] at H1 ⊢
 clear hcs
 go_enter Tryz.func40, Tryz.ntmps40
 go_wp2_with fail
 have r0 := ((Row.at (w := w) rfl (segA ax ay bx bY).toList 25).alloc (.cells #[.func (.func 41) #[] #[]] 93)).alloc (.cells (segA 0 0 0 0) 25)
 have r1 := (Row.at (w := w.alloc (.cells (segA ax ay bx bY) 25)) (n := w.heap.size + 1) (by simp) [.func (.func 41) #[] #[]] 93).alloc (.cells (segA 0 0 0 0) 25)
 have r2 := Row.at (w := (w.alloc (.cells (segA ax ay bx bY) 25)).alloc (.cells #[.func (.func 41) #[] #[]] 93)) (n := w.heap.size + 1 + 1) (by simp) (segA 0 0 0 0).toList 25
 have hb0 := (((Below.refl w.heap.size w).alloc (Nat.le_refl _) (.cells (segA ax ay bx bY) 25)).alloc (by simp) (.cells #[.func (.func 41) #[] #[]] 93)).alloc (by simp; omega) (.cells (segA 0 0 0 0) 25)
 generalize World.alloc _ _ = W0 at *
 refine (caught_seg 74 #[.pointer (some ⟨w.heap.size, 0, none⟩), .pointer (some ⟨w.heap.size + 1, 0, none⟩)] w.heap.size (.val (segA p0 p1 p2 p3)) _ r0.1 ⟨rfl, segA_one _ _ _ _⟩ (fun _ _ => Tryz.call74 _ _)
  (fun W hW => (H1.out _ _ W (r0.after hW) (r1.after hW)).mono (fun e w' h => ⟨h.1, KB.ofBelow h.2⟩))).mono ?_
 rintro e w1 ⟨rfl, hk⟩
 have hK := ((KB.refl w.heap.size w.heap.size w).below hb0 (Nat.le_refl _)).trans hk hb0.size
 replace r2 := r2.kb hk (by omega)
 have hl := r2.1
 clear r0 r1 hk hb0 H1
 simp only [Got.ans]
 have z0 := r2.c 0 rfl
 have z1 := r2.c 1 rfl
 have z2 := r2.c 2 rfl
 have z3 := r2.c 3 rfl
 have f0 := r2.f 0 rfl
 have f1 := r2.f 1 rfl
 have f2 := r2.f 2 rfl
 have f3 := r2.f 3 rfl
 go_wp2_with fail
 exact bodyPost_ret (results_R2 (cs := segA p0 p1 p2 p3) rfl rfl (r2.putAll [_, _, _, _] rfl) agg_seg) rfl ⟨rfl, below_put1 (below_put1 (below_put1 (below_put1 (hK.toBelow' (Nat.le_refl _)) (by omega) _ _) (by omega) _ _) (by omega) _ _) (by omega) _ _⟩
set_option maxRecDepth 100000 in
set_option maxHeartbeats 1600000 in
theorem Laid_any (ax ay bx bY : Int) (w : World) (h1 : Bd ax) (h2 : Bd ay) (h3 : Bd bx) (h4 : Bd bY) (hne : ¬ (ax = bx ∧ ay = bY)) :
 Calls Tryz.prog 11 #[.agg (segA ax ay bx bY)] w fun e w' => e = .returned (.tuple #[.agg (laidA ax ay bx bY), .int .i64 0]) ∧ Below w.heap.size w w' := by
 have H1 := Lib.hid (fun W => toldseg_any ax ay bx bY W h1 h2 h3 h4 hne)
 clear h1 h2 h3 h4 hne
 obtain ⟨p0, p1, p2, p3, hcs⟩ := laidA_four ax ay bx bY
 rw [hcs] at H1 ⊢
 clear hcs
 go_enter Tryz.func11, Tryz.ntmps11
 go_wp2_with fail
 have r1 := Row.at (w := w.alloc (.cells (segA ax ay bx bY) 25)) (n := w.heap.size + 1) (by simp) (segA 0 0 0 0).toList 25
 have hb0 := ((Below.refl w.heap.size w).alloc (Nat.le_refl _) (.cells (segA ax ay bx bY) 25)).alloc (by simp) (.cells (segA 0 0 0 0) 25)
 generalize World.alloc _ _ = W0 at *
 refine (H1.out _).mono ?_
 rintro e w1 ⟨rfl, hb⟩
 replace r1 := r1.after hb
 replace hb0 := hb0.trans (hb.mono hb0.size)
 have hl := r1.1
 clear hb H1
 have z0 := r1.c 0 rfl
 have z1 := r1.c 1 rfl
 have z2 := r1.c 2 rfl
 have z3 := r1.c 3 rfl
 have f0 := r1.f 0 rfl
 have f1 := r1.f 1 rfl
 have f2 := r1.f 2 rfl
 have f3 := r1.f 3 rfl
 go_wp2_with fail
 exact bodyPost_ret (results_R2 (cs := segA p0 p1 p2 p3) rfl rfl (r1.putAll [_, _, _, _] rfl) agg_seg) rfl ⟨rfl, below_put1 (below_put1 (below_put1 (below_put1 hb0 (by omega) _ _) (by omega) _ _) (by omega) _ _) (by omega) _ _⟩
end Go.Proofs.YtdfmmkidknginaaGreatDoor

namespace Go.Proofs.YtdfmmkidknginaaGreatDoor
open Go.RowKit
attribute [local go_sem] Oper.semAt_some
def ndB (x : Int × Int) : Bool := inB x.1 && inB x.2
def ckI (ax ay bx bY : Int) : Int := if (ndB (ax, ay) && (ndB (bx, bY) && !(ax == bx && ay == bY))) = true then 0 else 2
theorem KeepsFrom.put {s b : Nat} {X Y : World} (h : KeepsFrom s X Y) (hb : b < s) (v : Value) : KeepsFrom s X (Y.setCell ⟨b, 0, none⟩ v) :=
 ⟨by simpa [World.setCell] using h.1, fun k o hk h1 h2 => (Below.heap_setCell _ _ _ _ (by show k ≠ b; omega)).trans (h.2 k o hk h1 h2)⟩
theorem KeepsB.put {E b : Nat} {X Y : World} (h : KeepsB E X Y) (hne : E ≠ b) (v : Value) : KeepsB E X (Y.setCell ⟨b, 0, none⟩ v) :=
 ⟨by simpa [World.setCell] using h.1, fun hl => (Below.heap_setCell _ _ _ _ hne).trans (h.2 hl)⟩
set_option maxRecDepth 100000 in
set_option maxHeartbeats 4000000 in
theorem check_any4 (ax ay bx bY : Int) (w : World) :
 Calls Tryz.prog 14 #[segV ax ay bx bY] w fun e w' => e = .returned (.int .i64 (ckI ax ay bx bY)) ∧ Below w.heap.size w w' := by
 have HT : Hid (∀ x : Int × Int, ∀ W, Calls Tryz.prog 37 #[nodeV x.1 x.2] W fun e w' => e = .returned (.int .i64 (if ndB x = true then 0 else 2)) ∧ Below W.heap.size W w') := Lib.hid (fun x W => nodes_any x.1 x.2 W)
 have n1 : ∀ W, (binOp .eql 23 (.agg #[.int .i64 ax, .int .i64 ay]) (.agg #[.int .i64 bx, .int .i64 bY])).run Tryz.prog W = .ok (.bool (ax == bx && ay == bY)) W := fun W => eqlNode ax ay bx bY W
 have HN := Lib.hid n1
 clear n1
 have HV : Hid (∀ v : Int, (((∀ x, x ∈ [(ax, ay), (bx, bY)] → ndB x = true) ∧ v = (if (ax == bx && ay == bY) = true then 2 else 0)) ∨ ((∃ x, x ∈ [(ax, ay), (bx, bY)] ∧ ndB x = false) ∧ v = 2)) → v = ckI ax ay bx bY) := Lib.hid (by
  intro v h
  unfold ckI
  rcases h with ⟨h1, h2⟩ | ⟨⟨x, hx, h1⟩, h2⟩
  ·rw [h2, h1 (ax, ay) (by simp), h1 (bx, bY) (by simp)]
   cases (ax == bx && ay == bY) <;> rfl
  ·rw [h2]
   rcases (by simpa using hx : x = (ax, ay) ∨ x = (bx, bY)) with rfl | rfl
   ·rw [h1]; rfl
   ·rw [h1]; cases ndB (ax, ay) <;> rfl)
 unfold segV
 refine (callsIn_wide (n := 9)).1 ?_
 refine callsIn_of_wp_marks Tryz.func14 rfl trivial ?_ rfl
 simp only [Tryz.ntmps14, List.size_toArray, List.length_cons, List.length_nil, Nat.reduceAdd, Nat.reduceSub, Array.replicate_succ, Array.replicate_zero, List.push_toArray, List.append_toArray, List.nil_append, List.cons_append]
 refine wpIn_wide.2 ?_
 go_wp2_with fail
 generalize hW : World.alloc _ _ = W0
 have hR : Row W0 w.heap.size [.int .i64 ax, .int .i64 ay, .int .i64 bx, .int .i64 bY] := by rw [← hW]; exact (Row.at rfl _ _).alloc _
 have hR2 : Row W0 (w.heap.size + 1) [.int .i64 0] := by rw [← hW]; exact Row.at (by simp) _ _
 have hZ : w.heap.size + 1 < W0.heap.size := hR2.1
 have hB : Below w.heap.size w W0 := by rw [← hW]; exact ((Below.refl _ _).alloc (Nat.le_refl _) _).alloc (by simp) _
 clear hW
 refine (ends_any ax ay bx bY _).mono ?_
 rintro e W1 ⟨E, rfl, hEs, hRE, hb⟩
 replace hR := hR.after hb
 replace hR2 := hR2.after hb
 replace hB := hB.trans (hb.mono hB.size)
 have hW0 := hb.size
 clear hb
 go_wp2_with fail
 refine (wpIn_wide (n := 9)).1 ?_
 refine wpIn_range_u (α := Int × Int) rfl (by omega) (gf := 76) (lb := #[.pointer (some ⟨E, 0, none⟩)]) rfl trivial (enters_of Tryz.func76 (by kernel_rfl) rfl)
  (ends_u 7 E ax ay bx bY W1 hRE) KeepsB.trans (fun _ l W _ o' h _ _ _ => KeepsB.turn W o' (by have := hRE.1; omega)) (fun _ _ _ h => KeepsB.below h) (Below.refl _ _) (fun _ => rfl)
  (fun pre W => Row W w.heap.size [.int .i64 ax, .int .i64 ay, .int .i64 bx, .int .i64 bY] ∧ Row W (w.heap.size + 1) [.int .i64 0] ∧ Below w.heap.size w W ∧ ∀ x, x ∈ pre → ndB x = true) (fun c pre W => c = .ret ∧ Row W (w.heap.size + 1) [.int .i64 2] ∧ Below w.heap.size w W ∧ ∃ x, x ∈ pre ∧ ndB x = false)
  (fun _ X Y h hb => ⟨h.1.below hb hR.1, h.2.1.below hb hR2.1, h.2.2.1.trans (hb.mono hB.size), h.2.2.2⟩) (fun _ _ X Y h hb => ⟨h.1, h.2.1.below hb hR2.1, h.2.2.1.trans (hb.mono hB.size), h.2.2.2⟩) ⟨hR, hR2, hB, fun _ hx => absurd hx (by simp)⟩
  (fun x a' W => ∃ Ba, W1.heap.size + 2 ≤ Ba ∧ Row W Ba [.int .i64 x.1, .int .i64 x.2] ∧ a' = { tmps := #[.agg #[.int .i64 ax, .int .i64 ay, .int .i64 bx, .int .i64 bY], .pointer (some ⟨w.heap.size, 0, none⟩), .pointer (some ⟨w.heap.size + 1, 0, none⟩), .pointer (some ⟨Ba, 0, none⟩), undef, .agg #[.int .i64 ax, .int .i64 ay, .int .i64 bx, .int .i64 bY], .func (.func 76) #[] #[.pointer (some ⟨E, 0, none⟩)], .agg #[.int .i64 x.1, .int .i64 x.2], undef, undef, undef, undef, undef, undef, undef, undef, undef, undef], defers := [] })
  (fun x a' W lo o h1 h2 ⟨Ba, ha, r1, e⟩ => ⟨Ba, ha, r1.turn (by omega) o, e⟩) ?assign ?body ?done ?stop
 case assign =>
  intro l' pre x W K hI hW hK
  clear hI
  unfold encN
  gi_wp2
  exact hK _ _ ((Below.refl _ _).alloc (Nat.le_refl _) _) ⟨W.heap.size, hW, Row.at rfl _ _, rfl⟩
 case body =>
  rintro l' pre x a' W ⟨hI1, hI2, hI3, hI4⟩ hW hp ⟨Ba, hBa, r1, rfl⟩
  have HC := Lib.hid (HT.out x)
  have a0 := r1.c 0 rfl
  have a1 := r1.c 1 rfl
  have HI := Lib.hid (And.intro hI1 (And.intro hI2 (And.intro hI3 hI4)))
  have HS := Lib.hid hR2.1
  have HW1 := Lib.hid hW0
  clear hp hI1 hI2 hI3 hI4 r1
  gi_wp2_with fail
  refine ⟨trivial, callsIn_wide.2 ((HC.out _).mono ?_)⟩
  rintro e W3 ⟨rfl, hb⟩
  clear a0 a1
  cases hx : ndB x
  ·have r2 := HI.out.2.1.after hb
   have c0 := r2.c 0 rfl
   have f0 := r2.f 0 rfl
   have HX := Lib.hid hx
   clear hx
   simp only [Bool.false_eq_true, if_false]
   have hs1 := hR2.1
   have hEs2 := hEs
   gi_wp2_with fail
   exact ⟨KeepsFrom.put ((keeps_below hb).from _) hs1 _, KeepsB.put (KeepsB.below hb) (by omega) _, rfl, r2.set 0 (by simp) (.int .i64 2), below_put1 (HI.out.2.2.1.trans (hb.mono HI.out.2.2.1.size)) (by omega) _ _, x, by simp, HX.out⟩
  ·have HX := Lib.hid hx
   clear hx
   simp only [if_true]
   gi_wp2_with fail
   refine ⟨(keeps_below hb).from _, KeepsB.below hb, HI.out.1.after hb, HI.out.2.1.after hb, HI.out.2.2.1.trans (hb.mono HI.out.2.2.1.size), fun y hy => ?_⟩
   rcases List.mem_append.1 hy with h | h
   ·exact HI.out.2.2.2 y h
   ·obtain rfl := List.mem_singleton.1 h; exact HX.out
 case stop =>
  rintro D c pre V hD hpre ⟨rfl, hI2, hI3, x, hx, hx2⟩ hK
  have hv : (2 : Int) = ckI ax ay bx bY := HV.out 2 (.inr ⟨⟨x, hpre.subset hx, hx2⟩, rfl⟩)
  have hs1 := hR2.1
  have HI := Lib.hid (And.intro hI2 hI3)
  have HK := Lib.hid hK
  clear hI2 hI3 hK hR hR2 hRE hx hx2 hpre
  have HVV := Lib.hid hv
  clear hv
  gi_wp2_with fail
  have hM : Marks W1.heap.size [D] V := ⟨hD, HK.out, by simp, trivial⟩
  refine leaves_marks [D] V hM fun V5 hV => ?_
  have c1 := (HI.out.1.below hV hs1).c 0 rfl
  exact ⟨.int .i64 2, by simp [results, Tryz.results14, go_sem, c1], by rw [← HVV.out], HI.out.2.trans (hV.mono hB.size)⟩
 case done =>
  rintro D V hD ⟨hI1, hI2, hI3, hI4⟩ hK
  have hv : (if (ax == bx && ay == bY) = true then (2 : Int) else 0) = ckI ax ay bx bY := HV.out _ (.inl ⟨hI4, rfl⟩)
  have x0 := hI1.c 0 rfl
  have x1 := hI1.c 1 rfl
  have x2 := hI1.c 2 rfl
  have x3 := hI1.c 3 rfl
  have y0 := hI2.c 0 rfl
  have f0 := hI2.f 0 rfl
  have n1 := HN.out
  have HI := Lib.hid (And.intro hI2 hI3)
  have hD1 : D < V.heap.size := (Array.getElem?_eq_some_iff.1 hK).1
  have hs1 := hR2.1
  have HK := Lib.hid hK
  have HVV := Lib.hid hv
  clear hI1 hI2 hI3 hI4 hK hR hR2 hRE hv
  generalize (ax == bx && ay == bY) = q at *
  cases q
  ·go_wp2_with fail
   refine leaves_marks [D] _ ⟨hD, (Below.heap_setCell _ _ _ _ (by show D ≠ w.heap.size + 1; omega)).trans HK.out, by simp, trivial⟩ fun V5 hV => ?_
   have r7 := HI.out.1.set 0 (by simp) (.int .i64 0)
   have c1 := (r7.below hV hs1).c 0 rfl
   exact ⟨.int .i64 0, by simp [results, Tryz.results14, go_sem, c1], by rw [← HVV.out]; rfl, (below_put1 HI.out.2 (by omega) _ _).trans (hV.mono hB.size)⟩
  ·go_wp2_with fail
   refine leaves_marks [D] _ ⟨hD, (Below.heap_setCell _ _ _ _ (by show D ≠ w.heap.size + 1; omega)).trans HK.out, by simp, trivial⟩ fun V5 hV => ?_
   have r7 := HI.out.1.set 0 (by simp) (.int .i64 2)
   have c1 := (r7.below hV hs1).c 0 rfl
   exact ⟨.int .i64 2, by simp [results, Tryz.results14, go_sem, c1], by rw [← HVV.out]; rfl, (below_put1 HI.out.2 (by omega) _ _).trans (hV.mono hB.size)⟩
end Go.Proofs.YtdfmmkidknginaaGreatDoor

namespace Go.Proofs.YtdfmmkidknginaaGreatDoor
open Go.RowKit
set_option maxRecDepth 100000 in
set_option maxHeartbeats 3200000 in
theorem told1_wrong (S A : Nat) (ax ay bx bY : Int) (w : World) (hc : ckI ax ay bx bY = 2) (hS : Row w S (segA ax ay bx bY).toList) (hA : Row w A [.func (.func 41) #[] #[]]) :
 Calls Tryz.prog 74 #[.pointer (some ⟨S, 0, none⟩), .pointer (some ⟨A, 0, none⟩)] w fun e w' => e = (Got.gave 2).end ∧ Below w.heap.size w w' := by
 have H1 : Hid (∀ W, Calls Tryz.prog 14 #[segV ax ay bx bY] W fun e w' => e = .returned (.int .i64 2) ∧ Below W.heap.size W w') := Lib.hid (fun W => by
  have := check_any4 ax ay bx bY W
  rw [hc] at this; exact this)
 clear hc
 unfold segV at H1
 have hK : KT w ([] ++ [(S, segA ax ay bx bY)] ++ [(A, #[.func (.func 41) #[] #[]])]) ([] ++ [(w.heap.size, 4)]) (w.alloc (.cells (segA 0 0 0 0) 25)) := (KT.of (((KS.nil w).more hS).more hA)).made rfl (segA 0 0 0 0) _ rfl
 have x0 := hS.c 0 rfl
 have x1 := hS.c 1 rfl
 have x2 := hS.c 2 rfl
 have x3 := hS.c 3 rfl
 have lS := hS.1
 clear hS hA
 generalize hL : [] ++ [(S, segA ax ay bx bY)] ++ [(A, #[Value.func (.func 41) #[] #[]])] = L at hK
 generalize hM : [] ++ [(w.heap.size, 4)] = M at hK
 have HL := Lib.hid hL; clear hL
 have HM := Lib.hid (show (w.heap.size, 4) ∈ M by rw [← hM]; simp); clear hM
 have HK := Lib.hid hK; clear hK
 go_enter Tryz.func74, Tryz.ntmps74
 go_wp2_with fail
 refine (H1.out _).mono ?_
 rintro e w1 ⟨rfl, hb⟩
 have hK := HK.out.after hb
 clear HK hb x0 x1 x2 x3 lS
 go_wp2_with fail
 refine (for_gives 2 _ (by decide)).mono ?_
 rintro e w2 ⟨rfl, rfl⟩
 have hB := hK.1.2
 clear HL HM
 go_wp2
 exact ⟨rfl, rfl, hB⟩
set_option maxRecDepth 100000 in
set_option maxHeartbeats 1600000 in
theorem toldseg_wrong (ax ay bx bY : Int) (w : World) (hc : ckI ax ay bx bY = 2) :
 Calls Tryz.prog 40 #[.agg (segA ax ay bx bY), .func (.func 41) #[] #[]] w fun e w' => e = .returned (.tuple #[.agg (segA 0 0 0 0), .int .i64 2]) ∧ Below w.heap.size w w' := by
 have hmf : ∀ (fn : Fn) (first cap : Array Value) (w : World), (Instr.makeFunc fn first cap).run Tryz.prog w = .ok (.func fn first cap) w := fun _ _ _ _ => rfl
 have H1 := Lib.hid (fun S A W hS hA => told1_wrong S A ax ay bx bY W hc hS hA)
 clear hc
 go_enter Tryz.func40, Tryz.ntmps40
 go_wp2_with fail
 have r0 := ((Row.at (w := w) rfl (segA ax ay bx bY).toList 25).alloc (.cells #[.func (.func 41) #[] #[]] 93)).alloc (.cells (segA 0 0 0 0) 25)
 have r1 := (Row.at (w := w.alloc (.cells (segA ax ay bx bY) 25)) (n := w.heap.size + 1) (by simp) [.func (.func 41) #[] #[]] 93).alloc (.cells (segA 0 0 0 0) 25)
 have r2 := Row.at (w := (w.alloc (.cells (segA ax ay bx bY) 25)).alloc (.cells #[.func (.func 41) #[] #[]] 93)) (n := w.heap.size + 1 + 1) (by simp) (segA 0 0 0 0).toList 25
 have hb0 := (((Below.refl w.heap.size w).alloc (Nat.le_refl _) (.cells (segA ax ay bx bY) 25)).alloc (by simp) (.cells #[.func (.func 41) #[] #[]] 93)).alloc (by simp; omega) (.cells (segA 0 0 0 0) 25)
 generalize World.alloc _ _ = W0 at *
 refine (caught_seg 74 #[.pointer (some ⟨w.heap.size, 0, none⟩), .pointer (some ⟨w.heap.size + 1, 0, none⟩)] w.heap.size (.gave 2) _ r0.1 (by show (2 : Int) ≠ 0; decide) (fun _ _ => Tryz.call74 _ _)
  (fun W hW => (H1.out _ _ W (r0.after hW) (r1.after hW)).mono (fun e w' h => ⟨h.1, KB.ofBelow h.2⟩))).mono ?_
 rintro e w1 ⟨rfl, hk⟩
 have hK := ((KB.refl w.heap.size w.heap.size w).below hb0 (Nat.le_refl _)).trans hk hb0.size
 replace r2 := r2.kb hk (by omega)
 have hl := r2.1
 clear r0 r1 hk hb0 H1
 simp only [Got.ans, zero_seg]
 have z0 := r2.c 0 rfl
 have z1 := r2.c 1 rfl
 have z2 := r2.c 2 rfl
 have z3 := r2.c 3 rfl
 have f0 := r2.f 0 rfl
 have f1 := r2.f 1 rfl
 have f2 := r2.f 2 rfl
 have f3 := r2.f 3 rfl
 go_wp2_with fail
 exact bodyPost_ret (results_R2 (cs := segA 0 0 0 0) rfl rfl (r2.putAll [_, _, _, _] rfl) agg_seg) rfl ⟨rfl, below_put1 (below_put1 (below_put1 (below_put1 (hK.toBelow' (Nat.le_refl _)) (by omega) _ _) (by omega) _ _) (by omega) _ _) (by omega) _ _⟩
set_option maxRecDepth 100000 in
set_option maxHeartbeats 1600000 in
theorem Laid_wrong (ax ay bx bY : Int) (w : World) (hc : ckI ax ay bx bY = 2) :
 Calls Tryz.prog 11 #[.agg (segA ax ay bx bY)] w fun e w' => e = .returned (.tuple #[.agg (segA 0 0 0 0), .int .i64 2]) ∧ Below w.heap.size w w' := by
 have H1 := Lib.hid (fun W => toldseg_wrong ax ay bx bY W hc)
 clear hc
 go_enter Tryz.func11, Tryz.ntmps11
 go_wp2_with fail
 have r1 := Row.at (w := w.alloc (.cells (segA ax ay bx bY) 25)) (n := w.heap.size + 1) (by simp) (segA 0 0 0 0).toList 25
 have hb0 := ((Below.refl w.heap.size w).alloc (Nat.le_refl _) (.cells (segA ax ay bx bY) 25)).alloc (by simp) (.cells (segA 0 0 0 0) 25)
 generalize World.alloc _ _ = W0 at *
 refine (H1.out _).mono ?_
 rintro e w1 ⟨rfl, hb⟩
 replace r1 := r1.after hb
 replace hb0 := hb0.trans (hb.mono hb0.size)
 have hl := r1.1
 clear hb H1
 have z0 := r1.c 0 rfl
 have z1 := r1.c 1 rfl
 have z2 := r1.c 2 rfl
 have z3 := r1.c 3 rfl
 have f0 := r1.f 0 rfl
 have f1 := r1.f 1 rfl
 have f2 := r1.f 2 rfl
 have f3 := r1.f 3 rfl
 go_wp2_with fail
 exact bodyPost_ret (results_R2 (cs := segA 0 0 0 0) rfl rfl (r1.putAll [_, _, _, _] rfl) agg_seg) rfl ⟨rfl, below_put1 (below_put1 (below_put1 (below_put1 hb0 (by omega) _ _) (by omega) _ _) (by omega) _ _) (by omega) _ _⟩
end Go.Proofs.YtdfmmkidknginaaGreatDoor

namespace Go.Proofs.YtdfmmkidknginaaGreatDoor
open Go.RowKit CrossMath
def BdS (l : Sg) : Prop := Bd l.ax ∧ Bd l.ay ∧ Bd l.bx ∧ Bd l.bY
def NeS (l : Sg) : Prop := ¬ (l.ax = l.bx ∧ l.ay = l.bY)
abbrev sgA (l : Sg) : Array Value := segA l.ax l.ay l.bx l.bY
end Go.Proofs.YtdfmmkidknginaaGreatDoor

namespace Go.Proofs.YtdfmmkidknginaaGreatDoor
open Go.RowKit CrossMath
theorem catch_bool_idle (p : Addr) (w : World) :
 CallsD Tryz.prog 127 #[.pointer (some p)] .returning w fun e u' w' => e = .returned (.tuple #[]) ∧ u' = .returning ∧ w' = w := by
 refine callsD_of_wpS Tryz.func127 rfl fun c₀ cs hu => ?_
 apply wpS_seq
 apply wpS_region
 simp [wpOpsS, go_sem, recoverD, hu, Tryz.ntmps127, Exit.thenS]
 change Code.wpS _ _ _ { tmps := #[.pointer (some p), .nilIface, undef, undef, .nilIface, undef, undef, undef, undef, undef, undef, undef, undef, undef, undef, undef], defers := [] } _ _
 refine wpS_of_wp ?_
 go_wp2
 cases c₀
 simp_all [bodyPostS, results, Tryz.results127]
set_option maxRecDepth 100000 in
set_option maxHeartbeats 1600000 in
theorem caught_bool (F : FuncId) (caps : Array Value) (b : Bool) (w : World) (eF : ∀ (args : Array Value) (w : World), (callFunc F args).run Tryz.prog w = .ok (.enter F args) w)
 (hw : ∀ W, Below w.heap.size w W → Calls Tryz.prog F caps W fun e w' => e = .returned (.bool b) ∧ Below W.heap.size W w') :
 Calls Tryz.prog 93 #[.func (.func F) #[] caps] w fun e w' => e = .returned (.tuple #[.bool b, .int .i64 0]) ∧ Below w.heap.size w w' := by
 have hmf : ∀ (fn : Fn) (first cap : Array Value) (w : World), (Instr.makeFunc fn first cap).run Tryz.prog w = .ok (.func fn first cap) w := fun _ _ _ _ => rfl
 have Hw := Lib.hid hw; clear hw
 go_enter_defers Tryz.func93, Tryz.ntmps93
 go_wp2_with fail
 generalize hW : World.alloc _ _ = W0
 have rE : Row W0 w.heap.size [.int .i64 0] := by rw [← hW]; exact Row.at rfl _ _
 have hB : Below w.heap.size w W0 := by rw [← hW]; exact (Below.refl w.heap.size w).alloc (Nat.le_refl _) _
 clear hW
 refine (Hw.out W0 hB).mono ?_
 rintro e w1 ⟨rfl, hb⟩
 replace rE := rE.after hb
 replace hB := hB.trans (hb.mono hB.size)
 have hE := rE.c 0 rfl
 have fE := rE.f 0 rfl
 clear hb
 go_wp2_with fail
 clear hE fE
 have rE3 : Row (w1.setCell ⟨w.heap.size, 0, none⟩ (.int .i64 0)) w.heap.size [.int .i64 0] := rE.set 0 (by simp) _
 replace hB := below_put1 hB (Nat.le_refl _) 0 (.int .i64 0)
 generalize World.setCell _ _ _ = W3 at rE3 hB ⊢
 refine leaves_cons (f := 127) (args := #[.pointer (some ⟨w.heap.size, 0, none⟩)]) (by simp) (by simp [go_sem]) ?_
 refine (catch_bool_idle ⟨w.heap.size, 0, none⟩ _).mono ?_
 rintro e u' w'' ⟨rfl, rfl, rfl⟩
 have l2 := load_errno rE3
 simp [Leaves, settle, results, Tryz.results93, asAddr, l2]
 exact hB
end Go.Proofs.YtdfmmkidknginaaGreatDoor

namespace Go.Proofs.YtdfmmkidknginaaGreatDoor
open Go.RowKit CrossMath
def nodeB (x y : Int) : Bool := decide (-67108864 ≤ x) && decide (x ≤ 67108864) && (decide (-67108864 ≤ y) && decide (y ≤ 67108864))
theorem nodeB_iff {x y : Int} : nodeB x y = true ↔ Bd x ∧ Bd y := by unfold nodeB Bd; simp
set_option maxRecDepth 100000 in
set_option maxHeartbeats 1600000 in
theorem refnode_any (x y : Int) (w : World) : Calls Tryz.prog 16 #[.agg (nodeA x y)] w fun e w' => e = .returned (.bool (nodeB x y)) ∧ Below w.heap.size w w' := by
 have HB := Lib.hid (fun o => (Below.refl w.heap.size w).alloc (Nat.le_refl _) o)
 have HN : Hid (∃ b, nodeB x y = b ∧ (b = true → -67108864 ≤ x ∧ x ≤ 67108864 ∧ -67108864 ≤ y ∧ y ≤ 67108864) ∧ (b = false → ¬ (-67108864 ≤ x) ∨ ¬ (x ≤ 67108864) ∨ ¬ (-67108864 ≤ y) ∨ ¬ (y ≤ 67108864))) := Lib.hid ⟨_, rfl, fun h => by have := nodeB_iff.1 h; unfold Bd at this; omega, fun h => by
  have h2 : ¬ (Bd x ∧ Bd y) := fun hb => by rw [nodeB_iff.2 hb] at h; cases h
  unfold Bd at h2; omega⟩
 obtain ⟨b, hb, ht, hf⟩ := HN.out
 rw [hb]
 clear hb HN
 have HT := Lib.hid ht
 have HF := Lib.hid hf
 clear ht hf
 cases b
 ·have hf := HF.out rfl
  clear HF HT
  by_cases h1 : -67108864 ≤ x <;> by_cases h2 : x ≤ 67108864 <;> by_cases h3 : -67108864 ≤ y <;> by_cases h4 : y ≤ 67108864
  all_goals first | (exfalso; omega) | skip
  all_goals
   clear hf
   go_enter Tryz.func16, Tryz.ntmps16
   go_wp2
   all_goals first | (exfalso; omega) | skip
   all_goals
    go_ret
    exact ⟨rfl, HB.out _⟩
 ·obtain ⟨h1, h2, h3, h4⟩ := HT.out rfl
  clear HF HT
  go_enter Tryz.func16, Tryz.ntmps16
  go_wp2
  all_goals first | (exfalso; omega) | skip
  all_goals
   go_ret
   exact ⟨rfl, HB.out _⟩
theorem neqNode (a b c d : Int) (W : World) : (binOp .neq 23 (.agg (nodeA a b)) (.agg (nodeA c d))).run Tryz.prog W = .ok (.bool (!(a == c && b == d))) W := by
 have u := Tryz.underlying23
 rw [run_neq_struct]
 go_simp
 by_cases h1 : a = c <;> by_cases h2 : b = d <;> simp [h1, h2]
def rightS (s : Sg) : Bool := nodeB s.ax s.ay && (nodeB s.bx s.bY && !(s.ax == s.bx && s.ay == s.bY))
theorem rightS_iff {s : Sg} : rightS s = true ↔ BdS s ∧ NeS s := by
 unfold rightS BdS NeS
 rw [Bool.and_eq_true, Bool.and_eq_true, nodeB_iff, nodeB_iff]
 simp only [Bool.not_eq_true', Bool.and_eq_false_iff, beq_eq_false_iff_ne]
 constructor
 ·rintro ⟨⟨a, b⟩, ⟨c, d⟩, h⟩; exact ⟨⟨a, b, c, d⟩, fun hh => by rcases h with h | h; exact h hh.1; exact h hh.2⟩
 ·rintro ⟨⟨a, b, c, d⟩, h⟩; exact ⟨⟨a, b⟩, ⟨c, d⟩, by by_cases e : s.ax = s.bx; exact .inr fun e2 => h ⟨e, e2⟩; exact .inl e⟩
set_option maxRecDepth 100000 in
set_option maxHeartbeats 1600000 in
theorem refright_any (s : Sg) (w : World) : Calls Tryz.prog 12 #[.agg (sgA s)] w fun e w' => e = .returned (.bool (rightS s)) ∧ Below w.heap.size w w' := by
 obtain ⟨ax, ay, bx, bY⟩ := s
 have H1 := Lib.hid (fun W => refnode_any ax ay W)
 have H2 := Lib.hid (fun W => refnode_any bx bY W)
 have hr : rightS ⟨ax, ay, bx, bY⟩ = (nodeB ax ay && (nodeB bx bY && !(ax == bx && ay == bY))) := rfl
 rw [hr]
 clear hr
 have n1 := neqNode ax ay bx bY
 generalize (!(ax == bx && ay == bY)) = q at n1 ⊢
 generalize nodeB ax ay = p at H1 ⊢
 generalize nodeB bx bY = r at H2 ⊢
 have r0 := Row.at (w := w) rfl (segA ax ay bx bY).toList 25
 have hB := (Below.refl w.heap.size w).alloc (Nat.le_refl _) (.cells (segA ax ay bx bY) 25)
 have HN := Lib.hid n1
 clear n1
 cases p <;> cases r
 all_goals
  go_enter Tryz.func12, Tryz.ntmps12
  go_wp2_with fail
  refine (H1.out _).mono ?_
  rintro e w1 ⟨rfl, hb⟩
  have r1 := r0.after hb
  have hB1 := hB.trans (hb.mono hB.size)
  have x0 := r1.c 0 rfl
  have x1 := r1.c 1 rfl
  have x2 := r1.c 2 rfl
  have x3 := r1.c 3 rfl
  clear hb r0 hB
  go_wp2_with fail
  first
   | (go_ret; exact ⟨rfl, hB1⟩)
   | (refine (H2.out _).mono ?_
      rintro e w2 ⟨rfl, hb⟩
      have r2 := r1.after hb
      have hB2 := hB1.trans (hb.mono hB1.size)
      clear x0 x1 x2 x3
      have x0 := r2.c 0 rfl
      have x1 := r2.c 1 rfl
      have x2 := r2.c 2 rfl
      have x3 := r2.c 3 rfl
      have n1 := HN.out
      clear hb r1 hB1
      go_wp2_with fail
      go_ret
      exact ⟨rfl, hB2⟩)
set_option maxRecDepth 100000 in
set_option maxHeartbeats 1600000 in
theorem swapS_any (s : Sg) (w : World) : Calls Tryz.prog 35 #[.agg (sgA s)] w fun e w' => e = .returned (.agg (sgA (swS s))) ∧ Below w.heap.size w w' := by
 obtain ⟨ax, ay, bx, bY⟩ := s
 have HB := Lib.hid (fun o o2 => ((Below.refl w.heap.size w).alloc (Nat.le_refl _) o).alloc (by simp) o2)
 go_enter Tryz.func35, Tryz.ntmps35
 go_wp2_with fail
 exact bodyPost_ret (results_R1 (cs := segA ay ax bY bx) rfl rfl (Row.at (by simp) _ _) agg_seg) rfl ⟨rfl, HB.out _ _⟩
end Go.Proofs.YtdfmmkidknginaaGreatDoor

namespace Go.Proofs.YtdfmmkidknginaaGreatDoor
open Go.RowKit CrossMath
set_option maxRecDepth 100000 in
set_option maxHeartbeats 1600000 in
theorem swap_core (A B : Array Value) (hA : A.size = 10) (hB : B.size = 10) (oA : OneC A) (oB : OneC B) (w : World) :
 Calls Tryz.prog 36 #[.agg (A ++ B)] w fun e w' => e = .returned (.agg (B ++ A)) ∧ Below w.heap.size w w' := by
 have hAB : (A ++ B).size = 20 := by simp [hA, hB]
 have r0 := fun t => (Row.at (w := w) rfl (A ++ B).toList t)
 have hz2 := two_made B A hB hA
 have hz1 := two_size B hB
 have tA : AggTy Tryz.prog 44 A.size := by rw [hA]; exact aggRat
 have tB : AggTy Tryz.prog 44 B.size := by rw [hB]; exact aggRat
 have tP : AggTy Tryz.prog 46 (B ++ A).size := by rw [show (B ++ A).size = 20 by simp [hA, hB]]; exact agg_point
 have oBA := Lib.hid (oB.append oA)
 have hBA : (B ++ A).size = 20 := by simp [hA, hB]
 have hbs := (((Below.refl w.heap.size w).alloc (Nat.le_refl _) (.cells (A ++ B) 46)).alloc (by simp) (.cells zero_point 46))
 clear oA oB
 have HA := Lib.hid hA
 have HBA := Lib.hid hBA
 go_enter Tryz.func36, Tryz.ntmps36
 go_wp2_with (first
  | (refine wpList_load_M rfl _ _ rfl _ 10 rfl B (Row.snd 10 HA.out ((r0 _).alloc _)) tB ?_)
  | (refine wpList_load_M rfl _ _ rfl _ 0 rfl A (Row.fst ((r0 _).alloc _)) tA ?_)
  | (refine wpList_store_R rfl _ _ _ rfl _ (B ++ A) rfl rfl _ (Row.at (by simp) zero_point.toList _) (by rw [HBA.out]; rfl) tP oBA.out ?_; intro w3 r3 o3))
 exact bodyPost_ret (results_R1 (cs := B ++ A) rfl rfl r3 tP) rfl ⟨rfl, below_on hbs o3 (by omega)⟩
theorem swapP_any (p : Pt) (w : World) : Calls Tryz.prog 36 #[.agg (ptA p)] w fun e w' => e = .returned (.agg (ptA (swP p))) ∧ Below w.heap.size w w' :=
 swap_core _ _ rfl rfl (ratA_one _ _) (ratA_one _ _) w
end Go.Proofs.YtdfmmkidknginaaGreatDoor

namespace Go.Proofs.YtdfmmkidknginaaGreatDoor
open Go.RowKit CrossMath
theorem catch_bool_gave (p : Addr) (x c : Int) (older : List PanicEntry) (w : World) (hc : w.cell? p = some (.int .i64 x)) (hz : w.frozen? p = false) :
 CallsD Tryz.prog 127 #[.pointer (some p)] (.panicking ({ v := .iface 26 (.int .i64 c), recovered := false } :: older)) w fun e u' w' =>
  e = .returned (.tuple #[]) ∧ u' = .panicking ({ v := .iface 26 (.int .i64 c), recovered := true } :: older) ∧ w' = w.setCell p (.int .i64 c) := by
 refine callsD_of_wpS Tryz.func127 rfl fun c₀ cs hu => ?_
 apply wpS_seq
 apply wpS_region
 simp [wpOpsS, go_sem, recoverD, hu, Tryz.ntmps127, Exit.thenS]
 change Code.wpS _ _ _ { tmps := #[.pointer (some p), .iface 26 (.int .i64 c), undef, undef, .iface 26 (.int .i64 c), undef, undef, undef, undef, undef, undef, undef, undef, undef, undef, undef], defers := [] } _ _
 have hta : ∀ w, (Instr.typeAssert (.iface 26 (.int .i64 c)) 20 26 true).run Tryz.prog w = .ok (.tuple #[.int .i64 c, .bool true]) w := assert_errno c
 have hnot : ∀ (x : Bool) (w : World), (Op.unary .not (.bool x)).run Tryz.prog w = .ok (.bool (!x)) w := fun _ _ => rfl
 refine wpS_of_wp ?_
 go_wp2
 simp [bodyPostS, results, Tryz.results127]
set_option maxRecDepth 100000 in
set_option maxHeartbeats 1600000 in
theorem caught_bool_gave (F : FuncId) (caps : Array Value) (k : Int) (w : World) (eF : ∀ (args : Array Value) (w : World), (callFunc F args).run Tryz.prog w = .ok (.enter F args) w)
 (hw : ∀ W, Below w.heap.size w W → Calls Tryz.prog F caps W fun e w' => e = (Got.gave k).end ∧ Below W.heap.size W w') :
 Calls Tryz.prog 93 #[.func (.func F) #[] caps] w fun e w' => e = .returned (.tuple #[.bool false, .int .i64 k]) ∧ Below w.heap.size w w' := by
 have hmf : ∀ (fn : Fn) (first cap : Array Value) (w : World), (Instr.makeFunc fn first cap).run Tryz.prog w = .ok (.func fn first cap) w := fun _ _ _ _ => rfl
 have Hw := Lib.hid hw; clear hw
 go_enter_defers Tryz.func93, Tryz.ntmps93
 go_wp2_with fail
 generalize hW : World.alloc _ _ = W0
 have rE : Row W0 w.heap.size [.int .i64 0] := by rw [← hW]; exact Row.at rfl _ _
 have hB : Below w.heap.size w W0 := by rw [← hW]; exact (Below.refl w.heap.size w).alloc (Nat.le_refl _) _
 clear hW
 refine (Hw.out W0 hB).mono ?_
 rintro e w1 ⟨rfl, hb⟩
 replace rE := rE.after hb
 replace hB := hB.trans (hb.mono hB.size)
 have hE := rE.c 0 rfl
 have fE := rE.f 0 rfl
 clear hb
 simp only [Got.end]
 go_wp2
 refine leaves_cons (f := 127) (args := #[.pointer (some ⟨w.heap.size, 0, none⟩)]) (by simp) (by simp [go_sem]) ?_
 refine (catch_bool_gave ⟨w.heap.size, 0, none⟩ 0 k [] _ hE fE).mono ?_
 rintro e u' w'' ⟨rfl, rfl, rfl⟩
 have rE2 : Row (w1.setCell ⟨w.heap.size, 0, none⟩ (.int .i64 k)) w.heap.size [.int .i64 k] := rE.set 0 (by simp) _
 have l2 := load_errno rE2
 simp [Leaves, settle, results, Tryz.results93, asAddr, l2]
 exact below_put1 hB (Nat.le_refl _) 0 (.int .i64 k)
end Go.Proofs.YtdfmmkidknginaaGreatDoor

namespace Go.Proofs.YtdfmmkidknginaaGreatDoor
open Go.RowKit CrossMath
structure StopS (B : World → Prop) (k : Nat) (ls : Nat → Bool) (_sl : Nat → Value) (W : World) : Prop where
 base : B W
 off : ls k = false
theorem StopS.next {B : World → Prop} {k : Nat} {listed : Array Bool} {sl sl' : Nat → Value} {W W1 : World} (h : StopS B k (fun i => listed.getD i false) sl W) (hb : B W1) (i : Nat) (hi : i ≠ k) :
 StopS B k (fun i' => (listed.setIfInBounds i true).getD i' false) sl' W1 :=
 ⟨hb, by show (listed.setIfInBounds i true).getD k false = false; rw [getD_set_ne false hi]; exact h.off⟩
theorem StopS.no {B : World → Prop} {k : Nat} {listed : Array Bool} {sl : Nat → Value} {W : World} {p : Prop} (h : StopS B k (fun i => listed.getD i false) sl W) (q : listed.getD k false = true) : p := by
 have : listed.getD k false = false := h.off
 rw [q] at this
 cases this
end Go.Proofs.YtdfmmkidknginaaGreatDoor

namespace Go.Proofs.YtdfmmkidknginaaGreatDoor
open Go.RowKit CrossMath
theorem KS.wroteB {w W W1 : World} {L : List (Nat × Array Value)} (h : KS w L W) {o : Obj} (ho : On (W.alloc o) W1 W.heap.size) {cs : Array Value} (hr : Row W1 W.heap.size cs.toList) : KS w (L ++ [(W.heap.size, cs)]) W1 :=
 KS.more ⟨fun p hp => ho.row (Nat.ne_of_lt (h.1 p hp).lt) ((h.alloc o).1 p hp), below_on (h.alloc o).2 ho h.2.size⟩ hr
theorem wp_loadM {P : Program} {op : Oper} {a : Act} {w : World} {K : Act → World → Prop} {Q : Exit → Act → World → Prop} (ty : TypeId) (x : Operand) (ho : op.op = .load ty x) (b : Nat) (hx : a.eval x = .pointer (some ⟨b, 0, none⟩)) (cs : Array Value) (h : Row w b cs.toList) (hT : AggTy P ty cs.size)
 (k : K (a.put op.dst (.agg cs)) w) : op.wp P a w K Q := by
 obtain ⟨⟨d, hu, hd⟩, hi⟩ := hT
 exact wp_load_mid ty x ho b 0 hx cs.toList d h.whole hu hd (by simpa using hi) (by simpa using k)
theorem wp_eqlM {P : Program} {op : Oper} {a : Act} {w : World} {K : Act → World → Prop} {Q : Exit → Act → World → Prop} (ty ty2 : TypeId) (x y : Operand) (ho : op.op = .binOp .eql ty x y ty2) (u v : Array Value) (b : Bool) (hx : a.eval x = .agg u) (hy : a.eval y = .agg v) (hq : (eqGuard .eql ty x y (.agg u) (.agg v)).run P w = .ok () w) (h : (binOp .eql ty (.agg u) (.agg v)).run P w = .ok (.bool b) w)
 (k : K (a.put op.dst (.bool b)) w) : op.wp P a w K Q := by
 unfold Oper.wp execOp
 simp only [ho, hx, hy, Sem.run_bind, Sem.run_pure, Result.andThen_ok, hq, h]
 exact k
end Go.Proofs.YtdfmmkidknginaaGreatDoor

namespace Go.Proofs.YtdfmmkidknginaaGreatDoor
open Go.RowKit CrossMath
def wayB (dx dy : Int) : Bool := !decide (dx < -67108864) && (!decide (67108864 < dx) && (!decide (dy < -67108864) && !decide (67108864 < dy)))
def mvB (s : Sg) (dx dy : Int) : Bool := wayB dx dy && (rightS s && rightS (mvS s dx dy))
theorem wayB_iff {dx dy : Int} : wayB dx dy = true ↔ Bd dx ∧ Bd dy := by unfold wayB Bd; simp; omega
def uS (s : Sg) (dx dy : Int) : Sg := if (wayB dx dy && rightS s) = true then mvS s dx dy else ⟨0, 0, 0, 0⟩
set_option maxRecDepth 100000 in
set_option maxHeartbeats 3200000 in
theorem smoved_no (ax ay bx bY dx dy : Int) (c1 c2 c3 c4 r : Bool) (w : World) (h1 : decide (dx < -67108864) = c1) (h2 : decide (67108864 < dx) = c2) (h3 : decide (dy < -67108864) = c3) (h4 : decide (67108864 < dy) = c4) (hc : (c1 || (c2 || (c3 || (c4 || !r)))) = true)
 (hR : ∀ W, Calls Tryz.prog 12 #[.agg (segA ax ay bx bY)] W fun e w' => e = .returned (.bool r) ∧ Below W.heap.size W w') :
 Calls Tryz.prog 32 #[.agg (segA ax ay bx bY), .int .i64 dx, .int .i64 dy] w fun e w' => e = .returned (.tuple #[.agg zero_seg, .bool false]) ∧ Below w.heap.size w w' := by
 have HR := Lib.hid hR; clear hR
 have HC := Lib.hid hc; clear hc
 have oz : OneC zero_seg := by simp [OneC, zero_seg, Value.oneCell']
 have r0 := fun t => ((Row.at (w := w) rfl (segA ax ay bx bY).toList t).alloc (.cells zero_seg 25))
 have rz := fun t => (Row.at (w := w.alloc (.cells (segA ax ay bx bY) t)) (n := w.heap.size + 1) (by simp) zero_seg.toList 25)
 have hB := fun t => ((Below.refl w.heap.size w).alloc (Nat.le_refl _) (.cells (segA ax ay bx bY) t)).alloc (by simp) (.cells zero_seg 25)
 have R0 := Lib.hid r0
 have RZ := Lib.hid rz
 have HB := Lib.hid hB
 clear r0 rz hB
 cases c1
 ·cases c2
  ·cases c3
   ·cases c4
    ·obtain rfl : r = false := by have := HC.out; revert this; cases r <;> decide
     have x0 := (R0.out 25).c 0 rfl
     have x1 := (R0.out 25).c 1 rfl
     have x2 := (R0.out 25).c 2 rfl
     have x3 := (R0.out 25).c 3 rfl
     go_enter Tryz.func32, Tryz.ntmps32
     go_wp2_with fail
     refine (HR.out _).mono ?_
     rintro e w1 ⟨rfl, hb⟩
     have rw := (RZ.out _).after hb
     have hB := Lib.hid ((HB.out _).trans (hb.mono (HB.out _).size))
     clear hb x0 x1 x2 x3
     go_wp2_with (refine wpList_store_R rfl _ _ _ rfl _ zero_seg rfl rfl _ rw (by rfl) agg_seg oz ?_; intro w3 r3 o3)
     exact bodyPost_ret (results_R2 (cs := zero_seg) rfl rfl r3 agg_seg) rfl ⟨rfl, below_on hB.out o3 (by omega)⟩
    ·go_enter Tryz.func32, Tryz.ntmps32
     go_wp2_with (refine wpList_store_R rfl _ _ _ rfl _ zero_seg rfl rfl _ (RZ.out _) (by rfl) agg_seg oz ?_; intro w3 r3 o3)
     exact bodyPost_ret (results_R2 (cs := zero_seg) rfl rfl r3 agg_seg) rfl ⟨rfl, below_on (HB.out _) o3 (by omega)⟩
   ·go_enter Tryz.func32, Tryz.ntmps32
    go_wp2_with (refine wpList_store_R rfl _ _ _ rfl _ zero_seg rfl rfl _ (RZ.out _) (by rfl) agg_seg oz ?_; intro w3 r3 o3)
    exact bodyPost_ret (results_R2 (cs := zero_seg) rfl rfl r3 agg_seg) rfl ⟨rfl, below_on (HB.out _) o3 (by omega)⟩
  ·go_enter Tryz.func32, Tryz.ntmps32
   go_wp2_with (refine wpList_store_R rfl _ _ _ rfl _ zero_seg rfl rfl _ (RZ.out _) (by rfl) agg_seg oz ?_; intro w3 r3 o3)
   exact bodyPost_ret (results_R2 (cs := zero_seg) rfl rfl r3 agg_seg) rfl ⟨rfl, below_on (HB.out _) o3 (by omega)⟩
 ·go_enter Tryz.func32, Tryz.ntmps32
  go_wp2_with (refine wpList_store_R rfl _ _ _ rfl _ zero_seg rfl rfl _ (RZ.out _) (by rfl) agg_seg oz ?_; intro w3 r3 o3)
  exact bodyPost_ret (results_R2 (cs := zero_seg) rfl rfl r3 agg_seg) rfl ⟨rfl, below_on (HB.out _) o3 (by omega)⟩
set_option maxRecDepth 100000 in
set_option maxHeartbeats 3200000 in
theorem smoved_yes (ax ay bx bY dx dy p0 p1 p2 p3 : Int) (r : Bool) (w : World) (h1 : decide (dx < -67108864) = false) (h2 : decide (67108864 < dx) = false) (h3 : decide (dy < -67108864) = false) (h4 : decide (67108864 < dy) = false)
 (e1 : IntKind.i64.wrap (ax + dx) = p0) (e2 : IntKind.i64.wrap (ay + dy) = p1) (e3 : IntKind.i64.wrap (bx + dx) = p2) (e4 : IntKind.i64.wrap (bY + dy) = p3)
 (hR : ∀ W, Calls Tryz.prog 12 #[.agg (segA ax ay bx bY)] W fun e w' => e = .returned (.bool true) ∧ Below W.heap.size W w')
 (hR2 : ∀ W, Calls Tryz.prog 12 #[.agg (segA p0 p1 p2 p3)] W fun e w' => e = .returned (.bool r) ∧ Below W.heap.size W w') :
 Calls Tryz.prog 32 #[.agg (segA ax ay bx bY), .int .i64 dx, .int .i64 dy] w fun e w' => e = .returned (.tuple #[.agg (segA p0 p1 p2 p3), .bool r]) ∧ Below w.heap.size w w' := by
 have HR := Lib.hid hR; clear hR
 have HR2 := Lib.hid hR2; clear hR2
 go_enter Tryz.func32, Tryz.ntmps32
 go_upto_region 1 with fail
 generalize hW : World.alloc _ _ = W0
 have hK : KT w ([] ++ [(w.heap.size, segA ax ay bx bY)]) ([] ++ [(w.heap.size + 1, 4)]) W0 := by
  rw [← hW]
  exact (KT.of ((KS.nil w).boxed rfl _ _)).made (by simp) _ _ rfl
 clear hW
 have x0 := hK.c 0 (b := w.heap.size) (cs := segA ax ay bx bY) rfl 0 rfl
 have x1 := hK.c 0 (b := w.heap.size) (cs := segA ax ay bx bY) rfl 1 rfl
 have x2 := hK.c 0 (b := w.heap.size) (cs := segA ax ay bx bY) rfl 2 rfl
 have x3 := hK.c 0 (b := w.heap.size) (cs := segA ax ay bx bY) rfl 3 rfl
 have HK := Lib.hid hK
 clear hK
 go_wp2_with fail
 refine (HR.out _).mono ?_
 rintro e w1 ⟨rfl, hb⟩
 have hK := HK.out.after hb
 clear hb x0 x1 x2 x3 HK
 have x0 := hK.c 0 (b := w.heap.size) (cs := segA ax ay bx bY) rfl 0 rfl
 have x1 := hK.c 0 (b := w.heap.size) (cs := segA ax ay bx bY) rfl 1 rfl
 have x2 := hK.c 0 (b := w.heap.size) (cs := segA ax ay bx bY) rfl 2 rfl
 have x3 := hK.c 0 (b := w.heap.size) (cs := segA ax ay bx bY) rfl 3 rfl
 have HK := Lib.hid hK
 clear hK
 have oS : OneC (segA p0 p1 p2 p3) := by simp [OneC, Value.oneCell']
 go_upto_region 4 with (refine wpList_store_R rfl _ _ _ rfl _ (segA p0 p1 p2 p3) rfl rfl _ (Row.at rfl zero_seg.toList _) (by rfl) agg_seg oS ?_; intro w2 r2 o2)
 have hK : KT w ([] ++ [(w.heap.size, segA ax ay bx bY)] ++ [(w1.heap.size, segA p0 p1 p2 p3)]) ([] ++ [(w.heap.size + 1, 4)]) w2 := by
  refine ⟨(HK.out.1).wroteB o2 r2, fun q hq => ?_⟩
  obtain rfl : q = (w.heap.size + 1, 4) := by simpa using hq
  have h4 := (HK.out.2 _ hq)
  obtain ⟨vs, hl, hr⟩ := h4.1.row_of
  have hlt := hr.lt
  refine ⟨(o2.row (by simp only at hlt; omega) (hr.alloc _)).th hl.symm, h4.2.1, fun q2 hq2 => ?_⟩
  simp only [List.nil_append, List.cons_append, List.mem_cons, List.not_mem_nil, or_false] at hq2
  rcases hq2 with rfl | rfl
  ·simp
  ·simp only at hlt ⊢; omega
 clear HK o2 r2 x0 x1 x2 x3
 generalize w1.heap.size = C at *
 clear e1 e2 e3 e4 h1 h2 h3 h4 oS
 generalize hL : [] ++ [(w.heap.size, segA ax ay bx bY)] ++ [(C, segA p0 p1 p2 p3)] = L at hK
 have HL := Lib.hid hL; clear hL
 have HM : Hid ((w.heap.size + 1, 4) ∈ ([] ++ [(w.heap.size + 1, 4)] : List (Nat × Nat))) := Lib.hid (by simp)
 generalize [] ++ [(w.heap.size + 1, 4)] = M at hK HM
 have l0 : ∀ W, KT w L M W → W.cell? ⟨C, 0, none⟩ = some (.int .i64 p0) := fun W h => h.c 1 (by rw [← HL.out]; rfl) 0 rfl
 have l1 : ∀ W, KT w L M W → W.cell? ⟨C, 1, none⟩ = some (.int .i64 p1) := fun W h => h.c 1 (by rw [← HL.out]; rfl) 1 rfl
 have l2 : ∀ W, KT w L M W → W.cell? ⟨C, 2, none⟩ = some (.int .i64 p2) := fun W h => h.c 1 (by rw [← HL.out]; rfl) 2 rfl
 have l3 : ∀ W, KT w L M W → W.cell? ⟨C, 3, none⟩ = some (.int .i64 p3) := fun W h => h.c 1 (by rw [← HL.out]; rfl) 3 rfl
 have xc0 : ∀ W, KT w L M W → W.cell? ⟨w.heap.size + 1, 0, none⟩ = some (cellAt W (w.heap.size + 1) 0) := fun W h => h.here HM.out 0 (by omega)
 have xc1 : ∀ W, KT w L M W → W.cell? ⟨w.heap.size + 1, 1, none⟩ = some (cellAt W (w.heap.size + 1) 1) := fun W h => h.here HM.out 1 (by omega)
 have xc2 : ∀ W, KT w L M W → W.cell? ⟨w.heap.size + 1, 2, none⟩ = some (cellAt W (w.heap.size + 1) 2) := fun W h => h.here HM.out 2 (by omega)
 have xc3 : ∀ W, KT w L M W → W.cell? ⟨w.heap.size + 1, 3, none⟩ = some (cellAt W (w.heap.size + 1) 3) := fun W h => h.here HM.out 3 (by omega)
 have xf0 : ∀ W, KT w L M W → W.frozen? ⟨w.heap.size + 1, 0, none⟩ = false := fun W h => h.free HM.out 0 (by omega)
 have xf1 : ∀ W, KT w L M W → W.frozen? ⟨w.heap.size + 1, 1, none⟩ = false := fun W h => h.free HM.out 1 (by omega)
 have xf2 : ∀ W, KT w L M W → W.frozen? ⟨w.heap.size + 1, 2, none⟩ = false := fun W h => h.free HM.out 2 (by omega)
 have xf3 : ∀ W, KT w L M W → W.frozen? ⟨w.heap.size + 1, 3, none⟩ = false := fun W h => h.free HM.out 3 (by omega)
 have hk0 := hK.drew
 clear hK
 go_region_held3 (fun w' : World => KT w L M w')
  (repeat (first
    | (with_reducible assumption)
    | (with_reducible refine KT.put4 ?_ HM.out _ _ _ _)
    | (with_reducible refine KT.drew ?_)
    | (with_reducible refine KT.after ?_ hb)))
  (first
    | (go_at_call 12; (with_reducible refine (HR2.out _).mono ?_); rintro e w' ⟨rfl, hb⟩))
 all_goals
  have hq := ‹KT w L M _›
  have hr := hq.put_row (cs := [.int .i64 p0, .int .i64 p1, .int .i64 p2, .int .i64 p3]) HM.out rfl
  have hB := hq.1.2
  clear l0 l1 l2 l3 xc0 xc1 xc2 xc3 xf0 xf1 xf2 xf3 hk0
  go_wp2_with fail
  exact bodyPost_ret (results_R2 (cs := segA p0 p1 p2 p3) rfl rfl hr agg_seg) rfl ⟨rfl, hB⟩
theorem wrapI_in {x : Int} (h1 : -9223372036854775808 ≤ x) (h2 : x ≤ 9223372036854775807) : IntKind.i64.wrap x = x := IntWalk.i64_in _ (by omega)
theorem smoved_any (s : Sg) (dx dy : Int) (w : World) : Calls Tryz.prog 32 #[.agg (sgA s), .int .i64 dx, .int .i64 dy] w fun e w' => e = .returned (.tuple #[.agg (sgA (uS s dx dy)), .bool (mvB s dx dy)]) ∧ Below w.heap.size w w' := by
 by_cases hb : (wayB dx dy && rightS s) = true
 ·rw [show uS s dx dy = mvS s dx dy by unfold uS; rw [if_pos hb]]
  rw [Bool.and_eq_true] at hb
  obtain ⟨h1, h2⟩ := hb
  have hw := wayB_iff.1 h1
  have hs := (rightS_iff.1 h2).1
  unfold Bd at hw
  unfold BdS Bd at hs
  have hm : mvB s dx dy = rightS (mvS s dx dy) := by unfold mvB; rw [h1, h2]; rfl
  refine (smoved_yes s.ax s.ay s.bx s.bY dx dy (s.ax + dx) (s.ay + dy) (s.bx + dx) (s.bY + dy) (rightS (mvS s dx dy)) w (by simp; omega) (by simp; omega) (by simp; omega) (by simp; omega) (wrapI_in (by omega) (by omega)) (wrapI_in (by omega) (by omega)) (wrapI_in (by omega) (by omega)) (wrapI_in (by omega) (by omega))
   (fun W => by have := refright_any s W; rw [h2] at this; exact this) (fun W => refright_any (mvS s dx dy) W)).mono ?_
  rintro e w' ⟨rfl, hb⟩
  exact ⟨by rw [hm]; rfl, hb⟩
 ·rw [show uS s dx dy = ⟨0, 0, 0, 0⟩ by unfold uS; rw [if_neg hb]]
  have hm : mvB s dx dy = false := by
   unfold mvB
   cases h1 : wayB dx dy
   ·rfl
   ·cases h2 : rightS s
    ·rfl
    ·exact absurd (by rw [h1, h2]; rfl) hb
  refine (smoved_no s.ax s.ay s.bx s.bY dx dy _ _ _ _ (rightS s) w rfl rfl rfl rfl ?_ (fun W => refright_any s W)).mono ?_
  ·unfold wayB at hb
   revert hb
   cases decide (dx < -67108864) <;> cases decide (67108864 < dx) <;> cases decide (dy < -67108864) <;> cases decide (67108864 < dy) <;> cases rightS s <;> decide
  ·rintro e w' ⟨rfl, hb⟩
   exact ⟨by rw [hm]; rfl, hb⟩
end Go.Proofs.YtdfmmkidknginaaGreatDoor

namespace Go.Proofs.YtdfmmkidknginaaGreatDoor
open Go.RowKit CrossMath
set_option maxRecDepth 100000 in
set_option maxHeartbeats 3200000 in
theorem relaid_core (ax ay bx bY : Int) (c1 c2 c3 : Bool) (w : World) (h1 : decide (bx < ax) = c1) (h2 : (ax == bx) = c2) (h3 : decide (bY < ay) = c3) :
 Calls Tryz.prog 15 #[.agg (segA ax ay bx bY)] w fun e w' => e = .returned (.agg (if (c1 || c2 && c3) = true then segA bx bY ax ay else segA ax ay bx bY)) ∧ Below w.heap.size w w' := by
 go_enter Tryz.func15, Tryz.ntmps15
 go_upto_region 1 with fail
 generalize hW : World.alloc _ _ = W0
 have hx : Row W0 w.heap.size (segA ax ay bx bY).toList := by rw [← hW]; exact (Row.at rfl _ _).alloc _
 have HR := Lib.hid (show Row W0 (w.heap.size + 1) (segA 0 0 0 0).toList by rw [← hW]; exact Row.at (by simp) _ _)
 have hB : Hid (Below w.heap.size w W0) := Lib.hid (by rw [← hW]; exact ((Below.refl _ _).alloc (Nat.le_refl _) _).alloc (by simp) _)
 clear hW
 have x0 := hx.c 0 rfl
 have x1 := hx.c 1 rfl
 have x2 := hx.c 2 rfl
 have x3 := hx.c 3 rfl
 clear hx
 have z0 := HR.out.c 0 rfl
 have f0 := HR.out.f 0 rfl
 have z1 := HR.out.c 1 rfl
 have f1 := HR.out.f 1 rfl
 have z2 := HR.out.c 2 rfl
 have f2 := HR.out.f 2 rfl
 have z3 := HR.out.c 3 rfl
 have f3 := HR.out.f 3 rfl
 cases c1
 ·cases c2
  ·go_wp2_with fail
   exact bodyPost_ret (results_R1 (cs := segA ax ay bx bY) rfl rfl (HR.out.putAll [_, _, _, _] rfl) agg_seg) rfl ⟨rfl, below_put1 (below_put1 (below_put1 (below_put1 hB.out (by omega) _ _) (by omega) _ _) (by omega) _ _) (by omega) _ _⟩
  ·cases c3
   ·go_wp2_with fail
    exact bodyPost_ret (results_R1 (cs := segA ax ay bx bY) rfl rfl (HR.out.putAll [_, _, _, _] rfl) agg_seg) rfl ⟨rfl, below_put1 (below_put1 (below_put1 (below_put1 hB.out (by omega) _ _) (by omega) _ _) (by omega) _ _) (by omega) _ _⟩
   ·go_wp2_with fail
    exact bodyPost_ret (results_R1 (cs := segA bx bY ax ay) rfl rfl (HR.out.putAll [_, _, _, _] rfl) agg_seg) rfl ⟨rfl, below_put1 (below_put1 (below_put1 (below_put1 hB.out (by omega) _ _) (by omega) _ _) (by omega) _ _) (by omega) _ _⟩
 ·go_wp2_with fail
  exact bodyPost_ret (results_R1 (cs := segA bx bY ax ay) rfl rfl (HR.out.putAll [_, _, _, _] rfl) agg_seg) rfl ⟨rfl, below_put1 (below_put1 (below_put1 (below_put1 hB.out (by omega) _ _) (by omega) _ _) (by omega) _ _) (by omega) _ _⟩
theorem turned_eq (s : Sg) : (decide (s.bx < s.ax) || (s.ax == s.bx) && decide (s.bY < s.ay)) = turned s := by
 unfold turned
 have h1 : decide (s.bx < s.ax) = decide (s.bx - s.ax < 0) := by rw [decide_eq_decide]; omega
 have h2 : (s.ax == s.bx) = decide (s.bx - s.ax = 0) := by rw [show (s.ax == s.bx) = decide (s.ax = s.bx) from rfl, decide_eq_decide]; omega
 have h3 : decide (s.bY < s.ay) = decide (s.bY - s.ay < 0) := by rw [decide_eq_decide]; omega
 rw [h1, h2, h3]
theorem relaid_any (s : Sg) (w : World) : Calls Tryz.prog 15 #[.agg (sgA s)] w fun e w' => e = .returned (.agg (sgA (laidS s))) ∧ Below w.heap.size w w' := by
 have h := relaid_core s.ax s.ay s.bx s.bY _ _ _ w rfl rfl rfl
 rw [turned_eq] at h
 refine h.mono fun e w' ⟨h1, h2⟩ => ⟨?_, h2⟩
 rw [h1]
 unfold laidS
 cases turned s <;> rfl
end Go.Proofs.YtdfmmkidknginaaGreatDoor

namespace Go.Proofs.YtdfmmkidknginaaGreatDoor
open Go.RowKit Go.Sort
theorem side_any (x y : Int) (w : World) : Calls Tryz.prog 73 #[.int .i64 x, .int .i64 y] w fun e w' => e = .returned (.int .i64 (cmpI x y)) ∧ Below w.heap.size w w' := by
 obtain ⟨v, hv⟩ : ∃ v, cmpI x y = v := ⟨_, rfl⟩
 rw [hv]
 have HV := Lib.hid hv
 clear hv
 go_enter Tryz.func73, Tryz.ntmps73
 go_wp2
 all_goals
  go_ret
  refine ⟨?_, Below.refl _ _⟩
  rw [← HV.out]
  unfold cmpI
  (repeat' split) <;> first | rfl | omega
theorem turn_any (ax ay bx bY nx ny : Int) (w : World) (h1 : Bd ax) (h2 : Bd ay) (h3 : Bd bx) (h4 : Bd bY) (h5 : Bd nx) (h6 : Bd ny) :
 Calls Tryz.prog 39 #[.agg (lineA ax ay bx bY (bx - ax) (bY - ay)), nodeV nx ny] w fun e w' => e = .returned (.int .i64 (cmpI ((bx - ax) * (ny - ay)) ((bY - ay) * (nx - ax)))) ∧ Below w.heap.size w w' := by
 have b1 := mul_bd (a := bx - ax) (b := ny - ay) (by unfold Bd at *; omega) (by unfold Bd at *; omega)
 have b2 := mul_bd (a := bY - ay) (b := nx - ax) (by unfold Bd at *; omega) (by unfold Bd at *; omega)
 have w1 : IntKind.i64.wrap (ny - ay) = ny - ay := by rw [IntKind.wrap_i64]; unfold Bd at *; omega
 have w2 : IntKind.i64.wrap (nx - ax) = nx - ax := by rw [IntKind.wrap_i64]; unfold Bd at *; omega
 have w3 : IntKind.i64.wrap ((bx - ax) * (ny - ay)) = (bx - ax) * (ny - ay) := by rw [IntKind.wrap_i64]; omega
 have w4 : IntKind.i64.wrap ((bY - ay) * (nx - ax)) = (bY - ay) * (nx - ax) := by rw [IntKind.wrap_i64]; omega
 have HS := Lib.hid (fun W => side_any ((bx - ax) * (ny - ay)) ((bY - ay) * (nx - ax)) W)
 clear h1 h2 h3 h4 h5 h6 b1 b2
 unfold nodeV
 generalize hR : bx - ax = r at *
 generalize hU : bY - ay = u at *
 go_enter Tryz.func39, Tryz.ntmps39
 go_wp2_with fail
 refine (HS.out _).mono ?_
 rintro e W1 ⟨rfl, hb⟩
 have hb1 := (((Below.refl w.heap.size w).alloc (Nat.le_refl _) (.cells (lineA ax ay bx bY r u) 89)).alloc (by simp) (.cells #[.int .i64 nx, .int .i64 ny] 23)).trans (hb.mono (by simp; omega))
 clear hb
 go_wp2_with fail
 go_ret
 exact ⟨rfl, hb1⟩
end Go.Proofs.YtdfmmkidknginaaGreatDoor

namespace Go.Proofs.YtdfmmkidknginaaGreatDoor
open Go.RowKit Go.Sort
set_option maxRecDepth 100000 in
set_option maxHeartbeats 3200000 in
theorem way_num (n N D : Int) (w : World) (hn : Bd n) (hN : N.natAbs < T256) (hD : D.natAbs < T256) (hm : (n * D).natAbs < T256) (hs : (N - n * D).natAbs < T256) :
 Calls Tryz.prog 90 #[.int .i64 n, .agg (ratA N D)] w fun e w' => e = .returned (.agg (intA (N - n * D))) ∧ Below w.heap.size w w' := by
 have HO := Lib.hid (fun W => of_num n (in_i64 hn).1 (in_i64 hn).2 W)
 have HM := Lib.hid (fun W k hr => mul2_num n D k 2 W (Nat.lt_of_le_of_lt (show n.natAbs ≤ 67108864 by unfold Bd at hn; omega) (by decide)) hD hm hr)
 have HP := Lib.hid (fun W => must_int (intA (n * D)) rfl (intA_one _) W)
 have HS := Lib.hid (fun W => sub_num N (n * D) W hN hm hs)
 have HQ := Lib.hid (fun W => must_int (intA (N - n * D)) rfl (intA_one _) W)
 clear hn hN hD hm hs
 generalize n * D = p at *
 generalize hq : N - p = q at *
 have hs1 := intA_one q
 have hs5 : (intA q).size = 5 := rfl
 have hT5 : AggTy Tryz.prog 42 (intA q).size := agg_int
 generalize intA q = Aq at *
 have hK : KT w ([] ++ [(w.heap.size, ratA N D)]) ([] ++ [(w.heap.size + 1, 5)]) ((w.alloc (.cells (ratA N D) 44)).alloc (.cells zero_int 42)) := ((KT.of ((KS.nil w).boxed rfl _ 44)).made (by simp) zero_int 42 rfl)
 go_enter Tryz.func90, Tryz.ntmps90
 go_upto_region 1 with fail
 change Code.wp _ _ _ _ ((w.alloc (.cells (ratA N D) 44)).alloc (.cells zero_int 42))
 generalize (w.alloc (.cells (ratA N D) 44)).alloc (.cells zero_int 42) = W0 at *
 generalize hL : [] ++ [(w.heap.size, ratA N D)] = L at hK
 generalize hM : [] ++ [(w.heap.size + 1, 5)] = M at hK
 have HL := Lib.hid hL; clear hL
 have HMM := Lib.hid (show (w.heap.size + 1, 5) ∈ M by rw [← hM]; simp); clear hM
 have l0 : ∀ W, KT w L M W → W.cell? ⟨w.heap.size, 0, none⟩ = some (.bool (decide (N < 0))) := fun W h => h.c 0 (by rw [← HL.out]; rfl) 0 rfl
 have l1 : ∀ W, KT w L M W → W.cell? ⟨w.heap.size, 1, none⟩ = some (.int .u64 (W64 N.natAbs 0 : Nat)) := fun W h => h.c 0 (by rw [← HL.out]; rfl) 1 rfl
 have l2 : ∀ W, KT w L M W → W.cell? ⟨w.heap.size, 2, none⟩ = some (.int .u64 (W64 N.natAbs 1 : Nat)) := fun W h => h.c 0 (by rw [← HL.out]; rfl) 2 rfl
 have l3 : ∀ W, KT w L M W → W.cell? ⟨w.heap.size, 3, none⟩ = some (.int .u64 (W64 N.natAbs 2 : Nat)) := fun W h => h.c 0 (by rw [← HL.out]; rfl) 3 rfl
 have l4 : ∀ W, KT w L M W → W.cell? ⟨w.heap.size, 4, none⟩ = some (.int .u64 (W64 N.natAbs 3 : Nat)) := fun W h => h.c 0 (by rw [← HL.out]; rfl) 4 rfl
 have l5 : ∀ W, KT w L M W → W.cell? ⟨w.heap.size, 5, none⟩ = some (.bool (decide (D < 0))) := fun W h => h.c 0 (by rw [← HL.out]; rfl) 5 rfl
 have l6 : ∀ W, KT w L M W → W.cell? ⟨w.heap.size, 6, none⟩ = some (.int .u64 (W64 D.natAbs 0 : Nat)) := fun W h => h.c 0 (by rw [← HL.out]; rfl) 6 rfl
 have l7 : ∀ W, KT w L M W → W.cell? ⟨w.heap.size, 7, none⟩ = some (.int .u64 (W64 D.natAbs 1 : Nat)) := fun W h => h.c 0 (by rw [← HL.out]; rfl) 7 rfl
 have l8 : ∀ W, KT w L M W → W.cell? ⟨w.heap.size, 8, none⟩ = some (.int .u64 (W64 D.natAbs 2 : Nat)) := fun W h => h.c 0 (by rw [← HL.out]; rfl) 8 rfl
 have l9 : ∀ W, KT w L M W → W.cell? ⟨w.heap.size, 9, none⟩ = some (.int .u64 (W64 D.natAbs 3 : Nat)) := fun W h => h.c 0 (by rw [← HL.out]; rfl) 9 rfl
 have s1 : ∀ W, KT w L M W → (storeCells ⟨w.heap.size + 1, 0, none⟩ Aq.toList).run Tryz.prog W = .ok () (W.setCells (w.heap.size + 1) 0 Aq.toList) := fun W h => (h.2 _ HMM.out).1.store _ hs5 hs1
 go_region_held3 (fun w' : World => KT w L M w')
  (first
    | (with_reducible refine KT.drew ?_; with_reducible assumption)
    | (with_reducible refine KT.put ?_ HMM.out _; with_reducible assumption)
    | (with_reducible refine KT.alloc ?_ _; with_reducible assumption)
    | (with_reducible refine KT.after ?_ hb; with_reducible assumption))
  (first
    | (go_at_call 89; (with_reducible refine (HO.out _).mono ?_); rintro e w' ⟨rfl, hb⟩)
    | (go_at_call 88; (refine (HM.out _ _ (Row.at rfl [_, _, _, _, _, _, _, _, _, _] _)).mono ?_); rintro e w' ⟨rfl, hb⟩)
    | (go_at_call 87; (with_reducible refine (HP.out _).mono ?_); rintro e w' ⟨rfl, hb⟩)
    | (go_at_call 124; (with_reducible refine (HS.out _).mono ?_); rintro e w' ⟨rfl, hb⟩)
    | (go_at_call 87; (with_reducible refine (HQ.out _).mono ?_); rintro e w' ⟨rfl, hb⟩))
 all_goals
  have hq := ‹KT w L M _›
  have hr := hq.put_row HMM.out (by simpa using hs5)
  go_wp2
  exact bodyPost_ret (results_R1 (cs := Aq) rfl rfl hr hT5) rfl ⟨rfl, hq.1.2⟩
end Go.Proofs.YtdfmmkidknginaaGreatDoor
