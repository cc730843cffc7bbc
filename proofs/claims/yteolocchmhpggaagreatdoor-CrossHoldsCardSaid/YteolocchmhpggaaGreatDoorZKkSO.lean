import Derived.Test.YteolocchmhpggaaGreatDoorZKkSN
import Derived.Test.YteolocchmhpggaaGreatDoorZKkSI
namespace Go.Proofs.YteolocchmhpggaaGreatDoor
open Go.RowKit CrossMath

theorem KT.belowT {w W : World} {L : List (Nat × Array Value)} {M : List (Nat × Nat)} (h : KT w L M W) : Below w.heap.size w W := h.1.2
set_option maxRecDepth 100000 in
set_option maxHeartbeats 1600000 in
theorem div_over (n d : Int) (w : World) (hn : n.natAbs < T256) (hd : d.natAbs < T256) (h0 : d ≠ 0) (ht : TabTz w) (hw0 : 0 < w.heap.size) :
 Calls Tryz.prog 120 #[.agg (ratA n 1), .agg (ratA d 1)] w fun e w' => e = .returned (.tuple #[.agg (ratA (frN n d) (frD n d)), .int .i64 0]) ∧ Below w.heap.size w w' := by
 have H := Lib.hid (fun W (hb : Below w.heap.size w W) => after_over n d W hn hd h0 (ht.below hw0 hb) (Nat.lt_of_lt_of_le hw0 hb.size))
 clear hn hd h0 ht hw0
 have hT : AggTy Tryz.prog 31 (ratA (frN n d) (frD n d)).size := agg_rat
 have HO := Lib.hid (ratA_one (frN n d) (frD n d))
 have HT1 : Hid (AggTy Tryz.prog 31 (ratA n 1).size) := Lib.hid agg_rat
 have HT2 : Hid (AggTy Tryz.prog 31 (ratA d 1).size) := Lib.hid agg_rat
 have hfr := Lib.hid (ratA_size (frN n d) (frD n d))
 generalize ratA (frN n d) (frD n d) = fr at *
 generalize ratA n 1 = an at *
 generalize ratA d 1 = ad at *
 have r2 := (((Row.at (w := w) rfl an.toList 31).alloc (.cells ad 31)).alloc (.cells #[.bool false, .int .u64 0, .int .u64 0, .int .u64 0, .int .u64 0, .bool false, .int .u64 0, .int .u64 0, .int .u64 0, .int .u64 0] 31))
 have r3 := ((Row.at (w := w.alloc (.cells an 31)) (n := w.heap.size + 1) (by simp) ad.toList 31).alloc (.cells #[.bool false, .int .u64 0, .int .u64 0, .int .u64 0, .int .u64 0, .bool false, .int .u64 0, .int .u64 0, .int .u64 0, .int .u64 0] 31))
 have r4 := (Row.at (w := (w.alloc (.cells an 31)).alloc (.cells ad 31)) (n := w.heap.size + 1 + 1) (by simp) zero_rat.toList 31)
 have hB := ((((Below.refl w.heap.size w).alloc (Nat.le_refl _) (.cells an 31)).alloc (by simp) (.cells ad 31)).alloc (by simp; omega) (.cells #[.bool false, .int .u64 0, .int .u64 0, .int .u64 0, .int .u64 0, .bool false, .int .u64 0, .int .u64 0, .int .u64 0, .int .u64 0] 31))
 go_enter Tryz.func120, Tryz.ntmps120
 go_upto_region 1 with fail
 go_wp2_with (first | (refine wpList_load_R rfl _ _ rfl w.heap.size rfl an r2 HT1.out ?_) | (refine wpList_load_R rfl _ _ rfl (w.heap.size + 1) rfl ad r3 HT2.out ?_))
 refine (H.out _ hB).mono ?_
 rintro e w1 ⟨rfl, hb⟩
 replace r4 := r4.after hb
 replace hB := hB.trans (hb.mono hB.size)
 clear hb r2 r3 H
 go_wp2_with (first | (refine wpList_store_R rfl _ _ _ rfl _ fr rfl rfl _ r4 (by rw [hfr.out]; rfl) hT HO.out ?_; intro w2 q2 o2))
 exact bodyPost_ret (results_R2 (cs := fr) rfl rfl q2 hT) rfl ⟨rfl, below_on hB o2 (by omega)⟩
set_option maxRecDepth 100000 in
set_option maxHeartbeats 3200000 in
theorem make_num (n d : Int) (w : World) (hn : n.natAbs < T256) (hd : d.natAbs < T256) (h0 : d ≠ 0) (ht : TabTz w) (hw0 : 0 < w.heap.size) :
 Calls Tryz.prog 95 #[.agg (intA n), .agg (intA d)] w fun e w' => e = .returned (.tuple #[.agg (ratA (frN n d) (frD n d)), .int .i64 0]) ∧ Below w.heap.size w w' := by
 have H := Lib.hid (fun W (hb : Below w.heap.size w W) => div_over n d W hn hd h0 (ht.below hw0 hb) (Nat.lt_of_lt_of_le hw0 hb.size))
 clear hn hd h0 ht hw0
 have HO := Lib.hid (ratA_one (frN n d) (frD n d))
 have hfr := ratA_size (frN n d) (frD n d)
 have hT : Hid (AggTy Tryz.prog 31 (ratA (frN n d) (frD n d)).size) := Lib.hid agg_rat
 generalize ratA (frN n d) (frD n d) = fr at *
 go_enter Tryz.func95, Tryz.ntmps95
 go_wp2_with fail
 generalize hW : World.alloc _ _ = W0
 have hK : KT w ([] ++ [(w.heap.size, intA n)] ++ [(w.heap.size + 1, intA d)]) ([] ++ [(w.heap.size + 1 + 1, 10)]) W0 := by rw [← hW]; exact (KT.of (((KS.nil w).boxed rfl _ _).boxed (by simp) _ _)).made (by simp) zero_rat _ rfl
 clear hW
 generalize hL : [] ++ [(w.heap.size, intA n)] ++ [(w.heap.size + 1, intA d)] = L at hK
 generalize hM : [] ++ [(w.heap.size + 1 + 1, 10)] = M at hK
 have HL := Lib.hid hL; clear hL
 have HM := Lib.hid (show (w.heap.size + 1 + 1, 10) ∈ M by rw [← hM]; simp); clear hM
 have l0 : ∀ W, KT w L M W → W.cell? ⟨w.heap.size, 0, none⟩ = some (.bool (decide (n < 0))) := fun W h => h.c 0 (by rw [← HL.out]; rfl) 0 rfl
 have l1 : ∀ W, KT w L M W → W.cell? ⟨w.heap.size, 1, none⟩ = some (.int .u64 (W64 (n).natAbs 0 : Nat)) := fun W h => h.c 0 (by rw [← HL.out]; rfl) 1 rfl
 have l2 : ∀ W, KT w L M W → W.cell? ⟨w.heap.size, 2, none⟩ = some (.int .u64 (W64 (n).natAbs 1 : Nat)) := fun W h => h.c 0 (by rw [← HL.out]; rfl) 2 rfl
 have l3 : ∀ W, KT w L M W → W.cell? ⟨w.heap.size, 3, none⟩ = some (.int .u64 (W64 (n).natAbs 2 : Nat)) := fun W h => h.c 0 (by rw [← HL.out]; rfl) 3 rfl
 have l4 : ∀ W, KT w L M W → W.cell? ⟨w.heap.size, 4, none⟩ = some (.int .u64 (W64 (n).natAbs 3 : Nat)) := fun W h => h.c 0 (by rw [← HL.out]; rfl) 4 rfl
 have m0 : ∀ W, KT w L M W → W.cell? ⟨w.heap.size + 1, 0, none⟩ = some (.bool (decide (d < 0))) := fun W h => h.c 1 (by rw [← HL.out]; rfl) 0 rfl
 have m1 : ∀ W, KT w L M W → W.cell? ⟨w.heap.size + 1, 1, none⟩ = some (.int .u64 (W64 (d).natAbs 0 : Nat)) := fun W h => h.c 1 (by rw [← HL.out]; rfl) 1 rfl
 have m2 : ∀ W, KT w L M W → W.cell? ⟨w.heap.size + 1, 2, none⟩ = some (.int .u64 (W64 (d).natAbs 1 : Nat)) := fun W h => h.c 1 (by rw [← HL.out]; rfl) 2 rfl
 have m3 : ∀ W, KT w L M W → W.cell? ⟨w.heap.size + 1, 3, none⟩ = some (.int .u64 (W64 (d).natAbs 2 : Nat)) := fun W h => h.c 1 (by rw [← HL.out]; rfl) 3 rfl
 have m4 : ∀ W, KT w L M W → W.cell? ⟨w.heap.size + 1, 4, none⟩ = some (.int .u64 (W64 (d).natAbs 3 : Nat)) := fun W h => h.c 1 (by rw [← HL.out]; rfl) 4 rfl
 have s1 : ∀ W, KT w L M W → (storeCells ⟨w.heap.size + 1 + 1, 0, none⟩ fr.toList).run Tryz.prog W = .ok () (W.setCells (w.heap.size + 1 + 1) 0 fr.toList) := fun W h => (h.2 _ HM.out).1.store _ hfr HO.out
 have hk0 := hK.drew
 go_region_held3 (fun w' : World => KT w L M w')
  (repeat (first
    | (with_reducible assumption)
    | (with_reducible refine KT.put ?_ HM.out _)
    | (with_reducible refine KT.alloc ?_ _)
    | (with_reducible refine KT.drew ?_)
    | (with_reducible refine KT.after ?_ hb)))
  (first
    | (go_at_call 121; (with_reducible refine (whole_num _ _).mono ?_); (try clear hb); rintro e w' ⟨rfl, hb⟩)
    | (go_at_call 120; (with_reducible refine (H.out _ (KT.belowT (by assumption))).mono ?_); (try clear hb); rintro e w' ⟨rfl, hb⟩))
 all_goals
  have hq := ‹KT w L M _›
  have hr := hq.put_row HM.out (by simpa using hfr)
  clear l0 m0 l1 m1 l2 m2 l3 m3 l4 m4 s1
  go_wp2
  exact bodyPost_ret (results_R2 (cs := fr) rfl rfl hr hT.out) rfl ⟨rfl, hq.1.2⟩
set_option maxRecDepth 100000 in
set_option maxHeartbeats 1600000 in
theorem prod_num (a b : Int) (w : World) (ha : -9223372036854775808 ≤ a ∧ a ≤ 9223372036854775807) (hb : -9223372036854775808 ≤ b ∧ b ≤ 9223372036854775807) :
 Calls Tryz.prog 97 #[.int .i64 a, .int .i64 b] w fun e w' => e = .returned (.agg (intA (a * b))) ∧ Below w.heap.size w w' := by
 have hT64 : 9223372036854775808 * 9223372036854775808 < T256 := by unfold T256; decide
 have ha' : a.natAbs ≤ 9223372036854775808 := by omega
 have hb' : b.natAbs ≤ 9223372036854775808 := by omega
 have hm : (a * b).natAbs < T256 := by rw [Int.natAbs_mul]; exact Nat.lt_of_le_of_lt (Nat.mul_le_mul ha' hb') hT64
 have HA := Lib.hid (fun W => of_num a ha.1 ha.2 W)
 have HB := Lib.hid (fun W => of_num b hb.1 hb.2 W)
 have HM := Lib.hid (fun W k hr => mul2_num a b k 2 W (Nat.lt_of_le_of_lt ha' (by unfold T256; decide)) (Nat.lt_of_le_of_lt hb' (by unfold T256; decide)) hm hr)
 have HP := Lib.hid (fun W => must_z (a * b) W)
 clear ha hb ha' hb' hm hT64
 generalize a * b = p at HM HP ⊢
 have r0 := Row.at (w := w) rfl zero_int.toList 29
 have hB := (Below.refl w.heap.size w).alloc (Nat.le_refl _) (.cells zero_int 29)
 go_enter Tryz.func97, Tryz.ntmps97
 go_wp2_with fail
 refine (HA.out _).mono ?_
 rintro e w1 ⟨rfl, hb⟩
 replace r0 := r0.after hb
 replace hB := hB.trans (hb.mono hB.size)
 clear hb
 go_wp2_with fail
 refine (HB.out _).mono ?_
 rintro e w2 ⟨rfl, hb⟩
 replace r0 := r0.after hb
 replace hB := hB.trans (hb.mono hB.size)
 clear hb
 go_wp2_with fail
 refine (HM.out _ _ (Row.at rfl [_, _, _, _, _, _, _, _, _, _] _)).mono ?_
 rintro e w3 ⟨rfl, hb⟩
 replace r0 := (r0.alloc _).after hb
 replace hB := (hB.alloc hB.size _).trans (hb.mono (Nat.le_trans hB.size (by simp)))
 clear hb
 go_wp2_with fail
 refine (HP.out _).mono ?_
 rintro e w4 ⟨rfl, hb⟩
 replace r0 := r0.after hb
 replace hB := hB.trans (hb.mono hB.size)
 clear hb
 go_wp2_with (first | (refine wpList_store_R rfl _ _ _ rfl _ (intA p) rfl rfl _ r0 rfl agg_int (intA_one _) ?_; intro w5 r5 o5))
 exact bodyPost_ret (results_R1 (cs := intA p) rfl rfl r5 agg_int) rfl ⟨rfl, below_on hB o5 (Nat.le_refl _)⟩
end Go.Proofs.YteolocchmhpggaaGreatDoor

namespace Go.Proofs.YteolocchmhpggaaGreatDoor
open Go.RowKit CrossMath

set_option maxRecDepth 100000 in
set_option maxHeartbeats 6400000 in
theorem at_core (pm sm : Int → Int → Int) (OkP OkS : Int → Int → Prop) (G V : Nat) (oa ob wh a b : Int) (fr : Array Value) (hfr : fr.size = 10) (hone : OneC fr) (w : World)
 (hG : Row w G (gapA oa ob).toList) (hV : Row w V (intA wh).toList)
 (hP : ∀ x y W, OkP x y → Calls Tryz.prog 97 #[.int .i64 x, .int .i64 y] W fun e w' => e = .returned (.agg (intA (pm x y))) ∧ Below W.heap.size W w')
 (hS : ∀ x y W, OkS x y → Calls Tryz.prog 96 #[.agg (intA x), .agg (intA y)] W fun e w' => e = .returned (.tuple #[.agg (intA (sm x y)), .int .i64 0]) ∧ Below W.heap.size W w')
 (hM : ∀ W, Below w.heap.size w W → Calls Tryz.prog 95 #[.agg (intA (sm (pm oa b) (pm ob a))), .agg (intA wh)] W fun e w' => e = .returned (.tuple #[.agg fr, .int .i64 0]) ∧ Below W.heap.size W w')
 (ok1 : OkP oa b) (ok2 : OkP ob a) (ok3 : OkS (pm oa b) (pm ob a)) :
 Calls Tryz.prog 93 #[.int .i64 a, .int .i64 b, .pointer (some ⟨G, 0, none⟩), .pointer (some ⟨V, 0, none⟩)] w fun e w' => e = .returned (.agg fr) ∧ Below w.heap.size w w' := by
 have HP := Lib.hid hP; clear hP
 have HS := Lib.hid hS; clear hS
 have HM' := Lib.hid hM; clear hM
 have HO := Lib.hid hone; clear hone
 have HR := Lib.hid (fun W => must_rat fr hfr HO.out W)
 have hT : Hid (AggTy Tryz.prog 31 fr.size) := Lib.hid (by rw [hfr]; exact agg_rat)
 have hlG := hG.lt
 have hlV := hV.lt
 go_enter Tryz.func93, Tryz.ntmps93
 go_wp2_with fail
 generalize hW : World.alloc _ _ = W0
 have hK : KT w ([] ++ [(G, gapA oa ob)] ++ [(V, intA wh)]) ([] ++ [(w.heap.size, 10)]) W0 := by rw [← hW]; exact (KT.of (((KS.nil w).more hG).more hV)).made rfl zero_rat _ rfl
 clear hW hG hV
 generalize hL : [] ++ [(G, gapA oa ob)] ++ [(V, intA wh)] = L at hK
 generalize hM : [] ++ [(w.heap.size, 10)] = M at hK
 have HL := Lib.hid hL; clear hL
 have HM := Lib.hid (show (w.heap.size, 10) ∈ M by rw [← hM]; simp); clear hM
 have l0 : ∀ W, KT w L M W → W.cell? ⟨G, 0, none⟩ = some (.int .i64 oa) := fun W h => h.c 0 (by rw [← HL.out]; rfl) 0 rfl
 have l1 : ∀ W, KT w L M W → W.cell? ⟨G, 1, none⟩ = some (.int .i64 ob) := fun W h => h.c 0 (by rw [← HL.out]; rfl) 1 rfl
 have m0 : ∀ W, KT w L M W → W.cell? ⟨V, 0, none⟩ = some (.bool (decide (wh < 0))) := fun W h => h.c 1 (by rw [← HL.out]; rfl) 0 rfl
 have m1 : ∀ W, KT w L M W → W.cell? ⟨V, 1, none⟩ = some (.int .u64 (W64 (wh).natAbs 0 : Nat)) := fun W h => h.c 1 (by rw [← HL.out]; rfl) 1 rfl
 have m2 : ∀ W, KT w L M W → W.cell? ⟨V, 2, none⟩ = some (.int .u64 (W64 (wh).natAbs 1 : Nat)) := fun W h => h.c 1 (by rw [← HL.out]; rfl) 2 rfl
 have m3 : ∀ W, KT w L M W → W.cell? ⟨V, 3, none⟩ = some (.int .u64 (W64 (wh).natAbs 2 : Nat)) := fun W h => h.c 1 (by rw [← HL.out]; rfl) 3 rfl
 have m4 : ∀ W, KT w L M W → W.cell? ⟨V, 4, none⟩ = some (.int .u64 (W64 (wh).natAbs 3 : Nat)) := fun W h => h.c 1 (by rw [← HL.out]; rfl) 4 rfl
 have s1 : ∀ W, KT w L M W → (storeCells ⟨w.heap.size, 0, none⟩ fr.toList).run Tryz.prog W = .ok () (W.setCells w.heap.size 0 fr.toList) := fun W h => (h.2 _ HM.out).1.store _ hfr HO.out
 have hk0 := hK.drew
 go_region_held3 (fun w' : World => KT w L M w')
  (repeat (first
    | (with_reducible assumption)
    | (with_reducible refine KT.put ?_ HM.out _)
    | (with_reducible refine KT.alloc ?_ _)
    | (with_reducible refine KT.drew ?_)
    | (with_reducible refine KT.after ?_ hb)))
  (first
    | (go_at_call 97; (with_reducible refine (HP.out _ _ _ (by assumption)).mono ?_); (try clear hb); rintro e w' ⟨rfl, hb⟩)
    | (go_at_call 96; (with_reducible refine (HS.out _ _ _ (by assumption)).mono ?_); (try clear hb); rintro e w' ⟨rfl, hb⟩)
    | (go_at_call 64; (with_reducible refine (must_z _ _).mono ?_); (try clear hb); rintro e w' ⟨rfl, hb⟩)
    | (go_at_call 94; (with_reducible refine (HR.out _).mono ?_); (try clear hb); rintro e w' ⟨rfl, hb⟩)
    | (go_at_call 95; (with_reducible refine (HM'.out _ (KT.belowT (by assumption))).mono ?_); (try clear hb); rintro e w' ⟨rfl, hb⟩))
 all_goals
  have hq := ‹KT w L M _›
  have hr := hq.put_row HM.out (by simpa using hfr)
  clear l0 l1 m0 m1 m2 m3 m4 s1
  go_wp2
  exact bodyPost_ret (results_R1 (cs := fr) rfl rfl hr hT.out) rfl ⟨rfl, hq.1.2⟩
set_option maxRecDepth 100000 in
set_option maxHeartbeats 6400000 in
theorem parted_core (fa : Int → Int → Array Value) (OkA : Int → Int → Prop) (ax ay bx bY oa ob wh : Int) (hfa : ∀ a b, (fa a b).size = 10) (hone : ∀ a b, OneC (fa a b)) (w : World)
 (b1 : -72057594037927936 ≤ oa) (b2 : oa ≤ 72057594037927936) (b3 : -72057594037927936 ≤ ob) (b4 : ob ≤ 72057594037927936)
 (hO : ∀ W, Calls Tryz.prog 66 #[.int .i64 (oa - ob)] W fun e w' => e = .returned (.agg (intA wh)) ∧ Below W.heap.size W w')
 (hA : ∀ a b G V W, OkA a b → Below w.heap.size w W → Row W G (gapA oa ob).toList → Row W V (intA wh).toList → Calls Tryz.prog 93 #[.int .i64 a, .int .i64 b, .pointer (some ⟨G, 0, none⟩), .pointer (some ⟨V, 0, none⟩)] W fun e w' => e = .returned (.agg (fa a b)) ∧ Below W.heap.size W w')
 (ok1 : OkA ax bx) (ok2 : OkA ay bY) :
 Calls Tryz.prog 56 #[.agg (segA ax ay bx bY), .agg (gapA oa ob)] w fun e w' => e = .returned (.agg (fa ax bx ++ fa ay bY)) ∧ Below w.heap.size w w' := by
 have hmf : ∀ (fn : Fn) (first cap : Array Value) (w : World), (Instr.makeFunc fn first cap).run Tryz.prog w = .ok (.func fn first cap) w := fun _ _ _ _ => rfl
 have HO := Lib.hid hO; clear hO
 have HA := Lib.hid hA; clear hA
 have HN := Lib.hid hone; clear hone
 have hT : Hid (AggTy Tryz.prog 33 (fa ax bx ++ fa ay bY).size) := Lib.hid (by rw [Array.size_append, hfa, hfa]; exact agg_point)
 have hz1 := two_size (fa ax bx) (hfa _ _)
 have hz2 := two_made (fa ax bx) (fa ay bY) (hfa _ _) (hfa _ _)
 go_enter Tryz.func56, Tryz.ntmps56
 go_wp2_with fail
 have r2 := (((Row.at (w := w) rfl (segA ax ay bx bY).toList 72).alloc (.cells (gapA oa ob) 102)).alloc (.cells zero_point 33))
 have r3 := ((Row.at (w := w.alloc (.cells (segA ax ay bx bY) 72)) (n := w.heap.size + 1) (by simp) (gapA oa ob).toList 102).alloc (.cells zero_point 33))
 have r4 := (Row.at (w := (w.alloc (.cells (segA ax ay bx bY) 72)).alloc (.cells (gapA oa ob) 102)) (n := w.heap.size + 1 + 1) (by simp) zero_point.toList 33)
 have hB := (((Below.refl w.heap.size w).alloc (Nat.le_refl _) (.cells (segA ax ay bx bY) 72)).alloc (by simp) (.cells (gapA oa ob) 102)).alloc (by simp; omega) (.cells zero_point 33)
 clear b1 b2 b3 b4
 refine (HO.out _).mono ?_
 rintro e w1 ⟨rfl, hb⟩
 replace r2 := r2.after hb
 replace r3 := r3.after hb
 replace r4 := r4.after hb
 replace hB := hB.trans (hb.mono hB.size)
 clear hb HO
 go_wp2_with fail
 generalize hW : World.alloc _ _ = W0
 have rV : Row W0 w1.heap.size (intA wh).toList := by rw [← hW]; exact Row.at rfl _ _
 have q2 : Row W0 w.heap.size (segA ax ay bx bY).toList := by rw [← hW]; exact r2.alloc _
 have q3 : Row W0 (w.heap.size + 1) (gapA oa ob).toList := by rw [← hW]; exact r3.alloc _
 have q4 : Row W0 (w.heap.size + 1 + 1) zero_point.toList := by rw [← hW]; exact r4.alloc _
 have hB0 : Below w.heap.size w W0 := by rw [← hW]; exact hB.alloc hB.size _
 have n1 : w.heap.size ≠ w.heap.size + 1 + 1 := by omega
 have n2 : w.heap.size + 1 ≠ w.heap.size + 1 + 1 := by omega
 have n3 : w1.heap.size ≠ w.heap.size + 1 + 1 := Ne.symm (Nat.ne_of_lt r4.lt)
 have hK : KT w ([] ++ [(w.heap.size, segA ax ay bx bY)] ++ [(w.heap.size + 1, gapA oa ob)] ++ [(w1.heap.size, intA wh)]) ([] ++ [(w.heap.size + 1 + 1, 20)]) W0 := by
  refine KT.open (KT.of (KS.more (KS.more (KS.more ⟨fun _ hp => absurd hp (by simp), hB0⟩ q2) q3) rV)) (q4.th rfl) (by omega) (fun q hq => ?_)
  simp only [List.nil_append, List.mem_append, List.mem_singleton] at hq
  rcases hq with (rfl | rfl) | rfl
  ·exact n1
  ·exact n2
  ·exact n3
 clear hW r2 r3 r4 rV q2 q3 q4 hB hB0 n1 n2 n3
 generalize hL : [] ++ [(w.heap.size, segA ax ay bx bY)] ++ [(w.heap.size + 1, gapA oa ob)] ++ [(w1.heap.size, intA wh)] = L at hK
 generalize hM : [] ++ [(w.heap.size + 1 + 1, 20)] = M at hK
 have HL := Lib.hid hL; clear hL
 have HM := Lib.hid (show (w.heap.size + 1 + 1, 20) ∈ M by rw [← hM]; simp); clear hM
 have l0 : ∀ W, KT w L M W → W.cell? ⟨w.heap.size, 0, none⟩ = some (.int .i64 ax) := fun W h => h.c 0 (by rw [← HL.out]; rfl) 0 rfl
 have l1 : ∀ W, KT w L M W → W.cell? ⟨w.heap.size, 1, none⟩ = some (.int .i64 ay) := fun W h => h.c 0 (by rw [← HL.out]; rfl) 1 rfl
 have l2 : ∀ W, KT w L M W → W.cell? ⟨w.heap.size, 2, none⟩ = some (.int .i64 bx) := fun W h => h.c 0 (by rw [← HL.out]; rfl) 2 rfl
 have l3 : ∀ W, KT w L M W → W.cell? ⟨w.heap.size, 3, none⟩ = some (.int .i64 bY) := fun W h => h.c 0 (by rw [← HL.out]; rfl) 3 rfl
 have HA2 := Lib.hid (fun a b W (ok : OkA a b) (h : KT w L M W) => HA.out a b (w.heap.size + 1) w1.heap.size W ok h.belowT (h.row 1 (by rw [← HL.out]; rfl)) (h.row 2 (by rw [← HL.out]; rfl)))
 clear HA
 have s1 : ∀ W, KT w L M W → (storeCells ⟨w.heap.size + 1 + 1, 0, none⟩ (fa ax bx ++ fa ay bY).toList).run Tryz.prog W = .ok () (W.setCells (w.heap.size + 1 + 1) 0 (fa ax bx ++ fa ay bY).toList) := fun W h => (h.2 _ HM.out).1.store _ (by rw [Array.size_append, hfa, hfa]) ((HN.out _ _).append (HN.out _ _))
 have s2 := s1
 simp only [Array.toList_append] at s2
 have hk0 := hK.drew
 go_region_held3 (fun w' : World => KT w L M w')
  (repeat (first
    | (with_reducible assumption)
    | (with_reducible refine KT.put ?_ HM.out _)
    | (with_reducible refine KT.alloc ?_ _)
    | (with_reducible refine KT.drew ?_)
    | (with_reducible refine KT.after ?_ hb)))
  (first
    | (go_at_call 93; (with_reducible refine (HA2.out _ _ _ (by assumption) (by assumption)).mono ?_); (try clear hb); rintro e w' ⟨rfl, hb⟩))
 all_goals
  have hq := ‹KT w L M _›
  have hr := hq.put_row HM.out (by simp [hfa])
  clear l0 l1 l2 l3 s1 s2
  go_wp2
  exact bodyPost_ret (results_R1 (cs := fa ax bx ++ fa ay bY) rfl rfl (by simpa using hr) hT.out) rfl ⟨rfl, hq.1.2⟩
end Go.Proofs.YteolocchmhpggaaGreatDoor

namespace Go.Proofs.YteolocchmhpggaaGreatDoor
open Go.RowKit CrossMath

def ptA (p : Pt) : Array Value := ratA p.xn p.xd ++ ratA p.yn p.yd
theorem ptA_size (p : Pt) : (ptA p).size = 20 := rfl
theorem ptA_one (p : Pt) : OneC (ptA p) := (ratA_one _ _).append (ratA_one _ _)
def OffB (z : Int) : Prop := -36028797018963968 ≤ z ∧ z ≤ 36028797018963968
theorem prod_bd {a b : Int} (ha : OffB a) (hb : Bd b) : (a * b).natAbs ≤ 36028797018963968 * 67108864 := by
 unfold OffB at ha
 unfold Bd at hb
 rw [Int.natAbs_mul]
 exact Nat.mul_le_mul (by omega) (by omega)
theorem big_T : 36028797018963968 * 67108864 + 36028797018963968 * 67108864 < T256 := by unfold T256; decide
theorem prod_T {a b : Int} (ha : OffB a) (hb : Bd b) : (a * b).natAbs < T256 := by
 have := prod_bd ha hb
 have := big_T
 omega
set_option maxHeartbeats 1600000 in
theorem parted_num (l : Sg) (oa ob : Int) (w : World) (h1 : Bd l.ax) (h2 : Bd l.ay) (h3 : Bd l.bx) (h4 : Bd l.bY) (ha : OffB oa) (hb : OffB ob) (hne : oa ≠ ob) (ht : TabTz w) (hw0 : 0 < w.heap.size) :
 Calls Tryz.prog 56 #[.agg (segA l.ax l.ay l.bx l.bY), .agg (gapA oa ob)] w fun e w' => e = .returned (.agg (ptA (partP l oa ob))) ∧ Below w.heap.size w w' := by
 have hoT : (oa - ob).natAbs < T256 := by
  have := big_T
  unfold OffB at ha hb
  omega
 have hi : ∀ z, OffB z → -9223372036854775808 ≤ z ∧ z ≤ 9223372036854775807 := fun z hz => by unfold OffB at hz; omega
 have hdT : ∀ a b, Bd a → Bd b → (oa * b - ob * a).natAbs < T256 := fun a b hA hB => by
  have p := prod_bd ha hB
  have q := prod_bd hb hA
  have := big_T
  generalize oa * b = u at *
  generalize ob * a = v at *
  omega
 refine parted_core (fun a b => ratA (CrossMath.atN oa ob a b) (CrossMath.atD oa ob a b)) (fun a b => Bd a ∧ Bd b) l.ax l.ay l.bx l.bY oa ob (oa - ob) (fun _ _ => ratA_size _ _) (fun _ _ => ratA_one _ _) w (by unfold OffB at ha; omega) (by unfold OffB at ha; omega) (by unfold OffB at hb; omega) (by unfold OffB at hb; omega)
  (fun W => of_num (oa - ob) (by unfold OffB at ha hb; omega) (by unfold OffB at ha hb; omega) W) (fun a b G V W hab hbw hG hV => ?_) ⟨h1, h3⟩ ⟨h2, h4⟩
 refine at_core (fun x y => x * y) (fun x y => x - y) (fun x y => (OffB x) ∧ (Bd y)) (fun x y => x.natAbs < T256 ∧ y.natAbs < T256 ∧ (x - y).natAbs < T256) G V oa ob (oa - ob) a b (ratA (CrossMath.atN oa ob a b) (CrossMath.atD oa ob a b)) (ratA_size _ _) (ratA_one _ _) W hG hV
  (fun x y W' hxy => prod_num x y W' (hi x hxy.1) (in_i64 hxy.2)) (fun x y W' hxy => sub_num x y W' hxy.1 hxy.2.1 hxy.2.2) (fun W' hW' => ?_) ⟨ha, hab.2⟩ ⟨hb, hab.1⟩ ⟨prod_T ha hab.2, prod_T hb hab.1, hdT a b hab.1 hab.2⟩
 exact make_num (oa * b - ob * a) (oa - ob) W' (hdT a b hab.1 hab.2) hoT (by omega) ((ht.below hw0 hbw).below (Nat.lt_of_lt_of_le hw0 hbw.size) hW') (Nat.lt_of_lt_of_le (Nat.lt_of_lt_of_le hw0 hbw.size) hW'.size)
end Go.Proofs.YteolocchmhpggaaGreatDoor

namespace Go.Proofs.YteolocchmhpggaaGreatDoor
open Go.RowKit CrossMath

def mtA (m : Mt) : Array Value := meetA m.k (ptA m.p) (ptA m.q)
theorem mtA_size (m : Mt) : (mtA m).size = 41 := meetA_size _ _ _ (ptA_size _) (ptA_size _)
theorem mtA_one (m : Mt) : OneC (mtA m) := meetA_one _ _ _ (ptA_one _) (ptA_one _)
theorem mtA_zero : mtA noneM = zero_meet := by
 simp [mtA, meetA, noneM, zeroP, ptA, ratA, zero_meet, W64]
theorem eqlNode (a b c d : Int) (W : World) : (binOp .eql 23 (.agg (nodeA a b)) (.agg (nodeA c d))).run Tryz.prog W = .ok (.bool (a == c && b == d)) W := by
 have u := Tryz.underlying23
 rw [run_eql_struct]
 go_simp
 by_cases h1 : a = c <;> by_cases h2 : b = d <;> simp [h1, h2]
theorem eqlGaps (a b c d : Int) (W : World) : (binOp .eql 102 (.agg (gapA a b)) (.agg (gapA c d))).run Tryz.prog W = .ok (.bool (a == c && b == d)) W := by
 have u := Tryz.underlying102
 rw [run_eql_struct]
 go_simp
 by_cases h1 : a = c <;> by_cases h2 : b = d <;> simp [h1, h2]
set_option maxRecDepth 100000 in
set_option maxHeartbeats 6400000 in
theorem shared_core (ax ay bx bY cx cy dx dY px py qx qy : Int) (w : World) (hp1 : Bd px) (hp2 : Bd py) (hq1 : Bd qx) (hq2 : Bd qy)
 (hF : ∀ W, Calls Tryz.prog 88 #[.agg (nodeA ax ay), .agg (nodeA cx cy), .func (.func 89) #[] #[]] W fun e w' => e = .returned (.agg (nodeA px py)) ∧ Below W.heap.size W w')
 (hG : ∀ W, Calls Tryz.prog 88 #[.agg (nodeA bx bY), .agg (nodeA dx dY), .func (.func 90) #[] #[]] W fun e w' => e = .returned (.agg (nodeA qx qy)) ∧ Below W.heap.size W w') :
 Calls Tryz.prog 52 #[.agg (segA ax ay bx bY), .agg (segA cx cy dx dY)] w fun e w' => e = .returned (.agg (mtA (pieceM (px, py) (qx, qy)))) ∧ Below w.heap.size w w' := by
 have HF := Lib.hid hF; clear hF
 have HG := Lib.hid hG; clear hG
 have HD1 := Lib.hid (fun W => dot_num px py W hp1 hp2)
 have HD2 := Lib.hid (fun W => dot_num qx qy W hq1 hq2)
 have HDD : Hid (∀ x y, Bd x ∧ Bd y → ∀ W, Calls Tryz.prog 55 #[.agg (nodeA x y)] W fun e w' => e = .returned (.agg (dotA x y)) ∧ Below W.heap.size W w') := Lib.hid (fun x y h W => dot_num x y W h.1 h.2)
 have okp : Bd px ∧ Bd py := ⟨hp1, hp2⟩
 have okq : Bd qx ∧ Bd qy := ⟨hq1, hq2⟩
 have HA : Hid (∀ W, Calls Tryz.prog 90 #[.agg (nodeA px py), .agg (nodeA qx qy)] W fun e w' => e = .returned (.bool (CrossMath.aheadB px py qx qy)) ∧ Below W.heap.size W w') := Lib.hid (fun W => ahead_any px py qx qy W)
 clear hp1 hp2 hq1 hq2
 have heq := eqlNode px py qx qy
 obtain ⟨r, hr⟩ : ∃ r, mtA (pieceM (px, py) (qx, qy)) = r := ⟨_, rfl⟩
 have hrs : r.size = 41 := by rw [← hr]; exact mtA_size _
 have HRo : Hid (OneC r) := Lib.hid (by rw [← hr]; exact mtA_one _)
 have hT : Hid (AggTy Tryz.prog 36 r.size) := Lib.hid (by rw [hrs]; exact agg_meet)
 have HRr := Lib.hid hr
 rw [hr]
 clear hr
 have k2 := (((Row.at (w := w) rfl (segA ax ay bx bY).toList 72).alloc (.cells (segA cx cy dx dY) 72)).alloc (.cells zero_meet 36))
 have k3 := ((Row.at (w := w.alloc (.cells (segA ax ay bx bY) 72)) (n := w.heap.size + 1) (by simp) (segA cx cy dx dY).toList 72).alloc (.cells zero_meet 36))
 have k4 := (Row.at (w := (w.alloc (.cells (segA ax ay bx bY) 72)).alloc (.cells (segA cx cy dx dY) 72)) (n := w.heap.size + 1 + 1) (by simp) zero_meet.toList 36)
 have hB := (((Below.refl w.heap.size w).alloc (Nat.le_refl _) (.cells (segA ax ay bx bY) 72)).alloc (by simp) (.cells (segA cx cy dx dY) 72)).alloc (by simp; omega) (.cells zero_meet 36)
 go_enter Tryz.func52, Tryz.ntmps52
 go_wp2_with fail
 refine (HF.out _).mono ?_
 rintro e w1 ⟨rfl, hb⟩
 replace k2 := k2.after hb
 replace k3 := k3.after hb
 replace k4 := k4.after hb
 replace hB := hB.trans (hb.mono hB.size)
 clear hb
 have a0 := k2.c 2 rfl
 have a1 := k2.c 3 rfl
 have c0 := k3.c 2 rfl
 have c1 := k3.c 3 rfl
 have l2 := k2.lt
 have l3 := k3.lt
 have hz3 : w.heap.size + 1 + 1 < w1.heap.size := k4.lt
 go_wp2_with fail
 refine (HG.out _).mono ?_
 rintro e w2 ⟨rfl, hb⟩
 clear a0 a1 c0 c1 l2 l3
 have kp := (Row.at (w := w1) rfl (nodeA px py).toList 23).after hb
 replace k4 := (k4.alloc (.cells (nodeA px py) 23)).after hb
 replace hB := (hB.alloc hB.size (.cells (nodeA px py) 23)).trans (hb.mono (Nat.le_trans hB.size (by simp)))
 clear hb k2 k3
 have p0 := kp.c 0 rfl
 have p1 := kp.c 1 rfl
 have lp := kp.lt
 have hle : w.heap.size ≤ w1.heap.size := by omega
 have hz4 : w.heap.size + 1 + 1 < w2.heap.size := k4.lt
 by_cases hpq : px = qx ∧ py = qy
 ·have hE : (px == qx && py == qy) = true := by simp [hpq.1, hpq.2]
  rw [hE] at heq
  have HX := Lib.hid (show r = meetA 1 (dotA px py) (dotA px py) by rw [← HRr.out, pieceM, if_pos (by rw [hpq.1, hpq.2])]; rfl)
  clear hpq hE
  go_wp2_with fail
  refine (HD1.out _).mono ?_
  rintro e w3 ⟨rfl, hb⟩
  replace k4 := (k4.alloc _).after hb
  replace hB := (hB.alloc hB.size _).trans (hb.mono (Nat.le_trans hB.size (by simp)))
  clear hb p0 p1 lp kp
  go_wp2_with fail
  refine (touch_any (dotA px py) rfl (dotA_one _ _) _).mono ?_
  rintro e w4 ⟨rfl, hb⟩
  replace k4 := k4.after hb
  replace hB := hB.trans (hb.mono hB.size)
  clear hb
  rw [← HX.out]
  go_wp2_with (first | (refine wpList_store_R rfl _ _ _ rfl (w.heap.size + 1 + 1) r rfl rfl _ k4 (by rw [hrs]; rfl) hT.out HRo.out ?_; intro w5 r5 o5))
  exact bodyPost_ret (results_R1 (cs := r) rfl rfl r5 hT.out) rfl ⟨rfl, below_on hB o5 (by omega)⟩
 ·have hE : (px == qx && py == qy) = false := by
   cases h : (px == qx && py == qy)
   ·rfl
   ·simp at h; exact absurd h hpq
  rw [hE] at heq
  have HNE := Lib.hid (show ¬ ((px, py) = (qx, qy)) from fun h => hpq (by simpa using h))
  clear hpq hE
  go_wp2_with fail
  refine (HA.out _).mono ?_
  rintro e w3 ⟨rfl, hb⟩
  have kq := (Row.at (w := w2) rfl (nodeA qx qy).toList 23).after hb
  replace kp := (kp.alloc (.cells (nodeA qx qy) 23)).after hb
  replace k4 := (k4.alloc (.cells (nodeA qx qy) 23)).after hb
  have hle2 : w.heap.size ≤ w2.heap.size := hB.size
  replace hB := (hB.alloc hB.size (.cells (nodeA qx qy) 23)).trans (hb.mono (Nat.le_trans hB.size (by simp)))
  clear hb p0 p1
  cases hA : CrossMath.aheadB px py qx qy
  ·have HX := Lib.hid (show r = zero_meet by rw [← HRr.out, pieceM, if_neg HNE.out, if_neg (by rw [hA]; decide)]; exact mtA_zero)
   clear hA
   go_wp2_with (first | (refine wpList_store_R rfl _ _ _ rfl (w.heap.size + 1 + 1) zero_meet rfl rfl _ k4 rfl agg_meet (by rw [← HX.out]; exact HRo.out) ?_; intro w5 r5 o5))
   rw [HX.out]
   exact bodyPost_ret (results_R1 (cs := zero_meet) rfl rfl r5 agg_meet) rfl ⟨rfl, below_on hB o5 (by omega)⟩
  ·have HX := Lib.hid (show r = meetA 2 (dotA px py) (dotA qx qy) by rw [← HRr.out, pieceM, if_neg HNE.out, if_pos hA]; rfl)
   clear hA
   go_wp2_with fail
   have n1 : w1.heap.size ≠ w.heap.size + 1 + 1 := by omega
   have n2 : w2.heap.size ≠ w.heap.size + 1 + 1 := by omega
   have hKs : KT w ([] ++ [(w1.heap.size, nodeA px py)] ++ [(w2.heap.size, nodeA qx qy)]) ([] ++ [(w.heap.size + 1 + 1, 41)]) w3 := by
    refine KT.open (KT.of (KS.more (KS.more ⟨fun _ hp => absurd hp (by simp), hB⟩ kp) kq)) (k4.th rfl) (by omega) (fun q hq => ?_)
    simp only [List.nil_append, List.mem_append, List.mem_singleton] at hq
    rcases hq with rfl | rfl
    ·exact n1
    ·exact n2
   clear kp kq k4 hB lp n1 n2 hle hle2
   generalize hL : [] ++ [(w1.heap.size, nodeA px py)] ++ [(w2.heap.size, nodeA qx qy)] = L at hKs
   generalize hM : [] ++ [(w.heap.size + 1 + 1, 41)] = M at hKs
   have HL := Lib.hid hL; clear hL
   have HM := Lib.hid (show (w.heap.size + 1 + 1, 41) ∈ M by rw [← hM]; simp); clear hM
   have a0 : ∀ W, KT w L M W → W.cell? ⟨w1.heap.size, 0, none⟩ = some (.int .i64 px) := fun W h => h.c 0 (by rw [← HL.out]; rfl) 0 rfl
   have a1 : ∀ W, KT w L M W → W.cell? ⟨w1.heap.size, 1, none⟩ = some (.int .i64 py) := fun W h => h.c 0 (by rw [← HL.out]; rfl) 1 rfl
   have b0 : ∀ W, KT w L M W → W.cell? ⟨w2.heap.size, 0, none⟩ = some (.int .i64 qx) := fun W h => h.c 1 (by rw [← HL.out]; rfl) 0 rfl
   have b1 : ∀ W, KT w L M W → W.cell? ⟨w2.heap.size, 1, none⟩ = some (.int .i64 qy) := fun W h => h.c 1 (by rw [← HL.out]; rfl) 1 rfl
   have hz1 := meet_size (.int .i64 2) (dotA px py) rfl
   have hz2 : Array.foldl (fun cs x => cs.setIfInBounds (21 + x.snd) x.fst) (Array.foldl (fun cs x => cs.setIfInBounds (1 + x.snd) x.fst) #[.int .i64 2, .bool false, .int .u64 0, .int .u64 0, .int .u64 0, .int .u64 0, .bool false, .int .u64 0, .int .u64 0, .int .u64 0, .int .u64 0, .bool false, .int .u64 0, .int .u64 0, .int .u64 0, .int .u64 0, .bool false, .int .u64 0, .int .u64 0, .int .u64 0, .int .u64 0, .bool false, .int .u64 0, .int .u64 0, .int .u64 0, .int .u64 0, .bool false, .int .u64 0, .int .u64 0, .int .u64 0, .int .u64 0, .bool false, .int .u64 0, .int .u64 0, .int .u64 0, .int .u64 0, .bool false, .int .u64 0, .int .u64 0, .int .u64 0, .int .u64 0] (dotA px py).zipIdx 0 20) (dotA qx qy).zipIdx 0 20 = r := (meet_made (.int .i64 2) (dotA px py) (dotA qx qy) rfl rfl).trans HX.out.symm
   have hs1 := dotA_size px py
   have hs2 := dotA_size qx qy
   have s1 : ∀ W, KT w L M W → (storeCells ⟨w.heap.size + 1 + 1, 0, none⟩ r.toList).run Tryz.prog W = .ok () (W.setCells (w.heap.size + 1 + 1) 0 r.toList) := fun W h => (h.2 _ HM.out).1.store _ hrs HRo.out
   have hk0 := hKs.drew
   go_region_held3 (fun w' : World => KT w L M w')
    (repeat (first
      | (with_reducible assumption)
      | (with_reducible refine KT.put ?_ HM.out _)
      | (with_reducible refine KT.alloc ?_ _)
      | (with_reducible refine KT.drew ?_)
      | (with_reducible refine KT.after ?_ hb)))
    (first
      | (go_at_call 55; (with_reducible refine (HDD.out _ _ (by assumption) _).mono ?_); (try clear hb); rintro e w' ⟨rfl, hb⟩))
   all_goals
    have hq := ‹KT w L M _›
    have hr := hq.put_row HM.out (by simpa using hrs)
    clear a0 a1 b0 b1 s1
    go_wp2
    exact bodyPost_ret (results_R1 (cs := r) rfl rfl hr hT.out) rfl ⟨rfl, hq.1.2⟩
end Go.Proofs.YteolocchmhpggaaGreatDoor

namespace Go.Proofs.YteolocchmhpggaaGreatDoor
open Go.RowKit CrossMath

def eqI (s t : Bool) (a b c e a' b' c' e' : Int) : Bool := s == t && (a == a' && (b == b' && (c == c' && e == e')))
def eqZ (x y : Int) : Bool := eqI (decide (x < 0)) (decide (y < 0)) (W64 x.natAbs 0 : Nat) (W64 x.natAbs 1 : Nat) (W64 x.natAbs 2 : Nat) (W64 x.natAbs 3 : Nat) (W64 y.natAbs 0 : Nat) (W64 y.natAbs 1 : Nat) (W64 y.natAbs 2 : Nat) (W64 y.natAbs 3 : Nat)
theorem eqZ_self (x : Int) : eqZ x x = true := by simp [eqZ, eqI]
def eqP (p q : Pt) : Bool := (eqZ p.xn q.xn && eqZ p.xd q.xd) && (eqZ p.yn q.yn && eqZ p.yd q.yd)
theorem eqP_self (p : Pt) : eqP p p = true := by simp [eqP, eqZ_self]
def eqM (m n : Mt) : Bool := (m.k == n.k) && (eqP m.p n.p && eqP m.q n.q)
theorem eqM_self (m : Mt) : eqM m m = true := by simp [eqM, eqP_self]

theorem eqIntI (d : Nat) (a0 : Bool) (a1 a2 a3 a4 : Int) (b0 : Bool) (b1 b2 b3 b4 : Int) (w : World) : (Op.equalIn (d + 3) 29 (.agg #[.bool a0, .int .u64 a1, .int .u64 a2, .int .u64 a3, .int .u64 a4]) (.agg #[.bool b0, .int .u64 b1, .int .u64 b2, .int .u64 b3, .int .u64 b4])).run Tryz.prog w = .ok (eqI a0 b0 a1 a2 a3 a4 b1 b2 b3 b4) w := eqInt d a0 b0 a1 a2 a3 a4 b1 b2 b3 b4 w
set_option maxRecDepth 100000 in
set_option maxHeartbeats 1600000 in
theorem eqRatI (d : Nat) (a0 : Bool) (a1 a2 a3 a4 : Int) (b0 : Bool) (b1 b2 b3 b4 : Int) (e0 : Bool) (e1 e2 e3 e4 : Int) (f0 : Bool) (f1 f2 f3 f4 : Int) (w : World) :
 (Op.equalIn (d + 4) 31 (.agg #[.bool a0, .int .u64 a1, .int .u64 a2, .int .u64 a3, .int .u64 a4, .bool b0, .int .u64 b1, .int .u64 b2, .int .u64 b3, .int .u64 b4]) (.agg #[.bool e0, .int .u64 e1, .int .u64 e2, .int .u64 e3, .int .u64 e4, .bool f0, .int .u64 f1, .int .u64 f2, .int .u64 f3, .int .u64 f4])).run Tryz.prog w = .ok (eqI a0 e0 a1 a2 a3 a4 e1 e2 e3 e4 && eqI b0 f0 b1 b2 b3 b4 f1 f2 f3 f4) w := by
 have u := Tryz.underlying31
 have HA := eqIntI d a0 a1 a2 a3 a4 e0 e1 e2 e3 e4
 have HB := eqIntI d b0 b1 b2 b3 b4 f0 f1 f2 f3 f4
 rw [show d + 4 = (d + 3) + 1 from rfl, run_equalIn_agg w (d + 3) 31 _ _ Tryz.underlying31 (by kernel_rfl)]
 generalize eqI a0 e0 a1 a2 a3 a4 e1 e2 e3 e4 = r at *
 generalize eqI b0 f0 b1 b2 b3 b4 f1 f2 f3 f4 = s at *
 clear u
 cases r <;> cases s <;> simp [Op.eqFields, go_sem, HA, HB]

set_option maxRecDepth 100000 in
set_option maxHeartbeats 1600000 in
theorem eqPtI (d : Nat) (a0 : Bool) (a1 a2 a3 a4 : Int) (b0 : Bool) (b1 b2 b3 b4 : Int) (c0 : Bool) (c1 c2 c3 c4 : Int) (g0 : Bool) (g1 g2 g3 g4 : Int) (h0 : Bool) (h1 h2 h3 h4 : Int) (i0 : Bool) (i1 i2 i3 i4 : Int) (j0 : Bool) (j1 j2 j3 j4 : Int) (k0 : Bool) (k1 k2 k3 k4 : Int) (w : World) :
 (Op.equalIn (d + 5) 33 (.agg #[.bool a0, .int .u64 a1, .int .u64 a2, .int .u64 a3, .int .u64 a4, .bool b0, .int .u64 b1, .int .u64 b2, .int .u64 b3, .int .u64 b4, .bool c0, .int .u64 c1, .int .u64 c2, .int .u64 c3, .int .u64 c4, .bool g0, .int .u64 g1, .int .u64 g2, .int .u64 g3, .int .u64 g4]) (.agg #[.bool h0, .int .u64 h1, .int .u64 h2, .int .u64 h3, .int .u64 h4, .bool i0, .int .u64 i1, .int .u64 i2, .int .u64 i3, .int .u64 i4, .bool j0, .int .u64 j1, .int .u64 j2, .int .u64 j3, .int .u64 j4, .bool k0, .int .u64 k1, .int .u64 k2, .int .u64 k3, .int .u64 k4])).run Tryz.prog w = .ok ((eqI a0 h0 a1 a2 a3 a4 h1 h2 h3 h4 && eqI b0 i0 b1 b2 b3 b4 i1 i2 i3 i4) && (eqI c0 j0 c1 c2 c3 c4 j1 j2 j3 j4 && eqI g0 k0 g1 g2 g3 g4 k1 k2 k3 k4)) w := by
 have HA := eqRatI d a0 a1 a2 a3 a4 b0 b1 b2 b3 b4 h0 h1 h2 h3 h4 i0 i1 i2 i3 i4
 have HB := eqRatI d c0 c1 c2 c3 c4 g0 g1 g2 g3 g4 j0 j1 j2 j3 j4 k0 k1 k2 k3 k4
 rw [show d + 5 = (d + 4) + 1 from rfl, run_equalIn_agg w (d + 4) 33 _ _ Tryz.underlying33 (by kernel_rfl)]
 generalize (eqI a0 h0 a1 a2 a3 a4 h1 h2 h3 h4 && eqI b0 i0 b1 b2 b3 b4 i1 i2 i3 i4) = r at *
 generalize (eqI c0 j0 c1 c2 c3 c4 j1 j2 j3 j4 && eqI g0 k0 g1 g2 g3 g4 k1 k2 k3 k4) = s at *
 cases r <;> cases s <;> simp [Op.eqFields, go_sem, HA, HB]
theorem eqPt (d : Nat) (p q : Pt) (w : World) : (Op.equalIn (d + 5) 33 (.agg (ptA p)) (.agg (ptA q))).run Tryz.prog w = .ok (eqP p q) w := eqPtI d _ _ _ _ _ _ _ _ _ _ _ _ _ _ _ _ _ _ _ _ _ _ _ _ _ _ _ _ _ _ _ _ _ _ _ _ _ _ _ _ w
theorem eqlPt (p q : Pt) (w : World) : (binOp .eql 33 (.agg (ptA p)) (.agg (ptA q))).run Tryz.prog w = .ok (.bool (eqP p q)) w := by
 rw [run_eql_struct, show (10000 : Nat) = 9995 + 5 from rfl, eqPt 9995]; rfl
set_option maxRecDepth 100000 in
set_option maxHeartbeats 1600000 in
theorem eqMtI (d : Nat) (kk kl : Int) (a0 : Bool) (a1 a2 a3 a4 : Int) (b0 : Bool) (b1 b2 b3 b4 : Int) (c0 : Bool) (c1 c2 c3 c4 : Int) (g0 : Bool) (g1 g2 g3 g4 : Int) (h0 : Bool) (h1 h2 h3 h4 : Int) (i0 : Bool) (i1 i2 i3 i4 : Int) (j0 : Bool) (j1 j2 j3 j4 : Int) (k0 : Bool) (k1 k2 k3 k4 : Int) (l0 : Bool) (l1 l2 l3 l4 : Int) (m0 : Bool) (m1 m2 m3 m4 : Int) (n0 : Bool) (n1 n2 n3 n4 : Int) (o0 : Bool) (o1 o2 o3 o4 : Int) (p0 : Bool) (p1 p2 p3 p4 : Int) (q0 : Bool) (q1 q2 q3 q4 : Int) (r0 : Bool) (r1 r2 r3 r4 : Int) (s0 : Bool) (s1 s2 s3 s4 : Int) (w : World) :
 (Op.equalIn (d + 6) 36 (.agg #[.int .i64 kk, .bool a0, .int .u64 a1, .int .u64 a2, .int .u64 a3, .int .u64 a4, .bool b0, .int .u64 b1, .int .u64 b2, .int .u64 b3, .int .u64 b4, .bool c0, .int .u64 c1, .int .u64 c2, .int .u64 c3, .int .u64 c4, .bool g0, .int .u64 g1, .int .u64 g2, .int .u64 g3, .int .u64 g4, .bool h0, .int .u64 h1, .int .u64 h2, .int .u64 h3, .int .u64 h4, .bool i0, .int .u64 i1, .int .u64 i2, .int .u64 i3, .int .u64 i4, .bool j0, .int .u64 j1, .int .u64 j2, .int .u64 j3, .int .u64 j4, .bool k0, .int .u64 k1, .int .u64 k2, .int .u64 k3, .int .u64 k4]) (.agg #[.int .i64 kl, .bool l0, .int .u64 l1, .int .u64 l2, .int .u64 l3, .int .u64 l4, .bool m0, .int .u64 m1, .int .u64 m2, .int .u64 m3, .int .u64 m4, .bool n0, .int .u64 n1, .int .u64 n2, .int .u64 n3, .int .u64 n4, .bool o0, .int .u64 o1, .int .u64 o2, .int .u64 o3, .int .u64 o4, .bool p0, .int .u64 p1, .int .u64 p2, .int .u64 p3, .int .u64 p4, .bool q0, .int .u64 q1, .int .u64 q2, .int .u64 q3, .int .u64 q4, .bool r0, .int .u64 r1, .int .u64 r2, .int .u64 r3, .int .u64 r4, .bool s0, .int .u64 s1, .int .u64 s2, .int .u64 s3, .int .u64 s4])).run Tryz.prog w = .ok ((kk == kl) && (((eqI a0 l0 a1 a2 a3 a4 l1 l2 l3 l4 && eqI b0 m0 b1 b2 b3 b4 m1 m2 m3 m4) && (eqI c0 n0 c1 c2 c3 c4 n1 n2 n3 n4 && eqI g0 o0 g1 g2 g3 g4 o1 o2 o3 o4)) && ((eqI h0 p0 h1 h2 h3 h4 p1 p2 p3 p4 && eqI i0 q0 i1 i2 i3 i4 q1 q2 q3 q4) && (eqI j0 r0 j1 j2 j3 j4 r1 r2 r3 r4 && eqI k0 s0 k1 k2 k3 k4 s1 s2 s3 s4)))) w := by
 have HA := eqPtI d a0 a1 a2 a3 a4 b0 b1 b2 b3 b4 c0 c1 c2 c3 c4 g0 g1 g2 g3 g4 l0 l1 l2 l3 l4 m0 m1 m2 m3 m4 n0 n1 n2 n3 n4 o0 o1 o2 o3 o4
 have HB := eqPtI d h0 h1 h2 h3 h4 i0 i1 i2 i3 i4 j0 j1 j2 j3 j4 k0 k1 k2 k3 k4 p0 p1 p2 p3 p4 q0 q1 q2 q3 q4 r0 r1 r2 r3 r4 s0 s1 s2 s3 s4
 have u := Tryz.underlying34
 rw [show d + 6 = (d + 5) + 1 from rfl, run_equalIn_agg w (d + 5) 36 _ _ Tryz.underlying36 (by kernel_rfl)]
 generalize ((eqI a0 l0 a1 a2 a3 a4 l1 l2 l3 l4 && eqI b0 m0 b1 b2 b3 b4 m1 m2 m3 m4) && (eqI c0 n0 c1 c2 c3 c4 n1 n2 n3 n4 && eqI g0 o0 g1 g2 g3 g4 o1 o2 o3 o4)) = r at *
 generalize ((eqI h0 p0 h1 h2 h3 h4 p1 p2 p3 p4 && eqI i0 q0 i1 i2 i3 i4 q1 q2 q3 q4) && (eqI j0 r0 j1 j2 j3 j4 r1 r2 r3 r4 && eqI k0 s0 k1 k2 k3 k4 s1 s2 s3 s4)) = s at *
 cases r <;> cases s <;> by_cases hk : kk = kl <;> simp [Op.eqFields, go_sem, HA, HB, hk]
theorem mtA_lit (m : Mt) : mtA m = #[.int .i64 m.k, .bool (decide (m.p.xn < 0)), .int .u64 (W64 m.p.xn.natAbs 0 : Nat), .int .u64 (W64 m.p.xn.natAbs 1 : Nat), .int .u64 (W64 m.p.xn.natAbs 2 : Nat), .int .u64 (W64 m.p.xn.natAbs 3 : Nat), .bool (decide (m.p.xd < 0)), .int .u64 (W64 m.p.xd.natAbs 0 : Nat), .int .u64 (W64 m.p.xd.natAbs 1 : Nat), .int .u64 (W64 m.p.xd.natAbs 2 : Nat), .int .u64 (W64 m.p.xd.natAbs 3 : Nat), .bool (decide (m.p.yn < 0)), .int .u64 (W64 m.p.yn.natAbs 0 : Nat), .int .u64 (W64 m.p.yn.natAbs 1 : Nat), .int .u64 (W64 m.p.yn.natAbs 2 : Nat), .int .u64 (W64 m.p.yn.natAbs 3 : Nat), .bool (decide (m.p.yd < 0)), .int .u64 (W64 m.p.yd.natAbs 0 : Nat), .int .u64 (W64 m.p.yd.natAbs 1 : Nat), .int .u64 (W64 m.p.yd.natAbs 2 : Nat), .int .u64 (W64 m.p.yd.natAbs 3 : Nat), .bool (decide (m.q.xn < 0)), .int .u64 (W64 m.q.xn.natAbs 0 : Nat), .int .u64 (W64 m.q.xn.natAbs 1 : Nat), .int .u64 (W64 m.q.xn.natAbs 2 : Nat), .int .u64 (W64 m.q.xn.natAbs 3 : Nat), .bool (decide (m.q.xd < 0)), .int .u64 (W64 m.q.xd.natAbs 0 : Nat), .int .u64 (W64 m.q.xd.natAbs 1 : Nat), .int .u64 (W64 m.q.xd.natAbs 2 : Nat), .int .u64 (W64 m.q.xd.natAbs 3 : Nat), .bool (decide (m.q.yn < 0)), .int .u64 (W64 m.q.yn.natAbs 0 : Nat), .int .u64 (W64 m.q.yn.natAbs 1 : Nat), .int .u64 (W64 m.q.yn.natAbs 2 : Nat), .int .u64 (W64 m.q.yn.natAbs 3 : Nat), .bool (decide (m.q.yd < 0)), .int .u64 (W64 m.q.yd.natAbs 0 : Nat), .int .u64 (W64 m.q.yd.natAbs 1 : Nat), .int .u64 (W64 m.q.yd.natAbs 2 : Nat), .int .u64 (W64 m.q.yd.natAbs 3 : Nat)] := by
 simp [mtA, meetA, ptA, ratA]
theorem eqMt (m n : Mt) (w : World) : (Op.equalIn (9994 + 6) 36 (.agg (mtA m)) (.agg (mtA n))).run Tryz.prog w = .ok (eqM m n) w := by
 rw [mtA_lit, mtA_lit]
 exact eqMtI 9994 m.k n.k _ _ _ _ _ _ _ _ _ _ _ _ _ _ _ _ _ _ _ _ _ _ _ _ _ _ _ _ _ _ _ _ _ _ _ _ _ _ _ _ _ _ _ _ _ _ _ _ _ _ _ _ _ _ _ _ _ _ _ _ _ _ _ _ _ _ _ _ _ _ _ _ _ _ _ _ _ _ _ _ w
theorem eqlMt (m n : Mt) (w : World) : (binOp .eql 36 (.agg (mtA m)) (.agg (mtA n))).run Tryz.prog w = .ok (.bool (eqM m n)) w := by
 rw [run_eql_struct, show (10000 : Nat) = 9994 + 6 from rfl, eqMt]; rfl
end Go.Proofs.YteolocchmhpggaaGreatDoor

namespace Go.Proofs.YteolocchmhpggaaGreatDoor
open Go.RowKit CrossMath

theorem shared_num (l m : Sg) (w : World) (h1 : Bd l.ax) (h2 : Bd l.ay) (h3 : Bd l.bx) (h4 : Bd l.bY) (h5 : Bd m.ax) (h6 : Bd m.ay) (h7 : Bd m.bx) (h8 : Bd m.bY) :
 Calls Tryz.prog 52 #[.agg (segA l.ax l.ay l.bx l.bY), .agg (segA m.ax m.ay m.bx m.bY)] w fun e w' => e = .returned (.agg (mtA (sharedM l m))) ∧ Below w.heap.size w w' := by
 have eL : sharedM l m = pieceM ((laterX l m).1, (laterX l m).2) ((earlierX l m).1, (earlierX l m).2) := rfl
 rw [eL]
 have p1 : Bd (laterX l m).1 := by unfold laterX; split <;> assumption
 have p2 : Bd (laterX l m).2 := by unfold laterX; split <;> assumption
 have q1 : Bd (earlierX l m).1 := by unfold earlierX; split <;> assumption
 have q2 : Bd (earlierX l m).2 := by unfold earlierX; split <;> assumption
 refine shared_core _ _ _ _ _ _ _ _ _ _ _ _ w p1 p2 q1 q2 (fun W => ?_) (fun W => ?_)
 ·refine (first_any 89 (fun args w => Tryz.call89 args w) l.ax l.ay m.ax m.ay _ W (fun W => behind_any m.ax m.ay l.ax l.ay W)).mono ?_
  rintro e w' ⟨rfl, hb⟩
  refine ⟨?_, hb⟩
  unfold laterX
  split <;> rfl
 ·refine (first_any 90 (fun args w => Tryz.call90 args w) l.bx l.bY m.bx m.bY (CrossMath.aheadB m.bx m.bY l.bx l.bY) W (fun W => ahead_any m.bx m.bY l.bx l.bY W)).mono ?_
  rintro e w' ⟨rfl, hb⟩
  refine ⟨?_, hb⟩
  unfold earlierX
  split <;> rfl
end Go.Proofs.YteolocchmhpggaaGreatDoor

namespace Go.Proofs.YteolocchmhpggaaGreatDoor
open Go.RowKit CrossMath

theorem KS.far2 {w W : World} {L : List (Nat × Array Value)} (h : KS w L W) {C : Nat} (hC : LBs w L C) (y0 y1 : Value) : KS w L ((W.setCell ⟨C, 0, none⟩ y0).setCell ⟨C, 1, none⟩ y1) :=
 ⟨fun p hp => ((h.1 p hp).other (p := ⟨C, 0, none⟩) (by have := hC.2 p hp; show C ≠ p.1; omega) _).other (p := ⟨C, 1, none⟩) (by have := hC.2 p hp; show C ≠ p.1; omega) _, below_put1 (below_put1 h.2 hC.1 _ _) hC.1 _ _⟩
theorem Row.other2 {w : World} {b c : Nat} {vs : List Value} (h : Row w b vs) (hc : c ≠ b) (y0 y1 : Value) : Row ((w.setCell ⟨c, 0, none⟩ y0).setCell ⟨c, 1, none⟩ y1) b vs :=
 (h.other (p := ⟨c, 0, none⟩) hc y0).other (p := ⟨c, 1, none⟩) hc y1
structure GapsS (w0 : World) (L : List (Nat × Array Value)) (ga gb : Int × Int) (ls : Nat → Bool) (sl : Nat → Value) (W : World) : Prop where
 base : KS w0 L W
 fst : ls 6 = true → ∃ A, sl 5 = .pointer (some ⟨A, 0, none⟩) ∧ LBs w0 L A ∧ Row W A (if ls 8 = true then (gapA ga.1 ga.2).toList else (gapA 0 0).toList)
 snd : ls 7 = true → ∃ B, sl 6 = .pointer (some ⟨B, 0, none⟩) ∧ LBs w0 L B ∧ Row W B (if ls 9 = true then (gapA gb.1 gb.2).toList else (gapA 0 0).toList)
 ne : ls 6 = true → ls 7 = true → sl 5 ≠ sl 6
 o8 : ls 8 = true → ls 6 = true
 o9 : ls 9 = true → ls 7 = true
section
variable {w0 W W1 : World} {L : List (Nat × Array Value)} {ga gb : Int × Int} {listed : Array Bool} {a : Act}
theorem GapsS.next (h : GapsS w0 L ga gb (fun j => listed.getD j false) (slotOf a) W) (hb : Below W.heap.size W W1) (i t : Nat) (v : Value) (hi : i < 6) (h4 : t ≠ 5) (h5 : t ≠ 6) :
 GapsS w0 L ga gb (fun j => (listed.setIfInBounds i true).getD j false) (slotOf (a.put (some t) v)) W1 := by
 have e : ∀ j, 6 ≤ j → (listed.setIfInBounds i true).getD j false = listed.getD j false := fun j hj => getD_set_ne false (by omega)
 refine ⟨h.base.after hb, fun q => ?_, fun q => ?_, fun q r => ?_, fun q => ?_, fun q => ?_⟩
 ·rw [e 6 (by omega)] at q
  obtain ⟨A, hs, hl, hr⟩ := h.fst q
  refine ⟨A, by rw [slot_put_other v h4]; exact hs, hl, ?_⟩
  rw [e 8 (by omega)]; exact hr.after hb
 ·rw [e 7 (by omega)] at q
  obtain ⟨A, hs, hl, hr⟩ := h.snd q
  refine ⟨A, by rw [slot_put_other v h5]; exact hs, hl, ?_⟩
  rw [e 9 (by omega)]; exact hr.after hb
 ·rw [e 6 (by omega)] at q
  rw [e 7 (by omega)] at r
  rw [slot_put_other v h4, slot_put_other v h5]
  exact h.ne q r
 ·rw [e 8 (by omega)] at q
  rw [e 6 (by omega)]
  exact h.o8 q
 ·rw [e 9 (by omega)] at q
  rw [e 7 (by omega)]
  exact h.o9 q
theorem listed_self10 (hs : listed.size = 10) (i : Nat) (hi : i < 10) : (listed.setIfInBounds i true).getD i false = true := by
 have : i < listed.size := by omega
 simp [this]
theorem GapsS.new4 (h : GapsS w0 L ga gb (fun j => listed.getD j false) (slotOf a) W) (_hs : listed.size = 10) (ht : 6 < a.tmps.size) (h0 : listed.getD 6 false = false) (t : TypeId) :
 GapsS w0 L ga gb (fun j => (listed.setIfInBounds 6 true).getD j false) (slotOf (a.put (some 5) (.pointer (some ⟨W.heap.size, 0, none⟩)))) (W.alloc (.cells (gapA 0 0) t)) := by
 have e : ∀ j, j ≠ 6 → (listed.setIfInBounds 6 true).getD j false = listed.getD j false := fun j hj => getD_set_ne false (by omega)
 have n8 : listed.getD 8 false = false := by
  cases q : listed.getD 8 false
  ·rfl
  ·have := h.o8 q; rw [h0] at this; cases this
 refine ⟨h.base.alloc _, fun q => ⟨W.heap.size, slot_put_same _ (by omega), h.base.lb, ?_⟩, fun q => ?_, fun q r => ?_, fun q => ?_, fun q => ?_⟩
 ·rw [e 8 (by omega), n8]; exact Row.at rfl _ _
 ·rw [e 7 (by omega)] at q
  obtain ⟨A, hs, hl, hr⟩ := h.snd q
  refine ⟨A, by rw [slot_put_other _ (by omega)]; exact hs, hl, ?_⟩
  rw [e 9 (by omega)]; exact hr.alloc _
 ·rw [e 7 (by omega)] at r
  obtain ⟨A, hs, hl, hr⟩ := h.snd r
  rw [slot_put_same _ (by omega), slot_put_other _ (by omega), hs]
  intro he
  have hlt := hr.lt
  injection he with he
  injection he with he
  injection he with he
  omega
 ·rw [e 8 (by omega), n8] at q; cases q
 ·rw [e 9 (by omega)] at q
  rw [e 7 (by omega)]
  exact h.o9 q
theorem GapsS.new5 (h : GapsS w0 L ga gb (fun j => listed.getD j false) (slotOf a) W) (_hs : listed.size = 10) (ht : 6 < a.tmps.size) (h0 : listed.getD 7 false = false) (t : TypeId) :
 GapsS w0 L ga gb (fun j => (listed.setIfInBounds 7 true).getD j false) (slotOf (a.put (some 6) (.pointer (some ⟨W.heap.size, 0, none⟩)))) (W.alloc (.cells (gapA 0 0) t)) := by
 have e : ∀ j, j ≠ 7 → (listed.setIfInBounds 7 true).getD j false = listed.getD j false := fun j hj => getD_set_ne false (by omega)
 have n9 : listed.getD 9 false = false := by
  cases q : listed.getD 9 false
  ·rfl
  ·have := h.o9 q; rw [h0] at this; cases this
 refine ⟨h.base.alloc _, fun q => ?_, fun q => ⟨W.heap.size, slot_put_same _ (by omega), h.base.lb, ?_⟩, fun q r => ?_, fun q => ?_, fun q => ?_⟩
 ·rw [e 6 (by omega)] at q
  obtain ⟨A, hs, hl, hr⟩ := h.fst q
  refine ⟨A, by rw [slot_put_other _ (by omega)]; exact hs, hl, ?_⟩
  rw [e 8 (by omega)]; exact hr.alloc _
 ·rw [e 9 (by omega), n9]; exact Row.at rfl _ _
 ·rw [e 6 (by omega)] at q
  obtain ⟨A, hs, hl, hr⟩ := h.fst q
  rw [slot_put_same _ (by omega), slot_put_other _ (by omega), hs]
  intro he
  have hlt := hr.lt
  injection he with he
  injection he with he
  injection he with he
  omega
 ·rw [e 8 (by omega)] at q
  rw [e 6 (by omega)]
  exact h.o8 q
 ·rw [e 9 (by omega), n9] at q; cases q
theorem GapsS.put4 (h : GapsS w0 L ga gb (fun j => listed.getD j false) (slotOf a) W) (hs : listed.size = 10) (h6 : listed.getD 6 false = true) {A : Nat} (hA : slotOf a 5 = .pointer (some ⟨A, 0, none⟩)) :
 GapsS w0 L ga gb (fun j => (listed.setIfInBounds 8 true).getD j false) (slotOf (a.put none undef)) ((W.setCell ⟨A, 0, none⟩ (.int .i64 ga.1)).setCell ⟨A, 1, none⟩ (.int .i64 ga.2)) := by
 have e : ∀ j, j ≠ 8 → (listed.setIfInBounds 8 true).getD j false = listed.getD j false := fun j hj => getD_set_ne false (by omega)
 obtain ⟨A', hs', hl, hr⟩ := h.fst h6
 obtain rfl : A' = A := by rw [hA] at hs'; injection hs' with q; injection q with q; injection q with q; exact q.symm
 refine ⟨h.base.far2 hl _ _, fun q => ⟨A', hA, hl, ?_⟩, fun q => ?_, fun q r => ?_, fun q => ?_, fun q => ?_⟩
 ·rw [listed_self10 hs 8 (by omega), if_pos rfl]
  have : ∃ vs : List Value, vs.length = 2 ∧ Row W A' vs := ⟨_, by split <;> rfl, hr⟩
  obtain ⟨vs, h5, hr5⟩ := this
  exact hr5.putAll [_, _] h5
 ·rw [e 7 (by omega)] at q
  obtain ⟨B, hs, hl', hr'⟩ := h.snd q
  refine ⟨B, hs, hl', ?_⟩
  rw [e 9 (by omega)]
  exact hr'.other2 (fun he => h.ne h6 q (by rw [hA, hs, he])) _ _
 ·rw [e 6 (by omega)] at q
  rw [e 7 (by omega)] at r
  exact h.ne q r
 ·rw [e 6 (by omega)]; exact h6
 ·rw [e 9 (by omega)] at q
  rw [e 7 (by omega)]
  exact h.o9 q
theorem GapsS.put5 (h : GapsS w0 L ga gb (fun j => listed.getD j false) (slotOf a) W) (hs : listed.size = 10) (h7 : listed.getD 7 false = true) {A : Nat} (hA : slotOf a 6 = .pointer (some ⟨A, 0, none⟩)) :
 GapsS w0 L ga gb (fun j => (listed.setIfInBounds 9 true).getD j false) (slotOf (a.put none undef)) ((W.setCell ⟨A, 0, none⟩ (.int .i64 gb.1)).setCell ⟨A, 1, none⟩ (.int .i64 gb.2)) := by
 have e : ∀ j, j ≠ 9 → (listed.setIfInBounds 9 true).getD j false = listed.getD j false := fun j hj => getD_set_ne false (by omega)
 obtain ⟨A', hs', hl, hr⟩ := h.snd h7
 obtain rfl : A' = A := by rw [hA] at hs'; injection hs' with q; injection q with q; injection q with q; exact q.symm
 refine ⟨h.base.far2 hl _ _, fun q => ?_, fun q => ⟨A', hA, hl, ?_⟩, fun q r => ?_, fun q => ?_, fun q => ?_⟩
 ·rw [e 6 (by omega)] at q
  obtain ⟨B, hs, hl', hr'⟩ := h.fst q
  refine ⟨B, hs, hl', ?_⟩
  rw [e 8 (by omega)]
  exact hr'.other2 (fun he => h.ne q h7 (by rw [hA, hs, he])) _ _
 ·rw [listed_self10 hs 9 (by omega), if_pos rfl]
  have : ∃ vs : List Value, vs.length = 2 ∧ Row W A' vs := ⟨_, by split <;> rfl, hr⟩
  obtain ⟨vs, h5, hr5⟩ := this
  exact hr5.putAll [_, _] h5
 ·rw [e 6 (by omega)] at q
  rw [e 7 (by omega)] at r
  exact h.ne q r
 ·rw [e 8 (by omega)] at q
  rw [e 6 (by omega)]
  exact h.o8 q
 ·rw [e 7 (by omega)]; exact h7
end
theorem arr50 (a : Array Value) (h : a.size = 50) : ∃ x0 x1 x2 x3 x4 x5 x6 x7 x8 x9 x10 x11 x12 x13 x14 x15 x16 x17 x18 x19 x20 x21 x22 x23 x24 x25 x26 x27 x28 x29 x30 x31 x32 x33 x34 x35 x36 x37 x38 x39 x40 x41 x42 x43 x44 x45 x46 x47 x48 x49, a = #[x0, x1, x2, x3, x4, x5, x6, x7, x8, x9, x10, x11, x12, x13, x14, x15, x16, x17, x18, x19, x20, x21, x22, x23, x24, x25, x26, x27, x28, x29, x30, x31, x32, x33, x34, x35, x36, x37, x38, x39, x40, x41, x42, x43, x44, x45, x46, x47, x48, x49] := by
 refine ⟨a[0], a[1], a[2], a[3], a[4], a[5], a[6], a[7], a[8], a[9], a[10], a[11], a[12], a[13], a[14], a[15], a[16], a[17], a[18], a[19], a[20], a[21], a[22], a[23], a[24], a[25], a[26], a[27], a[28], a[29], a[30], a[31], a[32], a[33], a[34], a[35], a[36], a[37], a[38], a[39], a[40], a[41], a[42], a[43], a[44], a[45], a[46], a[47], a[48], a[49], ?_⟩
 refine Array.ext (by simp [h]) (fun i h1 h2 => ?_)
 match i, h2 with
 | 0, _ | 1, _ | 2, _ | 3, _ | 4, _ | 5, _ | 6, _ | 7, _ | 8, _ | 9, _ | 10, _ | 11, _ | 12, _ | 13, _ | 14, _ | 15, _ | 16, _ | 17, _ | 18, _ | 19, _ | 20, _ | 21, _ | 22, _ | 23, _ | 24, _ | 25, _ | 26, _ | 27, _ | 28, _ | 29, _ | 30, _ | 31, _ | 32, _ | 33, _ | 34, _ | 35, _ | 36, _ | 37, _ | 38, _ | 39, _ | 40, _ | 41, _ | 42, _ | 43, _ | 44, _ | 45, _ | 46, _ | 47, _ | 48, _ | 49, _ => rfl
 | i + 50, h2 => simp at h2; omega
set_option maxRecDepth 100000 in
set_option maxHeartbeats 6400000 in
theorem meet_core (ax ay bx bY cx cy dx dY oa ob ca cb : Int) (w : World)
 (hG1 : ∀ W, Calls Tryz.prog 51 #[(.agg (segA ax ay bx bY)), (.agg (segA cx cy dx dY))] W fun e w' => e = .returned (.agg (gapA oa ob)) ∧ Below W.heap.size W w')
 (hG2 : ∀ W, Calls Tryz.prog 51 #[(.agg (segA cx cy dx dY)), (.agg (segA ax ay bx bY))] W fun e w' => e = .returned (.agg (gapA ca cb)) ∧ Below W.heap.size W w')
 (hSh : ∀ W, Calls Tryz.prog 52 #[(.agg (segA ax ay bx bY)), (.agg (segA cx cy dx dY))] W fun e w' => e = .returned (.agg (mtA (sharedM ⟨ax, ay, bx, bY⟩ ⟨cx, cy, dx, dY⟩))) ∧ Below W.heap.size W w')
 (hD1 : ∀ W, Calls Tryz.prog 55 #[(.agg (nodeA ax ay))] W fun e w' => e = .returned (.agg (dotA ax ay)) ∧ Below W.heap.size W w')
 (hD2 : ∀ W, Calls Tryz.prog 55 #[(.agg (nodeA bx bY))] W fun e w' => e = .returned (.agg (dotA bx bY)) ∧ Below W.heap.size W w')
 (hPt : oa ≠ 0 → ob ≠ 0 → ¬ (asideB oa ob = true) → ∀ W, Below w.heap.size w W → Calls Tryz.prog 56 #[.agg (segA ax ay bx bY), .agg (gapA oa ob)] W fun e w' => e = .returned (.agg (ptA (partP ⟨ax, ay, bx, bY⟩ oa ob))) ∧ Below W.heap.size W w') :
 Calls Tryz.prog 25 #[.agg (segA ax ay bx bY), .agg (segA cx cy dx dY)] w fun e w' => e = .returned (.agg (mtA (meetL ⟨ax, ay, bx, bY⟩ ⟨cx, cy, dx, dY⟩ oa ob ca cb))) ∧ Below w.heap.size w w' := by
 have HG1 := Lib.hid hG1; clear hG1
 have HG2 := Lib.hid hG2; clear hG2
 have HSh := Lib.hid hSh; clear hSh
 have HD1 := Lib.hid hD1; clear hD1
 have HD2 := Lib.hid hD2; clear hD2
 have HPt := Lib.hid hPt; clear hPt
 obtain ⟨r, hr⟩ : ∃ r, mtA (meetL ⟨ax, ay, bx, bY⟩ ⟨cx, cy, dx, dY⟩ oa ob ca cb) = r := ⟨_, rfl⟩
 have Hrs : Hid (r.size = 41) := Lib.hid (by rw [← hr]; exact mtA_size _)
 have HRo : Hid (OneC r) := Lib.hid (by rw [← hr]; exact mtA_one _)
 have HRr := Lib.hid hr
 rw [hr]
 clear hr
 go_enter Tryz.func25, Tryz.ntmps25
 go_upto_region 1 with fail
 generalize hW : World.alloc _ _ = W0
 have hK : KS w ([] ++ [(w.heap.size, segA ax ay bx bY)] ++ [(w.heap.size + 1, segA cx cy dx dY)] ++ [(w.heap.size + 1 + 1, zero_meet)]) W0 := by rw [← hW]; exact (((KS.nil w).boxed rfl _ _).boxed (by simp) _ _).boxed (by simp) zero_meet _
 clear hW
 generalize hL : [] ++ [(w.heap.size, segA ax ay bx bY)] ++ [(w.heap.size + 1, segA cx cy dx dY)] ++ [(w.heap.size + 1 + 1, zero_meet)] = L at hK
 have HL := Lib.hid hL; clear hL
 go_cut [5, 6] from 7 to 12 (fun p r wx => ∃ A B, p = .pointer (some ⟨A, 0, none⟩) ∧ r = .pointer (some ⟨B, 0, none⟩) ∧ Hid (KS w L wx ∧ Row wx A (gapA oa ob).toList ∧ Row wx B (gapA ca cb).toList))
 case first =>
  refine wp_region_mid (by kernel_rfl) (fun i => match i with
   | 0 => some (.agg (segA ax ay bx bY))
   | 1 => some (.agg (segA cx cy dx dY))
   | 2 => some (.agg (gapA oa ob))
   | 3 => some (.agg (segA cx cy dx dY))
   | 4 => some (.agg (segA ax ay bx bY))
   | 5 => some (.agg (gapA ca cb))
   | _ => none) (GapsS w L (oa, ob) (ca, cb)) (by kernel_rfl) ⟨hK.drew, fun h => by simp at h, fun h => by simp at h, fun h => by simp at h, fun h => by simp at h, fun h => by simp at h⟩ ?_ ?_
  ·intro listed a W i o hI ho h0 hdep K hK'
   have hi : i < 10 := (Array.getElem?_eq_some_iff.1 ho).1
   have hS := hI.world
   have hls : listed.size = 10 := hI.lsize
   have hsz : 6 < a.tmps.size := by rw [hI.size]; show (6 : Nat) < 50; decide
   have q2 : a.tmps[2]?.getD undef = .pointer (some ⟨w.heap.size, 0, none⟩) := hI.old 2 (noDst_spec (by kernel_rfl))
   have q3 : a.tmps[3]?.getD undef = .pointer (some ⟨w.heap.size + 1, 0, none⟩) := hI.old 3 (noDst_spec (by kernel_rfl))
   have hcase : i = 0 ∨ i = 1 ∨ i = 2 ∨ i = 3 ∨ i = 4 ∨ i = 5 ∨ i = 6 ∨ i = 7 ∨ i = 8 ∨ i = 9 := by omega
   clear hi
   rcases hcase with rfl | rfl | rfl | rfl | rfl | rfl | rfl | rfl | rfl | rfl
   ·obtain rfl := oI ho
    have x0 := hS.base.c 0 (b := w.heap.size) (cs := segA ax ay bx bY) (by rw [← HL.out]; rfl) 0 rfl
    have x1 := hS.base.c 0 (b := w.heap.size) (cs := segA ax ay bx bY) (by rw [← HL.out]; rfl) 1 rfl
    have x2 := hS.base.c 0 (b := w.heap.size) (cs := segA ax ay bx bY) (by rw [← HL.out]; rfl) 2 rfl
    have x3 := hS.base.c 0 (b := w.heap.size) (cs := segA ax ay bx bY) (by rw [← HL.out]; rfl) 3 rfl
    clear hdep hI ho hsz
    go_simp
    exact hK' (.agg (segA ax ay bx bY)) _ (fun u hu => oV hu) (hS.next (Below.refl _ _) 0 7 _ (by decide) (by decide) (by decide))
   ·obtain rfl := oI ho
    have x0 := hS.base.c 1 (b := w.heap.size + 1) (cs := segA cx cy dx dY) (by rw [← HL.out]; rfl) 0 rfl
    have x1 := hS.base.c 1 (b := w.heap.size + 1) (cs := segA cx cy dx dY) (by rw [← HL.out]; rfl) 1 rfl
    have x2 := hS.base.c 1 (b := w.heap.size + 1) (cs := segA cx cy dx dY) (by rw [← HL.out]; rfl) 2 rfl
    have x3 := hS.base.c 1 (b := w.heap.size + 1) (cs := segA cx cy dx dY) (by rw [← HL.out]; rfl) 3 rfl
    clear hdep hI ho hsz
    go_simp
    exact hK' (.agg (segA cx cy dx dY)) _ (fun u hu => oV hu) (hS.next (Below.refl _ _) 1 8 _ (by decide) (by decide) (by decide))
   ·obtain rfl := oI ho
    have d0 : listed.getD 0 false = true := hdep ⟨0, .data⟩ (by simp) rfl
    have q107 : a.tmps[7]?.getD undef = (.agg (segA ax ay bx bY)) := hI.val 0 _ 7 _ rfl rfl rfl d0
    have d1 : listed.getD 1 false = true := hdep ⟨1, .data⟩ (by simp) rfl
    have q108 : a.tmps[8]?.getD undef = (.agg (segA cx cy dx dY)) := hI.val 1 _ 8 _ rfl rfl rfl d1
    clear hdep hI ho hsz
    go_simp
    refine (HG1.out _).mono ?_
    rintro e W1 ⟨rfl, hb⟩
    exact hK' (.agg (gapA oa ob)) W1 (fun u hu => oV hu) (hS.next hb 2 9 _ (by decide) (by decide) (by decide))
   ·obtain rfl := oI ho
    have x0 := hS.base.c 1 (b := w.heap.size + 1) (cs := segA cx cy dx dY) (by rw [← HL.out]; rfl) 0 rfl
    have x1 := hS.base.c 1 (b := w.heap.size + 1) (cs := segA cx cy dx dY) (by rw [← HL.out]; rfl) 1 rfl
    have x2 := hS.base.c 1 (b := w.heap.size + 1) (cs := segA cx cy dx dY) (by rw [← HL.out]; rfl) 2 rfl
    have x3 := hS.base.c 1 (b := w.heap.size + 1) (cs := segA cx cy dx dY) (by rw [← HL.out]; rfl) 3 rfl
    clear hdep hI ho hsz
    go_simp
    exact hK' (.agg (segA cx cy dx dY)) _ (fun u hu => oV hu) (hS.next (Below.refl _ _) 3 10 _ (by decide) (by decide) (by decide))
   ·obtain rfl := oI ho
    have x0 := hS.base.c 0 (b := w.heap.size) (cs := segA ax ay bx bY) (by rw [← HL.out]; rfl) 0 rfl
    have x1 := hS.base.c 0 (b := w.heap.size) (cs := segA ax ay bx bY) (by rw [← HL.out]; rfl) 1 rfl
    have x2 := hS.base.c 0 (b := w.heap.size) (cs := segA ax ay bx bY) (by rw [← HL.out]; rfl) 2 rfl
    have x3 := hS.base.c 0 (b := w.heap.size) (cs := segA ax ay bx bY) (by rw [← HL.out]; rfl) 3 rfl
    clear hdep hI ho hsz
    go_simp
    exact hK' (.agg (segA ax ay bx bY)) _ (fun u hu => oV hu) (hS.next (Below.refl _ _) 4 11 _ (by decide) (by decide) (by decide))
   ·obtain rfl := oI ho
    have d3 : listed.getD 3 false = true := hdep ⟨3, .data⟩ (by simp) rfl
    have q110 : a.tmps[10]?.getD undef = (.agg (segA cx cy dx dY)) := hI.val 3 _ 10 _ rfl rfl rfl d3
    have d4 : listed.getD 4 false = true := hdep ⟨4, .data⟩ (by simp) rfl
    have q111 : a.tmps[11]?.getD undef = (.agg (segA ax ay bx bY)) := hI.val 4 _ 11 _ rfl rfl rfl d4
    clear hdep hI ho hsz
    go_simp
    refine (HG2.out _).mono ?_
    rintro e W1 ⟨rfl, hb⟩
    exact hK' (.agg (gapA ca cb)) W1 (fun u hu => oV hu) (hS.next hb 5 12 _ (by decide) (by decide) (by decide))
   ·obtain rfl := oI ho
    have hz : listed.getD 6 false = false := getD_no h0
    clear hdep hI ho
    go_simp
    exact hK' _ _ (fun u hu => nV hu) (hS.new4 hls hsz hz _)
   ·obtain rfl := oI ho
    have hz : listed.getD 7 false = false := getD_no h0
    clear hdep hI ho
    go_simp
    exact hK' _ _ (fun u hu => nV hu) (hS.new5 hls hsz hz _)
   ·obtain rfl := oI ho
    have d6 : listed.getD 6 false = true := hdep ⟨6, .data⟩ (by simp) rfl
    have d2 : listed.getD 2 false = true := hdep ⟨2, .data⟩ (by simp) rfl
    have q109 : a.tmps[9]?.getD undef = (.agg (gapA oa ob)) := hI.val 2 _ 9 _ rfl rfl rfl d2
    obtain ⟨A, hA, hlA, hr⟩ := hS.fst d6
    have hz : listed.getD 8 false = false := getD_no h0
    rw [hz, if_neg (by decide)] at hr
    have q105 : a.tmps[5]?.getD undef = .pointer (some ⟨A, 0, none⟩) := hA
    have x0 := hr.c 0 rfl
    have f0 := hr.f 0 rfl
    have x1 := hr.c 1 rfl
    have f1 := hr.f 1 rfl
    clear hdep hI ho hr hsz
    go_simp
    exact hK' undef _ (fun u hu => nV hu) (hS.put4 hls d6 hA)
   ·obtain rfl := oI ho
    have d7 : listed.getD 7 false = true := hdep ⟨7, .data⟩ (by simp) rfl
    have d5 : listed.getD 5 false = true := hdep ⟨5, .data⟩ (by simp) rfl
    have q112 : a.tmps[12]?.getD undef = (.agg (gapA ca cb)) := hI.val 5 _ 12 _ rfl rfl rfl d5
    obtain ⟨A, hA, hlA, hr⟩ := hS.snd d7
    have hz : listed.getD 9 false = false := getD_no h0
    rw [hz, if_neg (by decide)] at hr
    have q106 : a.tmps[6]?.getD undef = .pointer (some ⟨A, 0, none⟩) := hA
    have x0 := hr.c 0 rfl
    have f0 := hr.f 0 rfl
    have x1 := hr.c 1 rfl
    have f1 := hr.f 1 rfl
    clear hdep hI ho hr hsz
    go_simp
    exact hK' undef _ (fun u hu => nV hu) (hS.put5 hls d7 hA)
  ·intro listed a W hI hall
   obtain ⟨A, hA, hlA, hrA⟩ := hI.world.fst (hall 6 (by decide))
   obtain ⟨A5, hA5, hlA5, hrA5⟩ := hI.world.snd (hall 7 (by decide))
   rw [hall 8 (by decide), if_pos rfl] at hrA
   rw [hall 9 (by decide), if_pos rfl] at hrA5
   have hbase := hI.world.base
   have hdef := hI.defers
   obtain ⟨x0, x1, x2, x3, x4, x5, x6, x7, x8, x9, x10, x11, x12, x13, x14, x15, x16, x17, x18, x19, x20, x21, x22, x23, x24, x25, x26, x27, x28, x29, x30, x31, x32, x33, x34, x35, x36, x37, x38, x39, x40, x41, x42, x43, x44, x45, x46, x47, x48, x49, hx⟩ := arr50 a.tmps hI.size
   obtain ⟨tmps, defers⟩ := a
   simp only at hx hdef
   subst hx
   subst hdef
   obtain rfl := hI.old 0 (noDst_spec (by kernel_rfl))
   obtain rfl := hI.old 1 (noDst_spec (by kernel_rfl))
   obtain rfl := hI.old 2 (noDst_spec (by kernel_rfl))
   obtain rfl := hI.old 3 (noDst_spec (by kernel_rfl))
   obtain rfl := hI.old 4 (noDst_spec (by kernel_rfl))
   obtain rfl := hI.old 13 (noDst_spec (by kernel_rfl))
   obtain rfl := hI.old 14 (noDst_spec (by kernel_rfl))
   obtain rfl := hI.old 15 (noDst_spec (by kernel_rfl))
   obtain rfl := hI.old 16 (noDst_spec (by kernel_rfl))
   obtain rfl := hI.old 17 (noDst_spec (by kernel_rfl))
   obtain rfl := hI.old 18 (noDst_spec (by kernel_rfl))
   obtain rfl := hI.old 19 (noDst_spec (by kernel_rfl))
   obtain rfl := hI.old 20 (noDst_spec (by kernel_rfl))
   obtain rfl := hI.old 21 (noDst_spec (by kernel_rfl))
   obtain rfl := hI.old 22 (noDst_spec (by kernel_rfl))
   obtain rfl := hI.old 23 (noDst_spec (by kernel_rfl))
   obtain rfl := hI.old 24 (noDst_spec (by kernel_rfl))
   obtain rfl := hI.old 25 (noDst_spec (by kernel_rfl))
   obtain rfl := hI.old 26 (noDst_spec (by kernel_rfl))
   obtain rfl := hI.old 27 (noDst_spec (by kernel_rfl))
   obtain rfl := hI.old 28 (noDst_spec (by kernel_rfl))
   obtain rfl := hI.old 29 (noDst_spec (by kernel_rfl))
   obtain rfl := hI.old 30 (noDst_spec (by kernel_rfl))
   obtain rfl := hI.old 31 (noDst_spec (by kernel_rfl))
   obtain rfl := hI.old 32 (noDst_spec (by kernel_rfl))
   obtain rfl := hI.old 33 (noDst_spec (by kernel_rfl))
   obtain rfl := hI.old 34 (noDst_spec (by kernel_rfl))
   obtain rfl := hI.old 35 (noDst_spec (by kernel_rfl))
   obtain rfl := hI.old 36 (noDst_spec (by kernel_rfl))
   obtain rfl := hI.old 37 (noDst_spec (by kernel_rfl))
   obtain rfl := hI.old 38 (noDst_spec (by kernel_rfl))
   obtain rfl := hI.old 39 (noDst_spec (by kernel_rfl))
   obtain rfl := hI.old 40 (noDst_spec (by kernel_rfl))
   obtain rfl := hI.old 41 (noDst_spec (by kernel_rfl))
   obtain rfl := hI.old 42 (noDst_spec (by kernel_rfl))
   obtain rfl := hI.old 43 (noDst_spec (by kernel_rfl))
   obtain rfl := hI.old 44 (noDst_spec (by kernel_rfl))
   obtain rfl := hI.old 45 (noDst_spec (by kernel_rfl))
   obtain rfl := hI.old 46 (noDst_spec (by kernel_rfl))
   obtain rfl := hI.old 47 (noDst_spec (by kernel_rfl))
   obtain rfl := hI.old 48 (noDst_spec (by kernel_rfl))
   obtain rfl := hI.old 49 (noDst_spec (by kernel_rfl))
   obtain rfl := hA
   obtain rfl := hA5
   go_wp2_with fail
   go_meet
   exact ⟨_, _, rfl, rfl, Lib.hid ⟨hbase, hrA, hrA5⟩⟩
 case rest =>
  obtain ⟨A, B, rfl, rfl, HF⟩ := hcut
  have heq := eqlGaps oa ob 0 0
  have hS := HF.out.1
  have hrA := HF.out.2.1
  have a0 := hrA.c 0 rfl
  have a1 := hrA.c 1 rfl
  have lA := hrA.lt
  have hrB := HF.out.2.2
  by_cases hz : oa = 0 ∧ ob = 0
  ·have hE : (oa == 0 && ob == 0) = true := by simp [hz.1, hz.2]
   rw [hE] at heq
   have HX := Lib.hid (show r = mtA (sharedM ⟨ax, ay, bx, bY⟩ ⟨cx, cy, dx, dY⟩) by rw [← HRr.out, meetL, if_pos hz])
   have rl := hS.row 0 (b := w.heap.size) (cs := segA ax ay bx bY) (by rw [← HL.out]; rfl)
   have x0 := rl.c 0 rfl
   have x1 := rl.c 1 rfl
   have x2 := rl.c 2 rfl
   have x3 := rl.c 3 rfl
   have rm := hS.row 1 (b := w.heap.size + 1) (cs := segA cx cy dx dY) (by rw [← HL.out]; rfl)
   have z0 := rm.c 0 rfl
   have z1 := rm.c 1 rfl
   have z2 := rm.c 2 rfl
   have z3 := rm.c 3 rfl
   have l0 := rl.lt
   have l1 := rm.lt
   clear hz hE rl rm hrA hrB
   go_wp2_with fail
   refine (HSh.out _).mono ?_
   rintro e w3 ⟨rfl, hb⟩
   have k4 := (hS.row 2 (b := w.heap.size + 1 + 1) (cs := zero_meet) (by rw [← HL.out]; rfl)).after hb
   have hB := hS.2.trans (hb.mono hS.2.size)
   have hT : Hid (AggTy Tryz.prog 36 r.size) := Lib.hid (by rw [Hrs.out]; exact agg_meet)
   rw [← HX.out]
   clear hb hS HF x0 x1 x2 x3 z0 z1 z2 z3 a0 a1
   go_wp2_with (first | (refine wpList_store_R rfl _ _ _ rfl (w.heap.size + 1 + 1) r rfl rfl _ k4 (by rw [Hrs.out]; rfl) hT.out HRo.out ?_; intro w5 r5 o5))
   exact bodyPost_ret (results_R1 (cs := r) rfl rfl r5 hT.out) rfl ⟨rfl, below_on hB o5 (by omega)⟩
  ·have hE : (oa == 0 && ob == 0) = false := by
    cases h : (oa == 0 && ob == 0)
    ·rfl
    ·simp at h; exact absurd h hz
   rw [hE] at heq
   have HZ := Lib.hid hz
   have b0 := hrB.c 0 rfl
   have b1 := hrB.c 1 rfl
   have lB := hrB.lt
   clear hz hE
   go_wp2_with fail
   refine (aside_any oa ob _).mono ?_
   rintro e w3 ⟨rfl, hb⟩
   clear a0 a1 b0 b1 lA lB
   replace hS := hS.after hb
   replace hrA := hrA.after hb
   replace hrB := hrB.after hb
   clear hb HF
   have k4 := hS.row 2 (b := w.heap.size + 1 + 1) (cs := zero_meet) (by rw [← HL.out]; rfl)
   have hB := hS.2
   have a0 := hrA.c 0 rfl
   have a1 := hrA.c 1 rfl
   have lA := hrA.lt
   have b0 := hrB.c 0 rfl
   have b1 := hrB.c 1 rfl
   have lB := hrB.lt
   cases hA1 : asideB oa ob
   ·have HN1 := Lib.hid hA1
    clear hA1
    clear k4 hB
    go_wp2_with fail
    refine (aside_any ca cb _).mono ?_
    rintro e w4 ⟨rfl, hb⟩
    clear a0 a1 b0 b1 lA lB
    replace hS := hS.after hb
    replace hrA := hrA.after hb
    clear hb hrB
    have k4 := hS.row 2 (b := w.heap.size + 1 + 1) (cs := zero_meet) (by rw [← HL.out]; rfl)
    have hB := hS.2
    have a0 := hrA.c 0 rfl
    have a1 := hrA.c 1 rfl
    have lA := hrA.lt
    have rl := hS.row 0 (b := w.heap.size) (cs := segA ax ay bx bY) (by rw [← HL.out]; rfl)
    have x0 := rl.c 0 rfl
    have x1 := rl.c 1 rfl
    have x2 := rl.c 2 rfl
    have x3 := rl.c 3 rfl
    have l0 := rl.lt
    have hT : Hid (AggTy Tryz.prog 36 r.size) := Lib.hid (by rw [Hrs.out]; exact agg_meet)
    clear rl
    cases hA2 : asideB ca cb
    ·have HN2 := Lib.hid (show ¬ (asideB oa ob = true ∨ asideB ca cb = true) by rw [HN1.out, hA2]; simp)
     clear hA2
     by_cases hoa : oa = 0
     ·have HX := Lib.hid (show r = meetA 1 (dotA ax ay) (dotA ax ay) by rw [← HRr.out, meetL, if_neg HZ.out, if_neg HN2.out, if_pos hoa]; rfl)
      rw [hoa] at a0
      clear hoa heq
      go_wp2_with fail
      refine (HD1.out _).mono ?_
      rintro e w5 ⟨rfl, hb⟩
      have k5 := k4.after hb
      have hB5 := hB.trans (hb.mono hB.size)
      clear hb a0 a1 x0 x1 x2 x3 lA l0 k4 hrA hS
      go_wp2_with fail
      refine (touch_any (dotA ax ay) rfl (dotA_one _ _) _).mono ?_
      rintro e w6 ⟨rfl, hb⟩
      have k6 := k5.after hb
      have hB6 := hB5.trans (hb.mono hB5.size)
      clear hb
      rw [← HX.out]
      go_wp2_with (first | (refine wpList_store_R rfl _ _ _ rfl (w.heap.size + 1 + 1) r rfl rfl _ k6 (by rw [Hrs.out]; rfl) hT.out HRo.out ?_; intro w7 r7 o7))
      exact bodyPost_ret (results_R1 (cs := r) rfl rfl r7 hT.out) rfl ⟨rfl, below_on hB6 o7 (by omega)⟩
     ·by_cases hob : ob = 0
      ·have HX := Lib.hid (show r = meetA 1 (dotA bx bY) (dotA bx bY) by rw [← HRr.out, meetL, if_neg HZ.out, if_neg HN2.out, if_neg hoa, if_pos hob]; rfl)
       rw [hob] at a1
       have hoaB : (oa == 0) = false := by simp [hoa]
       clear hob heq hoa
       go_wp2_with fail
       refine (HD2.out _).mono ?_
       rintro e w5 ⟨rfl, hb⟩
       have k5 := k4.after hb
       have hB5 := hB.trans (hb.mono hB.size)
       clear hb a0 a1 x0 x1 x2 x3 lA l0 k4 hrA hS
       go_wp2_with fail
       refine (touch_any (dotA bx bY) rfl (dotA_one _ _) _).mono ?_
       rintro e w6 ⟨rfl, hb⟩
       have k6 := k5.after hb
       have hB6 := hB5.trans (hb.mono hB5.size)
       clear hb
       rw [← HX.out]
       go_wp2_with (first | (refine wpList_store_R rfl _ _ _ rfl (w.heap.size + 1 + 1) r rfl rfl _ k6 (by rw [Hrs.out]; rfl) hT.out HRo.out ?_; intro w7 r7 o7))
       exact bodyPost_ret (results_R1 (cs := r) rfl rfl r7 hT.out) rfl ⟨rfl, below_on hB6 o7 (by omega)⟩
      ·have hX : mtA (touchM (partP ⟨ax, ay, bx, bY⟩ oa ob)) = r := by rw [← HRr.out, meetL, if_neg HZ.out, if_neg HN2.out, if_neg hoa, if_neg hob]
       have hC := HPt.out hoa hob (by rw [HN1.out]; simp)
       clear HRr HPt
       generalize partP ⟨ax, ay, bx, bY⟩ oa ob = P at hX hC
       have HX := Lib.hid (show r = meetA 1 (ptA P) (ptA P) from hX.symm)
       have HC := Lib.hid hC
       clear hX hC
       have hoaB : (oa == 0) = false := by simp [hoa]
       have hobB : (ob == 0) = false := by simp [hob]
       clear heq hoa hob
       go_wp2_with fail
       refine (HC.out _ hB).mono ?_
       rintro e w5 ⟨rfl, hb⟩
       have k5 := k4.after hb
       have hB5 := hB.trans (hb.mono hB.size)
       clear hb a0 a1 x0 x1 x2 x3 lA l0 k4 hrA hS
       go_wp2_with fail
       refine (touch_any (ptA P) (ptA_size _) (ptA_one _) _).mono ?_
       rintro e w6 ⟨rfl, hb⟩
       have k6 := k5.after hb
       have hB6 := hB5.trans (hb.mono hB5.size)
       clear hb
       rw [← HX.out]
       go_wp2_with (first | (refine wpList_store_R rfl _ _ _ rfl (w.heap.size + 1 + 1) r rfl rfl _ k6 (by rw [Hrs.out]; rfl) hT.out HRo.out ?_; intro w7 r7 o7))
       exact bodyPost_ret (results_R1 (cs := r) rfl rfl r7 hT.out) rfl ⟨rfl, below_on hB6 o7 (by omega)⟩
    ·have HX := Lib.hid (show r = zero_meet by rw [← HRr.out, meetL, if_neg HZ.out, if_pos (Or.inr hA2)]; exact mtA_zero)
     clear hA2 a0 a1 lA x0 x1 x2 x3 l0 hT hrA
     go_wp2_with (first | (refine wpList_store_R rfl _ _ _ rfl (w.heap.size + 1 + 1) zero_meet rfl rfl _ k4 rfl agg_meet (by rw [← HX.out]; exact HRo.out) ?_; intro w5 r5 o5))
     rw [HX.out]
     exact bodyPost_ret (results_R1 (cs := zero_meet) rfl rfl r5 agg_meet) rfl ⟨rfl, below_on hB o5 (by omega)⟩
   ·have HX := Lib.hid (show r = zero_meet by rw [← HRr.out, meetL, if_neg HZ.out, if_pos (Or.inl hA1)]; exact mtA_zero)
    clear a0 a1 b0 b1 lA lB hA1
    go_wp2_with (first | (refine wpList_store_R rfl _ _ _ rfl (w.heap.size + 1 + 1) zero_meet rfl rfl _ k4 rfl agg_meet (by rw [← HX.out]; exact HRo.out) ?_; intro w5 r5 o5))
    rw [HX.out]
    exact bodyPost_ret (results_R1 (cs := zero_meet) rfl rfl r5 agg_meet) rfl ⟨rfl, below_on hB o5 (by omega)⟩
end Go.Proofs.YteolocchmhpggaaGreatDoor
