import Derived.Test.YtongeeggaigepaaGreatDoorZKkYE
import Derived.Test.YtongeeggaigepaaGreatDoorZKkUB
import Derived.Test.YtongeeggaigepaaGreatDoorZKkSG
import Derived.Test.YtongeeggaigepaaGreatDoorZKkSM
import Derived.Test.YtongeeggaigepaaGreatDoorZKkSH
import Derived.Test.YtongeeggaigepaaGreatDoorZKkSI
namespace Go.Proofs.YtongeeggaigepaaGreatDoor
open Go.RowKit Go.Sort
theorem side_any (x y : Int) (w : World) : Calls Tryz.prog 73 #[.int .i64 x, .int .i64 y] w fun e w' => e = .returned (.int .i64 (cmpI x y)) ∧ Below w.heap.size w w' := by
 obtain ⟨v, hv⟩ : ∃ v, cmpI x y = v := ⟨_, rfl⟩
 rw [hv]
 have HV := Lib.hid hv
 clear hv
 go_enter Tryz.func73, Tryz.ntmps73
 go_wp2
 all_goals
  go_ret
  refine ⟨?_, Below.refl _ _⟩
  rw [← HV.out]
  unfold cmpI
  (repeat' split) <;> first | rfl | omega
theorem turn_any (ax ay bx bY nx ny : Int) (w : World) (h1 : Bd ax) (h2 : Bd ay) (h3 : Bd bx) (h4 : Bd bY) (h5 : Bd nx) (h6 : Bd ny) :
 Calls Tryz.prog 39 #[.agg (lineA ax ay bx bY (bx - ax) (bY - ay)), nodeV nx ny] w fun e w' => e = .returned (.int .i64 (cmpI ((bx - ax) * (ny - ay)) ((bY - ay) * (nx - ax)))) ∧ Below w.heap.size w w' := by
 have b1 := mul_bd (a := bx - ax) (b := ny - ay) (by unfold Bd at *; omega) (by unfold Bd at *; omega)
 have b2 := mul_bd (a := bY - ay) (b := nx - ax) (by unfold Bd at *; omega) (by unfold Bd at *; omega)
 have w1 : IntKind.i64.wrap (ny - ay) = ny - ay := by rw [IntKind.wrap_i64]; unfold Bd at *; omega
 have w2 : IntKind.i64.wrap (nx - ax) = nx - ax := by rw [IntKind.wrap_i64]; unfold Bd at *; omega
 have w3 : IntKind.i64.wrap ((bx - ax) * (ny - ay)) = (bx - ax) * (ny - ay) := by rw [IntKind.wrap_i64]; omega
 have w4 : IntKind.i64.wrap ((bY - ay) * (nx - ax)) = (bY - ay) * (nx - ax) := by rw [IntKind.wrap_i64]; omega
 have HS := Lib.hid (fun W => side_any ((bx - ax) * (ny - ay)) ((bY - ay) * (nx - ax)) W)
 clear h1 h2 h3 h4 h5 h6 b1 b2
 unfold nodeV
 generalize hR : bx - ax = r at *
 generalize hU : bY - ay = u at *
 go_enter Tryz.func39, Tryz.ntmps39
 go_wp2_with fail
 refine (HS.out _).mono ?_
 rintro e W1 ⟨rfl, hb⟩
 have hb1 := (((Below.refl w.heap.size w).alloc (Nat.le_refl _) (.cells (lineA ax ay bx bY r u) 89)).alloc (by simp) (.cells #[.int .i64 nx, .int .i64 ny] 23)).trans (hb.mono (by simp; omega))
 clear hb
 go_wp2_with fail
 go_ret
 exact ⟨rfl, hb1⟩
end Go.Proofs.YtongeeggaigepaaGreatDoor

namespace Go.Proofs.YtongeeggaigepaaGreatDoor
open Go.RowKit Go.Sort
set_option maxRecDepth 100000 in
set_option maxHeartbeats 3200000 in
theorem way_num (n N D : Int) (w : World) (hn : Bd n) (hN : N.natAbs < T256) (hD : D.natAbs < T256) (hm : (n * D).natAbs < T256) (hs : (N - n * D).natAbs < T256) :
 Calls Tryz.prog 90 #[.int .i64 n, .agg (ratA N D)] w fun e w' => e = .returned (.agg (intA (N - n * D))) ∧ Below w.heap.size w w' := by
 have HO := Lib.hid (fun W => of_num n (in_i64 hn).1 (in_i64 hn).2 W)
 have HM := Lib.hid (fun W k hr => mul2_num n D k 2 W (Nat.lt_of_le_of_lt (show n.natAbs ≤ 67108864 by unfold Bd at hn; omega) (by decide)) hD hm hr)
 have HP := Lib.hid (fun W => must_int (intA (n * D)) rfl (intA_one _) W)
 have HS := Lib.hid (fun W => sub_num N (n * D) W hN hm hs)
 have HQ := Lib.hid (fun W => must_int (intA (N - n * D)) rfl (intA_one _) W)
 clear hn hN hD hm hs
 generalize n * D = p at *
 generalize hq : N - p = q at *
 have hs1 := intA_one q
 have hs5 : (intA q).size = 5 := rfl
 have hT5 : AggTy Tryz.prog 42 (intA q).size := agg_int
 generalize intA q = Aq at *
 have hK : KT w ([] ++ [(w.heap.size, ratA N D)]) ([] ++ [(w.heap.size + 1, 5)]) ((w.alloc (.cells (ratA N D) 44)).alloc (.cells zero_int 42)) := ((KT.of ((KS.nil w).boxed rfl _ 44)).made (by simp) zero_int 42 rfl)
 go_enter Tryz.func90, Tryz.ntmps90
 go_upto_region 1 with fail
 change Code.wp _ _ _ _ ((w.alloc (.cells (ratA N D) 44)).alloc (.cells zero_int 42))
 generalize (w.alloc (.cells (ratA N D) 44)).alloc (.cells zero_int 42) = W0 at *
 generalize hL : [] ++ [(w.heap.size, ratA N D)] = L at hK
 generalize hM : [] ++ [(w.heap.size + 1, 5)] = M at hK
 have HL := Lib.hid hL; clear hL
 have HMM := Lib.hid (show (w.heap.size + 1, 5) ∈ M by rw [← hM]; simp); clear hM
 have l0 : ∀ W, KT w L M W → W.cell? ⟨w.heap.size, 0, none⟩ = some (.bool (decide (N < 0))) := fun W h => h.c 0 (by rw [← HL.out]; rfl) 0 rfl
 have l1 : ∀ W, KT w L M W → W.cell? ⟨w.heap.size, 1, none⟩ = some (.int .u64 (W64 N.natAbs 0 : Nat)) := fun W h => h.c 0 (by rw [← HL.out]; rfl) 1 rfl
 have l2 : ∀ W, KT w L M W → W.cell? ⟨w.heap.size, 2, none⟩ = some (.int .u64 (W64 N.natAbs 1 : Nat)) := fun W h => h.c 0 (by rw [← HL.out]; rfl) 2 rfl
 have l3 : ∀ W, KT w L M W → W.cell? ⟨w.heap.size, 3, none⟩ = some (.int .u64 (W64 N.natAbs 2 : Nat)) := fun W h => h.c 0 (by rw [← HL.out]; rfl) 3 rfl
 have l4 : ∀ W, KT w L M W → W.cell? ⟨w.heap.size, 4, none⟩ = some (.int .u64 (W64 N.natAbs 3 : Nat)) := fun W h => h.c 0 (by rw [← HL.out]; rfl) 4 rfl
 have l5 : ∀ W, KT w L M W → W.cell? ⟨w.heap.size, 5, none⟩ = some (.bool (decide (D < 0))) := fun W h => h.c 0 (by rw [← HL.out]; rfl) 5 rfl
 have l6 : ∀ W, KT w L M W → W.cell? ⟨w.heap.size, 6, none⟩ = some (.int .u64 (W64 D.natAbs 0 : Nat)) := fun W h => h.c 0 (by rw [← HL.out]; rfl) 6 rfl
 have l7 : ∀ W, KT w L M W → W.cell? ⟨w.heap.size, 7, none⟩ = some (.int .u64 (W64 D.natAbs 1 : Nat)) := fun W h => h.c 0 (by rw [← HL.out]; rfl) 7 rfl
 have l8 : ∀ W, KT w L M W → W.cell? ⟨w.heap.size, 8, none⟩ = some (.int .u64 (W64 D.natAbs 2 : Nat)) := fun W h => h.c 0 (by rw [← HL.out]; rfl) 8 rfl
 have l9 : ∀ W, KT w L M W → W.cell? ⟨w.heap.size, 9, none⟩ = some (.int .u64 (W64 D.natAbs 3 : Nat)) := fun W h => h.c 0 (by rw [← HL.out]; rfl) 9 rfl
 have s1 : ∀ W, KT w L M W → (storeCells ⟨w.heap.size + 1, 0, none⟩ Aq.toList).run Tryz.prog W = .ok () (W.setCells (w.heap.size + 1) 0 Aq.toList) := fun W h => (h.2 _ HMM.out).1.store _ hs5 hs1
 go_region_held3 (fun w' : World => KT w L M w')
  (first
    | (with_reducible refine KT.drew ?_; with_reducible assumption)
    | (with_reducible refine KT.put ?_ HMM.out _; with_reducible assumption)
    | (with_reducible refine KT.alloc ?_ _; with_reducible assumption)
    | (with_reducible refine KT.after ?_ hb; with_reducible assumption))
  (first
    | (go_at_call 89; (with_reducible refine (HO.out _).mono ?_); rintro e w' ⟨rfl, hb⟩)
    | (go_at_call 88; (refine (HM.out _ _ (Row.at rfl [_, _, _, _, _, _, _, _, _, _] _)).mono ?_); rintro e w' ⟨rfl, hb⟩)
    | (go_at_call 87; (with_reducible refine (HP.out _).mono ?_); rintro e w' ⟨rfl, hb⟩)
    | (go_at_call 124; (with_reducible refine (HS.out _).mono ?_); rintro e w' ⟨rfl, hb⟩)
    | (go_at_call 87; (with_reducible refine (HQ.out _).mono ?_); rintro e w' ⟨rfl, hb⟩))
 all_goals
  have hq := ‹KT w L M _›
  have hr := hq.put_row HMM.out (by simpa using hs5)
  go_wp2
  exact bodyPost_ret (results_R1 (cs := Aq) rfl rfl hr hT5) rfl ⟨rfl, hq.1.2⟩
end Go.Proofs.YtongeeggaigepaaGreatDoor
