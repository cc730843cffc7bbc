import Derived.Test.YtongeeggaigepaaGreatDoorZKkUA
import Derived.Test.YtongeeggaigepaaGreatDoorZKkSI
import Derived.Test.YtongeeggaigepaaGreatDoorZKkSQ
namespace Go.Proofs.YtongeeggaigepaaGreatDoor
open Go.RowKit
attribute [local go_sem] Oper.semAt_some
set_option maxRecDepth 100000 in
set_option maxHeartbeats 800000 in
theorem ends_any (ax ay bx bY : Int) (w : World) : Calls Tryz.prog 42 #[segV ax ay bx bY] w fun e w' => ∃ E, e = .returned (.func (.func 76) #[] #[.pointer (some ⟨E, 0, none⟩)]) ∧ w.heap.size ≤ E ∧ Row w' E [.int .i64 ax, .int .i64 ay, .int .i64 bx, .int .i64 bY] ∧ Below w.heap.size w w' := by
 have hmf : ∀ (fn : Fn) (first cap : Array Value) (w : World), (Instr.makeFunc fn first cap).run Tryz.prog w = .ok (.func fn first cap) w := fun _ _ _ _ => rfl
 unfold segV
 go_enter Tryz.func42, Tryz.ntmps42
 go_wp2
 go_ret
 exact ⟨_, rfl, Nat.le_refl _, Row.at rfl _ _, (Below.refl _ _).alloc (Nat.le_refl _) _⟩
set_option maxRecDepth 100000 in
set_option maxHeartbeats 4000000 in
theorem check_seg (ax ay bx bY : Int) (w : World) (h1 : Bd ax) (h2 : Bd ay) (h3 : Bd bx) (h4 : Bd bY) (hne : ¬ (ax = bx ∧ ay = bY)) :
 Calls Tryz.prog 14 #[segV ax ay bx bY] w fun e w' => e = .returned (.int .i64 0) ∧ Below w.heap.size w w' := by
 have HT : Hid (∀ x : Int × Int, x ∈ [(ax, ay), (bx, bY)] → ∀ W, Calls Tryz.prog 37 #[nodeV x.1 x.2] W fun e w' => e = .returned (.int .i64 0) ∧ Below W.heap.size W w') := Lib.hid (fun x hx W => by
  have hb : inB x.1 = true ∧ inB x.2 = true := by
   rcases (by simpa using hx : x = (ax, ay) ∨ x = (bx, bY)) with rfl | rfl
   ·exact ⟨(inB_iff _).2 h1, (inB_iff _).2 h2⟩
   ·exact ⟨(inB_iff _).2 h3, (inB_iff _).2 h4⟩
  have := nodes_any x.1 x.2 W
  rwa [hb.1, hb.2] at this)
 have hE : (ax == bx && ay == bY) = false := by
  cases h : (ax == bx && ay == bY)
  ·rfl
  ·simp at h; exact absurd h hne
 clear hne h1 h2 h3 h4
 have n1 : ∀ W, (binOp .eql 23 (.agg #[.int .i64 ax, .int .i64 ay]) (.agg #[.int .i64 bx, .int .i64 bY])).run Tryz.prog W = .ok (.bool (ax == bx && ay == bY)) W := fun W => eqlNode ax ay bx bY W
 rw [hE] at n1
 have HN := Lib.hid n1
 clear n1 hE
 unfold segV
 refine (callsIn_wide (n := 9)).1 ?_
 refine callsIn_of_wp_marks Tryz.func14 rfl trivial ?_ rfl
 simp only [Tryz.ntmps14, List.size_toArray, List.length_cons, List.length_nil, Nat.reduceAdd, Nat.reduceSub, Array.replicate_succ, Array.replicate_zero, List.push_toArray, List.append_toArray, List.nil_append, List.cons_append]
 refine wpIn_wide.2 ?_
 go_wp2_with fail
 generalize hW : World.alloc _ _ = W0
 have hR : Row W0 w.heap.size [.int .i64 ax, .int .i64 ay, .int .i64 bx, .int .i64 bY] := by rw [← hW]; exact (Row.at rfl _ _).alloc _
 have hR2 : Row W0 (w.heap.size + 1) [.int .i64 0] := by rw [← hW]; exact Row.at (by simp) _ _
 have hB : Below w.heap.size w W0 := by rw [← hW]; exact ((Below.refl _ _).alloc (Nat.le_refl _) _).alloc (by simp) _
 clear hW
 refine (ends_any ax ay bx bY _).mono ?_
 rintro e W1 ⟨E, rfl, hEs, hRE, hb⟩
 replace hR := hR.after hb
 replace hR2 := hR2.after hb
 replace hB := hB.trans (hb.mono hB.size)
 have hW0 := hb.size
 clear hb
 go_wp2_with fail
 refine (wpIn_wide (n := 9)).1 ?_
 refine wpIn_range_u (α := Int × Int) rfl (by omega) (gf := 76) (lb := #[.pointer (some ⟨E, 0, none⟩)]) rfl trivial (enters_of Tryz.func76 (by kernel_rfl) rfl)
  (ends_u 7 E ax ay bx bY W1 hRE) KeepsB.trans (fun _ l W _ o' h _ _ _ => KeepsB.turn W o' (by have := hRE.1; omega)) (fun _ _ _ h => KeepsB.below h) (Below.refl _ _) (fun _ => rfl)
  (fun _ W => Row W w.heap.size [.int .i64 ax, .int .i64 ay, .int .i64 bx, .int .i64 bY] ∧ Row W (w.heap.size + 1) [.int .i64 0] ∧ Below w.heap.size w W) (fun _ _ _ => False)
  (fun _ X Y h hb => ⟨h.1.below hb hR.1, h.2.1.below hb hR2.1, h.2.2.trans (hb.mono hB.size)⟩) (fun _ _ _ _ h _ => h.elim) ⟨hR, hR2, hB⟩
  (fun x a' W => ∃ Ba, W1.heap.size + 2 ≤ Ba ∧ Row W Ba [.int .i64 x.1, .int .i64 x.2] ∧ a' = { tmps := #[.agg #[.int .i64 ax, .int .i64 ay, .int .i64 bx, .int .i64 bY], .pointer (some ⟨w.heap.size, 0, none⟩), .pointer (some ⟨w.heap.size + 1, 0, none⟩), .pointer (some ⟨Ba, 0, none⟩), undef, .agg #[.int .i64 ax, .int .i64 ay, .int .i64 bx, .int .i64 bY], .func (.func 76) #[] #[.pointer (some ⟨E, 0, none⟩)], .agg #[.int .i64 x.1, .int .i64 x.2], undef, undef, undef, undef, undef, undef, undef, undef, undef, undef], defers := [] })
  (fun x a' W lo o h1 h2 ⟨Ba, ha, r1, e⟩ => ⟨Ba, ha, r1.turn (by omega) o, e⟩) ?assign ?body ?done ?stop
 case assign =>
  intro l' pre x W K hI hW hK
  clear hI
  unfold encN
  gi_wp2
  exact hK _ _ ((Below.refl _ _).alloc (Nat.le_refl _) _) ⟨W.heap.size, hW, Row.at rfl _ _, rfl⟩
 case body =>
  rintro l' pre x a' W ⟨hI1, hI2, hI3⟩ hW hp ⟨Ba, hBa, r1, rfl⟩
  have hx : x ∈ [(ax, ay), (bx, bY)] := hp.subset (by simp)
  have HC := Lib.hid (HT.out x hx)
  have a0 := r1.c 0 rfl
  have a1 := r1.c 1 rfl
  have HI := Lib.hid (And.intro hI1 (And.intro hI2 hI3))
  clear hx hp hI1 hI2 hI3 r1
  gi_wp2_with fail
  refine ⟨trivial, callsIn_wide.2 ((HC.out _).mono ?_)⟩
  rintro e W3 ⟨rfl, hb⟩
  clear a0 a1
  gi_wp2_with fail
  exact ⟨(keeps_below hb).from _, KeepsB.below hb, HI.out.1.after hb, HI.out.2.1.after hb, HI.out.2.2.trans (hb.mono HI.out.2.2.size)⟩
 case stop => exact fun _ _ _ _ _ _ h => h.elim
 case done =>
  rintro D V hD ⟨hI1, hI2, hI3⟩ hK
  have x0 := hI1.c 0 rfl
  have x1 := hI1.c 1 rfl
  have x2 := hI1.c 2 rfl
  have x3 := hI1.c 3 rfl
  have y0 := hI2.c 0 rfl
  have f0 := hI2.f 0 rfl
  have n1 := HN.out
  have HI := Lib.hid (And.intro hI2 hI3)
  have hD1 : D < V.heap.size := (Array.getElem?_eq_some_iff.1 hK).1
  have hs1 := hR2.1
  have HK := Lib.hid hK
  clear hI1 hI2 hI3 hK hR hR2 hRE
  go_wp2_with fail
  have hM : Marks W1.heap.size [D] (V.setCell ⟨w.heap.size + 1, 0, none⟩ (.int .i64 0)) := ⟨hD, (Below.heap_setCell _ _ _ _ (by show D ≠ w.heap.size + 1; omega)).trans HK.out, by simp, trivial⟩
  have r7 := HI.out.1.set 0 (by simp) (.int .i64 0)
  have hb7 : Below w.heap.size w (V.setCell ⟨w.heap.size + 1, 0, none⟩ (.int .i64 0)) := below_put1 HI.out.2 (by omega) _ _
  generalize V.setCell ⟨w.heap.size + 1, 0, none⟩ (.int .i64 0) = V4 at *
  refine leaves_marks [D] V4 hM fun V5 hV => ?_
  have c1 := (r7.below hV hs1).c 0 rfl
  exact ⟨.int .i64 0, by simp [results, Tryz.results14, go_sem, c1], rfl, hb7.trans (hV.mono hB.size)⟩
abbrev lineA (ax ay bx bY r u : Int) : Array Value := #[.int .i64 ax, .int .i64 ay, .int .i64 bx, .int .i64 bY, .int .i64 r, .int .i64 u]
theorem agg_sline : AggTy Tryz.prog 89 6 := .of _ Tryz.underlying89 rfl (by kernel_rfl)
set_option maxRecDepth 100000 in
set_option maxHeartbeats 1600000 in
theorem segfrom_any (ax ay bx bY : Int) (w : World) (h1 : Bd ax) (h2 : Bd ay) (h3 : Bd bx) (h4 : Bd bY) :
 Calls Tryz.prog 38 #[.agg (segA ax ay bx bY)] w fun e w' => e = .returned (.agg (lineA ax ay bx bY (bx - ax) (bY - ay))) ∧ Below w.heap.size w w' := by
 have e1 : wrap64 (bx - ax) = bx - ax := by unfold Bd at h1 h3; exact wrap_in (by omega) (by omega)
 have e2 : wrap64 (bY - ay) = bY - ay := by unfold Bd at h2 h4; exact wrap_in (by omega) (by omega)
 clear h1 h2 h3 h4
 have HB := Lib.hid (fun o o2 => ((Below.refl w.heap.size w).alloc (Nat.le_refl _) o).alloc (by simp) o2)
 go_enter Tryz.func38, Tryz.ntmps38
 go_wp2_with fail
 exact bodyPost_ret (results_R1 (cs := lineA ax ay bx bY (bx - ax) (bY - ay)) rfl rfl (Row.at (by simp) _ _) agg_sline) rfl ⟨rfl, HB.out _ _⟩
def turnB (r u : Int) : Bool := decide (r < 0) || (decide (r = 0) && decide (u < 0))
set_option maxRecDepth 100000 in
set_option maxHeartbeats 1600000 in
theorem laid_any (ax ay bx bY r u : Int) (w : World) :
 Calls Tryz.prog 41 #[.agg (lineA ax ay bx bY r u)] w fun e w' => e = .returned (.agg (if turnB r u = true then segA bx bY ax ay else segA ax ay bx bY)) ∧ Below w.heap.size w w' := by
 have HB := Lib.hid (fun o o2 => ((Below.refl w.heap.size w).alloc (Nat.le_refl _) o).alloc (by simp) o2)
 by_cases h1 : r < 0
 ·have HT := Lib.hid (show turnB r u = true by simp [turnB, h1])
  rw [HT.out, if_pos rfl]
  go_enter Tryz.func41, Tryz.ntmps41
  go_wp2_with fail
  exact bodyPost_ret (results_R1 (cs := segA bx bY ax ay) rfl rfl (Row.at (by simp) _ _) agg_seg) rfl ⟨rfl, HB.out _ _⟩
 ·by_cases h2 : r = 0
  ·subst h2
   by_cases h3 : u < 0
   ·have HT := Lib.hid (show turnB 0 u = true by simp [turnB, h3])
    rw [HT.out, if_pos rfl]
    go_enter Tryz.func41, Tryz.ntmps41
    go_wp2_with fail
    exact bodyPost_ret (results_R1 (cs := segA bx bY ax ay) rfl rfl (Row.at (by simp) _ _) agg_seg) rfl ⟨rfl, HB.out _ _⟩
   ·have HT := Lib.hid (show turnB 0 u = false by simp [turnB, h3])
    rw [HT.out, if_neg (by decide)]
    go_enter Tryz.func41, Tryz.ntmps41
    go_wp2_with fail
    exact bodyPost_ret (results_R1 (cs := segA ax ay bx bY) rfl rfl (Row.at (by simp) _ _) agg_seg) rfl ⟨rfl, HB.out _ _⟩
  ·have HT := Lib.hid (show turnB r u = false by simp [turnB, h1, h2])
   rw [HT.out, if_neg (by decide)]
   go_enter Tryz.func41, Tryz.ntmps41
   go_wp2_with fail
   exact bodyPost_ret (results_R1 (cs := segA ax ay bx bY) rfl rfl (Row.at (by simp) _ _) agg_seg) rfl ⟨rfl, HB.out _ _⟩
end Go.Proofs.YtongeeggaigepaaGreatDoor

namespace Go.Proofs.YtongeeggaigepaaGreatDoor
open Go.RowKit
theorem KB.toBelow' {B N : Nat} {a w : World} (h : KB B N a w) (hN : B ≤ N) : Below B a w := ⟨h.os, h.tape, h.output, h.size, fun k hk => h.block k hk (by omega)⟩
theorem KB.ofBelow {B N : Nat} {a w : World} (h : Below B a w) : KB B N a w := ⟨h.os, h.tape, h.output, h.size, fun k hk _ => h.block k hk⟩
abbrev laidA (ax ay bx bY : Int) : Array Value := if turnB (bx - ax) (bY - ay) = true then segA bx bY ax ay else segA ax ay bx bY
theorem laidA_four (ax ay bx bY : Int) : ∃ p0 p1 p2 p3, laidA ax ay bx bY = segA p0 p1 p2 p3 := by unfold laidA; split <;> exact ⟨_, _, _, _, rfl⟩
theorem KT.put4 {w W : World} {L : List (Nat × Array Value)} {M : List (Nat × Nat)} {b n : Nat} (h : KT w L M W) (hm : (b, n) ∈ M) (y0 y1 y2 y3 : Value) : KT w L M ((((W.setCell ⟨b, 0, none⟩ y0).setCell ⟨b, 1, none⟩ y1).setCell ⟨b, 2, none⟩ y2).setCell ⟨b, 3, none⟩ y3) := h.put hm [y0, y1, y2, y3]
set_option maxRecDepth 100000 in
set_option maxHeartbeats 3200000 in
theorem told1_seg (S A : Nat) (ax ay bx bY : Int) (w : World) (h1 : Bd ax) (h2 : Bd ay) (h3 : Bd bx) (h4 : Bd bY) (hne : ¬ (ax = bx ∧ ay = bY)) (hS : Row w S (segA ax ay bx bY).toList) (hA : Row w A [.func (.func 41) #[] #[]]) :
 Calls Tryz.prog 74 #[.pointer (some ⟨S, 0, none⟩), .pointer (some ⟨A, 0, none⟩)] w fun e w' => e = .returned (.agg (laidA ax ay bx bY)) ∧ Below w.heap.size w w' := by
 have H1 := Lib.hid (fun W => check_seg ax ay bx bY W h1 h2 h3 h4 hne)
 have H2 := Lib.hid (fun W => segfrom_any ax ay bx bY W h1 h2 h3 h4)
 have H3 := Lib.hid (fun W => laid_any ax ay bx bY (bx - ax) (bY - ay) W)
 have HL3 : Hid (∀ W, Calls Tryz.prog 41 #[.agg (lineA ax ay bx bY (bx - ax) (bY - ay))] W fun e w' => e = .returned (.agg (laidA ax ay bx bY)) ∧ Below W.heap.size W w') := H3
 clear h1 h2 h3 h4 hne H3
 obtain ⟨p0, p1, p2, p3, hcs⟩ := laidA_four ax ay bx bY
 rw [hcs] at HL3 ⊢
 clear hcs
 generalize bx - ax = r at H2 HL3
 generalize bY - ay = u at H2 HL3
 unfold segV at H1
 have eL : ∀ (args : Array Value) (w : World), (callFunc 41 args).run Tryz.prog w = .ok (.enter 41 args) w := fun args w => Tryz.call41 args w
 have hK : KT w ([] ++ [(S, segA ax ay bx bY)] ++ [(A, #[.func (.func 41) #[] #[]])]) ([] ++ [(w.heap.size, 4)]) (w.alloc (.cells (segA 0 0 0 0) 25)) := (KT.of (((KS.nil w).more hS).more hA)).made rfl (segA 0 0 0 0) _ rfl
 have x0 := hS.c 0 rfl
 have x1 := hS.c 1 rfl
 have x2 := hS.c 2 rfl
 have x3 := hS.c 3 rfl
 have lS := hS.1
 clear hS hA
 generalize hL : [] ++ [(S, segA ax ay bx bY)] ++ [(A, #[Value.func (.func 41) #[] #[]])] = L at hK
 generalize hM : [] ++ [(w.heap.size, 4)] = M at hK
 have HL := Lib.hid hL; clear hL
 have HM := Lib.hid (show (w.heap.size, 4) ∈ M by rw [← hM]; simp); clear hM
 have HK := Lib.hid hK; clear hK
 go_enter Tryz.func74, Tryz.ntmps74
 go_wp2_with fail
 refine (H1.out _).mono ?_
 rintro e w1 ⟨rfl, hb⟩
 have hK := HK.out.after hb
 clear HK hb x0 x1 x2 x3 lS
 go_wp2_with fail
 refine (for_okS _).mono ?_
 rintro e w2 ⟨rfl, rfl⟩
 have l0 : ∀ W, KT w L M W → W.cell? ⟨S, 0, none⟩ = some (.int .i64 ax) := fun W h => h.c 0 (by rw [← HL.out]; rfl) 0 rfl
 have l1 : ∀ W, KT w L M W → W.cell? ⟨S, 1, none⟩ = some (.int .i64 ay) := fun W h => h.c 0 (by rw [← HL.out]; rfl) 1 rfl
 have l2 : ∀ W, KT w L M W → W.cell? ⟨S, 2, none⟩ = some (.int .i64 bx) := fun W h => h.c 0 (by rw [← HL.out]; rfl) 2 rfl
 have l3 : ∀ W, KT w L M W → W.cell? ⟨S, 3, none⟩ = some (.int .i64 bY) := fun W h => h.c 0 (by rw [← HL.out]; rfl) 3 rfl
 have m0 : ∀ W, KT w L M W → W.cell? ⟨A, 0, none⟩ = some (.func (.func 41) #[] #[]) := fun W h => h.c 1 (by rw [← HL.out]; rfl) 0 rfl
 have qc0 : ∀ W, KT w L M W → W.cell? ⟨w.heap.size, 0, none⟩ = some (cellAt W w.heap.size 0) := fun W h => h.here HM.out 0 (by decide)
 have qf0 : ∀ W, KT w L M W → W.frozen? ⟨w.heap.size, 0, none⟩ = false := fun W h => h.free HM.out 0 (by decide)
 have qc1 : ∀ W, KT w L M W → W.cell? ⟨w.heap.size, 1, none⟩ = some (cellAt W w.heap.size 1) := fun W h => h.here HM.out 1 (by decide)
 have qf1 : ∀ W, KT w L M W → W.frozen? ⟨w.heap.size, 1, none⟩ = false := fun W h => h.free HM.out 1 (by decide)
 have qc2 : ∀ W, KT w L M W → W.cell? ⟨w.heap.size, 2, none⟩ = some (cellAt W w.heap.size 2) := fun W h => h.here HM.out 2 (by decide)
 have qf2 : ∀ W, KT w L M W → W.frozen? ⟨w.heap.size, 2, none⟩ = false := fun W h => h.free HM.out 2 (by decide)
 have qc3 : ∀ W, KT w L M W → W.cell? ⟨w.heap.size, 3, none⟩ = some (cellAt W w.heap.size 3) := fun W h => h.here HM.out 3 (by decide)
 have qf3 : ∀ W, KT w L M W → W.frozen? ⟨w.heap.size, 3, none⟩ = false := fun W h => h.free HM.out 3 (by decide)
 go_wp2_with fail
 have hk0 := hK.drew
 go_region_held3 (fun w' : World => KT w L M w')
  (first
    | (with_reducible assumption)
    | (with_reducible refine KT.drew ?_; with_reducible assumption)
    | (with_reducible refine KT.put4 ?_ HM.out _ _ _ _; with_reducible assumption)
    | (with_reducible refine KT.alloc ?_ _; with_reducible assumption)
    | (with_reducible refine KT.after ?_ hb; with_reducible assumption))
  (first
    | (go_at_call 38; (with_reducible refine (H2.out _).mono ?_); rintro e w' ⟨rfl, hb⟩)
    | (go_at_call 41; (with_reducible refine (HL3.out _).mono ?_); rintro e w' ⟨rfl, hb⟩))
 all_goals
  have hq := ‹KT w L M _›
  have hr := hq.put_row (cs := [_, _, _, _]) HM.out rfl
  clear l0 l1 l2 l3 m0 qc0 qc1 qf0 qf1 qc2 qc3 qf2 qf3
  go_wp2
  exact bodyPost_ret (results_R1 (cs := segA p0 p1 p2 p3) rfl rfl hr agg_seg) rfl ⟨rfl, hq.1.2⟩
set_option maxRecDepth 100000 in
set_option maxHeartbeats 1600000 in
theorem toldseg_any (ax ay bx bY : Int) (w : World) (h1 : Bd ax) (h2 : Bd ay) (h3 : Bd bx) (h4 : Bd bY) (hne : ¬ (ax = bx ∧ ay = bY)) :
 Calls Tryz.prog 40 #[.agg (segA ax ay bx bY), .func (.func 41) #[] #[]] w fun e w' => e = .returned (.tuple #[.agg (laidA ax ay bx bY), .int .i64 0]) ∧ Below w.heap.size w w' := by
 have hmf : ∀ (fn : Fn) (first cap : Array Value) (w : World), (Instr.makeFunc fn first cap).run Tryz.prog w = .ok (.func fn first cap) w := fun _ _ _ _ => rfl
 have H1 := Lib.hid (fun S A W hS hA => told1_seg S A ax ay bx bY W h1 h2 h3 h4 hne hS hA)
 clear h1 h2 h3 h4 hne
 obtain ⟨p0, p1, p2, p3, hcs⟩ := laidA_four ax ay bx bY
 rw [hcs] at H1 ⊢
 clear hcs
 go_enter Tryz.func40, Tryz.ntmps40
 go_wp2_with fail
 have r0 := ((Row.at (w := w) rfl (segA ax ay bx bY).toList 25).alloc (.cells #[.func (.func 41) #[] #[]] 93)).alloc (.cells (segA 0 0 0 0) 25)
 have r1 := (Row.at (w := w.alloc (.cells (segA ax ay bx bY) 25)) (n := w.heap.size + 1) (by simp) [.func (.func 41) #[] #[]] 93).alloc (.cells (segA 0 0 0 0) 25)
 have r2 := Row.at (w := (w.alloc (.cells (segA ax ay bx bY) 25)).alloc (.cells #[.func (.func 41) #[] #[]] 93)) (n := w.heap.size + 1 + 1) (by simp) (segA 0 0 0 0).toList 25
 have hb0 := (((Below.refl w.heap.size w).alloc (Nat.le_refl _) (.cells (segA ax ay bx bY) 25)).alloc (by simp) (.cells #[.func (.func 41) #[] #[]] 93)).alloc (by simp; omega) (.cells (segA 0 0 0 0) 25)
 generalize World.alloc _ _ = W0 at *
 refine (caught_seg 74 #[.pointer (some ⟨w.heap.size, 0, none⟩), .pointer (some ⟨w.heap.size + 1, 0, none⟩)] w.heap.size (.val (segA p0 p1 p2 p3)) _ r0.1 ⟨rfl, segA_one _ _ _ _⟩ (fun _ _ => Tryz.call74 _ _)
  (fun W hW => (H1.out _ _ W (r0.after hW) (r1.after hW)).mono (fun e w' h => ⟨h.1, KB.ofBelow h.2⟩))).mono ?_
 rintro e w1 ⟨rfl, hk⟩
 have hK := ((KB.refl w.heap.size w.heap.size w).below hb0 (Nat.le_refl _)).trans hk hb0.size
 replace r2 := r2.kb hk (by omega)
 have hl := r2.1
 clear r0 r1 hk hb0 H1
 simp only [Got.ans]
 have z0 := r2.c 0 rfl
 have z1 := r2.c 1 rfl
 have z2 := r2.c 2 rfl
 have z3 := r2.c 3 rfl
 have f0 := r2.f 0 rfl
 have f1 := r2.f 1 rfl
 have f2 := r2.f 2 rfl
 have f3 := r2.f 3 rfl
 go_wp2_with fail
 exact bodyPost_ret (results_R2 (cs := segA p0 p1 p2 p3) rfl rfl (r2.putAll [_, _, _, _] rfl) agg_seg) rfl ⟨rfl, below_put1 (below_put1 (below_put1 (below_put1 (hK.toBelow' (Nat.le_refl _)) (by omega) _ _) (by omega) _ _) (by omega) _ _) (by omega) _ _⟩
set_option maxRecDepth 100000 in
set_option maxHeartbeats 1600000 in
theorem Laid_any (ax ay bx bY : Int) (w : World) (h1 : Bd ax) (h2 : Bd ay) (h3 : Bd bx) (h4 : Bd bY) (hne : ¬ (ax = bx ∧ ay = bY)) :
 Calls Tryz.prog 11 #[.agg (segA ax ay bx bY)] w fun e w' => e = .returned (.tuple #[.agg (laidA ax ay bx bY), .int .i64 0]) ∧ Below w.heap.size w w' := by
 have H1 := Lib.hid (fun W => toldseg_any ax ay bx bY W h1 h2 h3 h4 hne)
 clear h1 h2 h3 h4 hne
 obtain ⟨p0, p1, p2, p3, hcs⟩ := laidA_four ax ay bx bY
 rw [hcs] at H1 ⊢
 clear hcs
 go_enter Tryz.func11, Tryz.ntmps11
 go_wp2_with fail
 have r1 := Row.at (w := w.alloc (.cells (segA ax ay bx bY) 25)) (n := w.heap.size + 1) (by simp) (segA 0 0 0 0).toList 25
 have hb0 := ((Below.refl w.heap.size w).alloc (Nat.le_refl _) (.cells (segA ax ay bx bY) 25)).alloc (by simp) (.cells (segA 0 0 0 0) 25)
 generalize World.alloc _ _ = W0 at *
 refine (H1.out _).mono ?_
 rintro e w1 ⟨rfl, hb⟩
 replace r1 := r1.after hb
 replace hb0 := hb0.trans (hb.mono hb0.size)
 have hl := r1.1
 clear hb H1
 have z0 := r1.c 0 rfl
 have z1 := r1.c 1 rfl
 have z2 := r1.c 2 rfl
 have z3 := r1.c 3 rfl
 have f0 := r1.f 0 rfl
 have f1 := r1.f 1 rfl
 have f2 := r1.f 2 rfl
 have f3 := r1.f 3 rfl
 go_wp2_with fail
 exact bodyPost_ret (results_R2 (cs := segA p0 p1 p2 p3) rfl rfl (r1.putAll [_, _, _, _] rfl) agg_seg) rfl ⟨rfl, below_put1 (below_put1 (below_put1 (below_put1 hb0 (by omega) _ _) (by omega) _ _) (by omega) _ _) (by omega) _ _⟩
end Go.Proofs.YtongeeggaigepaaGreatDoor

namespace Go.Proofs.YtongeeggaigepaaGreatDoor
open Go.RowKit
attribute [local go_sem] Oper.semAt_some
def ndB (x : Int × Int) : Bool := inB x.1 && inB x.2
def ckI (ax ay bx bY : Int) : Int := if (ndB (ax, ay) && (ndB (bx, bY) && !(ax == bx && ay == bY))) = true then 0 else 2
theorem KeepsFrom.put {s b : Nat} {X Y : World} (h : KeepsFrom s X Y) (hb : b < s) (v : Value) : KeepsFrom s X (Y.setCell ⟨b, 0, none⟩ v) :=
 ⟨by simpa [World.setCell] using h.1, fun k o hk h1 h2 => (Below.heap_setCell _ _ _ _ (by show k ≠ b; omega)).trans (h.2 k o hk h1 h2)⟩
theorem KeepsB.put {E b : Nat} {X Y : World} (h : KeepsB E X Y) (hne : E ≠ b) (v : Value) : KeepsB E X (Y.setCell ⟨b, 0, none⟩ v) :=
 ⟨by simpa [World.setCell] using h.1, fun hl => (Below.heap_setCell _ _ _ _ hne).trans (h.2 hl)⟩
set_option maxRecDepth 100000 in
set_option maxHeartbeats 4000000 in
theorem check_any4 (ax ay bx bY : Int) (w : World) :
 Calls Tryz.prog 14 #[segV ax ay bx bY] w fun e w' => e = .returned (.int .i64 (ckI ax ay bx bY)) ∧ Below w.heap.size w w' := by
 have HT : Hid (∀ x : Int × Int, ∀ W, Calls Tryz.prog 37 #[nodeV x.1 x.2] W fun e w' => e = .returned (.int .i64 (if ndB x = true then 0 else 2)) ∧ Below W.heap.size W w') := Lib.hid (fun x W => nodes_any x.1 x.2 W)
 have n1 : ∀ W, (binOp .eql 23 (.agg #[.int .i64 ax, .int .i64 ay]) (.agg #[.int .i64 bx, .int .i64 bY])).run Tryz.prog W = .ok (.bool (ax == bx && ay == bY)) W := fun W => eqlNode ax ay bx bY W
 have HN := Lib.hid n1
 clear n1
 have HV : Hid (∀ v : Int, (((∀ x, x ∈ [(ax, ay), (bx, bY)] → ndB x = true) ∧ v = (if (ax == bx && ay == bY) = true then 2 else 0)) ∨ ((∃ x, x ∈ [(ax, ay), (bx, bY)] ∧ ndB x = false) ∧ v = 2)) → v = ckI ax ay bx bY) := Lib.hid (by
  intro v h
  unfold ckI
  rcases h with ⟨h1, h2⟩ | ⟨⟨x, hx, h1⟩, h2⟩
  ·rw [h2, h1 (ax, ay) (by simp), h1 (bx, bY) (by simp)]
   cases (ax == bx && ay == bY) <;> rfl
  ·rw [h2]
   rcases (by simpa using hx : x = (ax, ay) ∨ x = (bx, bY)) with rfl | rfl
   ·rw [h1]; rfl
   ·rw [h1]; cases ndB (ax, ay) <;> rfl)
 unfold segV
 refine (callsIn_wide (n := 9)).1 ?_
 refine callsIn_of_wp_marks Tryz.func14 rfl trivial ?_ rfl
 simp only [Tryz.ntmps14, List.size_toArray, List.length_cons, List.length_nil, Nat.reduceAdd, Nat.reduceSub, Array.replicate_succ, Array.replicate_zero, List.push_toArray, List.append_toArray, List.nil_append, List.cons_append]
 refine wpIn_wide.2 ?_
 go_wp2_with fail
 generalize hW : World.alloc _ _ = W0
 have hR : Row W0 w.heap.size [.int .i64 ax, .int .i64 ay, .int .i64 bx, .int .i64 bY] := by rw [← hW]; exact (Row.at rfl _ _).alloc _
 have hR2 : Row W0 (w.heap.size + 1) [.int .i64 0] := by rw [← hW]; exact Row.at (by simp) _ _
 have hZ : w.heap.size + 1 < W0.heap.size := hR2.1
 have hB : Below w.heap.size w W0 := by rw [← hW]; exact ((Below.refl _ _).alloc (Nat.le_refl _) _).alloc (by simp) _
 clear hW
 refine (ends_any ax ay bx bY _).mono ?_
 rintro e W1 ⟨E, rfl, hEs, hRE, hb⟩
 replace hR := hR.after hb
 replace hR2 := hR2.after hb
 replace hB := hB.trans (hb.mono hB.size)
 have hW0 := hb.size
 clear hb
 go_wp2_with fail
 refine (wpIn_wide (n := 9)).1 ?_
 refine wpIn_range_u (α := Int × Int) rfl (by omega) (gf := 76) (lb := #[.pointer (some ⟨E, 0, none⟩)]) rfl trivial (enters_of Tryz.func76 (by kernel_rfl) rfl)
  (ends_u 7 E ax ay bx bY W1 hRE) KeepsB.trans (fun _ l W _ o' h _ _ _ => KeepsB.turn W o' (by have := hRE.1; omega)) (fun _ _ _ h => KeepsB.below h) (Below.refl _ _) (fun _ => rfl)
  (fun pre W => Row W w.heap.size [.int .i64 ax, .int .i64 ay, .int .i64 bx, .int .i64 bY] ∧ Row W (w.heap.size + 1) [.int .i64 0] ∧ Below w.heap.size w W ∧ ∀ x, x ∈ pre → ndB x = true) (fun c pre W => c = .ret ∧ Row W (w.heap.size + 1) [.int .i64 2] ∧ Below w.heap.size w W ∧ ∃ x, x ∈ pre ∧ ndB x = false)
  (fun _ X Y h hb => ⟨h.1.below hb hR.1, h.2.1.below hb hR2.1, h.2.2.1.trans (hb.mono hB.size), h.2.2.2⟩) (fun _ _ X Y h hb => ⟨h.1, h.2.1.below hb hR2.1, h.2.2.1.trans (hb.mono hB.size), h.2.2.2⟩) ⟨hR, hR2, hB, fun _ hx => absurd hx (by simp)⟩
  (fun x a' W => ∃ Ba, W1.heap.size + 2 ≤ Ba ∧ Row W Ba [.int .i64 x.1, .int .i64 x.2] ∧ a' = { tmps := #[.agg #[.int .i64 ax, .int .i64 ay, .int .i64 bx, .int .i64 bY], .pointer (some ⟨w.heap.size, 0, none⟩), .pointer (some ⟨w.heap.size + 1, 0, none⟩), .pointer (some ⟨Ba, 0, none⟩), undef, .agg #[.int .i64 ax, .int .i64 ay, .int .i64 bx, .int .i64 bY], .func (.func 76) #[] #[.pointer (some ⟨E, 0, none⟩)], .agg #[.int .i64 x.1, .int .i64 x.2], undef, undef, undef, undef, undef, undef, undef, undef, undef, undef], defers := [] })
  (fun x a' W lo o h1 h2 ⟨Ba, ha, r1, e⟩ => ⟨Ba, ha, r1.turn (by omega) o, e⟩) ?assign ?body ?done ?stop
 case assign =>
  intro l' pre x W K hI hW hK
  clear hI
  unfold encN
  gi_wp2
  exact hK _ _ ((Below.refl _ _).alloc (Nat.le_refl _) _) ⟨W.heap.size, hW, Row.at rfl _ _, rfl⟩
 case body =>
  rintro l' pre x a' W ⟨hI1, hI2, hI3, hI4⟩ hW hp ⟨Ba, hBa, r1, rfl⟩
  have HC := Lib.hid (HT.out x)
  have a0 := r1.c 0 rfl
  have a1 := r1.c 1 rfl
  have HI := Lib.hid (And.intro hI1 (And.intro hI2 (And.intro hI3 hI4)))
  have HS := Lib.hid hR2.1
  have HW1 := Lib.hid hW0
  clear hp hI1 hI2 hI3 hI4 r1
  gi_wp2_with fail
  refine ⟨trivial, callsIn_wide.2 ((HC.out _).mono ?_)⟩
  rintro e W3 ⟨rfl, hb⟩
  clear a0 a1
  cases hx : ndB x
  ·have r2 := HI.out.2.1.after hb
   have c0 := r2.c 0 rfl
   have f0 := r2.f 0 rfl
   have HX := Lib.hid hx
   clear hx
   simp only [Bool.false_eq_true, if_false]
   have hs1 := hR2.1
   have hEs2 := hEs
   gi_wp2_with fail
   exact ⟨KeepsFrom.put ((keeps_below hb).from _) hs1 _, KeepsB.put (KeepsB.below hb) (by omega) _, rfl, r2.set 0 (by simp) (.int .i64 2), below_put1 (HI.out.2.2.1.trans (hb.mono HI.out.2.2.1.size)) (by omega) _ _, x, by simp, HX.out⟩
  ·have HX := Lib.hid hx
   clear hx
   simp only [if_true]
   gi_wp2_with fail
   refine ⟨(keeps_below hb).from _, KeepsB.below hb, HI.out.1.after hb, HI.out.2.1.after hb, HI.out.2.2.1.trans (hb.mono HI.out.2.2.1.size), fun y hy => ?_⟩
   rcases List.mem_append.1 hy with h | h
   ·exact HI.out.2.2.2 y h
   ·obtain rfl := List.mem_singleton.1 h; exact HX.out
 case stop =>
  rintro D c pre V hD hpre ⟨rfl, hI2, hI3, x, hx, hx2⟩ hK
  have hv : (2 : Int) = ckI ax ay bx bY := HV.out 2 (.inr ⟨⟨x, hpre.subset hx, hx2⟩, rfl⟩)
  have hs1 := hR2.1
  have HI := Lib.hid (And.intro hI2 hI3)
  have HK := Lib.hid hK
  clear hI2 hI3 hK hR hR2 hRE hx hx2 hpre
  have HVV := Lib.hid hv
  clear hv
  gi_wp2_with fail
  have hM : Marks W1.heap.size [D] V := ⟨hD, HK.out, by simp, trivial⟩
  refine leaves_marks [D] V hM fun V5 hV => ?_
  have c1 := (HI.out.1.below hV hs1).c 0 rfl
  exact ⟨.int .i64 2, by simp [results, Tryz.results14, go_sem, c1], by rw [← HVV.out], HI.out.2.trans (hV.mono hB.size)⟩
 case done =>
  rintro D V hD ⟨hI1, hI2, hI3, hI4⟩ hK
  have hv : (if (ax == bx && ay == bY) = true then (2 : Int) else 0) = ckI ax ay bx bY := HV.out _ (.inl ⟨hI4, rfl⟩)
  have x0 := hI1.c 0 rfl
  have x1 := hI1.c 1 rfl
  have x2 := hI1.c 2 rfl
  have x3 := hI1.c 3 rfl
  have y0 := hI2.c 0 rfl
  have f0 := hI2.f 0 rfl
  have n1 := HN.out
  have HI := Lib.hid (And.intro hI2 hI3)
  have hD1 : D < V.heap.size := (Array.getElem?_eq_some_iff.1 hK).1
  have hs1 := hR2.1
  have HK := Lib.hid hK
  have HVV := Lib.hid hv
  clear hI1 hI2 hI3 hI4 hK hR hR2 hRE hv
  generalize (ax == bx && ay == bY) = q at *
  cases q
  ·go_wp2_with fail
   refine leaves_marks [D] _ ⟨hD, (Below.heap_setCell _ _ _ _ (by show D ≠ w.heap.size + 1; omega)).trans HK.out, by simp, trivial⟩ fun V5 hV => ?_
   have r7 := HI.out.1.set 0 (by simp) (.int .i64 0)
   have c1 := (r7.below hV hs1).c 0 rfl
   exact ⟨.int .i64 0, by simp [results, Tryz.results14, go_sem, c1], by rw [← HVV.out]; rfl, (below_put1 HI.out.2 (by omega) _ _).trans (hV.mono hB.size)⟩
  ·go_wp2_with fail
   refine leaves_marks [D] _ ⟨hD, (Below.heap_setCell _ _ _ _ (by show D ≠ w.heap.size + 1; omega)).trans HK.out, by simp, trivial⟩ fun V5 hV => ?_
   have r7 := HI.out.1.set 0 (by simp) (.int .i64 2)
   have c1 := (r7.below hV hs1).c 0 rfl
   exact ⟨.int .i64 2, by simp [results, Tryz.results14, go_sem, c1], by rw [← HVV.out]; rfl, (below_put1 HI.out.2 (by omega) _ _).trans (hV.mono hB.size)⟩
end Go.Proofs.YtongeeggaigepaaGreatDoor

namespace Go.Proofs.YtongeeggaigepaaGreatDoor
open Go.RowKit
set_option maxRecDepth 100000 in
set_option maxHeartbeats 3200000 in
theorem told1_wrong (S A : Nat) (ax ay bx bY : Int) (w : World) (hc : ckI ax ay bx bY = 2) (hS : Row w S (segA ax ay bx bY).toList) (hA : Row w A [.func (.func 41) #[] #[]]) :
 Calls Tryz.prog 74 #[.pointer (some ⟨S, 0, none⟩), .pointer (some ⟨A, 0, none⟩)] w fun e w' => e = (Got.gave 2).end ∧ Below w.heap.size w w' := by
 have H1 : Hid (∀ W, Calls Tryz.prog 14 #[segV ax ay bx bY] W fun e w' => e = .returned (.int .i64 2) ∧ Below W.heap.size W w') := Lib.hid (fun W => by
  have := check_any4 ax ay bx bY W
  rw [hc] at this; exact this)
 clear hc
 unfold segV at H1
 have hK : KT w ([] ++ [(S, segA ax ay bx bY)] ++ [(A, #[.func (.func 41) #[] #[]])]) ([] ++ [(w.heap.size, 4)]) (w.alloc (.cells (segA 0 0 0 0) 25)) := (KT.of (((KS.nil w).more hS).more hA)).made rfl (segA 0 0 0 0) _ rfl
 have x0 := hS.c 0 rfl
 have x1 := hS.c 1 rfl
 have x2 := hS.c 2 rfl
 have x3 := hS.c 3 rfl
 have lS := hS.1
 clear hS hA
 generalize hL : [] ++ [(S, segA ax ay bx bY)] ++ [(A, #[Value.func (.func 41) #[] #[]])] = L at hK
 generalize hM : [] ++ [(w.heap.size, 4)] = M at hK
 have HL := Lib.hid hL; clear hL
 have HM := Lib.hid (show (w.heap.size, 4) ∈ M by rw [← hM]; simp); clear hM
 have HK := Lib.hid hK; clear hK
 go_enter Tryz.func74, Tryz.ntmps74
 go_wp2_with fail
 refine (H1.out _).mono ?_
 rintro e w1 ⟨rfl, hb⟩
 have hK := HK.out.after hb
 clear HK hb x0 x1 x2 x3 lS
 go_wp2_with fail
 refine (for_gives 2 _ (by decide)).mono ?_
 rintro e w2 ⟨rfl, rfl⟩
 have hB := hK.1.2
 clear HL HM
 go_wp2
 exact ⟨rfl, rfl, hB⟩
set_option maxRecDepth 100000 in
set_option maxHeartbeats 1600000 in
theorem toldseg_wrong (ax ay bx bY : Int) (w : World) (hc : ckI ax ay bx bY = 2) :
 Calls Tryz.prog 40 #[.agg (segA ax ay bx bY), .func (.func 41) #[] #[]] w fun e w' => e = .returned (.tuple #[.agg (segA 0 0 0 0), .int .i64 2]) ∧ Below w.heap.size w w' := by
 have hmf : ∀ (fn : Fn) (first cap : Array Value) (w : World), (Instr.makeFunc fn first cap).run Tryz.prog w = .ok (.func fn first cap) w := fun _ _ _ _ => rfl
 have H1 := Lib.hid (fun S A W hS hA => told1_wrong S A ax ay bx bY W hc hS hA)
 clear hc
 go_enter Tryz.func40, Tryz.ntmps40
 go_wp2_with fail
 have r0 := ((Row.at (w := w) rfl (segA ax ay bx bY).toList 25).alloc (.cells #[.func (.func 41) #[] #[]] 93)).alloc (.cells (segA 0 0 0 0) 25)
 have r1 := (Row.at (w := w.alloc (.cells (segA ax ay bx bY) 25)) (n := w.heap.size + 1) (by simp) [.func (.func 41) #[] #[]] 93).alloc (.cells (segA 0 0 0 0) 25)
 have r2 := Row.at (w := (w.alloc (.cells (segA ax ay bx bY) 25)).alloc (.cells #[.func (.func 41) #[] #[]] 93)) (n := w.heap.size + 1 + 1) (by simp) (segA 0 0 0 0).toList 25
 have hb0 := (((Below.refl w.heap.size w).alloc (Nat.le_refl _) (.cells (segA ax ay bx bY) 25)).alloc (by simp) (.cells #[.func (.func 41) #[] #[]] 93)).alloc (by simp; omega) (.cells (segA 0 0 0 0) 25)
 generalize World.alloc _ _ = W0 at *
 refine (caught_seg 74 #[.pointer (some ⟨w.heap.size, 0, none⟩), .pointer (some ⟨w.heap.size + 1, 0, none⟩)] w.heap.size (.gave 2) _ r0.1 (by show (2 : Int) ≠ 0; decide) (fun _ _ => Tryz.call74 _ _)
  (fun W hW => (H1.out _ _ W (r0.after hW) (r1.after hW)).mono (fun e w' h => ⟨h.1, KB.ofBelow h.2⟩))).mono ?_
 rintro e w1 ⟨rfl, hk⟩
 have hK := ((KB.refl w.heap.size w.heap.size w).below hb0 (Nat.le_refl _)).trans hk hb0.size
 replace r2 := r2.kb hk (by omega)
 have hl := r2.1
 clear r0 r1 hk hb0 H1
 simp only [Got.ans, zero_seg]
 have z0 := r2.c 0 rfl
 have z1 := r2.c 1 rfl
 have z2 := r2.c 2 rfl
 have z3 := r2.c 3 rfl
 have f0 := r2.f 0 rfl
 have f1 := r2.f 1 rfl
 have f2 := r2.f 2 rfl
 have f3 := r2.f 3 rfl
 go_wp2_with fail
 exact bodyPost_ret (results_R2 (cs := segA 0 0 0 0) rfl rfl (r2.putAll [_, _, _, _] rfl) agg_seg) rfl ⟨rfl, below_put1 (below_put1 (below_put1 (below_put1 (hK.toBelow' (Nat.le_refl _)) (by omega) _ _) (by omega) _ _) (by omega) _ _) (by omega) _ _⟩
set_option maxRecDepth 100000 in
set_option maxHeartbeats 1600000 in
theorem Laid_wrong (ax ay bx bY : Int) (w : World) (hc : ckI ax ay bx bY = 2) :
 Calls Tryz.prog 11 #[.agg (segA ax ay bx bY)] w fun e w' => e = .returned (.tuple #[.agg (segA 0 0 0 0), .int .i64 2]) ∧ Below w.heap.size w w' := by
 have H1 := Lib.hid (fun W => toldseg_wrong ax ay bx bY W hc)
 clear hc
 go_enter Tryz.func11, Tryz.ntmps11
 go_wp2_with fail
 have r1 := Row.at (w := w.alloc (.cells (segA ax ay bx bY) 25)) (n := w.heap.size + 1) (by simp) (segA 0 0 0 0).toList 25
 have hb0 := ((Below.refl w.heap.size w).alloc (Nat.le_refl _) (.cells (segA ax ay bx bY) 25)).alloc (by simp) (.cells (segA 0 0 0 0) 25)
 generalize World.alloc _ _ = W0 at *
 refine (H1.out _).mono ?_
 rintro e w1 ⟨rfl, hb⟩
 replace r1 := r1.after hb
 replace hb0 := hb0.trans (hb.mono hb0.size)
 have hl := r1.1
 clear hb H1
 have z0 := r1.c 0 rfl
 have z1 := r1.c 1 rfl
 have z2 := r1.c 2 rfl
 have z3 := r1.c 3 rfl
 have f0 := r1.f 0 rfl
 have f1 := r1.f 1 rfl
 have f2 := r1.f 2 rfl
 have f3 := r1.f 3 rfl
 go_wp2_with fail
 exact bodyPost_ret (results_R2 (cs := segA 0 0 0 0) rfl rfl (r1.putAll [_, _, _, _] rfl) agg_seg) rfl ⟨rfl, below_put1 (below_put1 (below_put1 (below_put1 hb0 (by omega) _ _) (by omega) _ _) (by omega) _ _) (by omega) _ _⟩
end Go.Proofs.YtongeeggaigepaaGreatDoor

namespace Go.Proofs.YtongeeggaigepaaGreatDoor
open Go.RowKit CrossMath
def BdS (l : Sg) : Prop := Bd l.ax ∧ Bd l.ay ∧ Bd l.bx ∧ Bd l.bY
def NeS (l : Sg) : Prop := ¬ (l.ax = l.bx ∧ l.ay = l.bY)
abbrev sgA (l : Sg) : Array Value := segA l.ax l.ay l.bx l.bY
end Go.Proofs.YtongeeggaigepaaGreatDoor

namespace Go.Proofs.YtongeeggaigepaaGreatDoor
open Go.RowKit CrossMath
theorem catch_bool_idle (p : Addr) (w : World) :
 CallsD Tryz.prog 127 #[.pointer (some p)] .returning w fun e u' w' => e = .returned (.tuple #[]) ∧ u' = .returning ∧ w' = w := by
 refine callsD_of_wpS Tryz.func127 rfl fun c₀ cs hu => ?_
 apply wpS_seq
 apply wpS_region
 simp [wpOpsS, go_sem, recoverD, hu, Tryz.ntmps127, Exit.thenS]
 change Code.wpS _ _ _ { tmps := #[.pointer (some p), .nilIface, undef, undef, .nilIface, undef, undef, undef, undef, undef, undef, undef, undef, undef, undef, undef], defers := [] } _ _
 refine wpS_of_wp ?_
 go_wp2
 cases c₀
 simp_all [bodyPostS, results, Tryz.results127]
set_option maxRecDepth 100000 in
set_option maxHeartbeats 1600000 in
theorem caught_bool (F : FuncId) (caps : Array Value) (b : Bool) (w : World) (eF : ∀ (args : Array Value) (w : World), (callFunc F args).run Tryz.prog w = .ok (.enter F args) w)
 (hw : ∀ W, Below w.heap.size w W → Calls Tryz.prog F caps W fun e w' => e = .returned (.bool b) ∧ Below W.heap.size W w') :
 Calls Tryz.prog 93 #[.func (.func F) #[] caps] w fun e w' => e = .returned (.tuple #[.bool b, .int .i64 0]) ∧ Below w.heap.size w w' := by
 have hmf : ∀ (fn : Fn) (first cap : Array Value) (w : World), (Instr.makeFunc fn first cap).run Tryz.prog w = .ok (.func fn first cap) w := fun _ _ _ _ => rfl
 have Hw := Lib.hid hw; clear hw
 go_enter_defers Tryz.func93, Tryz.ntmps93
 go_wp2_with fail
 generalize hW : World.alloc _ _ = W0
 have rE : Row W0 w.heap.size [.int .i64 0] := by rw [← hW]; exact Row.at rfl _ _
 have hB : Below w.heap.size w W0 := by rw [← hW]; exact (Below.refl w.heap.size w).alloc (Nat.le_refl _) _
 clear hW
 refine (Hw.out W0 hB).mono ?_
 rintro e w1 ⟨rfl, hb⟩
 replace rE := rE.after hb
 replace hB := hB.trans (hb.mono hB.size)
 have hE := rE.c 0 rfl
 have fE := rE.f 0 rfl
 clear hb
 go_wp2_with fail
 clear hE fE
 have rE3 : Row (w1.setCell ⟨w.heap.size, 0, none⟩ (.int .i64 0)) w.heap.size [.int .i64 0] := rE.set 0 (by simp) _
 replace hB := below_put1 hB (Nat.le_refl _) 0 (.int .i64 0)
 generalize World.setCell _ _ _ = W3 at rE3 hB ⊢
 refine leaves_cons (f := 127) (args := #[.pointer (some ⟨w.heap.size, 0, none⟩)]) (by simp) (by simp [go_sem]) ?_
 refine (catch_bool_idle ⟨w.heap.size, 0, none⟩ _).mono ?_
 rintro e u' w'' ⟨rfl, rfl, rfl⟩
 have l2 := load_errno rE3
 simp [Leaves, settle, results, Tryz.results93, asAddr, l2]
 exact hB
end Go.Proofs.YtongeeggaigepaaGreatDoor

namespace Go.Proofs.YtongeeggaigepaaGreatDoor
open Go.RowKit CrossMath
def nodeB (x y : Int) : Bool := decide (-67108864 ≤ x) && decide (x ≤ 67108864) && (decide (-67108864 ≤ y) && decide (y ≤ 67108864))
theorem nodeB_iff {x y : Int} : nodeB x y = true ↔ Bd x ∧ Bd y := by unfold nodeB Bd; simp
set_option maxRecDepth 100000 in
set_option maxHeartbeats 1600000 in
theorem refnode_any (x y : Int) (w : World) : Calls Tryz.prog 16 #[.agg (nodeA x y)] w fun e w' => e = .returned (.bool (nodeB x y)) ∧ Below w.heap.size w w' := by
 have HB := Lib.hid (fun o => (Below.refl w.heap.size w).alloc (Nat.le_refl _) o)
 have HN : Hid (∃ b, nodeB x y = b ∧ (b = true → -67108864 ≤ x ∧ x ≤ 67108864 ∧ -67108864 ≤ y ∧ y ≤ 67108864) ∧ (b = false → ¬ (-67108864 ≤ x) ∨ ¬ (x ≤ 67108864) ∨ ¬ (-67108864 ≤ y) ∨ ¬ (y ≤ 67108864))) := Lib.hid ⟨_, rfl, fun h => by have := nodeB_iff.1 h; unfold Bd at this; omega, fun h => by
  have h2 : ¬ (Bd x ∧ Bd y) := fun hb => by rw [nodeB_iff.2 hb] at h; cases h
  unfold Bd at h2; omega⟩
 obtain ⟨b, hb, ht, hf⟩ := HN.out
 rw [hb]
 clear hb HN
 have HT := Lib.hid ht
 have HF := Lib.hid hf
 clear ht hf
 cases b
 ·have hf := HF.out rfl
  clear HF HT
  by_cases h1 : -67108864 ≤ x <;> by_cases h2 : x ≤ 67108864 <;> by_cases h3 : -67108864 ≤ y <;> by_cases h4 : y ≤ 67108864
  all_goals first | (exfalso; omega) | skip
  all_goals
   clear hf
   go_enter Tryz.func16, Tryz.ntmps16
   go_wp2
   all_goals first | (exfalso; omega) | skip
   all_goals
    go_ret
    exact ⟨rfl, HB.out _⟩
 ·obtain ⟨h1, h2, h3, h4⟩ := HT.out rfl
  clear HF HT
  go_enter Tryz.func16, Tryz.ntmps16
  go_wp2
  all_goals first | (exfalso; omega) | skip
  all_goals
   go_ret
   exact ⟨rfl, HB.out _⟩
theorem neqNode (a b c d : Int) (W : World) : (binOp .neq 23 (.agg (nodeA a b)) (.agg (nodeA c d))).run Tryz.prog W = .ok (.bool (!(a == c && b == d))) W := by
 have u := Tryz.underlying23
 rw [run_neq_struct]
 go_simp
 by_cases h1 : a = c <;> by_cases h2 : b = d <;> simp [h1, h2]
def rightS (s : Sg) : Bool := nodeB s.ax s.ay && (nodeB s.bx s.bY && !(s.ax == s.bx && s.ay == s.bY))
theorem rightS_iff {s : Sg} : rightS s = true ↔ BdS s ∧ NeS s := by
 unfold rightS BdS NeS
 rw [Bool.and_eq_true, Bool.and_eq_true, nodeB_iff, nodeB_iff]
 simp only [Bool.not_eq_true', Bool.and_eq_false_iff, beq_eq_false_iff_ne]
 constructor
 ·rintro ⟨⟨a, b⟩, ⟨c, d⟩, h⟩; exact ⟨⟨a, b, c, d⟩, fun hh => by rcases h with h | h; exact h hh.1; exact h hh.2⟩
 ·rintro ⟨⟨a, b, c, d⟩, h⟩; exact ⟨⟨a, b⟩, ⟨c, d⟩, by by_cases e : s.ax = s.bx; exact .inr fun e2 => h ⟨e, e2⟩; exact .inl e⟩
set_option maxRecDepth 100000 in
set_option maxHeartbeats 1600000 in
theorem refright_any (s : Sg) (w : World) : Calls Tryz.prog 12 #[.agg (sgA s)] w fun e w' => e = .returned (.bool (rightS s)) ∧ Below w.heap.size w w' := by
 obtain ⟨ax, ay, bx, bY⟩ := s
 have H1 := Lib.hid (fun W => refnode_any ax ay W)
 have H2 := Lib.hid (fun W => refnode_any bx bY W)
 have hr : rightS ⟨ax, ay, bx, bY⟩ = (nodeB ax ay && (nodeB bx bY && !(ax == bx && ay == bY))) := rfl
 rw [hr]
 clear hr
 have n1 := neqNode ax ay bx bY
 generalize (!(ax == bx && ay == bY)) = q at n1 ⊢
 generalize nodeB ax ay = p at H1 ⊢
 generalize nodeB bx bY = r at H2 ⊢
 have r0 := Row.at (w := w) rfl (segA ax ay bx bY).toList 25
 have hB := (Below.refl w.heap.size w).alloc (Nat.le_refl _) (.cells (segA ax ay bx bY) 25)
 have HN := Lib.hid n1
 clear n1
 cases p <;> cases r
 all_goals
  go_enter Tryz.func12, Tryz.ntmps12
  go_wp2_with fail
  refine (H1.out _).mono ?_
  rintro e w1 ⟨rfl, hb⟩
  have r1 := r0.after hb
  have hB1 := hB.trans (hb.mono hB.size)
  have x0 := r1.c 0 rfl
  have x1 := r1.c 1 rfl
  have x2 := r1.c 2 rfl
  have x3 := r1.c 3 rfl
  clear hb r0 hB
  go_wp2_with fail
  first
   | (go_ret; exact ⟨rfl, hB1⟩)
   | (refine (H2.out _).mono ?_
      rintro e w2 ⟨rfl, hb⟩
      have r2 := r1.after hb
      have hB2 := hB1.trans (hb.mono hB1.size)
      clear x0 x1 x2 x3
      have x0 := r2.c 0 rfl
      have x1 := r2.c 1 rfl
      have x2 := r2.c 2 rfl
      have x3 := r2.c 3 rfl
      have n1 := HN.out
      clear hb r1 hB1
      go_wp2_with fail
      go_ret
      exact ⟨rfl, hB2⟩)
end Go.Proofs.YtongeeggaigepaaGreatDoor

namespace Go.Proofs.YtongeeggaigepaaGreatDoor
open Go.RowKit CrossMath
end Go.Proofs.YtongeeggaigepaaGreatDoor

namespace Go.Proofs.YtongeeggaigepaaGreatDoor
open Go.RowKit CrossMath
end Go.Proofs.YtongeeggaigepaaGreatDoor

namespace Go.Proofs.YtongeeggaigepaaGreatDoor
open Go.RowKit CrossMath
theorem wp_loadM {P : Program} {op : Oper} {a : Act} {w : World} {K : Act → World → Prop} {Q : Exit → Act → World → Prop} (ty : TypeId) (x : Operand) (ho : op.op = .load ty x) (b : Nat) (hx : a.eval x = .pointer (some ⟨b, 0, none⟩)) (cs : Array Value) (h : Row w b cs.toList) (hT : AggTy P ty cs.size)
 (k : K (a.put op.dst (.agg cs)) w) : op.wp P a w K Q := by
 obtain ⟨⟨d, hu, hd⟩, hi⟩ := hT
 exact wp_load_mid ty x ho b 0 hx cs.toList d h.whole hu hd (by simpa using hi) (by simpa using k)
theorem wp_eqlM {P : Program} {op : Oper} {a : Act} {w : World} {K : Act → World → Prop} {Q : Exit → Act → World → Prop} (ty ty2 : TypeId) (x y : Operand) (ho : op.op = .binOp .eql ty x y ty2) (u v : Array Value) (b : Bool) (hx : a.eval x = .agg u) (hy : a.eval y = .agg v) (hq : (eqGuard .eql ty x y (.agg u) (.agg v)).run P w = .ok () w) (h : (binOp .eql ty (.agg u) (.agg v)).run P w = .ok (.bool b) w)
 (k : K (a.put op.dst (.bool b)) w) : op.wp P a w K Q := by
 unfold Oper.wp execOp
 simp only [ho, hx, hy, Sem.run_bind, Sem.run_pure, Result.andThen_ok, hq, h]
 exact k
end Go.Proofs.YtongeeggaigepaaGreatDoor

namespace Go.Proofs.YtongeeggaigepaaGreatDoor
open Go.RowKit CrossMath
end Go.Proofs.YtongeeggaigepaaGreatDoor

namespace Go.Proofs.YtongeeggaigepaaGreatDoor
open Go.RowKit CrossMath
set_option maxRecDepth 100000 in
set_option maxHeartbeats 3200000 in
theorem relaid_core (ax ay bx bY : Int) (c1 c2 c3 : Bool) (w : World) (h1 : decide (bx < ax) = c1) (h2 : (ax == bx) = c2) (h3 : decide (bY < ay) = c3) :
 Calls Tryz.prog 15 #[.agg (segA ax ay bx bY)] w fun e w' => e = .returned (.agg (if (c1 || c2 && c3) = true then segA bx bY ax ay else segA ax ay bx bY)) ∧ Below w.heap.size w w' := by
 go_enter Tryz.func15, Tryz.ntmps15
 go_upto_region 1 with fail
 generalize hW : World.alloc _ _ = W0
 have hx : Row W0 w.heap.size (segA ax ay bx bY).toList := by rw [← hW]; exact (Row.at rfl _ _).alloc _
 have HR := Lib.hid (show Row W0 (w.heap.size + 1) (segA 0 0 0 0).toList by rw [← hW]; exact Row.at (by simp) _ _)
 have hB : Hid (Below w.heap.size w W0) := Lib.hid (by rw [← hW]; exact ((Below.refl _ _).alloc (Nat.le_refl _) _).alloc (by simp) _)
 clear hW
 have x0 := hx.c 0 rfl
 have x1 := hx.c 1 rfl
 have x2 := hx.c 2 rfl
 have x3 := hx.c 3 rfl
 clear hx
 have z0 := HR.out.c 0 rfl
 have f0 := HR.out.f 0 rfl
 have z1 := HR.out.c 1 rfl
 have f1 := HR.out.f 1 rfl
 have z2 := HR.out.c 2 rfl
 have f2 := HR.out.f 2 rfl
 have z3 := HR.out.c 3 rfl
 have f3 := HR.out.f 3 rfl
 cases c1
 ·cases c2
  ·go_wp2_with fail
   exact bodyPost_ret (results_R1 (cs := segA ax ay bx bY) rfl rfl (HR.out.putAll [_, _, _, _] rfl) agg_seg) rfl ⟨rfl, below_put1 (below_put1 (below_put1 (below_put1 hB.out (by omega) _ _) (by omega) _ _) (by omega) _ _) (by omega) _ _⟩
  ·cases c3
   ·go_wp2_with fail
    exact bodyPost_ret (results_R1 (cs := segA ax ay bx bY) rfl rfl (HR.out.putAll [_, _, _, _] rfl) agg_seg) rfl ⟨rfl, below_put1 (below_put1 (below_put1 (below_put1 hB.out (by omega) _ _) (by omega) _ _) (by omega) _ _) (by omega) _ _⟩
   ·go_wp2_with fail
    exact bodyPost_ret (results_R1 (cs := segA bx bY ax ay) rfl rfl (HR.out.putAll [_, _, _, _] rfl) agg_seg) rfl ⟨rfl, below_put1 (below_put1 (below_put1 (below_put1 hB.out (by omega) _ _) (by omega) _ _) (by omega) _ _) (by omega) _ _⟩
 ·go_wp2_with fail
  exact bodyPost_ret (results_R1 (cs := segA bx bY ax ay) rfl rfl (HR.out.putAll [_, _, _, _] rfl) agg_seg) rfl ⟨rfl, below_put1 (below_put1 (below_put1 (below_put1 hB.out (by omega) _ _) (by omega) _ _) (by omega) _ _) (by omega) _ _⟩
theorem turned_eq (s : Sg) : (decide (s.bx < s.ax) || (s.ax == s.bx) && decide (s.bY < s.ay)) = turned s := by
 unfold turned
 have h1 : decide (s.bx < s.ax) = decide (s.bx - s.ax < 0) := by rw [decide_eq_decide]; omega
 have h2 : (s.ax == s.bx) = decide (s.bx - s.ax = 0) := by rw [show (s.ax == s.bx) = decide (s.ax = s.bx) from rfl, decide_eq_decide]; omega
 have h3 : decide (s.bY < s.ay) = decide (s.bY - s.ay < 0) := by rw [decide_eq_decide]; omega
 rw [h1, h2, h3]
theorem relaid_any (s : Sg) (w : World) : Calls Tryz.prog 15 #[.agg (sgA s)] w fun e w' => e = .returned (.agg (sgA (laidS s))) ∧ Below w.heap.size w w' := by
 have h := relaid_core s.ax s.ay s.bx s.bY _ _ _ w rfl rfl rfl
 rw [turned_eq] at h
 refine h.mono fun e w' ⟨h1, h2⟩ => ⟨?_, h2⟩
 rw [h1]
 unfold laidS
 cases turned s <;> rfl
end Go.Proofs.YtongeeggaigepaaGreatDoor
