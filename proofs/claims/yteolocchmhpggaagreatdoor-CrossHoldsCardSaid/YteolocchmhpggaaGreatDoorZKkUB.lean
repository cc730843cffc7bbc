import Derived.Test.YteolocchmhpggaaGreatDoorZKkUA
import Derived.Test.YteolocchmhpggaaGreatDoorZKkSI
import Derived.Test.YteolocchmhpggaaGreatDoorZKkSO
namespace Go.Proofs.YteolocchmhpggaaGreatDoor
open Go.RowKit
attribute [local go_sem] Oper.semAt_some

set_option maxRecDepth 100000 in
set_option maxHeartbeats 800000 in
theorem ends_any (ax ay bx bY : Int) (w : World) : Calls Tryz.prog 98 #[segV ax ay bx bY] w fun e w' => ∃ E, e = .returned (.func (.func 124) #[] #[.pointer (some ⟨E, 0, none⟩)]) ∧ w.heap.size ≤ E ∧ Row w' E [.int .i64 ax, .int .i64 ay, .int .i64 bx, .int .i64 bY] ∧ Below w.heap.size w w' := by
 have hmf : ∀ (fn : Fn) (first cap : Array Value) (w : World), (Instr.makeFunc fn first cap).run Tryz.prog w = .ok (.func fn first cap) w := fun _ _ _ _ => rfl
 unfold segV
 go_enter Tryz.func98, Tryz.ntmps98
 go_wp2
 go_ret
 exact ⟨_, rfl, Nat.le_refl _, Row.at rfl _ _, (Below.refl _ _).alloc (Nat.le_refl _) _⟩
set_option maxRecDepth 100000 in
set_option maxHeartbeats 4000000 in
theorem check_seg (ax ay bx bY : Int) (w : World) (h1 : Bd ax) (h2 : Bd ay) (h3 : Bd bx) (h4 : Bd bY) (hne : ¬ (ax = bx ∧ ay = bY)) :
 Calls Tryz.prog 59 #[segV ax ay bx bY] w fun e w' => e = .returned (.int .i64 0) ∧ Below w.heap.size w w' := by
 have HT : Hid (∀ x : Int × Int, x ∈ [(ax, ay), (bx, bY)] → ∀ W, Calls Tryz.prog 99 #[nodeV x.1 x.2] W fun e w' => e = .returned (.int .i64 0) ∧ Below W.heap.size W w') := Lib.hid (fun x hx W => by
  have hb : inB x.1 = true ∧ inB x.2 = true := by
   rcases (by simpa using hx : x = (ax, ay) ∨ x = (bx, bY)) with rfl | rfl
   ·exact ⟨(inB_iff _).2 h1, (inB_iff _).2 h2⟩
   ·exact ⟨(inB_iff _).2 h3, (inB_iff _).2 h4⟩
  have := nodes_any x.1 x.2 W
  rwa [hb.1, hb.2] at this)
 have hE : (ax == bx && ay == bY) = false := by
  cases h : (ax == bx && ay == bY)
  ·rfl
  ·simp at h; exact absurd h hne
 clear hne h1 h2 h3 h4
 have n1 : ∀ W, (binOp .eql 23 (.agg #[.int .i64 ax, .int .i64 ay]) (.agg #[.int .i64 bx, .int .i64 bY])).run Tryz.prog W = .ok (.bool (ax == bx && ay == bY)) W := fun W => eqlNode ax ay bx bY W
 rw [hE] at n1
 have HN := Lib.hid n1
 clear n1 hE
 unfold segV
 refine (callsIn_wide (n := 9)).1 ?_
 refine callsIn_of_wp_marks Tryz.func59 rfl trivial ?_ rfl
 simp only [Tryz.ntmps59, List.size_toArray, List.length_cons, List.length_nil, Nat.reduceAdd, Nat.reduceSub, Array.replicate_succ, Array.replicate_zero, List.push_toArray, List.append_toArray, List.nil_append, List.cons_append]
 refine wpIn_wide.2 ?_
 go_wp2_with fail
 generalize hW : World.alloc _ _ = W0
 have hR : Row W0 w.heap.size [.int .i64 ax, .int .i64 ay, .int .i64 bx, .int .i64 bY] := by rw [← hW]; exact (Row.at rfl _ _).alloc _
 have hR2 : Row W0 (w.heap.size + 1) [.int .i64 0] := by rw [← hW]; exact Row.at (by simp) _ _
 have hB : Below w.heap.size w W0 := by rw [← hW]; exact ((Below.refl _ _).alloc (Nat.le_refl _) _).alloc (by simp) _
 clear hW
 refine (ends_any ax ay bx bY _).mono ?_
 rintro e W1 ⟨E, rfl, hEs, hRE, hb⟩
 replace hR := hR.after hb
 replace hR2 := hR2.after hb
 replace hB := hB.trans (hb.mono hB.size)
 have hW0 := hb.size
 clear hb
 go_wp2_with fail
 refine (wpIn_wide (n := 9)).1 ?_
 refine wpIn_range_u (α := Int × Int) rfl (by omega) (gf := 124) (lb := #[.pointer (some ⟨E, 0, none⟩)]) rfl trivial (enters_of Tryz.func124 (by kernel_rfl) rfl)
  (ends_u 7 E ax ay bx bY W1 hRE) KeepsB.trans (fun _ l W _ o' h _ _ _ => KeepsB.turn W o' (by have := hRE.1; omega)) (fun _ _ _ h => KeepsB.below h) (Below.refl _ _) (fun _ => rfl)
  (fun _ W => Row W w.heap.size [.int .i64 ax, .int .i64 ay, .int .i64 bx, .int .i64 bY] ∧ Row W (w.heap.size + 1) [.int .i64 0] ∧ Below w.heap.size w W) (fun _ _ _ => False)
  (fun _ X Y h hb => ⟨h.1.below hb hR.1, h.2.1.below hb hR2.1, h.2.2.trans (hb.mono hB.size)⟩) (fun _ _ _ _ h _ => h.elim) ⟨hR, hR2, hB⟩
  (fun x a' W => ∃ Ba, W1.heap.size + 2 ≤ Ba ∧ Row W Ba [.int .i64 x.1, .int .i64 x.2] ∧ a' = { tmps := #[.agg #[.int .i64 ax, .int .i64 ay, .int .i64 bx, .int .i64 bY], .pointer (some ⟨w.heap.size, 0, none⟩), .pointer (some ⟨w.heap.size + 1, 0, none⟩), .pointer (some ⟨Ba, 0, none⟩), undef, .agg #[.int .i64 ax, .int .i64 ay, .int .i64 bx, .int .i64 bY], .func (.func 124) #[] #[.pointer (some ⟨E, 0, none⟩)], .agg #[.int .i64 x.1, .int .i64 x.2], undef, undef, undef, undef, undef, undef, undef, undef, undef, undef], defers := [] })
  (fun x a' W lo o h1 h2 ⟨Ba, ha, r1, e⟩ => ⟨Ba, ha, r1.turn (by omega) o, e⟩) ?assign ?body ?done ?stop
 case assign =>
  intro l' pre x W K hI hW hK
  clear hI
  unfold encN
  gi_wp2
  exact hK _ _ ((Below.refl _ _).alloc (Nat.le_refl _) _) ⟨W.heap.size, hW, Row.at rfl _ _, rfl⟩
 case body =>
  rintro l' pre x a' W ⟨hI1, hI2, hI3⟩ hW hp ⟨Ba, hBa, r1, rfl⟩
  have hx : x ∈ [(ax, ay), (bx, bY)] := hp.subset (by simp)
  have HC := Lib.hid (HT.out x hx)
  have a0 := r1.c 0 rfl
  have a1 := r1.c 1 rfl
  have HI := Lib.hid (And.intro hI1 (And.intro hI2 hI3))
  clear hx hp hI1 hI2 hI3 r1
  gi_wp2_with fail
  refine ⟨trivial, callsIn_wide.2 ((HC.out _).mono ?_)⟩
  rintro e W3 ⟨rfl, hb⟩
  clear a0 a1
  gi_wp2_with fail
  exact ⟨(keeps_below hb).from _, KeepsB.below hb, HI.out.1.after hb, HI.out.2.1.after hb, HI.out.2.2.trans (hb.mono HI.out.2.2.size)⟩
 case stop => exact fun _ _ _ _ _ _ h => h.elim
 case done =>
  rintro D V hD ⟨hI1, hI2, hI3⟩ hK
  have x0 := hI1.c 0 rfl
  have x1 := hI1.c 1 rfl
  have x2 := hI1.c 2 rfl
  have x3 := hI1.c 3 rfl
  have y0 := hI2.c 0 rfl
  have f0 := hI2.f 0 rfl
  have n1 := HN.out
  have HI := Lib.hid (And.intro hI2 hI3)
  have hD1 : D < V.heap.size := (Array.getElem?_eq_some_iff.1 hK).1
  have hs1 := hR2.1
  have HK := Lib.hid hK
  clear hI1 hI2 hI3 hK hR hR2 hRE
  go_wp2_with fail
  have hM : Marks W1.heap.size [D] (V.setCell ⟨w.heap.size + 1, 0, none⟩ (.int .i64 0)) := ⟨hD, (Below.heap_setCell _ _ _ _ (by show D ≠ w.heap.size + 1; omega)).trans HK.out, by simp, trivial⟩
  have r7 := HI.out.1.set 0 (by simp) (.int .i64 0)
  have hb7 : Below w.heap.size w (V.setCell ⟨w.heap.size + 1, 0, none⟩ (.int .i64 0)) := below_put1 HI.out.2 (by omega) _ _
  generalize V.setCell ⟨w.heap.size + 1, 0, none⟩ (.int .i64 0) = V4 at *
  refine leaves_marks [D] V4 hM fun V5 hV => ?_
  have c1 := (r7.below hV hs1).c 0 rfl
  exact ⟨.int .i64 0, by simp [results, Tryz.results59, go_sem, c1], rfl, hb7.trans (hV.mono hB.size)⟩
abbrev lineA (ax ay bx bY r u : Int) : Array Value := #[.int .i64 ax, .int .i64 ay, .int .i64 bx, .int .i64 bY, .int .i64 r, .int .i64 u]
theorem agg_sline : AggTy Tryz.prog 80 6 := .of _ Tryz.underlying80 rfl (by kernel_rfl)
set_option maxRecDepth 100000 in
set_option maxHeartbeats 1600000 in
theorem segfrom_any (ax ay bx bY : Int) (w : World) (h1 : Bd ax) (h2 : Bd ay) (h3 : Bd bx) (h4 : Bd bY) :
 Calls Tryz.prog 60 #[.agg (segA ax ay bx bY)] w fun e w' => e = .returned (.agg (lineA ax ay bx bY (bx - ax) (bY - ay))) ∧ Below w.heap.size w w' := by
 have e1 : wrap64 (bx - ax) = bx - ax := by unfold Bd at h1 h3; exact wrap_in (by omega) (by omega)
 have e2 : wrap64 (bY - ay) = bY - ay := by unfold Bd at h2 h4; exact wrap_in (by omega) (by omega)
 clear h1 h2 h3 h4
 have HB := Lib.hid (fun o o2 => ((Below.refl w.heap.size w).alloc (Nat.le_refl _) o).alloc (by simp) o2)
 go_enter Tryz.func60, Tryz.ntmps60
 go_wp2_with fail
 exact bodyPost_ret (results_R1 (cs := lineA ax ay bx bY (bx - ax) (bY - ay)) rfl rfl (Row.at (by simp) _ _) agg_sline) rfl ⟨rfl, HB.out _ _⟩
def turnB (r u : Int) : Bool := decide (r < 0) || (decide (r = 0) && decide (u < 0))
set_option maxRecDepth 100000 in
set_option maxHeartbeats 1600000 in
theorem laid_any (ax ay bx bY r u : Int) (w : World) :
 Calls Tryz.prog 86 #[.agg (lineA ax ay bx bY r u)] w fun e w' => e = .returned (.agg (if turnB r u = true then segA bx bY ax ay else segA ax ay bx bY)) ∧ Below w.heap.size w w' := by
 have HB := Lib.hid (fun o o2 => ((Below.refl w.heap.size w).alloc (Nat.le_refl _) o).alloc (by simp) o2)
 by_cases h1 : r < 0
 ·have HT := Lib.hid (show turnB r u = true by simp [turnB, h1])
  rw [HT.out, if_pos rfl]
  go_enter Tryz.func86, Tryz.ntmps86
  go_wp2_with fail
  exact bodyPost_ret (results_R1 (cs := segA bx bY ax ay) rfl rfl (Row.at (by simp) _ _) agg_seg) rfl ⟨rfl, HB.out _ _⟩
 ·by_cases h2 : r = 0
  ·subst h2
   by_cases h3 : u < 0
   ·have HT := Lib.hid (show turnB 0 u = true by simp [turnB, h3])
    rw [HT.out, if_pos rfl]
    go_enter Tryz.func86, Tryz.ntmps86
    go_wp2_with fail
    exact bodyPost_ret (results_R1 (cs := segA bx bY ax ay) rfl rfl (Row.at (by simp) _ _) agg_seg) rfl ⟨rfl, HB.out _ _⟩
   ·have HT := Lib.hid (show turnB 0 u = false by simp [turnB, h3])
    rw [HT.out, if_neg (by decide)]
    go_enter Tryz.func86, Tryz.ntmps86
    go_wp2_with fail
    exact bodyPost_ret (results_R1 (cs := segA ax ay bx bY) rfl rfl (Row.at (by simp) _ _) agg_seg) rfl ⟨rfl, HB.out _ _⟩
  ·have HT := Lib.hid (show turnB r u = false by simp [turnB, h1, h2])
   rw [HT.out, if_neg (by decide)]
   go_enter Tryz.func86, Tryz.ntmps86
   go_wp2_with fail
   exact bodyPost_ret (results_R1 (cs := segA ax ay bx bY) rfl rfl (Row.at (by simp) _ _) agg_seg) rfl ⟨rfl, HB.out _ _⟩
end Go.Proofs.YteolocchmhpggaaGreatDoor

namespace Go.Proofs.YteolocchmhpggaaGreatDoor
open Go.RowKit

theorem KB.toBelow' {B N : Nat} {a w : World} (h : KB B N a w) (hN : B ≤ N) : Below B a w := ⟨h.os, h.tape, h.output, h.size, fun k hk => h.block k hk (by omega)⟩
theorem KB.ofBelow {B N : Nat} {a w : World} (h : Below B a w) : KB B N a w := ⟨h.os, h.tape, h.output, h.size, fun k hk _ => h.block k hk⟩
abbrev laidA (ax ay bx bY : Int) : Array Value := if turnB (bx - ax) (bY - ay) = true then segA bx bY ax ay else segA ax ay bx bY
theorem laidA_four (ax ay bx bY : Int) : ∃ p0 p1 p2 p3, laidA ax ay bx bY = segA p0 p1 p2 p3 := by unfold laidA; split <;> exact ⟨_, _, _, _, rfl⟩
theorem KT.put4 {w W : World} {L : List (Nat × Array Value)} {M : List (Nat × Nat)} {b n : Nat} (h : KT w L M W) (hm : (b, n) ∈ M) (y0 y1 y2 y3 : Value) : KT w L M ((((W.setCell ⟨b, 0, none⟩ y0).setCell ⟨b, 1, none⟩ y1).setCell ⟨b, 2, none⟩ y2).setCell ⟨b, 3, none⟩ y3) := h.put hm [y0, y1, y2, y3]
set_option maxRecDepth 100000 in
set_option maxHeartbeats 3200000 in
theorem told1_seg (S A : Nat) (ax ay bx bY : Int) (w : World) (h1 : Bd ax) (h2 : Bd ay) (h3 : Bd bx) (h4 : Bd bY) (hne : ¬ (ax = bx ∧ ay = bY)) (hS : Row w S (segA ax ay bx bY).toList) (hA : Row w A [.func (.func 86) #[] #[]]) :
 Calls Tryz.prog 118 #[.pointer (some ⟨S, 0, none⟩), .pointer (some ⟨A, 0, none⟩)] w fun e w' => e = .returned (.agg (laidA ax ay bx bY)) ∧ Below w.heap.size w w' := by
 have H1 := Lib.hid (fun W => check_seg ax ay bx bY W h1 h2 h3 h4 hne)
 have H2 := Lib.hid (fun W => segfrom_any ax ay bx bY W h1 h2 h3 h4)
 have H3 := Lib.hid (fun W => laid_any ax ay bx bY (bx - ax) (bY - ay) W)
 have HL3 : Hid (∀ W, Calls Tryz.prog 86 #[.agg (lineA ax ay bx bY (bx - ax) (bY - ay))] W fun e w' => e = .returned (.agg (laidA ax ay bx bY)) ∧ Below W.heap.size W w') := H3
 clear h1 h2 h3 h4 hne H3
 obtain ⟨p0, p1, p2, p3, hcs⟩ := laidA_four ax ay bx bY
 rw [hcs] at HL3 ⊢
 clear hcs
 generalize bx - ax = r at H2 HL3
 generalize bY - ay = u at H2 HL3
 unfold segV at H1
 have eL : ∀ (args : Array Value) (w : World), (callFunc 86 args).run Tryz.prog w = .ok (.enter 86 args) w := fun args w => Tryz.call86 args w
 have hK : KT w ([] ++ [(S, segA ax ay bx bY)] ++ [(A, #[.func (.func 86) #[] #[]])]) ([] ++ [(w.heap.size, 4)]) (w.alloc (.cells (segA 0 0 0 0) 25)) := (KT.of (((KS.nil w).more hS).more hA)).made rfl (segA 0 0 0 0) _ rfl
 have x0 := hS.c 0 rfl
 have x1 := hS.c 1 rfl
 have x2 := hS.c 2 rfl
 have x3 := hS.c 3 rfl
 have lS := hS.1
 clear hS hA
 generalize hL : [] ++ [(S, segA ax ay bx bY)] ++ [(A, #[Value.func (.func 86) #[] #[]])] = L at hK
 generalize hM : [] ++ [(w.heap.size, 4)] = M at hK
 have HL := Lib.hid hL; clear hL
 have HM := Lib.hid (show (w.heap.size, 4) ∈ M by rw [← hM]; simp); clear hM
 have HK := Lib.hid hK; clear hK
 go_enter Tryz.func118, Tryz.ntmps118
 go_wp2_with fail
 refine (H1.out _).mono ?_
 rintro e w1 ⟨rfl, hb⟩
 have hK := HK.out.after hb
 clear HK hb x0 x1 x2 x3 lS
 go_wp2_with fail
 refine (for_okS _).mono ?_
 rintro e w2 ⟨rfl, rfl⟩
 have l0 : ∀ W, KT w L M W → W.cell? ⟨S, 0, none⟩ = some (.int .i64 ax) := fun W h => h.c 0 (by rw [← HL.out]; rfl) 0 rfl
 have l1 : ∀ W, KT w L M W → W.cell? ⟨S, 1, none⟩ = some (.int .i64 ay) := fun W h => h.c 0 (by rw [← HL.out]; rfl) 1 rfl
 have l2 : ∀ W, KT w L M W → W.cell? ⟨S, 2, none⟩ = some (.int .i64 bx) := fun W h => h.c 0 (by rw [← HL.out]; rfl) 2 rfl
 have l3 : ∀ W, KT w L M W → W.cell? ⟨S, 3, none⟩ = some (.int .i64 bY) := fun W h => h.c 0 (by rw [← HL.out]; rfl) 3 rfl
 have m0 : ∀ W, KT w L M W → W.cell? ⟨A, 0, none⟩ = some (.func (.func 86) #[] #[]) := fun W h => h.c 1 (by rw [← HL.out]; rfl) 0 rfl
 have qc0 : ∀ W, KT w L M W → W.cell? ⟨w.heap.size, 0, none⟩ = some (cellAt W w.heap.size 0) := fun W h => h.here HM.out 0 (by decide)
 have qf0 : ∀ W, KT w L M W → W.frozen? ⟨w.heap.size, 0, none⟩ = false := fun W h => h.free HM.out 0 (by decide)
 have qc1 : ∀ W, KT w L M W → W.cell? ⟨w.heap.size, 1, none⟩ = some (cellAt W w.heap.size 1) := fun W h => h.here HM.out 1 (by decide)
 have qf1 : ∀ W, KT w L M W → W.frozen? ⟨w.heap.size, 1, none⟩ = false := fun W h => h.free HM.out 1 (by decide)
 have qc2 : ∀ W, KT w L M W → W.cell? ⟨w.heap.size, 2, none⟩ = some (cellAt W w.heap.size 2) := fun W h => h.here HM.out 2 (by decide)
 have qf2 : ∀ W, KT w L M W → W.frozen? ⟨w.heap.size, 2, none⟩ = false := fun W h => h.free HM.out 2 (by decide)
 have qc3 : ∀ W, KT w L M W → W.cell? ⟨w.heap.size, 3, none⟩ = some (cellAt W w.heap.size 3) := fun W h => h.here HM.out 3 (by decide)
 have qf3 : ∀ W, KT w L M W → W.frozen? ⟨w.heap.size, 3, none⟩ = false := fun W h => h.free HM.out 3 (by decide)
 go_wp2_with fail
 have hk0 := hK.drew
 go_region_held3 (fun w' : World => KT w L M w')
  (first
    | (with_reducible assumption)
    | (with_reducible refine KT.drew ?_; with_reducible assumption)
    | (with_reducible refine KT.put4 ?_ HM.out _ _ _ _; with_reducible assumption)
    | (with_reducible refine KT.alloc ?_ _; with_reducible assumption)
    | (with_reducible refine KT.after ?_ hb; with_reducible assumption))
  (first
    | (go_at_call 60; (with_reducible refine (H2.out _).mono ?_); rintro e w' ⟨rfl, hb⟩)
    | (go_at_call 86; (with_reducible refine (HL3.out _).mono ?_); rintro e w' ⟨rfl, hb⟩))
 all_goals
  have hq := ‹KT w L M _›
  have hr := hq.put_row (cs := [_, _, _, _]) HM.out rfl
  clear l0 l1 l2 l3 m0 qc0 qc1 qf0 qf1 qc2 qc3 qf2 qf3
  go_wp2
  exact bodyPost_ret (results_R1 (cs := segA p0 p1 p2 p3) rfl rfl hr agg_seg) rfl ⟨rfl, hq.1.2⟩
set_option maxRecDepth 100000 in
set_option maxHeartbeats 1600000 in
theorem toldseg_any (ax ay bx bY : Int) (w : World) (h1 : Bd ax) (h2 : Bd ay) (h3 : Bd bx) (h4 : Bd bY) (hne : ¬ (ax = bx ∧ ay = bY)) :
 Calls Tryz.prog 85 #[.agg (segA ax ay bx bY), .func (.func 86) #[] #[]] w fun e w' => e = .returned (.tuple #[.agg (laidA ax ay bx bY), .int .i64 0]) ∧ Below w.heap.size w w' := by
 have hmf : ∀ (fn : Fn) (first cap : Array Value) (w : World), (Instr.makeFunc fn first cap).run Tryz.prog w = .ok (.func fn first cap) w := fun _ _ _ _ => rfl
 have H1 := Lib.hid (fun S A W hS hA => told1_seg S A ax ay bx bY W h1 h2 h3 h4 hne hS hA)
 clear h1 h2 h3 h4 hne
 obtain ⟨p0, p1, p2, p3, hcs⟩ := laidA_four ax ay bx bY
 rw [hcs] at H1 ⊢
 clear hcs
 go_enter Tryz.func85, Tryz.ntmps85
 go_wp2_with fail
 have r0 := ((Row.at (w := w) rfl (segA ax ay bx bY).toList 25).alloc (.cells #[.func (.func 86) #[] #[]] 135)).alloc (.cells (segA 0 0 0 0) 25)
 have r1 := (Row.at (w := w.alloc (.cells (segA ax ay bx bY) 25)) (n := w.heap.size + 1) (by simp) [.func (.func 86) #[] #[]] 135).alloc (.cells (segA 0 0 0 0) 25)
 have r2 := Row.at (w := (w.alloc (.cells (segA ax ay bx bY) 25)).alloc (.cells #[.func (.func 86) #[] #[]] 135)) (n := w.heap.size + 1 + 1) (by simp) (segA 0 0 0 0).toList 25
 have hb0 := (((Below.refl w.heap.size w).alloc (Nat.le_refl _) (.cells (segA ax ay bx bY) 25)).alloc (by simp) (.cells #[.func (.func 86) #[] #[]] 135)).alloc (by simp; omega) (.cells (segA 0 0 0 0) 25)
 generalize World.alloc _ _ = W0 at *
 refine (caught_seg 118 #[.pointer (some ⟨w.heap.size, 0, none⟩), .pointer (some ⟨w.heap.size + 1, 0, none⟩)] w.heap.size (.val (segA p0 p1 p2 p3)) _ r0.1 ⟨rfl, segA_one _ _ _ _⟩ (fun _ _ => Tryz.call118 _ _)
  (fun W hW => (H1.out _ _ W (r0.after hW) (r1.after hW)).mono (fun e w' h => ⟨h.1, KB.ofBelow h.2⟩))).mono ?_
 rintro e w1 ⟨rfl, hk⟩
 have hK := ((KB.refl w.heap.size w.heap.size w).below hb0 (Nat.le_refl _)).trans hk hb0.size
 replace r2 := r2.kb hk (by omega)
 have hl := r2.1
 clear r0 r1 hk hb0 H1
 simp only [Got.ans]
 have z0 := r2.c 0 rfl
 have z1 := r2.c 1 rfl
 have z2 := r2.c 2 rfl
 have z3 := r2.c 3 rfl
 have f0 := r2.f 0 rfl
 have f1 := r2.f 1 rfl
 have f2 := r2.f 2 rfl
 have f3 := r2.f 3 rfl
 go_wp2_with fail
 exact bodyPost_ret (results_R2 (cs := segA p0 p1 p2 p3) rfl rfl (r2.putAll [_, _, _, _] rfl) agg_seg) rfl ⟨rfl, below_put1 (below_put1 (below_put1 (below_put1 (hK.toBelow' (Nat.le_refl _)) (by omega) _ _) (by omega) _ _) (by omega) _ _) (by omega) _ _⟩
set_option maxRecDepth 100000 in
set_option maxHeartbeats 1600000 in
theorem Laid_any (ax ay bx bY : Int) (w : World) (h1 : Bd ax) (h2 : Bd ay) (h3 : Bd bx) (h4 : Bd bY) (hne : ¬ (ax = bx ∧ ay = bY)) :
 Calls Tryz.prog 50 #[.agg (segA ax ay bx bY)] w fun e w' => e = .returned (.tuple #[.agg (laidA ax ay bx bY), .int .i64 0]) ∧ Below w.heap.size w w' := by
 have H1 := Lib.hid (fun W => toldseg_any ax ay bx bY W h1 h2 h3 h4 hne)
 clear h1 h2 h3 h4 hne
 obtain ⟨p0, p1, p2, p3, hcs⟩ := laidA_four ax ay bx bY
 rw [hcs] at H1 ⊢
 clear hcs
 go_enter Tryz.func50, Tryz.ntmps50
 go_wp2_with fail
 have r1 := Row.at (w := w.alloc (.cells (segA ax ay bx bY) 25)) (n := w.heap.size + 1) (by simp) (segA 0 0 0 0).toList 25
 have hb0 := ((Below.refl w.heap.size w).alloc (Nat.le_refl _) (.cells (segA ax ay bx bY) 25)).alloc (by simp) (.cells (segA 0 0 0 0) 25)
 generalize World.alloc _ _ = W0 at *
 refine (H1.out _).mono ?_
 rintro e w1 ⟨rfl, hb⟩
 replace r1 := r1.after hb
 replace hb0 := hb0.trans (hb.mono hb0.size)
 have hl := r1.1
 clear hb H1
 have z0 := r1.c 0 rfl
 have z1 := r1.c 1 rfl
 have z2 := r1.c 2 rfl
 have z3 := r1.c 3 rfl
 have f0 := r1.f 0 rfl
 have f1 := r1.f 1 rfl
 have f2 := r1.f 2 rfl
 have f3 := r1.f 3 rfl
 go_wp2_with fail
 exact bodyPost_ret (results_R2 (cs := segA p0 p1 p2 p3) rfl rfl (r1.putAll [_, _, _, _] rfl) agg_seg) rfl ⟨rfl, below_put1 (below_put1 (below_put1 (below_put1 hb0 (by omega) _ _) (by omega) _ _) (by omega) _ _) (by omega) _ _⟩
set_option maxRecDepth 100000 in
set_option maxHeartbeats 1600000 in
theorem xfrom_any (ax ay bx bY : Int) (w : World) (h1 : Bd ax) (h2 : Bd ay) (h3 : Bd bx) (h4 : Bd bY) (hne : ¬ (ax = bx ∧ ay = bY)) :
 Calls Tryz.prog 24 #[.agg (segA ax ay bx bY)] w fun e w' => e = .returned (.agg (laidA ax ay bx bY)) ∧ Below w.heap.size w w' := by
 have H1 := Lib.hid (fun W => Laid_any ax ay bx bY W h1 h2 h3 h4 hne)
 clear h1 h2 h3 h4 hne
 obtain ⟨p0, p1, p2, p3, hcs⟩ := laidA_four ax ay bx bY
 rw [hcs] at H1 ⊢
 clear hcs
 have H2 := Lib.hid (fun W => must_seg (segA p0 p1 p2 p3) rfl (segA_one _ _ _ _) W)
 go_enter Tryz.func24, Tryz.ntmps24
 go_wp2_with fail
 have r1 := Row.at (w := w.alloc (.cells (segA ax ay bx bY) 25)) (n := w.heap.size + 1) (by simp) (segA 0 0 0 0).toList 72
 have hb0 := ((Below.refl w.heap.size w).alloc (Nat.le_refl _) (.cells (segA ax ay bx bY) 25)).alloc (by simp) (.cells (segA 0 0 0 0) 72)
 generalize World.alloc _ _ = W0 at *
 refine (H1.out _).mono ?_
 rintro e w1 ⟨rfl, hb⟩
 replace r1 := r1.after hb
 replace hb0 := hb0.trans (hb.mono hb0.size)
 clear hb H1
 go_wp2_with fail
 refine (H2.out _).mono ?_
 rintro e w2 ⟨rfl, hb⟩
 replace r1 := r1.after hb
 replace hb0 := hb0.trans (hb.mono hb0.size)
 have hl := r1.1
 clear hb H2
 have z0 := r1.c 0 rfl
 have z1 := r1.c 1 rfl
 have z2 := r1.c 2 rfl
 have z3 := r1.c 3 rfl
 have f0 := r1.f 0 rfl
 have f1 := r1.f 1 rfl
 have f2 := r1.f 2 rfl
 have f3 := r1.f 3 rfl
 go_wp2_with fail
 exact bodyPost_ret (results_R1 (cs := segA p0 p1 p2 p3) rfl rfl (r1.putAll [_, _, _, _] rfl) agg_line) rfl ⟨rfl, below_put1 (below_put1 (below_put1 (below_put1 hb0 (by omega) _ _) (by omega) _ _) (by omega) _ _) (by omega) _ _⟩
end Go.Proofs.YteolocchmhpggaaGreatDoor

namespace Go.Proofs.YteolocchmhpggaaGreatDoor
open Go.RowKit
attribute [local go_sem] Oper.semAt_some

def ndB (x : Int × Int) : Bool := inB x.1 && inB x.2
def ckI (ax ay bx bY : Int) : Int := if (ndB (ax, ay) && (ndB (bx, bY) && !(ax == bx && ay == bY))) = true then 0 else 2
theorem KeepsFrom.put {s b : Nat} {X Y : World} (h : KeepsFrom s X Y) (hb : b < s) (v : Value) : KeepsFrom s X (Y.setCell ⟨b, 0, none⟩ v) :=
 ⟨by simpa [World.setCell] using h.1, fun k o hk h1 h2 => (Below.heap_setCell _ _ _ _ (by show k ≠ b; omega)).trans (h.2 k o hk h1 h2)⟩
theorem KeepsB.put {E b : Nat} {X Y : World} (h : KeepsB E X Y) (hne : E ≠ b) (v : Value) : KeepsB E X (Y.setCell ⟨b, 0, none⟩ v) :=
 ⟨by simpa [World.setCell] using h.1, fun hl => (Below.heap_setCell _ _ _ _ hne).trans (h.2 hl)⟩
set_option maxRecDepth 100000 in
set_option maxHeartbeats 4000000 in
theorem check_any4 (ax ay bx bY : Int) (w : World) :
 Calls Tryz.prog 59 #[segV ax ay bx bY] w fun e w' => e = .returned (.int .i64 (ckI ax ay bx bY)) ∧ Below w.heap.size w w' := by
 have HT : Hid (∀ x : Int × Int, ∀ W, Calls Tryz.prog 99 #[nodeV x.1 x.2] W fun e w' => e = .returned (.int .i64 (if ndB x = true then 0 else 2)) ∧ Below W.heap.size W w') := Lib.hid (fun x W => nodes_any x.1 x.2 W)
 have n1 : ∀ W, (binOp .eql 23 (.agg #[.int .i64 ax, .int .i64 ay]) (.agg #[.int .i64 bx, .int .i64 bY])).run Tryz.prog W = .ok (.bool (ax == bx && ay == bY)) W := fun W => eqlNode ax ay bx bY W
 have HN := Lib.hid n1
 clear n1
 have HV : Hid (∀ v : Int, (((∀ x, x ∈ [(ax, ay), (bx, bY)] → ndB x = true) ∧ v = (if (ax == bx && ay == bY) = true then 2 else 0)) ∨ ((∃ x, x ∈ [(ax, ay), (bx, bY)] ∧ ndB x = false) ∧ v = 2)) → v = ckI ax ay bx bY) := Lib.hid (by
  intro v h
  unfold ckI
  rcases h with ⟨h1, h2⟩ | ⟨⟨x, hx, h1⟩, h2⟩
  ·rw [h2, h1 (ax, ay) (by simp), h1 (bx, bY) (by simp)]
   cases (ax == bx && ay == bY) <;> rfl
  ·rw [h2]
   rcases (by simpa using hx : x = (ax, ay) ∨ x = (bx, bY)) with rfl | rfl
   ·rw [h1]; rfl
   ·rw [h1]; cases ndB (ax, ay) <;> rfl)
 unfold segV
 refine (callsIn_wide (n := 9)).1 ?_
 refine callsIn_of_wp_marks Tryz.func59 rfl trivial ?_ rfl
 simp only [Tryz.ntmps59, List.size_toArray, List.length_cons, List.length_nil, Nat.reduceAdd, Nat.reduceSub, Array.replicate_succ, Array.replicate_zero, List.push_toArray, List.append_toArray, List.nil_append, List.cons_append]
 refine wpIn_wide.2 ?_
 go_wp2_with fail
 generalize hW : World.alloc _ _ = W0
 have hR : Row W0 w.heap.size [.int .i64 ax, .int .i64 ay, .int .i64 bx, .int .i64 bY] := by rw [← hW]; exact (Row.at rfl _ _).alloc _
 have hR2 : Row W0 (w.heap.size + 1) [.int .i64 0] := by rw [← hW]; exact Row.at (by simp) _ _
 have hZ : w.heap.size + 1 < W0.heap.size := hR2.1
 have hB : Below w.heap.size w W0 := by rw [← hW]; exact ((Below.refl _ _).alloc (Nat.le_refl _) _).alloc (by simp) _
 clear hW
 refine (ends_any ax ay bx bY _).mono ?_
 rintro e W1 ⟨E, rfl, hEs, hRE, hb⟩
 replace hR := hR.after hb
 replace hR2 := hR2.after hb
 replace hB := hB.trans (hb.mono hB.size)
 have hW0 := hb.size
 clear hb
 go_wp2_with fail
 refine (wpIn_wide (n := 9)).1 ?_
 refine wpIn_range_u (α := Int × Int) rfl (by omega) (gf := 124) (lb := #[.pointer (some ⟨E, 0, none⟩)]) rfl trivial (enters_of Tryz.func124 (by kernel_rfl) rfl)
  (ends_u 7 E ax ay bx bY W1 hRE) KeepsB.trans (fun _ l W _ o' h _ _ _ => KeepsB.turn W o' (by have := hRE.1; omega)) (fun _ _ _ h => KeepsB.below h) (Below.refl _ _) (fun _ => rfl)
  (fun pre W => Row W w.heap.size [.int .i64 ax, .int .i64 ay, .int .i64 bx, .int .i64 bY] ∧ Row W (w.heap.size + 1) [.int .i64 0] ∧ Below w.heap.size w W ∧ ∀ x, x ∈ pre → ndB x = true) (fun c pre W => c = .ret ∧ Row W (w.heap.size + 1) [.int .i64 2] ∧ Below w.heap.size w W ∧ ∃ x, x ∈ pre ∧ ndB x = false)
  (fun _ X Y h hb => ⟨h.1.below hb hR.1, h.2.1.below hb hR2.1, h.2.2.1.trans (hb.mono hB.size), h.2.2.2⟩) (fun _ _ X Y h hb => ⟨h.1, h.2.1.below hb hR2.1, h.2.2.1.trans (hb.mono hB.size), h.2.2.2⟩) ⟨hR, hR2, hB, fun _ hx => absurd hx (by simp)⟩
  (fun x a' W => ∃ Ba, W1.heap.size + 2 ≤ Ba ∧ Row W Ba [.int .i64 x.1, .int .i64 x.2] ∧ a' = { tmps := #[.agg #[.int .i64 ax, .int .i64 ay, .int .i64 bx, .int .i64 bY], .pointer (some ⟨w.heap.size, 0, none⟩), .pointer (some ⟨w.heap.size + 1, 0, none⟩), .pointer (some ⟨Ba, 0, none⟩), undef, .agg #[.int .i64 ax, .int .i64 ay, .int .i64 bx, .int .i64 bY], .func (.func 124) #[] #[.pointer (some ⟨E, 0, none⟩)], .agg #[.int .i64 x.1, .int .i64 x.2], undef, undef, undef, undef, undef, undef, undef, undef, undef, undef], defers := [] })
  (fun x a' W lo o h1 h2 ⟨Ba, ha, r1, e⟩ => ⟨Ba, ha, r1.turn (by omega) o, e⟩) ?assign ?body ?done ?stop
 case assign =>
  intro l' pre x W K hI hW hK
  clear hI
  unfold encN
  gi_wp2
  exact hK _ _ ((Below.refl _ _).alloc (Nat.le_refl _) _) ⟨W.heap.size, hW, Row.at rfl _ _, rfl⟩
 case body =>
  rintro l' pre x a' W ⟨hI1, hI2, hI3, hI4⟩ hW hp ⟨Ba, hBa, r1, rfl⟩
  have HC := Lib.hid (HT.out x)
  have a0 := r1.c 0 rfl
  have a1 := r1.c 1 rfl
  have HI := Lib.hid (And.intro hI1 (And.intro hI2 (And.intro hI3 hI4)))
  have HS := Lib.hid hR2.1
  have HW1 := Lib.hid hW0
  clear hp hI1 hI2 hI3 hI4 r1
  gi_wp2_with fail
  refine ⟨trivial, callsIn_wide.2 ((HC.out _).mono ?_)⟩
  rintro e W3 ⟨rfl, hb⟩
  clear a0 a1
  cases hx : ndB x
  ·have r2 := HI.out.2.1.after hb
   have c0 := r2.c 0 rfl
   have f0 := r2.f 0 rfl
   have HX := Lib.hid hx
   clear hx
   simp only [Bool.false_eq_true, if_false]
   have hs1 := hR2.1
   have hEs2 := hEs
   gi_wp2_with fail
   exact ⟨KeepsFrom.put ((keeps_below hb).from _) hs1 _, KeepsB.put (KeepsB.below hb) (by omega) _, rfl, r2.set 0 (by simp) (.int .i64 2), below_put1 (HI.out.2.2.1.trans (hb.mono HI.out.2.2.1.size)) (by omega) _ _, x, by simp, HX.out⟩
  ·have HX := Lib.hid hx
   clear hx
   simp only [if_true]
   gi_wp2_with fail
   refine ⟨(keeps_below hb).from _, KeepsB.below hb, HI.out.1.after hb, HI.out.2.1.after hb, HI.out.2.2.1.trans (hb.mono HI.out.2.2.1.size), fun y hy => ?_⟩
   rcases List.mem_append.1 hy with h | h
   ·exact HI.out.2.2.2 y h
   ·obtain rfl := List.mem_singleton.1 h; exact HX.out
 case stop =>
  rintro D c pre V hD hpre ⟨rfl, hI2, hI3, x, hx, hx2⟩ hK
  have hv : (2 : Int) = ckI ax ay bx bY := HV.out 2 (.inr ⟨⟨x, hpre.subset hx, hx2⟩, rfl⟩)
  have hs1 := hR2.1
  have HI := Lib.hid (And.intro hI2 hI3)
  have HK := Lib.hid hK
  clear hI2 hI3 hK hR hR2 hRE hx hx2 hpre
  have HVV := Lib.hid hv
  clear hv
  gi_wp2_with fail
  have hM : Marks W1.heap.size [D] V := ⟨hD, HK.out, by simp, trivial⟩
  refine leaves_marks [D] V hM fun V5 hV => ?_
  have c1 := (HI.out.1.below hV hs1).c 0 rfl
  exact ⟨.int .i64 2, by simp [results, Tryz.results59, go_sem, c1], by rw [← HVV.out], HI.out.2.trans (hV.mono hB.size)⟩
 case done =>
  rintro D V hD ⟨hI1, hI2, hI3, hI4⟩ hK
  have hv : (if (ax == bx && ay == bY) = true then (2 : Int) else 0) = ckI ax ay bx bY := HV.out _ (.inl ⟨hI4, rfl⟩)
  have x0 := hI1.c 0 rfl
  have x1 := hI1.c 1 rfl
  have x2 := hI1.c 2 rfl
  have x3 := hI1.c 3 rfl
  have y0 := hI2.c 0 rfl
  have f0 := hI2.f 0 rfl
  have n1 := HN.out
  have HI := Lib.hid (And.intro hI2 hI3)
  have hD1 : D < V.heap.size := (Array.getElem?_eq_some_iff.1 hK).1
  have hs1 := hR2.1
  have HK := Lib.hid hK
  have HVV := Lib.hid hv
  clear hI1 hI2 hI3 hI4 hK hR hR2 hRE hv
  generalize (ax == bx && ay == bY) = q at *
  cases q
  ·go_wp2_with fail
   refine leaves_marks [D] _ ⟨hD, (Below.heap_setCell _ _ _ _ (by show D ≠ w.heap.size + 1; omega)).trans HK.out, by simp, trivial⟩ fun V5 hV => ?_
   have r7 := HI.out.1.set 0 (by simp) (.int .i64 0)
   have c1 := (r7.below hV hs1).c 0 rfl
   exact ⟨.int .i64 0, by simp [results, Tryz.results59, go_sem, c1], by rw [← HVV.out]; rfl, (below_put1 HI.out.2 (by omega) _ _).trans (hV.mono hB.size)⟩
  ·go_wp2_with fail
   refine leaves_marks [D] _ ⟨hD, (Below.heap_setCell _ _ _ _ (by show D ≠ w.heap.size + 1; omega)).trans HK.out, by simp, trivial⟩ fun V5 hV => ?_
   have r7 := HI.out.1.set 0 (by simp) (.int .i64 2)
   have c1 := (r7.below hV hs1).c 0 rfl
   exact ⟨.int .i64 2, by simp [results, Tryz.results59, go_sem, c1], by rw [← HVV.out]; rfl, (below_put1 HI.out.2 (by omega) _ _).trans (hV.mono hB.size)⟩
end Go.Proofs.YteolocchmhpggaaGreatDoor

namespace Go.Proofs.YteolocchmhpggaaGreatDoor
open Go.RowKit
set_option maxRecDepth 100000 in
set_option maxHeartbeats 3200000 in
theorem told1_wrong (S A : Nat) (ax ay bx bY : Int) (w : World) (hc : ckI ax ay bx bY = 2) (hS : Row w S (segA ax ay bx bY).toList) (hA : Row w A [.func (.func 86) #[] #[]]) :
 Calls Tryz.prog 118 #[.pointer (some ⟨S, 0, none⟩), .pointer (some ⟨A, 0, none⟩)] w fun e w' => e = (Got.gave 2).end ∧ Below w.heap.size w w' := by
 have H1 : Hid (∀ W, Calls Tryz.prog 59 #[segV ax ay bx bY] W fun e w' => e = .returned (.int .i64 2) ∧ Below W.heap.size W w') := Lib.hid (fun W => by
  have := check_any4 ax ay bx bY W
  rw [hc] at this; exact this)
 clear hc
 unfold segV at H1
 have hK : KT w ([] ++ [(S, segA ax ay bx bY)] ++ [(A, #[.func (.func 86) #[] #[]])]) ([] ++ [(w.heap.size, 4)]) (w.alloc (.cells (segA 0 0 0 0) 25)) := (KT.of (((KS.nil w).more hS).more hA)).made rfl (segA 0 0 0 0) _ rfl
 have x0 := hS.c 0 rfl
 have x1 := hS.c 1 rfl
 have x2 := hS.c 2 rfl
 have x3 := hS.c 3 rfl
 have lS := hS.1
 clear hS hA
 generalize hL : [] ++ [(S, segA ax ay bx bY)] ++ [(A, #[Value.func (.func 86) #[] #[]])] = L at hK
 generalize hM : [] ++ [(w.heap.size, 4)] = M at hK
 have HL := Lib.hid hL; clear hL
 have HM := Lib.hid (show (w.heap.size, 4) ∈ M by rw [← hM]; simp); clear hM
 have HK := Lib.hid hK; clear hK
 go_enter Tryz.func118, Tryz.ntmps118
 go_wp2_with fail
 refine (H1.out _).mono ?_
 rintro e w1 ⟨rfl, hb⟩
 have hK := HK.out.after hb
 clear HK hb x0 x1 x2 x3 lS
 go_wp2_with fail
 refine (for_gives 2 _ (by decide)).mono ?_
 rintro e w2 ⟨rfl, rfl⟩
 have hB := hK.1.2
 clear HL HM
 go_wp2
 exact ⟨rfl, rfl, hB⟩
set_option maxRecDepth 100000 in
set_option maxHeartbeats 1600000 in
theorem toldseg_wrong (ax ay bx bY : Int) (w : World) (hc : ckI ax ay bx bY = 2) :
 Calls Tryz.prog 85 #[.agg (segA ax ay bx bY), .func (.func 86) #[] #[]] w fun e w' => e = .returned (.tuple #[.agg (segA 0 0 0 0), .int .i64 2]) ∧ Below w.heap.size w w' := by
 have hmf : ∀ (fn : Fn) (first cap : Array Value) (w : World), (Instr.makeFunc fn first cap).run Tryz.prog w = .ok (.func fn first cap) w := fun _ _ _ _ => rfl
 have H1 := Lib.hid (fun S A W hS hA => told1_wrong S A ax ay bx bY W hc hS hA)
 clear hc
 go_enter Tryz.func85, Tryz.ntmps85
 go_wp2_with fail
 have r0 := ((Row.at (w := w) rfl (segA ax ay bx bY).toList 25).alloc (.cells #[.func (.func 86) #[] #[]] 135)).alloc (.cells (segA 0 0 0 0) 25)
 have r1 := (Row.at (w := w.alloc (.cells (segA ax ay bx bY) 25)) (n := w.heap.size + 1) (by simp) [.func (.func 86) #[] #[]] 135).alloc (.cells (segA 0 0 0 0) 25)
 have r2 := Row.at (w := (w.alloc (.cells (segA ax ay bx bY) 25)).alloc (.cells #[.func (.func 86) #[] #[]] 135)) (n := w.heap.size + 1 + 1) (by simp) (segA 0 0 0 0).toList 25
 have hb0 := (((Below.refl w.heap.size w).alloc (Nat.le_refl _) (.cells (segA ax ay bx bY) 25)).alloc (by simp) (.cells #[.func (.func 86) #[] #[]] 135)).alloc (by simp; omega) (.cells (segA 0 0 0 0) 25)
 generalize World.alloc _ _ = W0 at *
 refine (caught_seg 118 #[.pointer (some ⟨w.heap.size, 0, none⟩), .pointer (some ⟨w.heap.size + 1, 0, none⟩)] w.heap.size (.gave 2) _ r0.1 (by show (2 : Int) ≠ 0; decide) (fun _ _ => Tryz.call118 _ _)
  (fun W hW => (H1.out _ _ W (r0.after hW) (r1.after hW)).mono (fun e w' h => ⟨h.1, KB.ofBelow h.2⟩))).mono ?_
 rintro e w1 ⟨rfl, hk⟩
 have hK := ((KB.refl w.heap.size w.heap.size w).below hb0 (Nat.le_refl _)).trans hk hb0.size
 replace r2 := r2.kb hk (by omega)
 have hl := r2.1
 clear r0 r1 hk hb0 H1
 simp only [Got.ans, zero_seg]
 have z0 := r2.c 0 rfl
 have z1 := r2.c 1 rfl
 have z2 := r2.c 2 rfl
 have z3 := r2.c 3 rfl
 have f0 := r2.f 0 rfl
 have f1 := r2.f 1 rfl
 have f2 := r2.f 2 rfl
 have f3 := r2.f 3 rfl
 go_wp2_with fail
 exact bodyPost_ret (results_R2 (cs := segA 0 0 0 0) rfl rfl (r2.putAll [_, _, _, _] rfl) agg_seg) rfl ⟨rfl, below_put1 (below_put1 (below_put1 (below_put1 (hK.toBelow' (Nat.le_refl _)) (by omega) _ _) (by omega) _ _) (by omega) _ _) (by omega) _ _⟩
set_option maxRecDepth 100000 in
set_option maxHeartbeats 1600000 in
theorem Laid_wrong (ax ay bx bY : Int) (w : World) (hc : ckI ax ay bx bY = 2) :
 Calls Tryz.prog 50 #[.agg (segA ax ay bx bY)] w fun e w' => e = .returned (.tuple #[.agg (segA 0 0 0 0), .int .i64 2]) ∧ Below w.heap.size w w' := by
 have H1 := Lib.hid (fun W => toldseg_wrong ax ay bx bY W hc)
 clear hc
 go_enter Tryz.func50, Tryz.ntmps50
 go_wp2_with fail
 have r1 := Row.at (w := w.alloc (.cells (segA ax ay bx bY) 25)) (n := w.heap.size + 1) (by simp) (segA 0 0 0 0).toList 25
 have hb0 := ((Below.refl w.heap.size w).alloc (Nat.le_refl _) (.cells (segA ax ay bx bY) 25)).alloc (by simp) (.cells (segA 0 0 0 0) 25)
 generalize World.alloc _ _ = W0 at *
 refine (H1.out _).mono ?_
 rintro e w1 ⟨rfl, hb⟩
 replace r1 := r1.after hb
 replace hb0 := hb0.trans (hb.mono hb0.size)
 have hl := r1.1
 clear hb H1
 have z0 := r1.c 0 rfl
 have z1 := r1.c 1 rfl
 have z2 := r1.c 2 rfl
 have z3 := r1.c 3 rfl
 have f0 := r1.f 0 rfl
 have f1 := r1.f 1 rfl
 have f2 := r1.f 2 rfl
 have f3 := r1.f 3 rfl
 go_wp2_with fail
 exact bodyPost_ret (results_R2 (cs := segA 0 0 0 0) rfl rfl (r1.putAll [_, _, _, _] rfl) agg_seg) rfl ⟨rfl, below_put1 (below_put1 (below_put1 (below_put1 hb0 (by omega) _ _) (by omega) _ _) (by omega) _ _) (by omega) _ _⟩
set_option maxRecDepth 100000 in
set_option maxHeartbeats 1600000 in
theorem xfrom_wrong (ax ay bx bY : Int) (w : World) (hc : ckI ax ay bx bY = 2) :
 Calls Tryz.prog 24 #[.agg (segA ax ay bx bY)] w fun e w' => e = (Got.gave 2).end ∧ Below w.heap.size w w' := by
 have H1 := Lib.hid (fun W => Laid_wrong ax ay bx bY W hc)
 clear hc
 have H2 := Lib.hid (fun W => must_seg_gave (segA 0 0 0 0) 2 (by decide) W)
 go_enter Tryz.func24, Tryz.ntmps24
 go_wp2_with fail
 have r1 := Row.at (w := w.alloc (.cells (segA ax ay bx bY) 25)) (n := w.heap.size + 1) (by simp) (segA 0 0 0 0).toList 72
 have hb0 := ((Below.refl w.heap.size w).alloc (Nat.le_refl _) (.cells (segA ax ay bx bY) 25)).alloc (by simp) (.cells (segA 0 0 0 0) 72)
 generalize World.alloc _ _ = W0 at *
 refine (H1.out _).mono ?_
 rintro e w1 ⟨rfl, hb⟩
 replace r1 := r1.after hb
 replace hb0 := hb0.trans (hb.mono hb0.size)
 clear hb H1
 go_wp2_with fail
 refine (H2.out _).mono ?_
 rintro e w2 ⟨rfl, hb⟩
 dsimp only [Got.end]
 replace hb0 := hb0.trans (hb.mono hb0.size)
 clear hb H2 r1
 go_wp2
 exact ⟨rfl, rfl, hb0⟩
end Go.Proofs.YteolocchmhpggaaGreatDoor

namespace Go.Proofs.YteolocchmhpggaaGreatDoor
open Go.RowKit CrossMath

theorem KT.bw {w W : World} {L : List (Nat × Array Value)} {M : List (Nat × Nat)} (h : KT w L M W) : Below w.heap.size w W := h.1.2
theorem off_B {ax ay bx bY nx ny : Int} (h1 : Bd ax) (h2 : Bd ay) (h3 : Bd bx) (h4 : Bd bY) (h5 : Bd nx) (h6 : Bd ny) : OffB (CrossMath.offN ax ay bx bY nx ny) := by
 have := off_bd h1 h2 h3 h4 h5 h6
 unfold OffB
 exact this
def BdS (l : Sg) : Prop := Bd l.ax ∧ Bd l.ay ∧ Bd l.bx ∧ Bd l.bY
def NeS (l : Sg) : Prop := ¬ (l.ax = l.bx ∧ l.ay = l.bY)
abbrev sgA (l : Sg) : Array Value := segA l.ax l.ay l.bx l.bY
theorem laid_sg (s : Sg) : laidA s.ax s.ay s.bx s.bY = sgA (laidS s) := by
 unfold laidA laidS
 have e : turnB (s.bx - s.ax) (s.bY - s.ay) = turned s := rfl
 rw [e]
 split <;> rfl
theorem laid_bd {s : Sg} (h : BdS s) : BdS (laidS s) := by
 unfold laidS
 split
 ·exact ⟨h.2.2.1, h.2.2.2, h.1, h.2.1⟩
 ·exact h
theorem meet_num (l m : Sg) (w : World) (hl : BdS l) (hm : BdS m) (ht : TabTz w) (hw0 : 0 < w.heap.size) :
 Calls Tryz.prog 25 #[.agg (sgA l), .agg (sgA m)] w fun e w' => e = .returned (.agg (mtA (meetM l m))) ∧ Below w.heap.size w w' := by
 obtain ⟨h1, h2, h3, h4⟩ := hl
 obtain ⟨h5, h6, h7, h8⟩ := hm
 refine meet_core l.ax l.ay l.bx l.bY m.ax m.ay m.bx m.bY _ _ _ _ w (fun W => gaps_any l.ax l.ay l.bx l.bY m.ax m.ay m.bx m.bY W h1 h2 h3 h4 h5 h6 h7 h8) (fun W => gaps_any m.ax m.ay m.bx m.bY l.ax l.ay l.bx l.bY W h5 h6 h7 h8 h1 h2 h3 h4)
  (fun W => shared_num l m W h1 h2 h3 h4 h5 h6 h7 h8) (fun W => dot_num l.ax l.ay W h1 h2) (fun W => dot_num l.bx l.bY W h3 h4) (fun ha hb hn W hW => ?_)
 refine parted_num l _ _ W h1 h2 h3 h4 (off_B h5 h6 h7 h8 h1 h2) (off_B h5 h6 h7 h8 h3 h4) ?_ (ht.below hw0 hW) (Nat.lt_of_lt_of_le hw0 hW.size)
 intro e
 apply hn
 rw [← e] at hb ⊢
 unfold asideB
 simp
 omega
set_option maxRecDepth 100000 in
set_option maxHeartbeats 3200000 in
theorem meet1_any (S T : Nat) (s t : Sg) (w : World) (hs : BdS s) (hs' : NeS s) (ht : BdS t) (ht' : NeS t) (htz : TabTz w) (hw0 : 0 < w.heap.size) (hS : Row w S (sgA s).toList) (hT : Row w T (sgA t).toList) :
 Calls Tryz.prog 23 #[.pointer (some ⟨S, 0, none⟩), .pointer (some ⟨T, 0, none⟩)] w fun e w' => e = .returned (.agg (mtA (meetM (laidS s) (laidS t)))) ∧ Below w.heap.size w w' := by
 have H1 : Hid (∀ W, Calls Tryz.prog 24 #[.agg (segA s.ax s.ay s.bx s.bY)] W fun e w' => e = .returned (.agg (sgA (laidS s))) ∧ Below W.heap.size W w') := Lib.hid (fun W => by
  have := xfrom_any s.ax s.ay s.bx s.bY W hs.1 hs.2.1 hs.2.2.1 hs.2.2.2 hs'
  rwa [laid_sg] at this)
 have H2 : Hid (∀ W, Calls Tryz.prog 24 #[.agg (segA t.ax t.ay t.bx t.bY)] W fun e w' => e = .returned (.agg (sgA (laidS t))) ∧ Below W.heap.size W w') := Lib.hid (fun W => by
  have := xfrom_any t.ax t.ay t.bx t.bY W ht.1 ht.2.1 ht.2.2.1 ht.2.2.2 ht'
  rwa [laid_sg] at this)
 have H3 : Hid (∀ W, Below w.heap.size w W → Calls Tryz.prog 25 #[.agg (sgA (laidS s)), .agg (sgA (laidS t))] W fun e w' => e = .returned (.agg (mtA (meetM (laidS s) (laidS t)))) ∧ Below W.heap.size W w') :=
  Lib.hid (fun W hW => meet_num _ _ W (laid_bd hs) (laid_bd ht) (htz.below hw0 hW) (Nat.lt_of_lt_of_le hw0 hW.size))
 have hrs : (mtA (meetM (laidS s) (laidS t))).size = 41 := mtA_size _
 have HRo := Lib.hid (mtA_one (meetM (laidS s) (laidS t)))
 clear hs hs' ht ht' htz hw0
 generalize mtA (meetM (laidS s) (laidS t)) = r at *
 generalize laidS s = u at H1 H3
 generalize laidS t = v at H2 H3
 obtain ⟨ax, ay, bx, bY⟩ := s
 obtain ⟨cx, cy, dx, dY⟩ := t
 obtain ⟨u0, u1, u2, u3⟩ := u
 obtain ⟨v0, v1, v2, v3⟩ := v
 have HK0 := Lib.hid (show KT w ([] ++ [(S, segA ax ay bx bY)] ++ [(T, segA cx cy dx dY)]) ([] ++ [(w.heap.size, 41)]) (w.alloc (.cells zero_meet 36)) from (KT.of (((KS.nil w).more hS).more hT)).made rfl zero_meet _ rfl)
 clear hS hT
 generalize hL : [] ++ [(S, segA ax ay bx bY)] ++ [(T, segA cx cy dx dY)] = L at HK0
 generalize hM : [] ++ [(w.heap.size, 41)] = M at HK0
 have HL := Lib.hid hL; clear hL
 have HM := Lib.hid (show (w.heap.size, 41) ∈ M by rw [← hM]; simp); clear hM
 go_enter Tryz.func23, Tryz.ntmps23
 have l0 : ∀ W, KT w L M W → W.cell? ⟨S, 0, none⟩ = some (.int .i64 ax) := fun W h => h.c 0 (by rw [← HL.out]; rfl) 0 rfl
 have l1 : ∀ W, KT w L M W → W.cell? ⟨S, 1, none⟩ = some (.int .i64 ay) := fun W h => h.c 0 (by rw [← HL.out]; rfl) 1 rfl
 have l2 : ∀ W, KT w L M W → W.cell? ⟨S, 2, none⟩ = some (.int .i64 bx) := fun W h => h.c 0 (by rw [← HL.out]; rfl) 2 rfl
 have l3 : ∀ W, KT w L M W → W.cell? ⟨S, 3, none⟩ = some (.int .i64 bY) := fun W h => h.c 0 (by rw [← HL.out]; rfl) 3 rfl
 have m0 : ∀ W, KT w L M W → W.cell? ⟨T, 0, none⟩ = some (.int .i64 cx) := fun W h => h.c 1 (by rw [← HL.out]; rfl) 0 rfl
 have m1 : ∀ W, KT w L M W → W.cell? ⟨T, 1, none⟩ = some (.int .i64 cy) := fun W h => h.c 1 (by rw [← HL.out]; rfl) 1 rfl
 have m2 : ∀ W, KT w L M W → W.cell? ⟨T, 2, none⟩ = some (.int .i64 dx) := fun W h => h.c 1 (by rw [← HL.out]; rfl) 2 rfl
 have m3 : ∀ W, KT w L M W → W.cell? ⟨T, 3, none⟩ = some (.int .i64 dY) := fun W h => h.c 1 (by rw [← HL.out]; rfl) 3 rfl
 have st : ∀ W, KT w L M W → (storeCells ⟨w.heap.size, 0, none⟩ r.toList 0).run Tryz.prog W = .ok () (W.setCells w.heap.size 0 r.toList) := fun W h => (h.2 _ HM.out).1.store r hrs HRo.out
 go_wp2_with fail
 generalize hW : World.alloc _ _ = W0
 have hK : KT w L M W0 := by rw [← hW]; exact HK0.out
 clear hW HK0
 have hk0 := hK.drew
 go_region_held3 (fun w' : World => KT w L M w')
  (first
    | (with_reducible assumption)
    | (with_reducible refine KT.drew ?_; with_reducible assumption)
    | (with_reducible refine KT.put ?_ HM.out _; with_reducible assumption)
    | (with_reducible refine KT.alloc ?_ _; with_reducible assumption)
    | (with_reducible refine KT.after ?_ hb; with_reducible assumption))
  (first
    | (go_at_call 24; (with_reducible refine (H1.out _).mono ?_); rintro e w' ⟨rfl, hb⟩)
    | (go_at_call 24; (with_reducible refine (H2.out _).mono ?_); rintro e w' ⟨rfl, hb⟩)
    | (go_at_call 25; (with_reducible refine (H3.out _ ?_).mono ?_); (exact KT.bw (by with_reducible assumption)); rintro e w' ⟨rfl, hb⟩))
 all_goals
  have hq := ‹KT w L M _›
  have hr := hq.put_row HM.out (by rw [Array.length_toList]; exact hrs)
  clear l0 l1 l2 l3 m0 m1 m2 m3 st
  go_wp2
  exact bodyPost_ret (results_R1 (cs := r) rfl rfl hr (by rw [hrs]; exact agg_meet)) rfl ⟨rfl, hq.1.2⟩
set_option maxRecDepth 100000 in
set_option maxHeartbeats 3200000 in
theorem Meet_any (s t : Sg) (w : World) (hs : BdS s) (hs' : NeS s) (ht : BdS t) (ht' : NeS t) (htz : TabTz w) (hw0 : 0 < w.heap.size) :
 Calls Tryz.prog 7 #[.agg (sgA s), .agg (sgA t)] w fun e w' => e = .returned (.tuple #[.agg (mtA (meetM (laidS s) (laidS t))), .int .i64 0]) ∧ Below w.heap.size w w' := by
 have hmf : ∀ (fn : Fn) (first cap : Array Value) (w : World), (Instr.makeFunc fn first cap).run Tryz.prog w = .ok (.func fn first cap) w := fun _ _ _ _ => rfl
 have H1 := Lib.hid (fun S T W (hW : Below w.heap.size w W) hS hT => meet1_any S T s t W hs hs' ht ht' (htz.below hw0 hW) (Nat.lt_of_lt_of_le hw0 hW.size) hS hT)
 have hrs : (mtA (meetM (laidS s) (laidS t))).size = 41 := mtA_size _
 have HRo := Lib.hid (mtA_one (meetM (laidS s) (laidS t)))
 have HRs := Lib.hid hrs
 have hT : AggTy Tryz.prog 36 (mtA (meetM (laidS s) (laidS t))).size := by rw [hrs]; exact agg_meet
 clear hs hs' ht ht' htz hw0 hrs
 generalize mtA (meetM (laidS s) (laidS t)) = r at *
 obtain ⟨ax, ay, bx, bY⟩ := s
 obtain ⟨cx, cy, dx, dY⟩ := t
 go_enter Tryz.func7, Tryz.ntmps7
 go_wp2_with fail
 generalize hW : World.alloc _ _ = W0
 have r0 : Row W0 w.heap.size (segA ax ay bx bY).toList := by rw [← hW]; exact ((Row.at rfl _ _).alloc _).alloc _
 have r1 : Row W0 (w.heap.size + 1) (segA cx cy dx dY).toList := by rw [← hW]; exact (Row.at (by simp) _ _).alloc _
 have r2 : Row W0 (w.heap.size + 1 + 1) zero_meet.toList := by rw [← hW]; exact Row.at (by simp) _ _
 have hb0 : Below w.heap.size w W0 := by rw [← hW]; exact (((Below.refl _ _).alloc (Nat.le_refl _) _).alloc (by simp) _).alloc (by simp; omega) _
 clear hW
 refine (caught_meet 23 #[.pointer (some ⟨w.heap.size, 0, none⟩), .pointer (some ⟨w.heap.size + 1, 0, none⟩)] w.heap.size (.val r) _ r0.1 ⟨HRs.out, HRo.out⟩ (fun _ _ => Tryz.call23 _ _)
  (fun W hW => (H1.out _ _ W (hb0.trans (hW.mono hb0.size)) (r0.after hW) (r1.after hW)).mono (fun e w' h => ⟨h.1, KB.ofBelow h.2⟩))).mono ?_
 rintro e w1 ⟨rfl, hk⟩
 have hK := ((KB.refl w.heap.size w.heap.size w).below hb0 (Nat.le_refl _)).trans hk hb0.size
 replace r2 := r2.kb hk (by omega)
 clear r0 r1 hk hb0 H1
 simp only [Got.ans]
 go_wp2_with (first | (refine wpList_store_R rfl _ _ _ rfl _ r rfl rfl _ r2 (by rw [HRs.out]; rfl) hT HRo.out ?_; intro w2 q2 o2))
 exact bodyPost_ret (results_R2 (cs := r) rfl rfl q2 hT) rfl ⟨rfl, (hK.on o2 (.inr (by omega))).toBelow' (Nat.le_refl _)⟩
end Go.Proofs.YteolocchmhpggaaGreatDoor

namespace Go.Proofs.YteolocchmhpggaaGreatDoor
open Go.RowKit CrossMath

set_option maxRecDepth 100000 in
set_option maxHeartbeats 1600000 in
theorem crosses_num (l m : Sg) (w : World) (hl : BdS l) (hm : BdS m) :
 Calls Tryz.prog 36 #[.agg (sgA l), .agg (sgA m)] w fun e w' => e = .returned (.bool (crossM l m)) ∧ Below w.heap.size w w' := by
 obtain ⟨h1, h2, h3, h4⟩ := hl
 obtain ⟨h5, h6, h7, h8⟩ := hm
 obtain ⟨ax, ay, bx, bY⟩ := l
 obtain ⟨cx, cy, dx, dY⟩ := m
 have HG1 := Lib.hid (fun W => gaps_any ax ay bx bY cx cy dx dY W h1 h2 h3 h4 h5 h6 h7 h8)
 have HG2 := Lib.hid (fun W => gaps_any cx cy dx dY ax ay bx bY W h5 h6 h7 h8 h1 h2 h3 h4)
 clear h1 h2 h3 h4 h5 h6 h7 h8
 have hc : crossM ⟨ax, ay, bx, bY⟩ ⟨cx, cy, dx, dY⟩ = (acrossB (CrossMath.offN cx cy dx dY ax ay) (CrossMath.offN cx cy dx dY bx bY) && acrossB (CrossMath.offN ax ay bx bY cx cy) (CrossMath.offN ax ay bx bY dx dY)) := rfl
 rw [hc]
 clear hc
 have HA1 := Lib.hid (fun W => across_any (CrossMath.offN cx cy dx dY ax ay) (CrossMath.offN cx cy dx dY bx bY) W)
 have HA2 := Lib.hid (fun W => across_any (CrossMath.offN ax ay bx bY cx cy) (CrossMath.offN ax ay bx bY dx dY) W)
 generalize CrossMath.offN cx cy dx dY ax ay = oa at *
 generalize CrossMath.offN cx cy dx dY bx bY = ob at *
 generalize CrossMath.offN ax ay bx bY cx cy = ca at *
 generalize CrossMath.offN ax ay bx bY dx dY = cb at *
 generalize acrossB oa ob = p at HA1 ⊢
 generalize acrossB ca cb = q at HA2 ⊢
 have r0 := ((Row.at (w := w) rfl (segA ax ay bx bY).toList 72).alloc (.cells (segA cx cy dx dY) 72))
 have r1 := (Row.at (w := w.alloc (.cells (segA ax ay bx bY) 72)) (n := w.heap.size + 1) (by simp) (segA cx cy dx dY).toList 72)
 have hB := ((Below.refl w.heap.size w).alloc (Nat.le_refl _) (.cells (segA ax ay bx bY) 72)).alloc (by simp) (.cells (segA cx cy dx dY) 72)
 go_enter Tryz.func36, Tryz.ntmps36
 go_wp2_with fail
 refine (HG1.out _).mono ?_
 rintro e w1 ⟨rfl, hb⟩
 replace r0 := r0.after hb
 replace r1 := r1.after hb
 replace hB := hB.trans (hb.mono hB.size)
 clear hb
 go_wp2_with fail
 refine (HA1.out _).mono ?_
 rintro e w2 ⟨rfl, hb⟩
 replace r0 := r0.after hb
 replace r1 := r1.after hb
 replace hB := hB.trans (hb.mono hB.size)
 clear hb
 cases p
 ·clear r0 r1
  go_wp2
  go_ret
  exact ⟨rfl, hB⟩
 ·have x0 := r0.c 0 rfl
  have x1 := r0.c 1 rfl
  have x2 := r0.c 2 rfl
  have x3 := r0.c 3 rfl
  have z0 := r1.c 0 rfl
  have z1 := r1.c 1 rfl
  have z2 := r1.c 2 rfl
  have z3 := r1.c 3 rfl
  clear r0 r1
  go_wp2_with fail
  refine (HG2.out _).mono ?_
  rintro e w3 ⟨rfl, hb⟩
  replace hB := hB.trans (hb.mono hB.size)
  clear hb x0 x1 x2 x3 z0 z1 z2 z3
  go_wp2_with fail
  refine (HA2.out _).mono ?_
  rintro e w4 ⟨rfl, hb⟩
  replace hB := hB.trans (hb.mono hB.size)
  clear hb
  go_wp2
  go_ret
  exact ⟨rfl, hB⟩
theorem catch_bool_idle (p : Addr) (w : World) :
 CallsD Tryz.prog 74 #[.pointer (some p)] .returning w fun e u' w' => e = .returned (.tuple #[]) ∧ u' = .returning ∧ w' = w := by
 refine callsD_of_wpS Tryz.func74 rfl fun c₀ cs hu => ?_
 apply wpS_seq
 apply wpS_region
 simp [wpOpsS, go_sem, recoverD, hu, Tryz.ntmps74, Exit.thenS]
 change Code.wpS _ _ _ { tmps := #[.pointer (some p), .nilIface, undef, undef, .nilIface, undef, undef, undef, undef, undef, undef, undef, undef, undef, undef, undef], defers := [] } _ _
 refine wpS_of_wp ?_
 go_wp2
 cases c₀
 simp_all [bodyPostS, results, Tryz.results74]
set_option maxRecDepth 100000 in
set_option maxHeartbeats 1600000 in
theorem caught_bool (F : FuncId) (caps : Array Value) (b : Bool) (w : World) (eF : ∀ (args : Array Value) (w : World), (callFunc F args).run Tryz.prog w = .ok (.enter F args) w)
 (hw : ∀ W, Below w.heap.size w W → Calls Tryz.prog F caps W fun e w' => e = .returned (.bool b) ∧ Below W.heap.size W w') :
 Calls Tryz.prog 34 #[.func (.func F) #[] caps] w fun e w' => e = .returned (.tuple #[.bool b, .int .i64 0]) ∧ Below w.heap.size w w' := by
 have hmf : ∀ (fn : Fn) (first cap : Array Value) (w : World), (Instr.makeFunc fn first cap).run Tryz.prog w = .ok (.func fn first cap) w := fun _ _ _ _ => rfl
 have Hw := Lib.hid hw; clear hw
 go_enter_defers Tryz.func34, Tryz.ntmps34
 go_wp2_with fail
 generalize hW : World.alloc _ _ = W0
 have rE : Row W0 w.heap.size [.int .i64 0] := by rw [← hW]; exact Row.at rfl _ _
 have hB : Below w.heap.size w W0 := by rw [← hW]; exact (Below.refl w.heap.size w).alloc (Nat.le_refl _) _
 clear hW
 refine (Hw.out W0 hB).mono ?_
 rintro e w1 ⟨rfl, hb⟩
 replace rE := rE.after hb
 replace hB := hB.trans (hb.mono hB.size)
 have hE := rE.c 0 rfl
 have fE := rE.f 0 rfl
 clear hb
 go_wp2_with fail
 clear hE fE
 have rE3 : Row (w1.setCell ⟨w.heap.size, 0, none⟩ (.int .i64 0)) w.heap.size [.int .i64 0] := rE.set 0 (by simp) _
 replace hB := below_put1 hB (Nat.le_refl _) 0 (.int .i64 0)
 generalize World.setCell _ _ _ = W3 at rE3 hB ⊢
 refine leaves_cons (f := 74) (args := #[.pointer (some ⟨w.heap.size, 0, none⟩)]) (by simp) (by simp [go_sem]) ?_
 refine (catch_bool_idle ⟨w.heap.size, 0, none⟩ _).mono ?_
 rintro e u' w'' ⟨rfl, rfl, rfl⟩
 have l2 := load_errno rE3
 simp [Leaves, settle, results, Tryz.results34, asAddr, l2]
 exact hB
set_option maxRecDepth 100000 in
set_option maxHeartbeats 3200000 in
theorem crosses1_any (S T : Nat) (s t : Sg) (w : World) (hs : BdS s) (hs' : NeS s) (ht : BdS t) (ht' : NeS t) (hS : Row w S (sgA s).toList) (hT : Row w T (sgA t).toList) :
 Calls Tryz.prog 35 #[.pointer (some ⟨S, 0, none⟩), .pointer (some ⟨T, 0, none⟩)] w fun e w' => e = .returned (.bool (crossM (laidS s) (laidS t))) ∧ Below w.heap.size w w' := by
 have H1 : Hid (∀ W, Calls Tryz.prog 24 #[.agg (segA s.ax s.ay s.bx s.bY)] W fun e w' => e = .returned (.agg (sgA (laidS s))) ∧ Below W.heap.size W w') := Lib.hid (fun W => by
  have := xfrom_any s.ax s.ay s.bx s.bY W hs.1 hs.2.1 hs.2.2.1 hs.2.2.2 hs'
  rwa [laid_sg] at this)
 have H2 : Hid (∀ W, Calls Tryz.prog 24 #[.agg (segA t.ax t.ay t.bx t.bY)] W fun e w' => e = .returned (.agg (sgA (laidS t))) ∧ Below W.heap.size W w') := Lib.hid (fun W => by
  have := xfrom_any t.ax t.ay t.bx t.bY W ht.1 ht.2.1 ht.2.2.1 ht.2.2.2 ht'
  rwa [laid_sg] at this)
 have H3 := Lib.hid (fun W => crosses_num _ _ W (laid_bd hs) (laid_bd ht))
 clear hs hs' ht ht'
 generalize crossM (laidS s) (laidS t) = r at *
 generalize laidS s = u at H1 H3
 generalize laidS t = v at H2 H3
 obtain ⟨ax, ay, bx, bY⟩ := s
 obtain ⟨cx, cy, dx, dY⟩ := t
 obtain ⟨u0, u1, u2, u3⟩ := u
 obtain ⟨v0, v1, v2, v3⟩ := v
 have hK : KS w ([] ++ [(S, segA ax ay bx bY)] ++ [(T, segA cx cy dx dY)]) w := ((KS.nil w).more hS).more hT
 clear hS hT
 generalize hL : [] ++ [(S, segA ax ay bx bY)] ++ [(T, segA cx cy dx dY)] = L at hK
 have HL := Lib.hid hL; clear hL
 go_enter Tryz.func35, Tryz.ntmps35
 have l0 : ∀ W, KS w L W → W.cell? ⟨S, 0, none⟩ = some (.int .i64 ax) := fun W h => h.c 0 (by rw [← HL.out]; rfl) 0 rfl
 have l1 : ∀ W, KS w L W → W.cell? ⟨S, 1, none⟩ = some (.int .i64 ay) := fun W h => h.c 0 (by rw [← HL.out]; rfl) 1 rfl
 have l2 : ∀ W, KS w L W → W.cell? ⟨S, 2, none⟩ = some (.int .i64 bx) := fun W h => h.c 0 (by rw [← HL.out]; rfl) 2 rfl
 have l3 : ∀ W, KS w L W → W.cell? ⟨S, 3, none⟩ = some (.int .i64 bY) := fun W h => h.c 0 (by rw [← HL.out]; rfl) 3 rfl
 have m0 : ∀ W, KS w L W → W.cell? ⟨T, 0, none⟩ = some (.int .i64 cx) := fun W h => h.c 1 (by rw [← HL.out]; rfl) 0 rfl
 have m1 : ∀ W, KS w L W → W.cell? ⟨T, 1, none⟩ = some (.int .i64 cy) := fun W h => h.c 1 (by rw [← HL.out]; rfl) 1 rfl
 have m2 : ∀ W, KS w L W → W.cell? ⟨T, 2, none⟩ = some (.int .i64 dx) := fun W h => h.c 1 (by rw [← HL.out]; rfl) 2 rfl
 have m3 : ∀ W, KS w L W → W.cell? ⟨T, 3, none⟩ = some (.int .i64 dY) := fun W h => h.c 1 (by rw [← HL.out]; rfl) 3 rfl
 go_wp2_with fail
 have hk0 := hK.drew
 go_region_held3 (fun w' : World => KS w L w')
  (first
    | (with_reducible assumption)
    | (with_reducible refine KS.drew ?_; with_reducible assumption)
    | (with_reducible refine KS.alloc ?_ _; with_reducible assumption)
    | (with_reducible refine KS.after ?_ hb; with_reducible assumption))
  (first
    | (go_at_call 24; (with_reducible refine (H1.out _).mono ?_); rintro e w' ⟨rfl, hb⟩)
    | (go_at_call 24; (with_reducible refine (H2.out _).mono ?_); rintro e w' ⟨rfl, hb⟩)
    | (go_at_call 36; (with_reducible refine (H3.out _).mono ?_); rintro e w' ⟨rfl, hb⟩))
 all_goals
  have hq := ‹KS w L _›
  clear l0 l1 l2 l3 m0 m1 m2 m3
  go_wp2
  go_ret
  exact ⟨rfl, hq.2⟩
set_option maxRecDepth 100000 in
set_option maxHeartbeats 3200000 in
theorem Crosses_any (s t : Sg) (w : World) (hs : BdS s) (hs' : NeS s) (ht : BdS t) (ht' : NeS t) :
 Calls Tryz.prog 13 #[.agg (sgA s), .agg (sgA t)] w fun e w' => e = .returned (.tuple #[.bool (crossM (laidS s) (laidS t)), .int .i64 0]) ∧ Below w.heap.size w w' := by
 have hmf : ∀ (fn : Fn) (first cap : Array Value) (w : World), (Instr.makeFunc fn first cap).run Tryz.prog w = .ok (.func fn first cap) w := fun _ _ _ _ => rfl
 have H1 := Lib.hid (fun S T W hS hT => crosses1_any S T s t W hs hs' ht ht' hS hT)
 clear hs hs' ht ht'
 generalize crossM (laidS s) (laidS t) = r at *
 obtain ⟨ax, ay, bx, bY⟩ := s
 obtain ⟨cx, cy, dx, dY⟩ := t
 go_enter Tryz.func13, Tryz.ntmps13
 go_wp2_with fail
 generalize hW : World.alloc _ _ = W0
 have r0 : Row W0 w.heap.size (segA ax ay bx bY).toList := by rw [← hW]; exact (Row.at rfl _ _).alloc _
 have r1 : Row W0 (w.heap.size + 1) (segA cx cy dx dY).toList := by rw [← hW]; exact Row.at (by simp) _ _
 have hb0 : Below w.heap.size w W0 := by rw [← hW]; exact ((Below.refl _ _).alloc (Nat.le_refl _) _).alloc (by simp) _
 clear hW
 refine (caught_bool 35 #[.pointer (some ⟨w.heap.size, 0, none⟩), .pointer (some ⟨w.heap.size + 1, 0, none⟩)] r _ (fun _ _ => Tryz.call35 _ _)
  (fun W hW => H1.out _ _ W (r0.after hW) (r1.after hW))).mono ?_
 rintro e w1 ⟨rfl, hb⟩
 have hB := hb0.trans (hb.mono hb0.size)
 clear r0 r1 hb hb0 H1
 go_wp2
 go_ret2
 exact ⟨rfl, hB⟩
end Go.Proofs.YteolocchmhpggaaGreatDoor

namespace Go.Proofs.YteolocchmhpggaaGreatDoor
open Go.RowKit CrossMath

def nodeB (x y : Int) : Bool := decide (-67108864 ≤ x) && decide (x ≤ 67108864) && (decide (-67108864 ≤ y) && decide (y ≤ 67108864))
theorem nodeB_iff {x y : Int} : nodeB x y = true ↔ Bd x ∧ Bd y := by unfold nodeB Bd; simp
def rightS (s : Sg) : Bool := nodeB s.ax s.ay && (nodeB s.bx s.bY && !(s.ax == s.bx && s.ay == s.bY))
theorem rightS_iff {s : Sg} : rightS s = true ↔ BdS s ∧ NeS s := by
 unfold rightS BdS NeS
 rw [Bool.and_eq_true, Bool.and_eq_true, nodeB_iff, nodeB_iff]
 simp only [Bool.not_eq_true', Bool.and_eq_false_iff, beq_eq_false_iff_ne]
 constructor
 ·rintro ⟨⟨a, b⟩, ⟨c, d⟩, h⟩; exact ⟨⟨a, b, c, d⟩, fun hh => by rcases h with h | h; exact h hh.1; exact h hh.2⟩
 ·rintro ⟨⟨a, b, c, d⟩, h⟩; exact ⟨⟨a, b⟩, ⟨c, d⟩, by by_cases e : s.ax = s.bx; exact .inr fun e2 => h ⟨e, e2⟩; exact .inl e⟩
end Go.Proofs.YteolocchmhpggaaGreatDoor

namespace Go.Proofs.YteolocchmhpggaaGreatDoor
open Go.RowKit CrossMath

theorem catch_bool_gave (p : Addr) (x c : Int) (older : List PanicEntry) (w : World) (hc : w.cell? p = some (.int .i64 x)) (hz : w.frozen? p = false) :
 CallsD Tryz.prog 74 #[.pointer (some p)] (.panicking ({ v := .iface 37 (.int .i64 c), recovered := false } :: older)) w fun e u' w' =>
  e = .returned (.tuple #[]) ∧ u' = .panicking ({ v := .iface 37 (.int .i64 c), recovered := true } :: older) ∧ w' = w.setCell p (.int .i64 c) := by
 refine callsD_of_wpS Tryz.func74 rfl fun c₀ cs hu => ?_
 apply wpS_seq
 apply wpS_region
 simp [wpOpsS, go_sem, recoverD, hu, Tryz.ntmps74, Exit.thenS]
 change Code.wpS _ _ _ { tmps := #[.pointer (some p), .iface 37 (.int .i64 c), undef, undef, .iface 37 (.int .i64 c), undef, undef, undef, undef, undef, undef, undef, undef, undef, undef, undef], defers := [] } _ _
 have hta : ∀ w, (Instr.typeAssert (.iface 37 (.int .i64 c)) 20 37 true).run Tryz.prog w = .ok (.tuple #[.int .i64 c, .bool true]) w := assert_errno c
 have hnot : ∀ (x : Bool) (w : World), (Op.unary .not (.bool x)).run Tryz.prog w = .ok (.bool (!x)) w := fun _ _ => rfl
 refine wpS_of_wp ?_
 go_wp2
 simp [bodyPostS, results, Tryz.results74]
set_option maxRecDepth 100000 in
set_option maxHeartbeats 1600000 in
theorem caught_bool_gave (F : FuncId) (caps : Array Value) (k : Int) (w : World) (eF : ∀ (args : Array Value) (w : World), (callFunc F args).run Tryz.prog w = .ok (.enter F args) w)
 (hw : ∀ W, Below w.heap.size w W → Calls Tryz.prog F caps W fun e w' => e = (Got.gave k).end ∧ Below W.heap.size W w') :
 Calls Tryz.prog 34 #[.func (.func F) #[] caps] w fun e w' => e = .returned (.tuple #[.bool false, .int .i64 k]) ∧ Below w.heap.size w w' := by
 have hmf : ∀ (fn : Fn) (first cap : Array Value) (w : World), (Instr.makeFunc fn first cap).run Tryz.prog w = .ok (.func fn first cap) w := fun _ _ _ _ => rfl
 have Hw := Lib.hid hw; clear hw
 go_enter_defers Tryz.func34, Tryz.ntmps34
 go_wp2_with fail
 generalize hW : World.alloc _ _ = W0
 have rE : Row W0 w.heap.size [.int .i64 0] := by rw [← hW]; exact Row.at rfl _ _
 have hB : Below w.heap.size w W0 := by rw [← hW]; exact (Below.refl w.heap.size w).alloc (Nat.le_refl _) _
 clear hW
 refine (Hw.out W0 hB).mono ?_
 rintro e w1 ⟨rfl, hb⟩
 replace rE := rE.after hb
 replace hB := hB.trans (hb.mono hB.size)
 have hE := rE.c 0 rfl
 have fE := rE.f 0 rfl
 clear hb
 simp only [Got.end]
 go_wp2
 refine leaves_cons (f := 74) (args := #[.pointer (some ⟨w.heap.size, 0, none⟩)]) (by simp) (by simp [go_sem]) ?_
 refine (catch_bool_gave ⟨w.heap.size, 0, none⟩ 0 k [] _ hE fE).mono ?_
 rintro e u' w'' ⟨rfl, rfl, rfl⟩
 have rE2 : Row (w1.setCell ⟨w.heap.size, 0, none⟩ (.int .i64 k)) w.heap.size [.int .i64 k] := rE.set 0 (by simp) _
 have l2 := load_errno rE2
 simp [Leaves, settle, results, Tryz.results34, asAddr, l2]
 exact below_put1 hB (Nat.le_refl _) 0 (.int .i64 k)
end Go.Proofs.YteolocchmhpggaaGreatDoor

namespace Go.Proofs.YteolocchmhpggaaGreatDoor
open Go.RowKit CrossMath

structure StopS (B : World → Prop) (k : Nat) (ls : Nat → Bool) (_sl : Nat → Value) (W : World) : Prop where
 base : B W
 off : ls k = false
theorem StopS.next {B : World → Prop} {k : Nat} {listed : Array Bool} {sl sl' : Nat → Value} {W W1 : World} (h : StopS B k (fun i => listed.getD i false) sl W) (hb : B W1) (i : Nat) (hi : i ≠ k) :
 StopS B k (fun i' => (listed.setIfInBounds i true).getD i' false) sl' W1 :=
 ⟨hb, by show (listed.setIfInBounds i true).getD k false = false; rw [getD_set_ne false hi]; exact h.off⟩
theorem StopS.no {B : World → Prop} {k : Nat} {listed : Array Bool} {sl : Nat → Value} {W : World} {p : Prop} (h : StopS B k (fun i => listed.getD i false) sl W) (q : listed.getD k false = true) : p := by
 have : listed.getD k false = false := h.off
 rw [q] at this
 cases this
set_option maxRecDepth 100000 in
set_option maxHeartbeats 3200000 in
theorem meet1_wrong_s (S T : Nat) (s t : Sg) (w : World) (hs : ckI s.ax s.ay s.bx s.bY = 2) (hS : Row w S (sgA s).toList) (hT : Row w T (sgA t).toList) :
 Calls Tryz.prog 23 #[.pointer (some ⟨S, 0, none⟩), .pointer (some ⟨T, 0, none⟩)] w fun e w' => e = (Got.gave 2).end ∧ Below w.heap.size w w' := by
 have H1 := Lib.hid (fun W => xfrom_wrong s.ax s.ay s.bx s.bY W hs)
 clear hs
 obtain ⟨ax, ay, bx, bY⟩ := s
 obtain ⟨cx, cy, dx, dY⟩ := t
 have hK : KS w ([] ++ [(S, segA ax ay bx bY)] ++ [(T, segA cx cy dx dY)]) w := ((KS.nil w).more hS).more hT
 clear hS hT
 generalize hL : [] ++ [(S, segA ax ay bx bY)] ++ [(T, segA cx cy dx dY)] = L at hK
 have HL := Lib.hid hL; clear hL
 go_enter Tryz.func23, Tryz.ntmps23
 have l0 : ∀ W, KS w L W → W.cell? ⟨S, 0, none⟩ = some (.int .i64 ax) := fun W h => h.c 0 (by rw [← HL.out]; rfl) 0 rfl
 have l1 : ∀ W, KS w L W → W.cell? ⟨S, 1, none⟩ = some (.int .i64 ay) := fun W h => h.c 0 (by rw [← HL.out]; rfl) 1 rfl
 have l2 : ∀ W, KS w L W → W.cell? ⟨S, 2, none⟩ = some (.int .i64 bx) := fun W h => h.c 0 (by rw [← HL.out]; rfl) 2 rfl
 have l3 : ∀ W, KS w L W → W.cell? ⟨S, 3, none⟩ = some (.int .i64 bY) := fun W h => h.c 0 (by rw [← HL.out]; rfl) 3 rfl
 have m0 : ∀ W, KS w L W → W.cell? ⟨T, 0, none⟩ = some (.int .i64 cx) := fun W h => h.c 1 (by rw [← HL.out]; rfl) 0 rfl
 have m1 : ∀ W, KS w L W → W.cell? ⟨T, 1, none⟩ = some (.int .i64 cy) := fun W h => h.c 1 (by rw [← HL.out]; rfl) 1 rfl
 have m2 : ∀ W, KS w L W → W.cell? ⟨T, 2, none⟩ = some (.int .i64 dx) := fun W h => h.c 1 (by rw [← HL.out]; rfl) 2 rfl
 have m3 : ∀ W, KS w L W → W.cell? ⟨T, 3, none⟩ = some (.int .i64 dY) := fun W h => h.c 1 (by rw [← HL.out]; rfl) 3 rfl
 go_wp2_with fail
 generalize hW : World.alloc _ _ = W0
 replace hK : KS w L W0 := by rw [← hW]; exact hK.alloc _
 clear hW
 refine wp_region_midG (by kernel_rfl) [] (fun i => match i with
  | 0 => some (.agg (segA ax ay bx bY))
  | 2 => some (.agg (segA cx cy dx dY))
  | _ => none) (fun j hj => by cases hj) (StopS (KS w L) 1) (by kernel_rfl) ⟨hK.drew, rfl⟩ ?_ ?_
 ·intro listed a W i o hI ho h0 hdep K hK'
  have hi : i < 6 := (Array.getElem?_eq_some_iff.1 ho).1
  have hS := hI.world
  have hB := hS.base
  have Hdf := Lib.hid (show a.defers = [] from hI.defers)
  have q0 : a.tmps[0]?.getD undef = .pointer (some ⟨S, 0, none⟩) := hI.old 0 (noDst_spec (by kernel_rfl))
  have q1 : a.tmps[1]?.getD undef = .pointer (some ⟨T, 0, none⟩) := hI.old 1 (noDst_spec (by kernel_rfl))
  have hcase : i = 0 ∨ i = 1 ∨ i = 2 ∨ i = 3 ∨ i = 4 ∨ i = 5 := by omega
  clear hi
  rcases hcase with rfl | rfl | rfl | rfl | rfl | rfl
  ·obtain rfl := oI ho
   have x0 := l0 _ hB
   have x1 := l1 _ hB
   have x2 := l2 _ hB
   have x3 := l3 _ hB
   clear hdep hI ho l0 l1 l2 l3 m0 m1 m2 m3
   go_simp
   exact hK' (.agg (segA ax ay bx bY)) _ (fun u hu => oV hu) (hS.next hB 0 (by decide))
  ·obtain rfl := oI ho
   have d0 : listed.getD 0 false = true := hdep ⟨0, .data⟩ (by simp) rfl
   have q23 : a.tmps[3]?.getD undef = (.agg (segA ax ay bx bY)) := hI.val 0 _ 3 _ rfl rfl rfl d0
   clear hdep hI ho l0 l1 l2 l3 m0 m1 m2 m3
   go_simp
   refine (H1.out _).mono ?_
   rintro e W1 ⟨rfl, hb⟩
   have hq := hB.after hb
   clear hB hS hK'
   exact ⟨Hdf.out, rfl, hq.2⟩
  ·obtain rfl := oI ho
   have x0 := m0 _ hB
   have x1 := m1 _ hB
   have x2 := m2 _ hB
   have x3 := m3 _ hB
   clear hdep hI ho l0 l1 l2 l3 m0 m1 m2 m3
   go_simp
   exact hK' (.agg (segA cx cy dx dY)) _ (fun u hu => oV hu) (hS.next hB 2 (by decide))
  ·obtain rfl := oI ho
   exact hS.no (hdep ⟨1, .chain⟩ (by simp) rfl)
  ·obtain rfl := oI ho
   exact hS.no (hdep ⟨1, .data⟩ (by simp) rfl)
  ·obtain rfl := oI ho
   exact hS.no (hdep ⟨1, .phase⟩ (by simp) rfl)
 ·intro listed a W hI hall
  exact hI.world.no (hall 1 (by decide))
set_option maxRecDepth 100000 in
set_option maxHeartbeats 3200000 in
theorem meet1_wrong_t (S T : Nat) (s t : Sg) (w : World) (hs : BdS s) (hs' : NeS s) (ht : ckI t.ax t.ay t.bx t.bY = 2) (hS : Row w S (sgA s).toList) (hT : Row w T (sgA t).toList) :
 Calls Tryz.prog 23 #[.pointer (some ⟨S, 0, none⟩), .pointer (some ⟨T, 0, none⟩)] w fun e w' => e = (Got.gave 2).end ∧ Below w.heap.size w w' := by
 have H1 : Hid (∀ W, Calls Tryz.prog 24 #[.agg (segA s.ax s.ay s.bx s.bY)] W fun e w' => e = .returned (.agg (sgA (laidS s))) ∧ Below W.heap.size W w') := Lib.hid (fun W => by
  have := xfrom_any s.ax s.ay s.bx s.bY W hs.1 hs.2.1 hs.2.2.1 hs.2.2.2 hs'
  rwa [laid_sg] at this)
 have H2 := Lib.hid (fun W => xfrom_wrong t.ax t.ay t.bx t.bY W ht)
 clear hs hs' ht
 generalize laidS s = u at H1
 obtain ⟨ax, ay, bx, bY⟩ := s
 obtain ⟨cx, cy, dx, dY⟩ := t
 have hK : KS w ([] ++ [(S, segA ax ay bx bY)] ++ [(T, segA cx cy dx dY)]) w := ((KS.nil w).more hS).more hT
 clear hS hT
 generalize hL : [] ++ [(S, segA ax ay bx bY)] ++ [(T, segA cx cy dx dY)] = L at hK
 have HL := Lib.hid hL; clear hL
 go_enter Tryz.func23, Tryz.ntmps23
 have l0 : ∀ W, KS w L W → W.cell? ⟨S, 0, none⟩ = some (.int .i64 ax) := fun W h => h.c 0 (by rw [← HL.out]; rfl) 0 rfl
 have l1 : ∀ W, KS w L W → W.cell? ⟨S, 1, none⟩ = some (.int .i64 ay) := fun W h => h.c 0 (by rw [← HL.out]; rfl) 1 rfl
 have l2 : ∀ W, KS w L W → W.cell? ⟨S, 2, none⟩ = some (.int .i64 bx) := fun W h => h.c 0 (by rw [← HL.out]; rfl) 2 rfl
 have l3 : ∀ W, KS w L W → W.cell? ⟨S, 3, none⟩ = some (.int .i64 bY) := fun W h => h.c 0 (by rw [← HL.out]; rfl) 3 rfl
 have m0 : ∀ W, KS w L W → W.cell? ⟨T, 0, none⟩ = some (.int .i64 cx) := fun W h => h.c 1 (by rw [← HL.out]; rfl) 0 rfl
 have m1 : ∀ W, KS w L W → W.cell? ⟨T, 1, none⟩ = some (.int .i64 cy) := fun W h => h.c 1 (by rw [← HL.out]; rfl) 1 rfl
 have m2 : ∀ W, KS w L W → W.cell? ⟨T, 2, none⟩ = some (.int .i64 dx) := fun W h => h.c 1 (by rw [← HL.out]; rfl) 2 rfl
 have m3 : ∀ W, KS w L W → W.cell? ⟨T, 3, none⟩ = some (.int .i64 dY) := fun W h => h.c 1 (by rw [← HL.out]; rfl) 3 rfl
 go_wp2_with fail
 generalize hW : World.alloc _ _ = W0
 replace hK : KS w L W0 := by rw [← hW]; exact hK.alloc _
 clear hW
 refine wp_region_midG (by kernel_rfl) [] (fun i => match i with
  | 0 => some (.agg (segA ax ay bx bY))
  | 2 => some (.agg (segA cx cy dx dY))
  | 1 => some (.agg (sgA u))
  | _ => none) (fun j hj => by cases hj) (StopS (KS w L) 3) (by kernel_rfl) ⟨hK.drew, rfl⟩ ?_ ?_
 ·intro listed a W i o hI ho h0 hdep K hK'
  have hi : i < 6 := (Array.getElem?_eq_some_iff.1 ho).1
  have hS := hI.world
  have hB := hS.base
  have Hdf := Lib.hid (show a.defers = [] from hI.defers)
  have q0 : a.tmps[0]?.getD undef = .pointer (some ⟨S, 0, none⟩) := hI.old 0 (noDst_spec (by kernel_rfl))
  have q1 : a.tmps[1]?.getD undef = .pointer (some ⟨T, 0, none⟩) := hI.old 1 (noDst_spec (by kernel_rfl))
  have hcase : i = 0 ∨ i = 1 ∨ i = 2 ∨ i = 3 ∨ i = 4 ∨ i = 5 := by omega
  clear hi
  rcases hcase with rfl | rfl | rfl | rfl | rfl | rfl
  ·obtain rfl := oI ho
   have x0 := l0 _ hB
   have x1 := l1 _ hB
   have x2 := l2 _ hB
   have x3 := l3 _ hB
   clear hdep hI ho l0 l1 l2 l3 m0 m1 m2 m3
   go_simp
   exact hK' (.agg (segA ax ay bx bY)) _ (fun u hu => oV hu) (hS.next hB 0 (by decide))
  ·obtain rfl := oI ho
   have d0 : listed.getD 0 false = true := hdep ⟨0, .data⟩ (by simp) rfl
   have q23 : a.tmps[3]?.getD undef = (.agg (segA ax ay bx bY)) := hI.val 0 _ 3 _ rfl rfl rfl d0
   clear hdep hI ho l0 l1 l2 l3 m0 m1 m2 m3
   go_simp
   refine (H1.out _).mono ?_
   rintro e W1 ⟨rfl, hb⟩
   exact hK' (.agg (sgA u)) W1 (fun u' hu => Option.some.inj (show some _ = some u' from hu)) (hS.next (hB.after hb) 1 (by decide))
  ·obtain rfl := oI ho
   have x0 := m0 _ hB
   have x1 := m1 _ hB
   have x2 := m2 _ hB
   have x3 := m3 _ hB
   clear hdep hI ho l0 l1 l2 l3 m0 m1 m2 m3
   go_simp
   exact hK' (.agg (segA cx cy dx dY)) _ (fun u hu => oV hu) (hS.next hB 2 (by decide))
  ·obtain rfl := oI ho
   have d2 : listed.getD 2 false = true := hdep ⟨2, .data⟩ (by simp) rfl
   have q25 : a.tmps[5]?.getD undef = (.agg (segA cx cy dx dY)) := hI.val 2 _ 5 _ rfl rfl rfl d2
   clear hdep hI ho l0 l1 l2 l3 m0 m1 m2 m3
   go_simp
   refine (H2.out _).mono ?_
   rintro e W1 ⟨rfl, hb⟩
   have hq := hB.after hb
   clear hB hS hK'
   exact ⟨Hdf.out, rfl, hq.2⟩
  ·obtain rfl := oI ho
   exact hS.no (hdep ⟨3, .data⟩ (by simp) rfl)
  ·obtain rfl := oI ho
   exact hS.no (hdep ⟨3, .phase⟩ (by simp) rfl)
 ·intro listed a W hI hall
  exact hI.world.no (hall 3 (by decide))
def WrongB (s t : Sg) : Prop := ckI s.ax s.ay s.bx s.bY = 2 ∨ (BdS s ∧ NeS s ∧ ckI t.ax t.ay t.bx t.bY = 2)
theorem meet1_wrong (S T : Nat) (s t : Sg) (w : World) (h : WrongB s t) (hS : Row w S (sgA s).toList) (hT : Row w T (sgA t).toList) :
 Calls Tryz.prog 23 #[.pointer (some ⟨S, 0, none⟩), .pointer (some ⟨T, 0, none⟩)] w fun e w' => e = (Got.gave 2).end ∧ Below w.heap.size w w' :=
 h.elim (fun h => meet1_wrong_s S T s t w h hS hT) (fun h => meet1_wrong_t S T s t w h.1 h.2.1 h.2.2 hS hT)
set_option maxRecDepth 100000 in
set_option maxHeartbeats 3200000 in
theorem Meet_wrong (s t : Sg) (w : World) (h : WrongB s t) :
 Calls Tryz.prog 7 #[.agg (sgA s), .agg (sgA t)] w fun e w' => e = .returned (.tuple #[.agg zero_meet, .int .i64 2]) ∧ Below w.heap.size w w' := by
 have hmf : ∀ (fn : Fn) (first cap : Array Value) (w : World), (Instr.makeFunc fn first cap).run Tryz.prog w = .ok (.func fn first cap) w := fun _ _ _ _ => rfl
 have H1 := Lib.hid (fun S T W hS hT => meet1_wrong S T s t W h hS hT)
 clear h
 have hT : AggTy Tryz.prog 36 (zero_meet).size := agg_meet
 have HZ := Lib.hid (show OneC zero_meet from by simp [OneC, zero_meet, Value.oneCell'])
 obtain ⟨ax, ay, bx, bY⟩ := s
 obtain ⟨cx, cy, dx, dY⟩ := t
 go_enter Tryz.func7, Tryz.ntmps7
 go_wp2_with fail
 generalize hW : World.alloc _ _ = W0
 have r0 : Row W0 w.heap.size (segA ax ay bx bY).toList := by rw [← hW]; exact ((Row.at rfl _ _).alloc _).alloc _
 have r1 : Row W0 (w.heap.size + 1) (segA cx cy dx dY).toList := by rw [← hW]; exact (Row.at (by simp) _ _).alloc _
 have r2 : Row W0 (w.heap.size + 1 + 1) zero_meet.toList := by rw [← hW]; exact Row.at (by simp) _ _
 have hb0 : Below w.heap.size w W0 := by rw [← hW]; exact (((Below.refl _ _).alloc (Nat.le_refl _) _).alloc (by simp) _).alloc (by simp; omega) _
 clear hW
 refine (caught_meet 23 #[.pointer (some ⟨w.heap.size, 0, none⟩), .pointer (some ⟨w.heap.size + 1, 0, none⟩)] w.heap.size (.gave 2) _ r0.1 (by show (2 : Int) ≠ 0; decide) (fun _ _ => Tryz.call23 _ _)
  (fun W hW => (H1.out _ _ W (r0.after hW) (r1.after hW)).mono (fun e w' h => ⟨h.1, KB.ofBelow h.2⟩))).mono ?_
 rintro e w1 ⟨rfl, hk⟩
 have hK := ((KB.refl w.heap.size w.heap.size w).below hb0 (Nat.le_refl _)).trans hk hb0.size
 replace r2 := r2.kb hk (by omega)
 clear r0 r1 hk hb0 H1
 simp only [Got.ans]
 generalize hz : zero_meet = r at hT HZ r2 ⊢
 go_wp2_with (first | (refine wpList_store_R rfl _ _ _ rfl _ r rfl rfl _ r2 rfl hT HZ.out ?_; intro w2 q2 o2))
 exact bodyPost_ret (results_R2 (cs := r) rfl rfl q2 hT) rfl ⟨by rw [hz]; rfl, (hK.on o2 (.inr (by omega))).toBelow' (Nat.le_refl _)⟩
end Go.Proofs.YteolocchmhpggaaGreatDoor

namespace Go.Proofs.YteolocchmhpggaaGreatDoor
open Go.RowKit CrossMath

theorem KS.wroteB {w W W1 : World} {L : List (Nat × Array Value)} (h : KS w L W) {o : Obj} (ho : On (W.alloc o) W1 W.heap.size) {cs : Array Value} (hr : Row W1 W.heap.size cs.toList) : KS w (L ++ [(W.heap.size, cs)]) W1 :=
 KS.more ⟨fun p hp => ho.row (Nat.ne_of_lt (h.1 p hp).lt) ((h.alloc o).1 p hp), below_on (h.alloc o).2 ho h.2.size⟩ hr
theorem wp_loadM {P : Program} {op : Oper} {a : Act} {w : World} {K : Act → World → Prop} {Q : Exit → Act → World → Prop} (ty : TypeId) (x : Operand) (ho : op.op = .load ty x) (b : Nat) (hx : a.eval x = .pointer (some ⟨b, 0, none⟩)) (cs : Array Value) (h : Row w b cs.toList) (hT : AggTy P ty cs.size)
 (k : K (a.put op.dst (.agg cs)) w) : op.wp P a w K Q := by
 obtain ⟨⟨d, hu, hd⟩, hi⟩ := hT
 exact wp_load_mid ty x ho b 0 hx cs.toList d h.whole hu hd (by simpa using hi) (by simpa using k)
theorem wp_eqlM {P : Program} {op : Oper} {a : Act} {w : World} {K : Act → World → Prop} {Q : Exit → Act → World → Prop} (ty ty2 : TypeId) (x y : Operand) (ho : op.op = .binOp .eql ty x y ty2) (u v : Array Value) (b : Bool) (hx : a.eval x = .agg u) (hy : a.eval y = .agg v) (hq : (eqGuard .eql ty x y (.agg u) (.agg v)).run P w = .ok () w) (h : (binOp .eql ty (.agg u) (.agg v)).run P w = .ok (.bool b) w)
 (k : K (a.put op.dst (.bool b)) w) : op.wp P a w K Q := by
 unfold Oper.wp execOp
 simp only [ho, hx, hy, Sem.run_bind, Sem.run_pure, Result.andThen_ok, hq, h]
 exact k
theorem eqg_meet (x y : Operand) (u v : Array Value) (w : World) : (eqGuard .eql 36 x y (.agg u) (.agg v)).run Tryz.prog w = .ok () w := by
 have h : Tryz.prog.eqGuardType Tryz.prog.depth 36 = false := by kernel_rfl
 simp [eqGuard, go_sem, h]
theorem act_tmp (a : Act) (i : Nat) : a.eval (.tmp i) = a.tmps[i]?.getD undef := by simp [Act.eval]
theorem lawnum_any (n : Int) (w : World) : Calls Tryz.prog 8 #[.int .i64 n] w fun e w' => e = .returned (.int .i64 n) ∧ Below w.heap.size w w' := by
 have hb := Below.refl w.heap.size w
 go_enter Tryz.func8, Tryz.ntmps8
 go_wp2
 go_ret
 exact ⟨rfl, hb⟩
set_option maxRecDepth 100000 in
theorem lawof_any (a b c d : Int) (w : World) : Calls Tryz.prog 26 #[.int .i64 a, .int .i64 b, .int .i64 c, .int .i64 d] w fun e w' => e = .returned (.agg (segA a b c d)) ∧ Below w.heap.size w w' := by
 have hb := Lib.hid ((Below.refl w.heap.size w).alloc (Nat.le_refl _) (.cells zero_seg 25))
 have oS : OneC (segA a b c d) := by simp [OneC, Value.oneCell']
 go_enter Tryz.func26, Tryz.ntmps26
 go_wp2_with (refine wpList_store_R rfl _ _ _ rfl _ (segA a b c d) rfl rfl _ (Row.at rfl zero_seg.toList _) (by rfl) agg_seg oS ?_; intro w3 r3 o3)
 exact bodyPost_ret (results_R1 (cs := segA a b c d) rfl rfl r3 agg_seg) rfl ⟨rfl, below_on hb.out o3 (Nat.le_refl _)⟩

theorem arr82 (a : Array Value) (h : a.size = 82) : ∃ x0 x1 x2 x3 x4 x5 x6 x7 x8 x9 x10 x11 x12 x13 x14 x15 x16 x17 x18 x19 x20 x21 x22 x23 x24 x25 x26 x27 x28 x29 x30 x31 x32 x33 x34 x35 x36 x37 x38 x39 x40 x41 x42 x43 x44 x45 x46 x47 x48 x49 x50 x51 x52 x53 x54 x55 x56 x57 x58 x59 x60 x61 x62 x63 x64 x65 x66 x67 x68 x69 x70 x71 x72 x73 x74 x75 x76 x77 x78 x79 x80 x81, a = #[x0, x1, x2, x3, x4, x5, x6, x7, x8, x9, x10, x11, x12, x13, x14, x15, x16, x17, x18, x19, x20, x21, x22, x23, x24, x25, x26, x27, x28, x29, x30, x31, x32, x33, x34, x35, x36, x37, x38, x39, x40, x41, x42, x43, x44, x45, x46, x47, x48, x49, x50, x51, x52, x53, x54, x55, x56, x57, x58, x59, x60, x61, x62, x63, x64, x65, x66, x67, x68, x69, x70, x71, x72, x73, x74, x75, x76, x77, x78, x79, x80, x81] := by
 refine ⟨a[0], a[1], a[2], a[3], a[4], a[5], a[6], a[7], a[8], a[9], a[10], a[11], a[12], a[13], a[14], a[15], a[16], a[17], a[18], a[19], a[20], a[21], a[22], a[23], a[24], a[25], a[26], a[27], a[28], a[29], a[30], a[31], a[32], a[33], a[34], a[35], a[36], a[37], a[38], a[39], a[40], a[41], a[42], a[43], a[44], a[45], a[46], a[47], a[48], a[49], a[50], a[51], a[52], a[53], a[54], a[55], a[56], a[57], a[58], a[59], a[60], a[61], a[62], a[63], a[64], a[65], a[66], a[67], a[68], a[69], a[70], a[71], a[72], a[73], a[74], a[75], a[76], a[77], a[78], a[79], a[80], a[81], ?_⟩
 refine Array.ext (by simp [h]) (fun i h1 h2 => ?_)
 match i, h2 with
 | 0, _ | 1, _ | 2, _ | 3, _ | 4, _ | 5, _ | 6, _ | 7, _ | 8, _ | 9, _ | 10, _ | 11, _ | 12, _ | 13, _ | 14, _ | 15, _ | 16, _ | 17, _ | 18, _ | 19, _ | 20, _ | 21, _ | 22, _ | 23, _ | 24, _ | 25, _ | 26, _ | 27, _ | 28, _ | 29, _ | 30, _ | 31, _ | 32, _ | 33, _ | 34, _ | 35, _ | 36, _ | 37, _ | 38, _ | 39, _ | 40, _ | 41, _ | 42, _ | 43, _ | 44, _ | 45, _ | 46, _ | 47, _ | 48, _ | 49, _ | 50, _ | 51, _ | 52, _ | 53, _ | 54, _ | 55, _ | 56, _ | 57, _ | 58, _ | 59, _ | 60, _ | 61, _ | 62, _ | 63, _ | 64, _ | 65, _ | 66, _ | 67, _ | 68, _ | 69, _ | 70, _ | 71, _ | 72, _ | 73, _ | 74, _ | 75, _ | 76, _ | 77, _ | 78, _ | 79, _ | 80, _ | 81, _ => rfl
 | i + 82, h2 => simp at h2; omega

set_option maxRecDepth 100000 in
set_option maxHeartbeats 6400000 in
theorem works_core (M1 M2 M3 P R S : Array Value) (w : World) (z1 : M1.size = 41 ∧ OneC M1) (z2 : M2.size = 41 ∧ OneC M2) (z3 : M3.size = 41 ∧ OneC M3) (hP : P.size = 20) (hR : R.size = 20) (hS : S.size = 20)
 (hM1 : ∀ W, Below w.heap.size w W → Calls Tryz.prog 7 #[.agg (segA 0 0 2 2), .agg (segA 0 2 2 0)] W fun e w' => e = .returned (.tuple #[.agg M1, .int .i64 0]) ∧ Below W.heap.size W w')
 (hM2 : ∀ W, Below w.heap.size w W → Calls Tryz.prog 7 #[.agg (segA 0 0 2 0), .agg (segA 1 0 3 0)] W fun e w' => e = .returned (.tuple #[.agg M2, .int .i64 0]) ∧ Below W.heap.size W w')
 (hM3 : ∀ W, Below w.heap.size w W → Calls Tryz.prog 7 #[.agg (segA 0 0 1 0), .agg (segA 0 1 1 1)] W fun e w' => e = .returned (.tuple #[.agg M3, .int .i64 0]) ∧ Below W.heap.size W w')
 (hC1 : ∀ W, Calls Tryz.prog 13 #[.agg (segA 0 0 2 2), .agg (segA 0 2 2 0)] W fun e w' => e = .returned (.tuple #[.bool true, .int .i64 0]) ∧ Below W.heap.size W w')
 (hC2 : ∀ W, Calls Tryz.prog 13 #[.agg (segA 0 0 2 2), .agg (segA 1 1 2 0)] W fun e w' => e = .returned (.tuple #[.bool false, .int .i64 0]) ∧ Below W.heap.size W w')
 (hAP : ∀ W, Calls Tryz.prog 27 #[.int .i64 1, .int .i64 1] W fun e w' => e = .returned (.agg P) ∧ Below W.heap.size W w')
 (hAR : ∀ W, Calls Tryz.prog 27 #[.int .i64 1, .int .i64 0] W fun e w' => e = .returned (.agg R) ∧ Below W.heap.size W w')
 (hAS : ∀ W, Calls Tryz.prog 27 #[.int .i64 2, .int .i64 0] W fun e w' => e = .returned (.agg S) ∧ Below W.heap.size W w')
 (hE1 : ∀ W, (binOp .eql 36 (.agg M1) (.agg (meetA 1 P P))).run Tryz.prog W = .ok (.bool true) W)
 (hE2 : ∀ W, (binOp .eql 36 (.agg M2) (.agg (meetA 2 R S))).run Tryz.prog W = .ok (.bool true) W)
 (hE3 : ∀ W, (binOp .eql 36 (.agg M3) (.agg zero_meet)).run Tryz.prog W = .ok (.bool true) W) :
 Calls Tryz.prog 9 #[] w fun e w' => e = .returned (.bool true) ∧ Below w.heap.size w w' := by
 have H_M1 := Lib.hid hM1; clear hM1
 have H_M2 := Lib.hid hM2; clear hM2
 have H_M3 := Lib.hid hM3; clear hM3
 have H_C1 := Lib.hid hC1; clear hC1
 have H_C2 := Lib.hid hC2; clear hC2
 have H_AP := Lib.hid hAP; clear hAP
 have H_AR := Lib.hid hAR; clear hAR
 have H_AS := Lib.hid hAS; clear hAS
 have H_E1 := Lib.hid hE1; clear hE1
 have H_E2 := Lib.hid hE2; clear hE2
 have H_E3 := Lib.hid hE3; clear hE3
 have T1 : AggTy Tryz.prog 36 M1.size := by rw [z1.1]; exact agg_meet
 have HZ1 := Lib.hid z1; have HT1 := Lib.hid T1; clear z1 T1
 have T2 : AggTy Tryz.prog 36 M2.size := by rw [z2.1]; exact agg_meet
 have HZ2 := Lib.hid z2; have HT2 := Lib.hid T2; clear z2 T2
 have T3 : AggTy Tryz.prog 36 M3.size := by rw [z3.1]; exact agg_meet
 have HZ3 := Lib.hid z3; have HT3 := Lib.hid T3; clear z3 T3
 have HOf := Lib.hid lawof_any
 have HNum := Lib.hid lawnum_any
 have g1 := meet_size (.int .i64 1) P hP
 have g2 := meet_made (.int .i64 1) P P hP hP
 have g3 := meet_size (.int .i64 2) R hR
 have g4 := meet_made (.int .i64 2) R S hR hS
 have HG := Lib.hid (And.intro g1 (And.intro g2 (And.intro g3 g4)))
 clear g1 g2 g3 g4
 have hK := KS.nil w
 generalize hL : ([] : List (Nat × Array Value)) = L at hK
 have HL := Lib.hid hL; clear hL
 go_enter Tryz.func9, Tryz.ntmps9
 go_wp2_with fail
 refine (HOf.out _ _ _ _ _).mono ?_
 rintro e w1 ⟨rfl, hb⟩
 replace hK := hK.after hb
 clear hb
 go_wp2_with fail
 refine (HOf.out _ _ _ _ _).mono ?_
 rintro e w1 ⟨rfl, hb⟩
 replace hK := hK.after hb
 clear hb
 go_wp2_with fail
 refine (H_M1.out _ hK.2).mono ?_
 rintro e w1 ⟨rfl, hb⟩
 replace hK := hK.after hb
 clear hb
 go_upto_region 2 with (refine wpList_store_R rfl _ _ _ rfl _ M1 rfl rfl _ (Row.at rfl zero_meet.toList _) (by rw [HZ1.out.1]; rfl) HT1.out HZ1.out.2 ?_; intro w2 r2 o2)
 replace hK := hK.wroteB o2 r2
 clear r2 o2
 generalize w1.heap.size = b1 at *
 rw [← HL.out] at hK
 clear HL
 generalize hL : [] ++ [(b1, M1)] = L at hK
 have HL := Lib.hid hL; clear hL
 go_wp2_with fail
 refine (HOf.out _ _ _ _ _).mono ?_
 rintro e w1 ⟨rfl, hb⟩
 replace hK := hK.after hb
 clear hb
 go_wp2_with fail
 refine (HOf.out _ _ _ _ _).mono ?_
 rintro e w1 ⟨rfl, hb⟩
 replace hK := hK.after hb
 clear hb
 go_wp2_with fail
 refine (H_M2.out _ hK.2).mono ?_
 rintro e w1 ⟨rfl, hb⟩
 replace hK := hK.after hb
 clear hb
 go_upto_region 3 with (refine wpList_store_R rfl _ _ _ rfl _ M2 rfl rfl _ (Row.at rfl zero_meet.toList _) (by rw [HZ2.out.1]; rfl) HT2.out HZ2.out.2 ?_; intro w2 r2 o2)
 replace hK := hK.wroteB o2 r2
 clear r2 o2
 generalize w1.heap.size = b2 at *
 rw [← HL.out] at hK
 clear HL
 generalize hL : [] ++ [(b1, M1)] ++ [(b2, M2)] = L at hK
 have HL := Lib.hid hL; clear hL
 go_wp2_with fail
 refine (HOf.out _ _ _ _ _).mono ?_
 rintro e w1 ⟨rfl, hb⟩
 replace hK := hK.after hb
 clear hb
 go_wp2_with fail
 refine (HOf.out _ _ _ _ _).mono ?_
 rintro e w1 ⟨rfl, hb⟩
 replace hK := hK.after hb
 clear hb
 go_wp2_with fail
 refine (H_M3.out _ hK.2).mono ?_
 rintro e w1 ⟨rfl, hb⟩
 replace hK := hK.after hb
 clear hb
 go_upto_region 4 with (refine wpList_store_R rfl _ _ _ rfl _ M3 rfl rfl _ (Row.at rfl zero_meet.toList _) (by rw [HZ3.out.1]; rfl) HT3.out HZ3.out.2 ?_; intro w2 r2 o2)
 replace hK := hK.wroteB o2 r2
 clear r2 o2
 generalize w1.heap.size = b3 at *
 rw [← HL.out] at hK
 clear HL
 generalize hL : [] ++ [(b1, M1)] ++ [(b2, M2)] ++ [(b3, M3)] = L at hK
 have HL := Lib.hid hL; clear hL
 go_wp2_with fail
 refine (HOf.out _ _ _ _ _).mono ?_
 rintro e w1 ⟨rfl, hb⟩
 replace hK := hK.after hb
 clear hb
 go_wp2_with fail
 refine (HOf.out _ _ _ _ _).mono ?_
 rintro e w1 ⟨rfl, hb⟩
 replace hK := hK.after hb
 clear hb
 go_wp2_with fail
 refine (H_C1.out _).mono ?_
 rintro e w1 ⟨rfl, hb⟩
 replace hK := hK.after hb
 clear hb
 go_wp2_with fail
 refine (HOf.out _ _ _ _ _).mono ?_
 rintro e w1 ⟨rfl, hb⟩
 replace hK := hK.after hb
 clear hb
 go_wp2_with fail
 refine (HOf.out _ _ _ _ _).mono ?_
 rintro e w1 ⟨rfl, hb⟩
 replace hK := hK.after hb
 clear hb
 go_wp2_with fail
 refine (H_C2.out _).mono ?_
 rintro e w1 ⟨rfl, hb⟩
 replace hK := hK.after hb
 clear hb
 go_upto_region 6 with fail
 refine wp_region_midG (by kernel_rfl) [5, 12, 17, 20, 24] (fun i => match i with
  | 0 => some (.agg M1)
  | 1 => some (.agg P)
  | 2 => some (.agg P)
  | 3 => some (.agg (meetA 1 P P))
  | 4 => some (.bool true)
  | 5 => some (.bool true)
  | 6 => some (.agg M2)
  | 7 => some (.agg R)
  | 8 => some (.agg S)
  | 9 => some (.agg (meetA 2 R S))
  | 10 => some (.bool true)
  | 11 => some (.bool true)
  | 12 => some (.bool true)
  | 13 => some (.agg M3)
  | 14 => some (.agg zero_meet)
  | 15 => some (.bool true)
  | 16 => some (.bool true)
  | 17 => some (.bool true)
  | 18 => some (.bool true)
  | 19 => some (.bool true)
  | 20 => some (.bool true)
  | 21 => some (.bool false)
  | 22 => some (.bool true)
  | 23 => some (.bool true)
  | 24 => some (.bool true)
  | 25 => some (.int .i64 0)
  | 26 => some (.int .i64 0)
  | 27 => some (.int .i64 0)
  | 28 => some (.int .i64 0)
  | 29 => some (.int .i64 0)
  | 30 => some (.int .i64 0)
  | 31 => some (.int .i64 0)
  | 32 => some (.int .i64 0)
  | 33 => some (.int .i64 0)
  | 34 => some (.int .i64 0)
  | 35 => some (.int .i64 0)
  | 36 => some (.int .i64 0)
  | 37 => some (.int .i64 0)
  | 38 => some (.int .i64 0)
  | 39 => some (.bool true)
  | 40 => some (.bool true)
  | 41 => some (.bool true)
  | _ => none) (by intro j hj; simp only [List.mem_cons, List.not_mem_nil, or_false] at hj; rcases hj with rfl | rfl | rfl | rfl | rfl <;> rfl) (fun _ _ W => KS w L W) (by kernel_rfl) hK.drew ?_ ?_
 ·intro listed a W i o hI ho h0 hdep K hK'
  have hi : i < 42 := (Array.getElem?_eq_some_iff.1 ho).1
  have hS : KS w L W := hI.world
  clear h0
  have q1 : a.tmps[1]?.getD undef = .pointer (some ⟨b1, 0, none⟩) := hI.old 1 (noDst_spec (by kernel_rfl))
  have q2 : a.tmps[2]?.getD undef = .int .i64 0 := hI.old 2 (noDst_spec (by kernel_rfl))
  have q3 : a.tmps[3]?.getD undef = .pointer (some ⟨b2, 0, none⟩) := hI.old 3 (noDst_spec (by kernel_rfl))
  have q4 : a.tmps[4]?.getD undef = .int .i64 0 := hI.old 4 (noDst_spec (by kernel_rfl))
  have q5 : a.tmps[5]?.getD undef = .pointer (some ⟨b3, 0, none⟩) := hI.old 5 (noDst_spec (by kernel_rfl))
  have q6 : a.tmps[6]?.getD undef = .int .i64 0 := hI.old 6 (noDst_spec (by kernel_rfl))
  have q7 : a.tmps[7]?.getD undef = .bool true := hI.old 7 (noDst_spec (by kernel_rfl))
  have q8 : a.tmps[8]?.getD undef = .int .i64 0 := hI.old 8 (noDst_spec (by kernel_rfl))
  have q9 : a.tmps[9]?.getD undef = .bool false := hI.old 9 (noDst_spec (by kernel_rfl))
  have q10 : a.tmps[10]?.getD undef = .int .i64 0 := hI.old 10 (noDst_spec (by kernel_rfl))
  have hcase : i = 0 ∨ i = 1 ∨ i = 2 ∨ i = 3 ∨ i = 4 ∨ i = 5 ∨ i = 6 ∨ i = 7 ∨ i = 8 ∨ i = 9 ∨ i = 10 ∨ i = 11 ∨ i = 12 ∨ i = 13 ∨ i = 14 ∨ i = 15 ∨ i = 16 ∨ i = 17 ∨ i = 18 ∨ i = 19 ∨ i = 20 ∨ i = 21 ∨ i = 22 ∨ i = 23 ∨ i = 24 ∨ i = 25 ∨ i = 26 ∨ i = 27 ∨ i = 28 ∨ i = 29 ∨ i = 30 ∨ i = 31 ∨ i = 32 ∨ i = 33 ∨ i = 34 ∨ i = 35 ∨ i = 36 ∨ i = 37 ∨ i = 38 ∨ i = 39 ∨ i = 40 ∨ i = 41 := by omega
  clear hi
  rcases hcase with rfl | rfl | rfl | rfl | rfl | rfl | rfl | rfl | rfl | rfl | rfl | rfl | rfl | rfl | rfl | rfl | rfl | rfl | rfl | rfl | rfl | rfl | rfl | rfl | rfl | rfl | rfl | rfl | rfl | rfl | rfl | rfl | rfl | rfl | rfl | rfl | rfl | rfl | rfl | rfl | rfl | rfl
  ·obtain rfl := oI ho
   have hr := hS.row 0 (b := b1) (cs := M1) (by rw [← HL.out]; rfl)
   have e1 : a.eval (.tmp 1) = .pointer (some ⟨b1, 0, none⟩) := by rw [act_tmp]; exact q1
   refine wp_loadM _ _ rfl b1 e1 M1 hr HT1.out ?_
   exact hK' (.agg M1) _ (fun u hu => oV hu) hS
  ·obtain rfl := oI ho
   clear hdep hI ho
   go_simp
   refine (H_AP.out _).mono ?_
   rintro e W1 ⟨rfl, hb⟩
   exact hK' (.agg P) W1 (fun u hu => oV hu) (hS.after hb)
  ·obtain rfl := oI ho
   clear hdep hI ho
   go_simp
   refine (H_AP.out _).mono ?_
   rintro e W1 ⟨rfl, hb⟩
   exact hK' (.agg P) W1 (fun u hu => oV hu) (hS.after hb)
  ·obtain rfl := oI ho
   have d1 : listed.getD 1 false = true := hdep ⟨1, .data⟩ (by simp) rfl
   have q42 : a.tmps[42]?.getD undef = .agg P := hI.val 1 _ 42 _ rfl rfl rfl d1
   have d2 : listed.getD 2 false = true := hdep ⟨2, .data⟩ (by simp) rfl
   have q43 : a.tmps[43]?.getD undef = .agg P := hI.val 2 _ 43 _ rfl rfl rfl d2
   clear hdep hI ho
   have g1 := HG.out.1
   have g2 := HG.out.2.1
   go_simp
   exact hK' (.agg (meetA 1 P P)) _ (fun u hu => oV hu) hS
  ·obtain rfl := oI ho
   have d0 : listed.getD 0 false = true := hdep ⟨0, .data⟩ (by simp) rfl
   have q41 : a.tmps[41]?.getD undef = .agg M1 := hI.val 0 _ 41 _ rfl rfl rfl d0
   have d3 : listed.getD 3 false = true := hdep ⟨3, .data⟩ (by simp) rfl
   have q44 : a.tmps[44]?.getD undef = .agg (meetA 1 P P) := hI.val 3 _ 44 _ rfl rfl rfl d3
   have e1 : a.eval (.tmp 41) = .agg M1 := by rw [act_tmp]; exact q41
   have e2 : a.eval (.tmp 44) = .agg (meetA 1 P P) := by rw [act_tmp]; exact q44
   refine wp_eqlM _ _ _ _ rfl M1 (meetA 1 P P) true e1 e2 (eqg_meet _ _ _ _ _) (H_E1.out _) ?_
   exact hK' (.bool true) _ (fun u hu => oV hu) hS
  ·obtain rfl := oI ho
   have d4 : listed.getD 4 false = true := hdep ⟨4, .data⟩ (by simp) rfl
   have q45 : a.tmps[45]?.getD undef = .bool true := hI.val 4 _ 45 _ rfl rfl rfl d4
   clear hdep hI ho
   go_simp
   exact hK' (.bool true) _ (fun u hu => oV hu) hS
  ·obtain rfl := oI ho
   have hr := hS.row 1 (b := b2) (cs := M2) (by rw [← HL.out]; rfl)
   have e3 : a.eval (.tmp 3) = .pointer (some ⟨b2, 0, none⟩) := by rw [act_tmp]; exact q3
   refine wp_loadM _ _ rfl b2 e3 M2 hr HT2.out ?_
   exact hK' (.agg M2) _ (fun u hu => oV hu) hS
  ·obtain rfl := oI ho
   clear hdep hI ho
   go_simp
   refine (H_AR.out _).mono ?_
   rintro e W1 ⟨rfl, hb⟩
   exact hK' (.agg R) W1 (fun u hu => oV hu) (hS.after hb)
  ·obtain rfl := oI ho
   clear hdep hI ho
   go_simp
   refine (H_AS.out _).mono ?_
   rintro e W1 ⟨rfl, hb⟩
   exact hK' (.agg S) W1 (fun u hu => oV hu) (hS.after hb)
  ·obtain rfl := oI ho
   have d7 : listed.getD 7 false = true := hdep ⟨7, .data⟩ (by simp) rfl
   have q48 : a.tmps[48]?.getD undef = .agg R := hI.val 7 _ 48 _ rfl rfl rfl d7
   have d8 : listed.getD 8 false = true := hdep ⟨8, .data⟩ (by simp) rfl
   have q49 : a.tmps[49]?.getD undef = .agg S := hI.val 8 _ 49 _ rfl rfl rfl d8
   clear hdep hI ho
   have g1 := HG.out.2.2.1
   have g2 := HG.out.2.2.2
   go_simp
   exact hK' (.agg (meetA 2 R S)) _ (fun u hu => oV hu) hS
  ·obtain rfl := oI ho
   have d6 : listed.getD 6 false = true := hdep ⟨6, .data⟩ (by simp) rfl
   have q47 : a.tmps[47]?.getD undef = .agg M2 := hI.val 6 _ 47 _ rfl rfl rfl d6
   have d9 : listed.getD 9 false = true := hdep ⟨9, .data⟩ (by simp) rfl
   have q50 : a.tmps[50]?.getD undef = .agg (meetA 2 R S) := hI.val 9 _ 50 _ rfl rfl rfl d9
   have e1 : a.eval (.tmp 47) = .agg M2 := by rw [act_tmp]; exact q47
   have e2 : a.eval (.tmp 50) = .agg (meetA 2 R S) := by rw [act_tmp]; exact q50
   refine wp_eqlM _ _ _ _ rfl M2 (meetA 2 R S) true e1 e2 (eqg_meet _ _ _ _ _) (H_E2.out _) ?_
   exact hK' (.bool true) _ (fun u hu => oV hu) hS
  ·obtain rfl := oI ho
   have d5 : listed.getD 5 false = true := hdep ⟨5, .data⟩ (by simp) rfl
   have q46 : a.tmps[46]?.getD undef = .bool true := hI.val 5 _ 46 _ rfl rfl rfl d5
   have d10 : listed.getD 10 false = true := hdep ⟨10, .data⟩ (by simp) rfl
   have q51 : a.tmps[51]?.getD undef = .bool true := hI.val 10 _ 51 _ rfl rfl rfl d10
   clear hdep hI ho
   go_simp
   exact hK' (.bool true) _ (fun u hu => oV hu) hS
  ·obtain rfl := oI ho
   have d11 : listed.getD 11 false = true := hdep ⟨11, .data⟩ (by simp) rfl
   have q52 : a.tmps[52]?.getD undef = .bool true := hI.val 11 _ 52 _ rfl rfl rfl d11
   clear hdep hI ho
   go_simp
   exact hK' (.bool true) _ (fun u hu => oV hu) hS
  ·obtain rfl := oI ho
   have hr := hS.row 2 (b := b3) (cs := M3) (by rw [← HL.out]; rfl)
   have e5 : a.eval (.tmp 5) = .pointer (some ⟨b3, 0, none⟩) := by rw [act_tmp]; exact q5
   refine wp_loadM _ _ rfl b3 e5 M3 hr HT3.out ?_
   exact hK' (.agg M3) _ (fun u hu => oV hu) hS
  ·obtain rfl := oI ho
   clear hdep hI ho
   go_simp
   exact hK' (.agg zero_meet) _ (fun u hu => oV hu) hS
  ·obtain rfl := oI ho
   have d13 : listed.getD 13 false = true := hdep ⟨13, .data⟩ (by simp) rfl
   have q54 : a.tmps[54]?.getD undef = .agg M3 := hI.val 13 _ 54 _ rfl rfl rfl d13
   have d14 : listed.getD 14 false = true := hdep ⟨14, .data⟩ (by simp) rfl
   have q55 : a.tmps[55]?.getD undef = .agg zero_meet := hI.val 14 _ 55 _ rfl rfl rfl d14
   have e1 : a.eval (.tmp 54) = .agg M3 := by rw [act_tmp]; exact q54
   have e2 : a.eval (.tmp 55) = .agg zero_meet := by rw [act_tmp]; exact q55
   refine wp_eqlM _ _ _ _ rfl M3 zero_meet true e1 e2 (eqg_meet _ _ _ _ _) (H_E3.out _) ?_
   exact hK' (.bool true) _ (fun u hu => oV hu) hS
  ·obtain rfl := oI ho
   have d12 : listed.getD 12 false = true := hdep ⟨12, .data⟩ (by simp) rfl
   have q53 : a.tmps[53]?.getD undef = .bool true := hI.val 12 _ 53 _ rfl rfl rfl d12
   have d15 : listed.getD 15 false = true := hdep ⟨15, .data⟩ (by simp) rfl
   have q56 : a.tmps[56]?.getD undef = .bool true := hI.val 15 _ 56 _ rfl rfl rfl d15
   clear hdep hI ho
   go_simp
   exact hK' (.bool true) _ (fun u hu => oV hu) hS
  ·obtain rfl := oI ho
   have d16 : listed.getD 16 false = true := hdep ⟨16, .data⟩ (by simp) rfl
   have q57 : a.tmps[57]?.getD undef = .bool true := hI.val 16 _ 57 _ rfl rfl rfl d16
   clear hdep hI ho
   go_simp
   exact hK' (.bool true) _ (fun u hu => oV hu) hS
  ·obtain rfl := oI ho
   clear hdep hI ho
   go_simp
   exact hK' (.bool true) _ (fun u hu => oV hu) hS
  ·obtain rfl := oI ho
   have d17 : listed.getD 17 false = true := hdep ⟨17, .data⟩ (by simp) rfl
   have q58 : a.tmps[58]?.getD undef = .bool true := hI.val 17 _ 58 _ rfl rfl rfl d17
   have d18 : listed.getD 18 false = true := hdep ⟨18, .data⟩ (by simp) rfl
   have q59 : a.tmps[59]?.getD undef = .bool true := hI.val 18 _ 59 _ rfl rfl rfl d18
   clear hdep hI ho
   go_simp
   exact hK' (.bool true) _ (fun u hu => oV hu) hS
  ·obtain rfl := oI ho
   have d19 : listed.getD 19 false = true := hdep ⟨19, .data⟩ (by simp) rfl
   have q60 : a.tmps[60]?.getD undef = .bool true := hI.val 19 _ 60 _ rfl rfl rfl d19
   clear hdep hI ho
   go_simp
   exact hK' (.bool true) _ (fun u hu => oV hu) hS
  ·obtain rfl := oI ho
   clear hdep hI ho
   go_simp
   exact hK' (.bool false) _ (fun u hu => oV hu) hS
  ·obtain rfl := oI ho
   have d21 : listed.getD 21 false = true := hdep ⟨21, .data⟩ (by simp) rfl
   have q62 : a.tmps[62]?.getD undef = .bool false := hI.val 21 _ 62 _ rfl rfl rfl d21
   clear hdep hI ho
   go_simp
   exact hK' (.bool true) _ (fun u hu => oV hu) hS
  ·obtain rfl := oI ho
   have d20 : listed.getD 20 false = true := hdep ⟨20, .data⟩ (by simp) rfl
   have q61 : a.tmps[61]?.getD undef = .bool true := hI.val 20 _ 61 _ rfl rfl rfl d20
   have d22 : listed.getD 22 false = true := hdep ⟨22, .data⟩ (by simp) rfl
   have q63 : a.tmps[63]?.getD undef = .bool true := hI.val 22 _ 63 _ rfl rfl rfl d22
   clear hdep hI ho
   go_simp
   exact hK' (.bool true) _ (fun u hu => oV hu) hS
  ·obtain rfl := oI ho
   have d23 : listed.getD 23 false = true := hdep ⟨23, .data⟩ (by simp) rfl
   have q64 : a.tmps[64]?.getD undef = .bool true := hI.val 23 _ 64 _ rfl rfl rfl d23
   clear hdep hI ho
   go_simp
   exact hK' (.bool true) _ (fun u hu => oV hu) hS
  ·obtain rfl := oI ho
   clear hdep hI ho
   go_simp
   exact hK' (.int .i64 0) _ (fun u hu => oV hu) hS
  ·obtain rfl := oI ho
   have d25 : listed.getD 25 false = true := hdep ⟨25, .data⟩ (by simp) rfl
   have q66 : a.tmps[66]?.getD undef = .int .i64 0 := hI.val 25 _ 66 _ rfl rfl rfl d25
   clear hdep hI ho
   go_simp
   refine (HNum.out _ _).mono ?_
   rintro e W1 ⟨rfl, hb⟩
   exact hK' (.int .i64 0) W1 (fun u hu => oV hu) (hS.after hb)
  ·obtain rfl := oI ho
   clear hdep hI ho
   go_simp
   exact hK' (.int .i64 0) _ (fun u hu => oV hu) hS
  ·obtain rfl := oI ho
   have d27 : listed.getD 27 false = true := hdep ⟨27, .data⟩ (by simp) rfl
   have q68 : a.tmps[68]?.getD undef = .int .i64 0 := hI.val 27 _ 68 _ rfl rfl rfl d27
   clear hdep hI ho
   go_simp
   refine (HNum.out _ _).mono ?_
   rintro e W1 ⟨rfl, hb⟩
   exact hK' (.int .i64 0) W1 (fun u hu => oV hu) (hS.after hb)
  ·obtain rfl := oI ho
   have d26 : listed.getD 26 false = true := hdep ⟨26, .data⟩ (by simp) rfl
   have q67 : a.tmps[67]?.getD undef = .int .i64 0 := hI.val 26 _ 67 _ rfl rfl rfl d26
   have d28 : listed.getD 28 false = true := hdep ⟨28, .data⟩ (by simp) rfl
   have q69 : a.tmps[69]?.getD undef = .int .i64 0 := hI.val 28 _ 69 _ rfl rfl rfl d28
   clear hdep hI ho
   go_simp
   exact hK' (.int .i64 0) _ (fun u hu => oV hu) hS
  ·obtain rfl := oI ho
   clear hdep hI ho
   go_simp
   exact hK' (.int .i64 0) _ (fun u hu => oV hu) hS
  ·obtain rfl := oI ho
   have d30 : listed.getD 30 false = true := hdep ⟨30, .data⟩ (by simp) rfl
   have q71 : a.tmps[71]?.getD undef = .int .i64 0 := hI.val 30 _ 71 _ rfl rfl rfl d30
   clear hdep hI ho
   go_simp
   refine (HNum.out _ _).mono ?_
   rintro e W1 ⟨rfl, hb⟩
   exact hK' (.int .i64 0) W1 (fun u hu => oV hu) (hS.after hb)
  ·obtain rfl := oI ho
   have d29 : listed.getD 29 false = true := hdep ⟨29, .data⟩ (by simp) rfl
   have q70 : a.tmps[70]?.getD undef = .int .i64 0 := hI.val 29 _ 70 _ rfl rfl rfl d29
   have d31 : listed.getD 31 false = true := hdep ⟨31, .data⟩ (by simp) rfl
   have q72 : a.tmps[72]?.getD undef = .int .i64 0 := hI.val 31 _ 72 _ rfl rfl rfl d31
   clear hdep hI ho
   go_simp
   exact hK' (.int .i64 0) _ (fun u hu => oV hu) hS
  ·obtain rfl := oI ho
   clear hdep hI ho
   go_simp
   exact hK' (.int .i64 0) _ (fun u hu => oV hu) hS
  ·obtain rfl := oI ho
   have d33 : listed.getD 33 false = true := hdep ⟨33, .data⟩ (by simp) rfl
   have q74 : a.tmps[74]?.getD undef = .int .i64 0 := hI.val 33 _ 74 _ rfl rfl rfl d33
   clear hdep hI ho
   go_simp
   refine (HNum.out _ _).mono ?_
   rintro e W1 ⟨rfl, hb⟩
   exact hK' (.int .i64 0) W1 (fun u hu => oV hu) (hS.after hb)
  ·obtain rfl := oI ho
   have d32 : listed.getD 32 false = true := hdep ⟨32, .data⟩ (by simp) rfl
   have q73 : a.tmps[73]?.getD undef = .int .i64 0 := hI.val 32 _ 73 _ rfl rfl rfl d32
   have d34 : listed.getD 34 false = true := hdep ⟨34, .data⟩ (by simp) rfl
   have q75 : a.tmps[75]?.getD undef = .int .i64 0 := hI.val 34 _ 75 _ rfl rfl rfl d34
   clear hdep hI ho
   go_simp
   exact hK' (.int .i64 0) _ (fun u hu => oV hu) hS
  ·obtain rfl := oI ho
   clear hdep hI ho
   go_simp
   exact hK' (.int .i64 0) _ (fun u hu => oV hu) hS
  ·obtain rfl := oI ho
   have d36 : listed.getD 36 false = true := hdep ⟨36, .data⟩ (by simp) rfl
   have q77 : a.tmps[77]?.getD undef = .int .i64 0 := hI.val 36 _ 77 _ rfl rfl rfl d36
   clear hdep hI ho
   go_simp
   refine (HNum.out _ _).mono ?_
   rintro e W1 ⟨rfl, hb⟩
   exact hK' (.int .i64 0) W1 (fun u hu => oV hu) (hS.after hb)
  ·obtain rfl := oI ho
   have d35 : listed.getD 35 false = true := hdep ⟨35, .data⟩ (by simp) rfl
   have q76 : a.tmps[76]?.getD undef = .int .i64 0 := hI.val 35 _ 76 _ rfl rfl rfl d35
   have d37 : listed.getD 37 false = true := hdep ⟨37, .data⟩ (by simp) rfl
   have q78 : a.tmps[78]?.getD undef = .int .i64 0 := hI.val 37 _ 78 _ rfl rfl rfl d37
   clear hdep hI ho
   go_simp
   exact hK' (.int .i64 0) _ (fun u hu => oV hu) hS
  ·obtain rfl := oI ho
   have d38 : listed.getD 38 false = true := hdep ⟨38, .data⟩ (by simp) rfl
   have q79 : a.tmps[79]?.getD undef = .int .i64 0 := hI.val 38 _ 79 _ rfl rfl rfl d38
   clear hdep hI ho
   go_simp
   exact hK' (.bool true) _ (fun u hu => oV hu) hS
  ·obtain rfl := oI ho
   have d24 : listed.getD 24 false = true := hdep ⟨24, .data⟩ (by simp) rfl
   have q65 : a.tmps[65]?.getD undef = .bool true := hI.val 24 _ 65 _ rfl rfl rfl d24
   have d39 : listed.getD 39 false = true := hdep ⟨39, .data⟩ (by simp) rfl
   have q80 : a.tmps[80]?.getD undef = .bool true := hI.val 39 _ 80 _ rfl rfl rfl d39
   clear hdep hI ho
   go_simp
   exact hK' (.bool true) _ (fun u hu => oV hu) hS
  ·obtain rfl := oI ho
   have d40 : listed.getD 40 false = true := hdep ⟨40, .data⟩ (by simp) rfl
   have q81 : a.tmps[81]?.getD undef = .bool true := hI.val 40 _ 81 _ rfl rfl rfl d40
   clear hdep hI ho
   go_simp
   exact hK' (.bool true) _ (fun u hu => oV hu) hS
 ·intro listed a W hI hall
  have hB := Lib.hid (show KS w L W from hI.world).2
  have hdef := hI.defers
  have h0 : slotOf a 0 = .bool true := hI.val 41 _ 0 _ rfl rfl rfl (hall 41 (by decide))
  obtain ⟨x0, x1, x2, x3, x4, x5, x6, x7, x8, x9, x10, x11, x12, x13, x14, x15, x16, x17, x18, x19, x20, x21, x22, x23, x24, x25, x26, x27, x28, x29, x30, x31, x32, x33, x34, x35, x36, x37, x38, x39, x40, x41, x42, x43, x44, x45, x46, x47, x48, x49, x50, x51, x52, x53, x54, x55, x56, x57, x58, x59, x60, x61, x62, x63, x64, x65, x66, x67, x68, x69, x70, x71, x72, x73, x74, x75, x76, x77, x78, x79, x80, x81, hx⟩ := arr82 a.tmps hI.size
  obtain ⟨tmps, defers⟩ := a
  simp only at hx hdef
  subst hx
  subst hdef
  have h0 : x0 = .bool true := h0
  subst x0
  clear hI hall
  go_wp2_with fail
  go_ret
  exact ⟨rfl, hB.out⟩
end Go.Proofs.YteolocchmhpggaaGreatDoor

namespace Go.Proofs.YteolocchmhpggaaGreatDoor
open Go.RowKit CrossMath

theorem works_true (w : World) (ht : TabTz w) (hw0 : 0 < w.heap.size) : Calls Tryz.prog 9 #[] w fun e w' => e = .returned (.bool true) ∧ Below w.heap.size w w' := by
 have m1 : meetM (laidS ⟨0, 0, 2, 2⟩) (laidS ⟨0, 2, 2, 0⟩) = ⟨1, dotP 1 1, dotP 1 1⟩ := by decide +kernel
 have m2 : meetM (laidS ⟨0, 0, 2, 0⟩) (laidS ⟨1, 0, 3, 0⟩) = ⟨2, dotP 1 0, dotP 2 0⟩ := by decide +kernel
 have m3 : meetM (laidS ⟨0, 0, 1, 0⟩) (laidS ⟨0, 1, 1, 1⟩) = noneM := by decide +kernel
 have c1 : crossM (laidS ⟨0, 0, 2, 2⟩) (laidS ⟨0, 2, 2, 0⟩) = true := by decide +kernel
 have c2 : crossM (laidS ⟨0, 0, 2, 2⟩) (laidS ⟨1, 1, 2, 0⟩) = false := by decide +kernel
 refine works_core (mtA (meetM (laidS ⟨0, 0, 2, 2⟩) (laidS ⟨0, 2, 2, 0⟩))) (mtA (meetM (laidS ⟨0, 0, 2, 0⟩) (laidS ⟨1, 0, 3, 0⟩))) (mtA (meetM (laidS ⟨0, 0, 1, 0⟩) (laidS ⟨0, 1, 1, 1⟩))) (dotA 1 1) (dotA 1 0) (dotA 2 0) w
  ⟨mtA_size _, mtA_one _⟩ ⟨mtA_size _, mtA_one _⟩ ⟨mtA_size _, mtA_one _⟩ rfl rfl rfl ?_ ?_ ?_ ?_ ?_ ?_ ?_ ?_ ?_ ?_ ?_
 ·exact fun W hW => Meet_any ⟨0, 0, 2, 2⟩ ⟨0, 2, 2, 0⟩ W (rightS_iff.1 (by decide)).1 (rightS_iff.1 (by decide)).2 (rightS_iff.1 (by decide)).1 (rightS_iff.1 (by decide)).2 (ht.below hw0 hW) (Nat.lt_of_lt_of_le hw0 hW.size)
 ·exact fun W hW => Meet_any ⟨0, 0, 2, 0⟩ ⟨1, 0, 3, 0⟩ W (rightS_iff.1 (by decide)).1 (rightS_iff.1 (by decide)).2 (rightS_iff.1 (by decide)).1 (rightS_iff.1 (by decide)).2 (ht.below hw0 hW) (Nat.lt_of_lt_of_le hw0 hW.size)
 ·exact fun W hW => Meet_any ⟨0, 0, 1, 0⟩ ⟨0, 1, 1, 1⟩ W (rightS_iff.1 (by decide)).1 (rightS_iff.1 (by decide)).2 (rightS_iff.1 (by decide)).1 (rightS_iff.1 (by decide)).2 (ht.below hw0 hW) (Nat.lt_of_lt_of_le hw0 hW.size)
 ·intro W
  have := Crosses_any ⟨0, 0, 2, 2⟩ ⟨0, 2, 2, 0⟩ W (rightS_iff.1 (by decide)).1 (rightS_iff.1 (by decide)).2 (rightS_iff.1 (by decide)).1 (rightS_iff.1 (by decide)).2
  rw [c1] at this
  exact this
 ·intro W
  have := Crosses_any ⟨0, 0, 2, 2⟩ ⟨1, 1, 2, 0⟩ W (rightS_iff.1 (by decide)).1 (rightS_iff.1 (by decide)).2 (rightS_iff.1 (by decide)).1 (rightS_iff.1 (by decide)).2
  rw [c2] at this
  exact this
 ·exact fun W => at_any 1 1 W (by unfold Bd; decide) (by unfold Bd; decide)
 ·exact fun W => at_any 1 0 W (by unfold Bd; decide) (by unfold Bd; decide)
 ·exact fun W => at_any 2 0 W (by unfold Bd; decide) (by unfold Bd; decide)
 ·intro W
  rw [m1]
  have := eqlMt ⟨1, dotP 1 1, dotP 1 1⟩ ⟨1, dotP 1 1, dotP 1 1⟩ W
  rw [eqM_self] at this
  exact this
 ·intro W
  rw [m2]
  have := eqlMt ⟨2, dotP 1 0, dotP 2 0⟩ ⟨2, dotP 1 0, dotP 2 0⟩ W
  rw [eqM_self] at this
  exact this
 ·intro W
  rw [m3]
  have := eqlMt noneM noneM W
  rw [eqM_self] at this
  rw [mtA_zero] at this ⊢
  exact this
end Go.Proofs.YteolocchmhpggaaGreatDoor

namespace Go.Proofs.YteolocchmhpggaaGreatDoor
open Go.RowKit CrossMath

end Go.Proofs.YteolocchmhpggaaGreatDoor

namespace Go.Proofs.YteolocchmhpggaaGreatDoor
open Go.RowKit CrossMath

theorem ckI_no {s : Sg} (h : rightS s = false) : ckI s.ax s.ay s.bx s.bY = 2 := by
 unfold ckI
 rw [if_neg]
 intro hc
 have : rightS s = true := by
  rw [Bool.and_eq_true, Bool.and_eq_true] at hc
  obtain ⟨h1, h2, h3⟩ := hc
  unfold rightS
  rw [Bool.and_eq_true, Bool.and_eq_true, nodeB_iff, nodeB_iff]
  unfold ndB inB at h1 h2
  simp at h1 h2
  unfold Bd
  exact ⟨by omega, by omega, h3⟩
 rw [h] at this
 cases this
theorem wrongB_of {s t : Sg} (h : (rightS s && rightS t) = false) : WrongB s t := by
 cases hs : rightS s with
 | false => exact .inl (ckI_no hs)
 | true =>
   rw [hs] at h
   exact .inr ⟨(rightS_iff.1 hs).1, (rightS_iff.1 hs).2, ckI_no (by simpa using h)⟩
end Go.Proofs.YteolocchmhpggaaGreatDoor

namespace Go.Proofs.YteolocchmhpggaaGreatDoor
open Go.RowKit CrossMath

end Go.Proofs.YteolocchmhpggaaGreatDoor
