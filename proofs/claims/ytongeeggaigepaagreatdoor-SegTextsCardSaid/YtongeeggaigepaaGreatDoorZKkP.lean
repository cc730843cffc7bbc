import Derived.RangeFuncNested
import Derived.RangeFuncBound
import Derived.RangeFuncCalls
import Derived.RangeFuncLeaves
import Derived.Shelf.Abstract
import Derived.Shelf.RegionOpen
import Derived.OwnWalkIn
import Derived.TacticsInMore
import Derived.LoopNIn
import Derived.LoopIn
import Derived.Test.YtongeeggaigepaaGreatDoorZKkBase
import Derived.Test.YtongeeggaigepaaGreatDoorKkTz
namespace Go.Proofs.YtongeeggaigepaaGreatDoor
open Go.RowKit Go.Shelf
attribute [local go_sem] Oper.semAt_some
def wordBits (i w : Nat) : List Nat := if _h : w = 0 then [] else (64 * i + Lib.ctz 64 w) :: wordBits i (w &&& (w - 1))
termination_by w
decreasing_by exact Nat.lt_of_le_of_lt Nat.and_le_right (by omega)
theorem wordBits_zero (i : Nat) : wordBits i 0 = [] := by rw [wordBits]; simp
theorem wordBits_step (i w : Nat) (h : w ≠ 0) : wordBits i w = (64 * i + Lib.ctz 64 w) :: wordBits i (w &&& (w - 1)) := by rw [wordBits]; simp [h]
def bitsTo (m : Nat → Nat) : Nat → List Nat
 | 0 => []
 | k + 1 => bitsTo m k ++ wordBits k (m k)
theorem bitsTo_pre (m : Nat → Nat) {k n : Nat} (h : k ≤ n) : bitsTo m k <+: bitsTo m n := by
 induction n with
 | zero => obtain rfl : k = 0 := by omega
           exact List.prefix_refl _
 | succ n ih =>
   by_cases e : k = n + 1
   ·subst e; exact List.prefix_refl _
   ·exact (ih (by omega)).trans (List.prefix_append _ _)
abbrev TabTz (w : World) : Prop := TabAt 3 Lib.deBruijn64tab w
theorem ctz_lt {x : Nat} (h0 : x ≠ 0) (h : x < 18446744073709551616) : Lib.ctz 64 x < 64 := (Lib.lowest_bit 64 x h0 h).2
theorem index0 (a b c d : Value) (w : World) : (Instr.index 179 (.agg #[a, b, c, d]) (.int .i64 0)).run Tryz.prog w = .ok a w := by kernel_rfl
theorem index1 (a b c d : Value) (w : World) : (Instr.index 179 (.agg #[a, b, c, d]) (.int .i64 1)).run Tryz.prog w = .ok b w := by kernel_rfl
theorem index2 (a b c d : Value) (w : World) : (Instr.index 179 (.agg #[a, b, c, d]) (.int .i64 2)).run Tryz.prog w = .ok c w := by kernel_rfl
theorem index3 (a b c d : Value) (w : World) : (Instr.index 179 (.agg #[a, b, c, d]) (.int .i64 3)).run Tryz.prog w = .ok d w := by kernel_rfl
theorem tz_any (x : Nat) (hx : x < 18446744073709551616) (w : World) (hT : TabTz w) :
 CallsIn Fence.wide 5 Tryz.prog 200 #[.int .u64 x] w fun e w' => e = .returned (.int .i64 (Lib.ctz 64 x)) ∧ w = w' :=
 callsIn_wide.2 ((Tryz.bits_TrailingZeros64 x hx w (fun _ => hT)).mono fun _ _ ⟨he, hw⟩ => ⟨he, hw.symm⟩)
theorem TabTz.below {n₀ : Nat} {w w1 : World} (h : TabTz w) (hn : 3 < n₀) (hb : Below n₀ w w1) : TabTz w1 :=
 fun j hj => (hb.cell (p := ⟨3, j, none⟩) hn).trans (h j hj)
set_option maxRecDepth 100000 in
set_option maxHeartbeats 2000000 in
theorem places1_in (l Bx n₀ : Nat) (m : Nat → Nat) (hm : ∀ i, m i < 18446744073709551616) (hn₀ : 3 < n₀) (J Jx : List Nat → World → Prop)
 (hY : ∀ pre x W, J pre W → pre.length < (bitsTo m 4).length → YieldAt Fence.wide 5 Tryz.prog l #[.int .i64 (x : Nat)] W fun e W' =>
   (e = .returned (.bool true) ∧ J (pre ++ [x]) W' ∧ Below n₀ W W') ∨ (e = .returned (.bool false) ∧ Jx (pre ++ [x]) W'))
 (W : World) (h0 : W.cell? ⟨Bx, 0, none⟩ = some (.int .u64 (m 0))) (h1 : W.cell? ⟨Bx, 1, none⟩ = some (.int .u64 (m 1))) (h2 : W.cell? ⟨Bx, 2, none⟩ = some (.int .u64 (m 2))) (h3 : W.cell? ⟨Bx, 3, none⟩ = some (.int .u64 (m 3)))
 (ht : TabTz W) (hJ0 : J [] W) :
 CallsIn Fence.wide 6 Tryz.prog 212 #[.func (.yield l) #[] #[], .pointer (some ⟨Bx, 0, none⟩)] W fun e W' => (∃ v, e = .returned v) ∧
  ((∃ ys, ys = bitsTo m 4 ∧ J ys W') ∨ (∃ pre, pre <+: bitsTo m 4 ∧ Jx pre W')) := by
 have HY := Lib.hid hY; clear hY
 have Hm := Lib.hid hm; clear hm
 have Ht := Lib.hid ht; clear ht
 refine callsIn_of_wp Tryz.func212 rfl trivial ?_ rfl
 simp only [Tryz.ntmps212, List.size_toArray, List.length_cons, List.length_nil, Nat.reduceAdd, Nat.reduceSub, Array.replicate_succ, Array.replicate_zero, List.push_toArray, List.append_toArray, List.nil_append, List.cons_append]
 gi_wp2
 clear h0 h1 h2 h3
 gi_loopw [6] (fun i wr => ∃ k : Nat, k ≤ 4 ∧ i = .int .i64 k ∧ J (bitsTo m k) wr ∧ Below n₀ W wr) (fun i _ => 4 - (intOf i).toNat)
 case atStart => exact ⟨0, by omega, rfl, hJ0, Below.refl _ _⟩
 case round =>
  obtain ⟨k, hk, rfl, hJ, hB⟩ := hrel
  by_cases hk4 : k < 4
  ·have hix : ∀ w, (Instr.index 179 (.agg #[.int .u64 (m 0), .int .u64 (m 1), .int .u64 (m 2), .int .u64 (m 3)]) (.int .i64 (k : Int))).run Tryz.prog w = .ok (.int .u64 (m k)) w := by
    intro w
    match k, hk4 with
    | 0, _ => exact index0 _ _ _ _ _
    | 1, _ => exact index1 _ _ _ _ _
    | 2, _ => exact index2 _ _ _ _ _
    | 3, _ => exact index3 _ _ _ _ _
   have hk1 : (k : Int) < 4 := by omega
   have hpre := bitsTo_pre m (show k + 1 ≤ 4 by omega)
   have HP := Lib.hid hpre; clear hpre
   have hm0 := Hm.out k
   gi_wp2
   clear hix
   gi_loopw [4] (fun v wr2 => ∃ (x : Nat) (pre : List Nat), x < 18446744073709551616 ∧ v = .int .u64 x ∧ J pre wr2 ∧ Hid (pre ++ wordBits k x = bitsTo m (k + 1)) ∧ Below n₀ W wr2) (fun v _ => (intOf v).toNat)
   case atStart => exact ⟨m k, bitsTo m k, hm0, rfl, hJ, Lib.hid rfl, hB⟩
   case round =>
    obtain ⟨x, pre, hx, rfl, hJ2, HE, hB2⟩ := hrel
    by_cases hx0 : x = 0
    ·subst hx0
     have HE' : Hid (pre = bitsTo m (k + 1)) := Lib.hid (by have := HE.out; rwa [wordBits_zero, List.append_nil] at this)
     clear HE
     gi_wp2
     go_roundw
     case rel => exact ⟨k + 1, by omega, by go_num, by rw [← HE'.out]; exact hJ2, hB2⟩
     case measure => simp [intOf]; omega
    ·have hst := wordBits_step k x hx0
     have HE' : Hid ((pre ++ [64 * k + Lib.ctz 64 x]) ++ wordBits k (x &&& (x - 1)) = bitsTo m (k + 1)) := Lib.hid (by rw [← HE.out, hst]; simp)
     have hlen : pre.length < (bitsTo m 4).length := by
      have := HP.out.length_le
      rw [← HE.out, hst] at this
      simp at this; omega
     have HPre : Hid ((pre ++ [64 * k + Lib.ctz 64 x]) <+: bitsTo m 4) := Lib.hid ((List.prefix_append _ _).trans (by rw [HE'.out]; exact HP.out))
     have hlt : x &&& (x - 1) < x := Nat.lt_of_le_of_lt Nat.and_le_right (by omega)
     have hand : bits BinOp.and IntKind.u64 (x : Int) ((x : Int) - 1) = ((x &&& (x - 1) : Nat) : Int) := by
      rw [show ((x : Int) - 1) = ((x - 1 : Nat) : Int) by omega]; exact bits_and_u64_nat x (x - 1) hx (by omega)
     have hne : ((x : Int) != 0) = true := by simp; omega
     have hc := ctz_lt hx0 hx
     obtain ⟨fn, tmps, assign, body, hy, hR⟩ := HY.out pre (64 * k + Lib.ctz 64 x) wr hJ2 hlen
     rw [show ((64 * k + Lib.ctz 64 x : Nat) : Int) = 64 * (k : Int) + (Lib.ctz 64 x : Int) by omega] at hy
     clear HE hst hlen
     gi_wp2_with fail
     refine ⟨trivial, (tz_any x hx _ (Ht.out.below hn₀ hB2)).mono ?_⟩
     rintro e w' ⟨rfl, rfl⟩
     gi_wp2
     refine hR.mono ?_
     rintro e W3 (⟨rfl, hJ3, hk3⟩ | ⟨rfl, hJx3⟩)
     ·gi_wp2
      go_roundw
      case rel => exact ⟨x &&& (x - 1), _, by omega, rfl, hJ3, HE', hB2.trans hk3⟩
      case measure => simp [intOf]; omega
     ·gi_wp2
      refine bodyPost_ret (results_none rfl _ _ _) rfl ?_
      exact ⟨⟨_, rfl⟩, .inr ⟨_, HPre.out, hJx3⟩⟩
  ·obtain rfl : k = 4 := by omega
   gi_wp2
   go_end0
   exact ⟨⟨_, rfl⟩, .inl ⟨_, rfl, hJ⟩⟩
theorem places_stops (Bx n₀ : Nat) (m : Nat → Nat) (hm : ∀ i, m i < 18446744073709551616) (hn₀ : 3 < n₀) (w : World) (hw : n₀ ≤ w.heap.size) (hr : Row w Bx [.int .u64 (m 0), .int .u64 (m 1), .int .u64 (m 2), .int .u64 (m 3)]) (ht : TabTz w) :
 SeqStopsK Fence.wide 6 Tryz.prog 212 #[.pointer (some ⟨Bx, 0, none⟩)] (fun x : Nat => #[Value.int .i64 x]) (Below n₀) (fun ys => ys = bitsTo m 4) (fun pre => pre <+: bitsTo m 4) (bitsTo m 4).length w := fun l J Jx W hW _ _ hY h0 => by
 have hr' := hr.below hW hr.lt
 refine (places1_in l Bx n₀ m hm hn₀ J Jx hY W (hr'.c 0 rfl) (hr'.c 1 rfl) (hr'.c 2 rfl) (hr'.c 3 rfl) (ht.below (Nat.lt_of_lt_of_le hn₀ hw) hW) h0).mono ?_
 rintro e W' ⟨he, ⟨ys, rfl, hj⟩ | ⟨pre, hp, hj⟩⟩
 ·exact ⟨he, .inl ⟨_, rfl, hj⟩⟩
 ·exact ⟨he, .inr ⟨_, hp, hj⟩⟩
theorem places_in (m : Nat → Nat) (w : World) :
 CallsIn Fence.wide 7 Tryz.prog 201 #[wv (m 0) (m 1) (m 2) (m 3)] w fun e w' => e = .returned (.func (.func 212) #[] #[.pointer (some ⟨w.heap.size, 0, none⟩)]) ∧ w' = w.alloc (.cells #[.int .u64 (m 0), .int .u64 (m 1), .int .u64 (m 2), .int .u64 (m 3)] 179) := by
 have hmf : ∀ (fn : Fn) (first cap : Array Value) (w : World), (Instr.makeFunc fn first cap).run Tryz.prog w = .ok (.func fn first cap) w := fun _ _ _ _ => rfl
 refine callsIn_wide.2 ?_
 go_enter Tryz.func201, Tryz.ntmps201
 go_wp2
 go_ret
 exact ⟨rfl, rfl⟩
end Go.Proofs.YtongeeggaigepaaGreatDoor
namespace Go.Proofs.YtongeeggaigepaaGreatDoor
open Go.RowKit Go.Shelf
attribute [local go_sem] Oper.semAt_some
set_option maxRecDepth 100000 in
set_option maxHeartbeats 2000000 in
theorem twos_one (b c x0 : Nat) (rest : List Nat) (m : Nat → Nat) (hm : ∀ i, m i < 18446744073709551616) (hbits : bitsTo m 4 = x0 :: rest) (hx0 : x0 < 256) (w : World)
 (hr : Row w b [.int .u64 (m 0), .int .u64 (m 1), .int .u64 (m 2), .int .u64 (m 3)]) (ht : TabTz w) (hw0 : 3 < w.heap.size) :
 Calls Tryz.prog 182 #[.slice (some ⟨b, 0, none⟩) 1 c] w fun e w' => e = .returned (.int .i64 x0) ∧ Below w.heap.size w w' := by
 refine (callsIn_wide (n := 9)).1 ?_
 have HB := Lib.hid hbits; clear hbits
 have Hm := Lib.hid hm; clear hm
 have Ht := Lib.hid ht; clear ht
 have lb := hr.lt
 have d0 := hr.c 0 rfl
 have d1 := hr.c 1 rfl
 have d2 := hr.c 2 rfl
 have d3 := hr.c 3 rfl
 refine callsIn_of_wp_marks Tryz.func182 rfl trivial ?_ rfl
 simp only [Tryz.ntmps182, List.size_toArray, List.length_cons, List.length_nil, Nat.reduceAdd, Nat.reduceSub, Array.replicate_succ, Array.replicate_zero, List.push_toArray, List.append_toArray, List.nil_append, List.cons_append]
 refine wpIn_wide.2 ?_
 go_wp2_with fail
 go_step3
 go_wp2_with fail
 go_step3
 go_wp2_with fail
 refine wp_loop_rounds 2 ?_
 rw [rounds_succ]
 go_wp2_with fail
 refine callsIn_wide.1 ((places_in m _).mono ?_)
 rintro e w1 ⟨rfl, rfl⟩
 go_wp2_with fail
 generalize hW : World.alloc _ _ = W0
 have rL : Row W0 w.heap.size [.int .i64 256] := by rw [← hW]; exact ((Row.at rfl _ _).alloc _).alloc _
 have rX : Row W0 (w.heap.size + 1 + 1) [.int .u64 (m 0), .int .u64 (m 1), .int .u64 (m 2), .int .u64 (m 3)] := by rw [← hW]; exact Row.at (by simp) _ _
 have hB0 : Below w.heap.size w W0 := by rw [← hW]; exact (((Below.refl w.heap.size w).alloc (Nat.le_refl _) _).alloc (by simp) _).alloc (by simp; omega) _
 clear hW d0 d1 d2 d3 hr
 have hsz := hB0.size
 refine (wpIn_wide (n := 7)).1 ?_
 refine wpIn_rangeFunc_ownF (α := Nat) rfl (by omega) (gf := 212) (lb := #[.pointer (some ⟨w.heap.size + 1 + 1, 0, none⟩)]) rfl trivial (enters_of Tryz.func212 (by kernel_rfl) rfl)
  (places_stops (w.heap.size + 1 + 1) w.heap.size m Hm.out hw0 W0 hsz rX (Ht.out.below hw0 hB0)) belowK_t (belowK_b (by omega)) (Below.refl _ _) (fun _ => rfl)
  (fun pre W => pre = [] ∧ W.cell? ⟨w.heap.size, 0, none⟩ = some (.int .i64 256) ∧ W.frozen? ⟨w.heap.size, 0, none⟩ = false ∧ Below w.heap.size w W)
  (fun c pre W => c = .exit 1 ∧ (∃ x : Nat, pre = [x] ∧ (x < 256 → W.cell? ⟨w.heap.size, 0, none⟩ = some (.int .i64 x))) ∧ (W.cell? ⟨w.heap.size, 0, none⟩).isSome = true ∧ Below w.heap.size w W)
  (fun s A B row hs hg hr => ⟨hs.1, cell_kept hs.2.1 hg (fun r e => (hr r e).2), (frozen_kept hs.2.1 hg (fun r e => (hr r e).2)).trans hs.2.2.1, hs.2.2.2.grown hg hs.2.2.2.size (fun k e => Nat.le_trans hsz (hr k e).1)⟩)
  (fun c s A B row hs hg hr => ⟨hs.1, hs.2.1.elim (fun x hx => ⟨x, hx.1, fun hl => cell_kept (hx.2 hl) hg (fun r e => (hr r e).2)⟩), by
    obtain ⟨v, hv⟩ := Option.isSome_iff_exists.1 hs.2.2.1
    rw [cell_kept hv hg (fun r e => (hr r e).2)]; rfl, hs.2.2.2.grown hg hs.2.2.2.size (fun k e => Nat.le_trans hsz (hr k e).1)⟩)
  ⟨rfl, rL.c 0 rfl, rL.f 0 rfl, hB0⟩
  (fun x => { tmps := #[.slice (some ⟨b, 0, none⟩) 1 c, undef, .int .i64 0, .pointer (some ⟨w.heap.size, 0, none⟩), undef, .pointer (some ⟨w.heap.size + 1, 0, none⟩), .int .i64 (x : Nat), .slice (some ⟨b, 0, none⟩) 1 c, .int .i64 1, .int .i64 0, .bool true, .pointer (some ⟨b, 0, none⟩),
    .agg #[.int .u64 (m 0), .int .u64 (m 1), .int .u64 (m 2), .int .u64 (m 3)], .agg #[.int .u64 (m 0), .int .u64 (m 1), .int .u64 (m 2), .int .u64 (m 3)], .func (.func 212) #[] #[.pointer (some ⟨w.heap.size + 1 + 1, 0, none⟩)], .int .i64 (x : Nat), undef, undef, undef, undef, undef], defers := [] }) ?assign ?body ?done ?stop
 case assign =>
  intro l x W K hK
  gi_wp2
  exact hK
 case body =>
  rintro l pre x W ⟨rfl, hc, hf, hB⟩ _
  have hS : (W.cell? ⟨w.heap.size, 0, none⟩).isSome = true := by rw [hc]; rfl
  gi_wp2
  ·exact ⟨KeepsOthers.setCell _ _ _, rfl, ⟨x, rfl, fun _ => World.cell?_setCell_same' _ _ _ hS⟩, by rw [World.cell?_setCell_same' _ _ _ hS]; rfl, hB.setCell (p := ⟨w.heap.size, 0, none⟩) (Nat.le_refl _) _⟩
  ·exact ⟨KeepsOthers.setCell _ _ _, rfl, ⟨x, rfl, fun hl => by omega⟩, by rw [World.cell?_setCell_same' _ _ _ hS]; rfl, hB.setCell (p := ⟨w.heap.size, 0, none⟩) (Nat.le_refl _) _⟩
 case done =>
  rintro D ys W hD rfl ⟨hn, _⟩ hK
  rw [HB.out] at hn
  cases hn
 case stop =>
  rintro D c pre W hD hp ⟨rfl, ⟨x, rfl, hc⟩, hs, hB⟩ hK
  rw [HB.out] at hp
  obtain rfl : x = x0 := by
   obtain ⟨t, ht⟩ := hp
   simp at ht; exact ht.1
  have hc' := hc hx0
  refine wpIn_wide.2 ?_
  go_wp2_with fail
  rw [rounds_succ]
  go_wp2_with fail
  rw [Exit.noGoto_ret]
  refine ⟨by simp, .inl ⟨_, _, rfl, run_takeDeferred hK, ?_⟩⟩
  exact ⟨_, results_tmp rfl _ _ _, rfl, hB.trans (belowK_b (w := w) (Nat.le_refl _) W D _ _ (by omega) hK rfl rfl)⟩
end Go.Proofs.YtongeeggaigepaaGreatDoor
namespace Go.Proofs.YtongeeggaigepaaGreatDoor
open Go.RowKit Go.Shelf
attribute [local go_sem] Oper.semAt_some
end Go.Proofs.YtongeeggaigepaaGreatDoor
namespace Go.Proofs.YtongeeggaigepaaGreatDoor
open Go.RowKit
end Go.Proofs.YtongeeggaigepaaGreatDoor

namespace Go.Proofs.YtongeeggaigepaaGreatDoor
theorem filter_low (p q : Nat → Bool) (k n : Nat) (hk : k < n) (hp : p k = true) (hlo : ∀ j, j < k → p j = false) (hq : ∀ j, q j = (p j && decide (j ≠ k))) :
 (List.range n).filter p = k :: (List.range n).filter q := by
 obtain ⟨r, rfl⟩ : ∃ r, n = k + (r + 1) := ⟨n - k - 1, by omega⟩
 rw [List.range_eq_range', ← List.range'_append_1, List.filter_append, List.filter_append, Nat.zero_add]
 have h1 : (List.range' 0 k).filter p = [] := by
  rw [List.filter_eq_nil_iff]
  intro j hj
  rw [List.mem_range'_1] at hj
  rw [hlo j (by omega)]; decide
 have h2 : (List.range' 0 k).filter q = [] := by
  rw [List.filter_eq_nil_iff]
  intro j hj
  rw [List.mem_range'_1] at hj
  rw [hq, hlo j (by omega)]; simp
 rw [h1, h2, List.range'_succ, List.filter_cons, List.filter_cons, hp, hq k]
 simp only [if_true, List.nil_append, ne_eq, not_true_eq_false, decide_false, Bool.and_false, Bool.false_eq_true, if_false]
 congr 1
 apply List.filter_congr
 intro j hj
 rw [List.mem_range'_1] at hj
 rw [hq, decide_eq_true (by omega), Bool.and_true]
theorem ctz_form {x n : Nat} (h0 : x ≠ 0) (h : x < 2 ^ n) : ∃ m, x = 2 ^ Lib.ctz n x * (2 * m + 1) ∧ Lib.ctz n x < n := by
 unfold Lib.ctz
 rw [if_neg h0]
 exact Lib.ctzFrom_spec n x (by omega) h
theorem low_off (k m : Nat) : (2 ^ k * (2 * m + 1)) &&& (2 ^ k * (2 * m + 1) - 1) = 2 ^ k * (2 * m) := by
 have e : 2 ^ k * (2 * m + 1) - 1 = 2 ^ k * (2 * m) + (2 ^ k - 1) := by
  have : 0 < 2 ^ k := Nat.pow_pos (by decide)
  rw [Nat.mul_add, Nat.mul_one]; omega
 rw [e]
 apply Nat.eq_of_testBit_eq
 intro i
 have hlt : 2 ^ k - 1 < 2 ^ k := by have : 0 < 2 ^ k := Nat.pow_pos (by decide); omega
 rw [Nat.testBit_and, Nat.testBit_two_pow_mul_add _ hlt, Nat.testBit_two_pow_mul, Nat.testBit_two_pow_mul]
 by_cases h : k ≤ i
 ·obtain ⟨j, rfl⟩ : ∃ j, i = k + j := ⟨i - k, by omega⟩
  rw [if_neg (by omega), Nat.add_sub_cancel_left]
  cases j with
  | zero => simp
  | succ j =>
    rw [Nat.testBit_succ, Nat.testBit_succ, show (2 * m + 1) / 2 = m by omega, show 2 * m / 2 = m by omega]
    simp
 ·rw [if_pos (by omega)]
  simp [h]
theorem wordBits_list (i : Nat) : ∀ (n w : Nat), w ≤ n → w < 2 ^ 64 → wordBits i w = ((List.range 64).filter w.testBit).map (64 * i + ·) := by
 intro n
 induction n with
 | zero =>
   intro w hw _
   obtain rfl : w = 0 := by omega
   rw [wordBits_zero]
   simp
 | succ n ih =>
   intro w hw h64
   by_cases h0 : w = 0
   ·subst h0; rw [wordBits_zero]; simp
   ·obtain ⟨m, hm, hk⟩ := ctz_form h0 h64
    have ha : w &&& (w - 1) = 2 ^ Lib.ctz 64 w * (2 * m) := by
     have := low_off (Lib.ctz 64 w) m
     rw [← hm] at this
     exact this
    have hlt : w &&& (w - 1) ≤ w - 1 := Nat.and_le_right
    rw [wordBits_step i w h0, ih _ (by omega) (by omega)]
    have hf := filter_low w.testBit (w &&& (w - 1)).testBit (Lib.ctz 64 w) 64 hk ?_ ?_ ?_
    ·rw [hf]; rfl
    all_goals
     (try rw [ha])
     generalize Lib.ctz 64 w = k at *
     subst hm
    ·rw [Nat.testBit_two_pow_mul]
     simp
    ·intro j hj
     rw [Nat.testBit_two_pow_mul]
     simp; omega
    ·intro j
     rw [Nat.testBit_two_pow_mul, Nat.testBit_two_pow_mul]
     by_cases h : k ≤ j
     ·obtain ⟨r, rfl⟩ : ∃ r, j = k + r := ⟨j - k, by omega⟩
      rw [Nat.add_sub_cancel_left]
      cases r with
      | zero => simp
      | succ r =>
        rw [Nat.testBit_succ, Nat.testBit_succ, show (2 * m + 1) / 2 = m by omega, show 2 * m / 2 = m by omega]
        simp
     ·simp [h]
def bitB (m : Nat → Nat) (i : Nat) : Bool := (m (i / 64)).testBit (i % 64)
theorem bitsTo_list (m : Nat → Nat) (hm : ∀ i, m i < 18446744073709551616) (n : Nat) : bitsTo m n = (List.range (64 * n)).filter (bitB m) := by
 induction n with
 | zero => rfl
 | succ n ih =>
   rw [bitsTo, ih, wordBits_list n (m n) (m n) (Nat.le_refl _) (hm n), show 64 * (n + 1) = 64 * n + 64 by omega, List.range_add, List.filter_append]
   congr 1
   rw [List.filter_map]
   congr 1
   apply List.filter_congr
   intro j hj
   rw [List.mem_range] at hj
   show _ = (m ((64 * n + j) / 64)).testBit ((64 * n + j) % 64)
   rw [show (64 * n + j) / 64 = n by omega, show (64 * n + j) % 64 = j by omega]
end Go.Proofs.YtongeeggaigepaaGreatDoor

namespace Go.Proofs.YtongeeggaigepaaGreatDoor
open Go.RowKit Go.Shelf
attribute [local go_sem] Oper.semAt_some
def least (x : Nat) : List Nat → Nat
 | [] => x
 | y :: _ => min x y
set_option maxRecDepth 100000 in
set_option maxHeartbeats 2000000 in
theorem twos_two_any (b c x0 : Nat) (rest rest' : List Nat) (m k : Nat → Nat) (hm : ∀ i, m i < 18446744073709551616) (hkk : ∀ i, k i < 18446744073709551616) (hbits : bitsTo m 4 = x0 :: rest) (hbits' : bitsTo k 4 = rest') (hx0 : x0 < 256) (w : World)
 (hr : Row w b [.int .u64 (m 0), .int .u64 (m 1), .int .u64 (m 2), .int .u64 (m 3), .int .u64 (k 0), .int .u64 (k 1), .int .u64 (k 2), .int .u64 (k 3)]) (ht : TabTz w) (hw0 : 3 < w.heap.size) :
 Calls Tryz.prog 182 #[.slice (some ⟨b, 0, none⟩) 2 c] w fun e w' => e = .returned (.int .i64 (least x0 rest' : Nat)) ∧ Below w.heap.size w w' := by
 refine (callsIn_wide (n := 9)).1 ?_
 have HB := Lib.hid hbits; clear hbits
 have HB' := Lib.hid hbits'; clear hbits'
 have Hk := Lib.hid hkk; clear hkk
 have Hm := Lib.hid hm; clear hm
 have Ht := Lib.hid ht; clear ht
 have lb := hr.lt
 have d0 := hr.c 0 rfl
 have d1 := hr.c 1 rfl
 have d2 := hr.c 2 rfl
 have d3 := hr.c 3 rfl
 refine callsIn_of_wp_marks Tryz.func182 rfl trivial ?_ rfl
 simp only [Tryz.ntmps182, List.size_toArray, List.length_cons, List.length_nil, Nat.reduceAdd, Nat.reduceSub, Array.replicate_succ, Array.replicate_zero, List.push_toArray, List.append_toArray, List.nil_append, List.cons_append]
 refine wpIn_wide.2 ?_
 go_wp2_with fail
 go_step3
 go_wp2_with fail
 go_step3
 go_wp2_with fail
 refine wp_loop_rounds 3 ?_
 rw [rounds_succ]
 go_wp2_with fail
 refine callsIn_wide.1 ((places_in m _).mono ?_)
 rintro e w1 ⟨rfl, rfl⟩
 go_wp2_with fail
 generalize hW : World.alloc _ _ = W0
 have rL : Row W0 w.heap.size [.int .i64 256] := by rw [← hW]; exact ((Row.at rfl _ _).alloc _).alloc _
 have rX : Row W0 (w.heap.size + 1 + 1) [.int .u64 (m 0), .int .u64 (m 1), .int .u64 (m 2), .int .u64 (m 3)] := by rw [← hW]; exact Row.at (by simp) _ _
 have hB0 : Below w.heap.size w W0 := by rw [← hW]; exact (((Below.refl w.heap.size w).alloc (Nat.le_refl _) _).alloc (by simp) _).alloc (by simp; omega) _
 clear hW d0 d1 d2 d3
 have hsz := hB0.size
 have lW0 := rL.lt
 refine (wpIn_wide (n := 7)).1 ?_
 refine wpIn_rangeFunc_ownF (α := Nat) rfl (by omega) (gf := 212) (lb := #[.pointer (some ⟨w.heap.size + 1 + 1, 0, none⟩)]) rfl trivial (enters_of Tryz.func212 (by kernel_rfl) rfl)
  (places_stops (w.heap.size + 1 + 1) w.heap.size m Hm.out hw0 W0 hsz rX (Ht.out.below hw0 hB0)) belowK_t (belowK_b (by omega)) (Below.refl _ _) (fun _ => rfl)
  (fun pre W => pre = [] ∧ W.cell? ⟨w.heap.size, 0, none⟩ = some (.int .i64 256) ∧ W.frozen? ⟨w.heap.size, 0, none⟩ = false ∧ Below w.heap.size w W)
  (fun c pre W => c = .exit 1 ∧ (∃ x : Nat, pre = [x] ∧ (x < 256 → W.cell? ⟨w.heap.size, 0, none⟩ = some (.int .i64 x))) ∧ ((W.cell? ⟨w.heap.size, 0, none⟩).isSome = true ∧ W.frozen? ⟨w.heap.size, 0, none⟩ = false) ∧ Below w.heap.size w W)
  (fun s A B row hs hg hr => ⟨hs.1, cell_kept hs.2.1 hg (fun r e => (hr r e).2), (frozen_kept hs.2.1 hg (fun r e => (hr r e).2)).trans hs.2.2.1, hs.2.2.2.grown hg hs.2.2.2.size (fun k e => Nat.le_trans hsz (hr k e).1)⟩)
  (fun c s A B row hs hg hr => ⟨hs.1, hs.2.1.elim (fun x hx => ⟨x, hx.1, fun hl => cell_kept (hx.2 hl) hg (fun r e => (hr r e).2)⟩), by
    obtain ⟨v, hv⟩ := Option.isSome_iff_exists.1 hs.2.2.1.1
    exact ⟨by rw [cell_kept hv hg (fun r e => (hr r e).2)]; rfl, (frozen_kept hv hg (fun r e => (hr r e).2)).trans hs.2.2.1.2⟩, hs.2.2.2.grown hg hs.2.2.2.size (fun k e => Nat.le_trans hsz (hr k e).1)⟩)
  ⟨rfl, rL.c 0 rfl, rL.f 0 rfl, hB0⟩
  (fun x => { tmps := #[.slice (some ⟨b, 0, none⟩) 2 c, undef, .int .i64 0, .pointer (some ⟨w.heap.size, 0, none⟩), undef, .pointer (some ⟨w.heap.size + 1, 0, none⟩), .int .i64 (x : Nat), .slice (some ⟨b, 0, none⟩) 2 c, .int .i64 2, .int .i64 0, .bool true, .pointer (some ⟨b, 0, none⟩),
    .agg #[.int .u64 (m 0), .int .u64 (m 1), .int .u64 (m 2), .int .u64 (m 3)], .agg #[.int .u64 (m 0), .int .u64 (m 1), .int .u64 (m 2), .int .u64 (m 3)], .func (.func 212) #[] #[.pointer (some ⟨w.heap.size + 1 + 1, 0, none⟩)], .int .i64 (x : Nat), undef, undef, undef, undef, undef], defers := [] }) ?assign ?body ?done ?stop
 case assign =>
  intro l x W K hK
  gi_wp2
  exact hK
 case body =>
  rintro l pre x W ⟨rfl, hc, hf, hB⟩ _
  have hS : (W.cell? ⟨w.heap.size, 0, none⟩).isSome = true := by rw [hc]; rfl
  gi_wp2
  ·exact ⟨KeepsOthers.setCell _ _ _, rfl, ⟨x, rfl, fun _ => World.cell?_setCell_same' _ _ _ hS⟩, ⟨by rw [World.cell?_setCell_same' _ _ _ hS]; rfl, by rw [World.frozen?_setCell]; exact hf⟩, hB.setCell (p := ⟨w.heap.size, 0, none⟩) (Nat.le_refl _) _⟩
  ·exact ⟨KeepsOthers.setCell _ _ _, rfl, ⟨x, rfl, fun hl => by omega⟩, ⟨by rw [World.cell?_setCell_same' _ _ _ hS]; rfl, by rw [World.frozen?_setCell]; exact hf⟩, hB.setCell (p := ⟨w.heap.size, 0, none⟩) (Nat.le_refl _) _⟩
 case done =>
  rintro D ys W hD rfl ⟨hn, _⟩ hK
  rw [HB.out] at hn
  cases hn
 case stop =>
  rintro D c' pre W hD hp ⟨rfl, ⟨x, rfl, hc⟩, ⟨hs, hfz⟩, hB⟩ hK
  rw [HB.out] at hp
  obtain rfl : x = x0 := by
   obtain ⟨t, ht⟩ := hp
   simp at ht; exact ht.1
  have hc' := hc hx0
  have e0 : W.cell? ⟨b, 0 + 1 * 4, none⟩ = some (.int .u64 (k 0)) := (hB.cell (p := ⟨b, 4, none⟩) lb).trans (hr.c 4 rfl)
  have e1 : W.cell? ⟨b, 0 + 1 * 4 + 1, none⟩ = some (.int .u64 (k 1)) := (hB.cell (p := ⟨b, 5, none⟩) lb).trans (hr.c 5 rfl)
  have e2 : W.cell? ⟨b, 0 + 1 * 4 + 2, none⟩ = some (.int .u64 (k 2)) := (hB.cell (p := ⟨b, 6, none⟩) lb).trans (hr.c 6 rfl)
  have e3 : W.cell? ⟨b, 0 + 1 * 4 + 3, none⟩ = some (.int .u64 (k 3)) := (hB.cell (p := ⟨b, 7, none⟩) lb).trans (hr.c 7 rfl)
  refine wpIn_wide.2 ?_
  go_wp2_with fail
  rw [rounds_succ]
  go_wp2_with fail
  refine callsIn_wide.1 ((places_in k _).mono ?_)
  rintro e w1 ⟨rfl, rfl⟩
  clear e0 e1 e2 e3
  go_wp2_with fail
  have lD : D < W.heap.size := (Array.getElem?_eq_some_iff.1 hK).1
  have lL : w.heap.size < W.heap.size := block_lt_of_cell hc'
  have rLW : Row W w.heap.size [.int .i64 x] := ⟨lL, fun i v hv => by
   match i, hv with
   | 0, hv => exact ⟨hc'.trans hv, hfz⟩⟩
  generalize hW2 : World.alloc _ _ = W2
  have rL2 : Row W2 w.heap.size [.int .i64 x] := by rw [← hW2]; exact (rLW.alloc _).alloc _
  have rX2 : Row W2 (W.heap.size + 1) [.int .u64 (k 0), .int .u64 (k 1), .int .u64 (k 2), .int .u64 (k 3)] := by rw [← hW2]; exact Row.at (by simp) _ _
  have hB2 : Below w.heap.size w W2 := by rw [← hW2]; exact (hB.alloc hB.size _).alloc (by have := hB.size; simp; omega) _
  have hK2 : W2.heap[D]? = some (.deferred (some [])) := by
   rw [← hW2, Below.heap_alloc _ _ _ (by simp; omega), Below.heap_alloc _ _ _ lD]; exact hK
  have lD2 : D < W2.heap.size := (Array.getElem?_eq_some_iff.1 hK2).1
  clear hW2 rLW hK hc hc' hs hfz
  have hsz2 := hB2.size
  refine (wpIn_wide (n := 7)).1 ?_
  refine wpIn_rangeFunc_ownF (α := Nat) rfl (by omega) (gf := 212) (lb := #[.pointer (some ⟨W.heap.size + 1, 0, none⟩)]) rfl trivial (enters_of Tryz.func212 (by kernel_rfl) rfl)
   (places_stops (W.heap.size + 1) w.heap.size k Hk.out hw0 W2 hsz2 rX2 (Ht.out.below hw0 hB2)) belowK_t (belowK_b (by omega)) (Below.refl _ _) (fun _ => rfl)
   (fun pre V => pre = [] ∧ V.cell? ⟨w.heap.size, 0, none⟩ = some (.int .i64 x) ∧ V.frozen? ⟨w.heap.size, 0, none⟩ = false ∧ (D < V.heap.size ∧ V.heap[D]? = some (.deferred (some []))) ∧ Below w.heap.size w V)
   (fun c pre V => c = .exit 1 ∧ (∃ y : Nat, pre = [y] ∧ V.cell? ⟨w.heap.size, 0, none⟩ = some (.int .i64 (min x y : Nat))) ∧ (V.cell? ⟨w.heap.size, 0, none⟩).isSome = true ∧ (D < V.heap.size ∧ V.heap[D]? = some (.deferred (some []))) ∧ Below w.heap.size w V)
   (fun s A B row hs hg hr => ⟨hs.1, cell_kept hs.2.1 hg (fun r e => (hr r e).2), (frozen_kept hs.2.1 hg (fun r e => (hr r e).2)).trans hs.2.2.1,
     ⟨Nat.lt_of_lt_of_le hs.2.2.2.1.1 hg.size, (hg.block D hs.2.2.2.1.1 (fun e => by have := (hr D e.symm).1; omega)).trans hs.2.2.2.1.2⟩, hs.2.2.2.2.grown hg hs.2.2.2.2.size (fun k e => Nat.le_trans hsz2 (hr k e).1)⟩)
   (fun c s A B row hs hg hr => ⟨hs.1, hs.2.1.elim (fun x hx => ⟨x, hx.1, cell_kept hx.2 hg (fun r e => (hr r e).2)⟩), by
     obtain ⟨v, hv⟩ := Option.isSome_iff_exists.1 hs.2.2.1
     rw [cell_kept hv hg (fun r e => (hr r e).2)]; rfl,
     ⟨Nat.lt_of_lt_of_le hs.2.2.2.1.1 hg.size, (hg.block D hs.2.2.2.1.1 (fun e => by have := (hr D e.symm).1; omega)).trans hs.2.2.2.1.2⟩, hs.2.2.2.2.grown hg hs.2.2.2.2.size (fun k e => Nat.le_trans hsz2 (hr k e).1)⟩)
   ⟨rfl, rL2.c 0 rfl, rL2.f 0 rfl, ⟨lD2, hK2⟩, hB2⟩
   (fun y => { tmps := #[.slice (some ⟨b, 0, none⟩) 2 c, undef, .int .i64 0, .pointer (some ⟨w.heap.size, 0, none⟩), undef, .pointer (some ⟨W.heap.size, 0, none⟩), .int .i64 (y : Nat), .slice (some ⟨b, 0, none⟩) 2 c, .int .i64 2, .int .i64 1, .bool true, .pointer (some ⟨b, 4, none⟩),
     .agg #[.int .u64 (k 0), .int .u64 (k 1), .int .u64 (k 2), .int .u64 (k 3)], .agg #[.int .u64 (k 0), .int .u64 (k 1), .int .u64 (k 2), .int .u64 (k 3)], .func (.func 212) #[] #[.pointer (some ⟨W.heap.size + 1, 0, none⟩)], .int .i64 (y : Nat), undef, undef, undef, .int .i64 1, undef], defers := [] }) ?assign ?body ?done ?stop
  case assign =>
   intro l x W K hK
   gi_wp2
   exact hK
  case body =>
   rintro l pre y V ⟨rfl, hc, hf, ⟨lDV, hKV⟩, hBV⟩ _
   have hS : (V.cell? ⟨w.heap.size, 0, none⟩).isSome = true := by rw [hc]; rfl
   have hKS : ∀ v, (V.setCell ⟨w.heap.size, 0, none⟩ v).heap[D]? = some (.deferred (some [])) := fun v => by
    rw [Below.heap_setCell _ _ _ _ (show D ≠ w.heap.size by omega)]; exact hKV
   gi_wp2
   ·exact ⟨KeepsOthers.setCell _ _ _, rfl, ⟨y, rfl, by rw [World.cell?_setCell_same' _ _ _ hS, show ((min x y : Nat) : Int) = (y : Int) by omega]⟩, by rw [World.cell?_setCell_same' _ _ _ hS]; rfl, ⟨by simpa [World.setCell] using lDV, hKS _⟩, hBV.setCell (p := ⟨w.heap.size, 0, none⟩) (Nat.le_refl _) _⟩
   ·exact ⟨KeepsOthers.setCell _ _ _, rfl, ⟨y, rfl, by rw [World.cell?_setCell_same' _ _ _ hS, show ((min x y : Nat) : Int) = (x : Int) by omega]⟩, by rw [World.cell?_setCell_same' _ _ _ hS]; rfl, ⟨by simpa [World.setCell] using lDV, hKS _⟩, hBV.setCell (p := ⟨w.heap.size, 0, none⟩) (Nat.le_refl _) _⟩
  case done =>
   rintro D2 ys V hD2 rfl ⟨hn, hc', _, ⟨lDV, hKV⟩, hBV⟩ hKD2
   rw [HB'.out] at hn
   subst hn
   go_wp2_with fail
   rw [rounds_succ]
   go_wp2_with fail
   rw [Exit.noGoto_ret]
   refine ⟨by simp, .inl ⟨_, _, rfl, run_takeDeferred hKD2, ?_⟩⟩
   have hKV2 : (V.putObj D2 (.deferred none)).heap[D]? = some (.deferred (some [])) := ((grownBy_putObj' V D2 (.deferred none)).block D lDV (fun e => by cases e; omega)).trans hKV
   refine ⟨by simp, .inl ⟨_, _, rfl, run_takeDeferred hKV2, ?_⟩⟩
   exact ⟨_, results_tmp rfl _ _ _, rfl, (hBV.trans (belowK_b (w := w) (Nat.le_refl _) V D2 _ _ (by omega) hKD2 rfl rfl)).trans (belowK_b (w := w) (Nat.le_refl _) _ D _ _ (by omega) hKV2 rfl rfl)⟩
  case stop =>
   rintro D2 c' pre V hD2 hp2 ⟨rfl, ⟨y, rfl, hc⟩, hs, ⟨lDV, hKV⟩, hBV⟩ hKD2
   rw [HB'.out] at hp2
   obtain ⟨t2, rfl⟩ : ∃ t2, rest' = y :: t2 := by
    obtain ⟨t, ht⟩ := hp2
    exact ⟨t, by simpa using ht.symm⟩
   have hc' := hc
   refine wpIn_wide.2 ?_
   go_wp2_with fail
   rw [rounds_succ]
   go_wp2_with fail
   rw [Exit.noGoto_ret]
   refine ⟨by simp, .inl ⟨_, _, rfl, run_takeDeferred hKD2, ?_⟩⟩
   have hKV2 : (V.putObj D2 (.deferred none)).heap[D]? = some (.deferred (some [])) := ((grownBy_putObj' V D2 (.deferred none)).block D lDV (fun e => by cases e; omega)).trans hKV
   refine ⟨by simp, .inl ⟨_, _, rfl, run_takeDeferred hKV2, ?_⟩⟩
   exact ⟨_, results_tmp rfl _ _ _, rfl, (hBV.trans (belowK_b (w := w) (Nat.le_refl _) V D2 _ _ (by omega) hKD2 rfl rfl)).trans (belowK_b (w := w) (Nat.le_refl _) _ D _ _ (by omega) hKV2 rfl rfl)⟩
end Go.Proofs.YtongeeggaigepaaGreatDoor
