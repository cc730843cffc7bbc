import Derived.Test.YteolocchmhpggaaGreatDoorZKkBase
import Derived.BigQuiet
import Derived.Deep.QuietTactic
import Derived.Deep.RegionWith
namespace Go.Proofs.YteolocchmhpggaaGreatDoor
open Go.RowKit
end Go.Proofs.YteolocchmhpggaaGreatDoor
namespace Go.Proofs.YteolocchmhpggaaGreatDoor
open Go.RowKit
end Go.Proofs.YteolocchmhpggaaGreatDoor
namespace Go.Proofs.YteolocchmhpggaaGreatDoor
open Go.RowKit
end Go.Proofs.YteolocchmhpggaaGreatDoor
namespace Go.Proofs.YteolocchmhpggaaGreatDoor
open Go.RowKit
def outV (z : Int) : Value := if z.natAbs < T256 then .tuple #[ivz z, .int .i64 0] else .tuple #[iv false 0 0 0 0, .int .i64 110]
set_option maxHeartbeats 800000 in
theorem out_z (z : Int) (A : Option Addr) (c : Nat) (w : World) (hd : DS w z.natAbs A) :
 Calls Tryz.prog 115 #[bigv z A c] w fun e w' => e = .returned (outV z) ∧ Below w.heap.size w w' := by
 have HT := Lib.hid (fun W (hW : Below w.heap.size w W) => to_z z A c W (hd.below hW))
 clear hd
 by_cases hz : z.natAbs < T256
 ·have e1 : toV z = .tuple #[ivz z, .bool true] := by rw [toV, if_pos hz]
  rw [e1] at HT
  rw [show outV z = .tuple #[ivz z, .int .i64 0] by rw [outV, if_pos hz]]
  clear hz e1
  rw [ivz] at HT ⊢
  rw [bigv] at HT ⊢
  generalize decide (z < 0) = s at *
  generalize L16 z.natAbs = n at *
  generalize W64 z.natAbs 0 = x0 at *
  generalize W64 z.natAbs 1 = x1 at *
  generalize W64 z.natAbs 2 = x2 at *
  generalize W64 z.natAbs 3 = x3 at *
  go_enter Tryz.func115, Tryz.ntmps115
  go_wp2_with fail
  generalize hW : World.alloc _ _ = W0
  have hB : Below w.heap.size w W0 := by rw [← hW]; exact ((Below.refl w.heap.size w).alloc (Nat.le_refl _) _).alloc (by simp) _
  have rR : Row W0 (w.heap.size + 1) [.bool false, .int .u64 0, .int .u64 0, .int .u64 0, .int .u64 0] := by rw [← hW]; exact Row.at (by simp) _ _
  clear hW
  refine (HT.out _ hB).mono ?_
  rintro e w1 ⟨rfl, hb1⟩
  replace rR := rR.after hb1
  replace hB := hB.trans (hb1.mono hB.size)
  clear hb1
  have lR := rR.lt
  have a0 := rR.c 0 rfl
  have a1 := rR.c 1 rfl
  have a2 := rR.c 2 rfl
  have a3 := rR.c 3 rfl
  have a4 := rR.c 4 rfl
  have f0 := rR.f 0 rfl
  have f1 := rR.f 1 rfl
  have f2 := rR.f 2 rfl
  have f3 := rR.f 3 rfl
  have f4 := rR.f 4 rfl
  go_wp2_with fail
  clear a0 a1 a2 a3 a4 f0 f1 f2 f3 f4
  generalize hW2 : World.setCell _ _ _ = W2
  have rR2 : Row W2 (w.heap.size + 1) [.bool s, .int .u64 x0, .int .u64 x1, .int .u64 x2, .int .u64 x3] := by rw [← hW2]; exact rR.put5 _ _ _ _ _
  have hB2 : Below w.heap.size w W2 := by rw [← hW2]; exact below_put5 hB (Nat.le_succ _) _ _ _ _ _
  generalize hW3 : World.alloc _ _ = W3
  have rR3 : Row W3 (w.heap.size + 1) [.bool s, .int .u64 x0, .int .u64 x1, .int .u64 x2, .int .u64 x3] := by rw [← hW3]; exact rR2.alloc _
  have hB3 : Below w.heap.size w W3 := by rw [← hW3]; exact hB2.alloc hB2.size _
  exact bodyPost_ret (v := .tuple #[iv s x0 x1 x2 x3, .int .i64 0]) (by simp [results, Tryz.results115, go_sem, rR3.c 0 rfl, rR3.c 1 rfl, rR3.c 2 rfl, rR3.c 3 rfl, rR3.c 4 rfl]) rfl ⟨rfl, hB3⟩
 ·have e1 : toV z = .tuple #[iv false 0 0 0 0, .bool false] := by rw [toV, if_neg hz]
  rw [e1] at HT
  rw [show outV z = .tuple #[iv false 0 0 0 0, .int .i64 110] by rw [outV, if_neg hz]]
  clear hz e1
  rw [bigv] at HT ⊢
  generalize decide (z < 0) = s at *
  generalize L16 z.natAbs = n at *
  go_enter Tryz.func115, Tryz.ntmps115
  go_wp2_with fail
  generalize hW : World.alloc _ _ = W0
  have hB : Below w.heap.size w W0 := by rw [← hW]; exact ((Below.refl w.heap.size w).alloc (Nat.le_refl _) _).alloc (by simp) _
  have rR : Row W0 (w.heap.size + 1) [.bool false, .int .u64 0, .int .u64 0, .int .u64 0, .int .u64 0] := by rw [← hW]; exact Row.at (by simp) _ _
  clear hW
  refine (HT.out _ hB).mono ?_
  rintro e w1 ⟨rfl, hb1⟩
  replace rR := rR.after hb1
  replace hB := hB.trans (hb1.mono hB.size)
  clear hb1
  have lR := rR.lt
  have a0 := rR.c 0 rfl
  have a1 := rR.c 1 rfl
  have a2 := rR.c 2 rfl
  have a3 := rR.c 3 rfl
  have a4 := rR.c 4 rfl
  have f0 := rR.f 0 rfl
  have f1 := rR.f 1 rfl
  have f2 := rR.f 2 rfl
  have f3 := rR.f 3 rfl
  have f4 := rR.f 4 rfl
  go_wp2_with fail
  clear a0 a1 a2 a3 a4 f0 f1 f2 f3 f4
  generalize hW2 : World.setCell _ _ _ = W2
  have rR2 : Row W2 (w.heap.size + 1) [.bool false, .int .u64 0, .int .u64 0, .int .u64 0, .int .u64 0] := by rw [← hW2]; exact rR.put5 _ _ _ _ _
  have hB2 : Below w.heap.size w W2 := by rw [← hW2]; exact below_put5 hB (Nat.le_succ _) _ _ _ _ _
  generalize hW3 : World.alloc _ _ = W3
  have rR3 : Row W3 (w.heap.size + 1) [.bool false, .int .u64 0, .int .u64 0, .int .u64 0, .int .u64 0] := by rw [← hW3]; exact rR2.alloc _
  have hB3 : Below w.heap.size w W3 := by rw [← hW3]; exact hB2.alloc hB2.size _
  exact bodyPost_ret (v := .tuple #[iv false 0 0 0 0, .int .i64 110]) (by simp [results, Tryz.results115, go_sem, rR3.c 0 rfl, rR3.c 1 rfl, rR3.c 2 rfl, rR3.c 3 rfl, rR3.c 4 rfl]) rfl ⟨rfl, hB3⟩
end Go.Proofs.YteolocchmhpggaaGreatDoor

namespace Go.Proofs.YteolocchmhpggaaGreatDoor
open Go.RowKit
end Go.Proofs.YteolocchmhpggaaGreatDoor
namespace Go.Proofs.YteolocchmhpggaaGreatDoor
open Go.RowKit
def negR (n : Bool) (a b c d : Int) : Value := if (n && zeroB a b c d) = true then .tuple #[iv false 0 0 0 0, .int .i64 2] else .tuple #[iv (!n && !zeroB a b c d) a b c d, .int .i64 0]
set_option maxHeartbeats 400000 in
set_option maxRecDepth 100000 in
theorem neg_any (n : Bool) (a b c d : Int) (w : World) :
 Calls Tryz.prog 122 #[iv n a b c d] w fun e w' => e = .returned (negR n a b c d) ∧ Below w.heap.size w w' := by
 have hC := Lib.hid (fun W => check_any n a b c d W)
 have hS := Lib.hid (fun W => signed_any (!n) a b c d W)
 cases hz : (n && zeroB a b c d)
 ·have HR := Lib.hid (show negR n a b c d = .tuple #[iv (!n && !zeroB a b c d) a b c d, .int .i64 0] by simp [negR, hz])
  rw [errArg_ok hz] at hC
  clear hz
  generalize (!n && !zeroB a b c d) = s at *
  have HK : ∃ t, Hid ((!n) = t) := ⟨_, Lib.hid rfl⟩
  go_enter Tryz.func122, Tryz.ntmps122
  go_wp2_with fail
  refine (hC.out _).mono ?_
  rintro e w1 ⟨rfl, hb1⟩
  have hB : Below w.heap.size w w1 := (((Below.refl w.heap.size w).alloc (Nat.le_refl _) _).alloc (by simp) _).trans (hb1.mono (by simp; omega))
  have r1 : Row w1 w.heap.size [.bool n, .int .u64 a, .int .u64 b, .int .u64 c, .int .u64 d] := ((Row.at rfl _ _).alloc _).after hb1
  have r2 : Row w1 (w.heap.size + 1) [.bool false, .int .u64 0, .int .u64 0, .int .u64 0, .int .u64 0] := (Row.at (by simp) _ _).after hb1
  clear hb1
  have a0 := r1.c 0 rfl
  have a1 := r1.c 1 rfl
  have a2 := r1.c 2 rfl
  have a3 := r1.c 3 rfl
  have a4 := r1.c 4 rfl
  go_wp2_with fail
  refine (hS.out _).mono ?_
  rintro e w2 ⟨rfl, hb2⟩
  have q2 := r2.after hb2
  have HB2 : Below w.heap.size w w2 := hB.trans (hb2.mono hB.size)
  clear hb2
  have b0 := q2.c 0 rfl
  have b1 := q2.c 1 rfl
  have b2 := q2.c 2 rfl
  have b3 := q2.c 3 rfl
  have b4 := q2.c 4 rfl
  have f0 := q2.f 0 rfl
  have f1 := q2.f 1 rfl
  have f2 := q2.f 2 rfl
  have f3 := q2.f 3 rfl
  have f4 := q2.f 4 rfl
  go_wp2
  clear a0 a1 a2 a3 a4 b0 b1 b2 b3 b4 f0 f1 f2 f3 f4
  generalize hW : World.setCell _ _ _ = W4
  have rR4 : Row W4 (w.heap.size + 1) [.bool s, .int .u64 a, .int .u64 b, .int .u64 c, .int .u64 d] := by rw [← hW]; exact q2.put5 _ _ _ _ _
  have hB4 : Below w.heap.size w W4 := by rw [← hW]; exact below_put5 HB2 (by omega) _ _ _ _ _
  exact bodyPost_ret (v := .tuple #[iv s a b c d, .int .i64 0]) (by simp [results, Tryz.results122, go_sem, rR4.c 0 rfl, rR4.c 1 rfl, rR4.c 2 rfl, rR4.c 3 rfl, rR4.c 4 rfl]) rfl ⟨by rw [HR.out], hB4⟩
 ·have HR := Lib.hid (show negR n a b c d = .tuple #[iv false 0 0 0 0, .int .i64 2] by simp [negR, hz])
  have hn : n = true := by cases n <;> simp at hz ⊢
  have hz2 : zeroB a b c d = true := by cases n <;> simp at hz ⊢; exact hz
  subst hn
  rw [errArg_bad hz2] at hC
  clear hz hz2
  go_enter Tryz.func122, Tryz.ntmps122
  go_wp2_with fail
  refine (hC.out _).mono ?_
  rintro e w1 ⟨rfl, hb1⟩
  have hB : Below w.heap.size w w1 := (((Below.refl w.heap.size w).alloc (Nat.le_refl _) _).alloc (by simp) _).trans (hb1.mono (by simp; omega))
  have r2 : Row w1 (w.heap.size + 1) [.bool false, .int .u64 0, .int .u64 0, .int .u64 0, .int .u64 0] := (Row.at (by simp) _ _).after hb1
  clear hb1
  have b0 := r2.c 0 rfl
  have b1 := r2.c 1 rfl
  have b2 := r2.c 2 rfl
  have b3 := r2.c 3 rfl
  have b4 := r2.c 4 rfl
  have f0 := r2.f 0 rfl
  have f1 := r2.f 1 rfl
  have f2 := r2.f 2 rfl
  have f3 := r2.f 3 rfl
  have f4 := r2.f 4 rfl
  go_wp2
  clear b0 b1 b2 b3 b4 f0 f1 f2 f3 f4
  generalize hW : World.setCell _ _ _ = W4
  have rR4 : Row W4 (w.heap.size + 1) [.bool false, .int .u64 0, .int .u64 0, .int .u64 0, .int .u64 0] := by rw [← hW]; exact r2.put5 _ _ _ _ _
  have hB4 : Below w.heap.size w W4 := by rw [← hW]; exact below_put5 hB (by omega) _ _ _ _ _
  exact bodyPost_ret (v := .tuple #[iv false 0 0 0 0, .int .i64 2]) (by simp [results, Tryz.results122, go_sem, rR4.c 0 rfl, rR4.c 1 rfl, rR4.c 2 rfl, rR4.c 3 rfl, rR4.c 4 rfl]) rfl ⟨by rw [HR.out], hB4⟩
end Go.Proofs.YteolocchmhpggaaGreatDoor

namespace Go.Proofs.YteolocchmhpggaaGreatDoor
open Go.RowKit
def cmpN (a b : Nat) : Int := if a < b then -1 else if b < a then 1 else 0
theorem ordD_digR (a b n : Nat) : ordD (digR a) (digR b) n = cmpN (a % 65536 ^ n) (b % 65536 ^ n) := by
 induction n with
 | zero => rw [ordD, Nat.pow_zero, Nat.mod_one, Nat.mod_one]; rfl
 | succ n ih =>
   have h1 := Nat.mod_lt a (Nat.pow_pos (n := n) (show 0 < 65536 by decide))
   have h2 := Nat.mod_lt b (Nat.pow_pos (n := n) (show 0 < 65536 by decide))
   rw [ordD, ih, div_add_mod_pow, div_add_mod_pow]
   unfold digR cmpN
   generalize a % 65536 ^ n = α at *
   generalize b % 65536 ^ n = β at *
   generalize 65536 ^ n = p at *
   generalize D16 a n = x
   generalize D16 b n = y
   rcases Nat.lt_trichotomy x y with h | h | h
   ·have : (x + 1) * p ≤ y * p := Nat.mul_le_mul_right _ h
    rw [Nat.add_mul] at this
    rw [if_pos (by omega), if_pos (by omega)]
   ·subst h
    simp only [Int.lt_irrefl, if_false, Nat.add_lt_add_iff_right]
   ·have : (y + 1) * p ≤ x * p := Nat.mul_le_mul_right _ h
    rw [Nat.add_mul] at this
    rw [if_neg (by omega), if_pos (by omega), if_neg (by omega), if_pos (by omega)]
theorem mags_val (a b : Nat) : magsF (digR a) (digR b) (L16 a) (L16 b) = cmpN a b := by
 have h1 := Nat.le_max_left (L16 a) (L16 b)
 have h2 := Nat.le_max_right (L16 a) (L16 b)
 generalize max (L16 a) (L16 b) = n at *
 rw [← cut_digR h1, ← cut_digR h2, mags_cut _ _ (fun i => (digR_bd a i).1) (fun i => (digR_bd b i).1), ordD_digR, mod_pow_all h1, mod_pow_all h2]
set_option maxHeartbeats 400000 in
theorem mags_z (a b : Nat) (A B : Option Addr) (c c' : Nat) (w : World) (ha : DS w a A) (hb : DS w b B) (la : L16 a ≤ 1000000) (lb : L16 b ≤ 1000000) :
 Calls Tryz.prog 109 #[.slice A (L16 a) c, .slice B (L16 b) c'] w fun e w' => e = .returned (.int .i64 (cmpN a b)) ∧ ∃ k, w' = w.drewN k := by
 by_cases hnm : L16 a = L16 b
 ·rcases Nat.eq_zero_or_pos (L16 a) with h0 | hp
  ·have e1 := L16_zero h0
   have e2 := L16_zero (hnm ▸ h0)
   subst e1 e2
   clear ha hb
   rw [show cmpN 0 0 = 0 from rfl, L16_nought]
   go_enter Tryz.func109, Tryz.ntmps109
   go_wp2
   refine wp_loop_rounds 1 ?_
   iterate 1 (rw [rounds_succ]; go_wp2)
   go_ret
   exact ⟨rfl, 0, rfl⟩
  ·obtain ⟨p, rfl, hl, hx⟩ := ha hp
   obtain ⟨q, rfl, hl', hy⟩ := hb (hnm ▸ hp)
   have := mags_any (digR a) (digR b) (L16 a) (L16 b) p 0 c q 0 c' w la lb (fun i hi => by rw [Nat.zero_add]; exact hx i hi) (fun i hi => by rw [Nat.zero_add]; exact hy i hi)
   rw [mags_val] at this
   exact this
 ·have HM := Lib.hid (mags_val a b)
  generalize cmpN a b = v at *
  clear ha hb
  generalize hn : L16 a = n at *
  generalize hm : L16 b = m at *
  have HM' : Hid (v = if n < m then -1 else 1) := by
   refine Lib.hid (HM.out.symm.trans ?_)
   unfold magsF
   rw [if_neg hnm]
  clear hn hm HM
  by_cases hl : n < m
  ·have HM := Lib.hid (HM'.out.trans (if_pos hl))
   have h1 : (n : Int) ≠ m := by omega
   have h2 : (n : Int) < m := by omega
   rw [HM.out]
   clear HM HM'
   go_enter Tryz.func109, Tryz.ntmps109
   go_wp2
   go_ret
   exact ⟨rfl, 0, rfl⟩
  ·have HM := Lib.hid (HM'.out.trans (if_neg hl))
   have h1 : (n : Int) ≠ m := by omega
   have h2 : ¬ (n : Int) < m := by omega
   rw [HM.out]
   clear HM HM'
   go_enter Tryz.func109, Tryz.ntmps109
   go_wp2
   go_ret
   exact ⟨rfl, 0, rfl⟩
theorem cmp_signs (x y : Int) : cmpI x y = (match decide (x < 0), decide (y < 0) with
 | true, true => cmpN y.natAbs x.natAbs
 | true, false => -1
 | false, true => 1
 | false, false => cmpN x.natAbs y.natAbs) := by
 unfold cmpI cmpN
 by_cases hx : x < 0 <;> by_cases hy : y < 0 <;> simp only [hx, hy, decide_true, decide_false] <;> (repeat' split) <;> omega
set_option maxHeartbeats 400000 in
theorem cmp_z (x y : Int) (A B : Option Addr) (c c' : Nat) (w : World) (ha : DS w x.natAbs A) (hb : DS w y.natAbs B) (la : L16 x.natAbs ≤ 1000000) (lb : L16 y.natAbs ≤ 1000000) :
 Calls Tryz.prog 72 #[bigv x A c, bigv y B c'] w fun e w' => e = .returned (.int .i64 (cmpI x y)) ∧ Below w.heap.size w w' := by
 have H1 := Lib.hid (fun W (hW : Below w.heap.size w W) => mags_z x.natAbs y.natAbs A B c c' W (ha.below hW) (hb.below hW) la lb)
 have H2 := Lib.hid (fun W (hW : Below w.heap.size w W) => mags_z y.natAbs x.natAbs B A c' c W (hb.below hW) (ha.below hW) lb la)
 rw [bigv, bigv, cmp_signs]
 clear ha hb
 generalize x.natAbs = a at *
 generalize y.natAbs = b at *
 generalize L16 a = n at *
 generalize L16 b = m at *
 generalize cmpN a b = v at *
 generalize cmpN b a = v' at *
 cases decide (x < 0) <;> cases decide (y < 0)
 ·go_enter Tryz.func72, Tryz.ntmps72
  go_wp2_with fail
  generalize hW : World.alloc _ _ = W0
  have hB : Below w.heap.size w W0 := by rw [← hW]; exact ((Below.refl w.heap.size w).alloc (Nat.le_refl _) _).alloc (by simp) _
  clear hW
  refine (H1.out _ hB).mono ?_
  rintro e w1 ⟨rfl, kd, rfl⟩
  go_wp2_with fail
  go_ret
  exact ⟨rfl, below_drewN hB kd⟩
 ·go_enter Tryz.func72, Tryz.ntmps72
  go_wp2_with fail
  go_ret
  exact ⟨rfl, ((Below.refl w.heap.size w).alloc (Nat.le_refl _) _).alloc (by simp) _⟩
 ·go_enter Tryz.func72, Tryz.ntmps72
  go_wp2_with fail
  go_ret
  exact ⟨rfl, ((Below.refl w.heap.size w).alloc (Nat.le_refl _) _).alloc (by simp) _⟩
 ·go_enter Tryz.func72, Tryz.ntmps72
  go_wp2_with fail
  generalize hW : World.alloc _ _ = W0
  have hB : Below w.heap.size w W0 := by rw [← hW]; exact ((Below.refl w.heap.size w).alloc (Nat.le_refl _) _).alloc (by simp) _
  clear hW
  refine (H2.out _ hB).mono ?_
  rintro e w1 ⟨rfl, kd, rfl⟩
  go_wp2_with fail
  go_ret
  exact ⟨rfl, below_drewN hB kd⟩
end Go.Proofs.YteolocchmhpggaaGreatDoor
namespace Go.Proofs.YteolocchmhpggaaGreatDoor
open Go.RowKit
end Go.Proofs.YteolocchmhpggaaGreatDoor
namespace Go.Proofs.YteolocchmhpggaaGreatDoor
open Go.RowKit
end Go.Proofs.YteolocchmhpggaaGreatDoor
namespace Go.Proofs.YteolocchmhpggaaGreatDoor
open Go.RowKit
end Go.Proofs.YteolocchmhpggaaGreatDoor

namespace Go.Proofs.YteolocchmhpggaaGreatDoor
open Go.RowKit
end Go.Proofs.YteolocchmhpggaaGreatDoor

namespace Go.Proofs.YteolocchmhpggaaGreatDoor
open Go.RowKit
end Go.Proofs.YteolocchmhpggaaGreatDoor

namespace Go.Proofs.YteolocchmhpggaaGreatDoor
open Go.RowKit
end Go.Proofs.YteolocchmhpggaaGreatDoor

namespace Go.Proofs.YteolocchmhpggaaGreatDoor
open Go.RowKit
end Go.Proofs.YteolocchmhpggaaGreatDoor
namespace Go.Proofs.YteolocchmhpggaaGreatDoor
open Go.RowKit
end Go.Proofs.YteolocchmhpggaaGreatDoor
