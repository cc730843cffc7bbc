import Derived.Test.YtongeeggaigepaaGreatDoorZKkBase
import Derived.BigQuiet
import Derived.Deep.QuietTactic
import Derived.Deep.RegionWith
namespace Go.Proofs.YtongeeggaigepaaGreatDoor
open Go.RowKit
end Go.Proofs.YtongeeggaigepaaGreatDoor
namespace Go.Proofs.YtongeeggaigepaaGreatDoor
open Go.RowKit
def PlS (w : World) (n : Nat) (xs : List Value) (v : Value) (wr : World) : Prop := wr.ownsRow w.heap.size 2 1 v n xs ∧ Below w.heap.size w wr
theorem PlS.step {w wr w1 : World} {xs : List Value} {n : Nat} {v v' d : Value} {o : Obj} (h : PlS w n xs v wr)
 (hown : w1.ownsRow w.heap.size 2 1 v' (n + 1) (xs ++ [d])) (hg : (wr.alloc o).grownBy w1 v.ownBlock) : PlS w (n + 1) (xs ++ [d]) v' w1 :=
 ⟨hown, (h.2.alloc h.2.size o).grown hg (by have := h.2.size; simp; omega) (fun j hj => (h.1.lt j hj).1)⟩
theorem PlS.drew {w wr : World} {xs : List Value} {n : Nat} {v : Value} (h : PlS w n xs v wr) (k : Nat) : PlS w n xs v (wr.drewN k) := ⟨h.1, below_drewN h.2 k⟩
theorem PlS.form {w wr : World} {x : Nat → Int} {xs : List Value} {n : Nat} {v : Value} (h : PlS w n xs v wr) (hx : ∀ i, i < n → xs[i]? = some (.int .i64 (x i))) :
 ∃ A c, v = .slice A n c ∧ n ≤ c ∧ DR wr x n A ∧ ∀ p, A = some p → w.heap.size ≤ p.block := by
 obtain ⟨hl, ho⟩ := h.1
 rcases ho with ⟨hv, h0⟩ | ⟨g, cap, cur, hv, hbs, hg, hn, _, hs, ht⟩
 ·exact ⟨none, 0, by rw [hv, h0], by omega, fun hp => by omega, fun p hp => by cases hp⟩
 ·refine ⟨some ⟨g, 0, none⟩, cap, hv, hn, fun _ => ⟨g, rfl, (Array.getElem?_eq_some_iff.mp hg).1, fun i hi => ?_⟩, fun p hp => by cases hp; exact hbs⟩
  have h1 := hx i hi
  rw [← ht, List.getElem?_take] at h1
  rw [if_pos (by omega)] at h1
  simp [World.cell?, hg]
  simpa using h1
def SlPost (w : World) (m : Nat) (e : Ending) (w' : World) : Prop := ∃ A c, e = .returned (.slice A (L16 m) c) ∧ L16 m ≤ c ∧ DS w' m A ∧ Below w.heap.size w w' ∧ ∀ p, A = some p → w.heap.size ≤ p.block
theorem SlPost.mk {w w' : World} {m : Nat} {A : Option Addr} {c : Nat} (hc : L16 m ≤ c) (hd : DS w' m A) (hb : Below w.heap.size w w') (hp : ∀ p, A = some p → w.heap.size ≤ p.block) : SlPost w m (.returned (.slice A (L16 m) c)) w' := ⟨A, c, rfl, hc, hd, hb, hp⟩
end Go.Proofs.YtongeeggaigepaaGreatDoor
namespace Go.Proofs.YtongeeggaigepaaGreatDoor
open Go.RowKit
end Go.Proofs.YtongeeggaigepaaGreatDoor
namespace Go.Proofs.YtongeeggaigepaaGreatDoor
open Go.RowKit
def outV (z : Int) : Value := if z.natAbs < T256 then .tuple #[ivz z, .int .i64 0] else .tuple #[iv false 0 0 0 0, .int .i64 110]
set_option maxHeartbeats 800000 in
theorem out_z (z : Int) (A : Option Addr) (c : Nat) (w : World) (hd : DS w z.natAbs A) :
 Calls Tryz.prog 77 #[bigv z A c] w fun e w' => e = .returned (outV z) ∧ Below w.heap.size w w' := by
 have HT := Lib.hid (fun W (hW : Below w.heap.size w W) => to_z z A c W (hd.below hW))
 clear hd
 by_cases hz : z.natAbs < T256
 ·have e1 : toV z = .tuple #[ivz z, .bool true] := by rw [toV, if_pos hz]
  rw [e1] at HT
  rw [show outV z = .tuple #[ivz z, .int .i64 0] by rw [outV, if_pos hz]]
  clear hz e1
  rw [ivz] at HT ⊢
  rw [bigv] at HT ⊢
  generalize decide (z < 0) = s at *
  generalize L16 z.natAbs = n at *
  generalize W64 z.natAbs 0 = x0 at *
  generalize W64 z.natAbs 1 = x1 at *
  generalize W64 z.natAbs 2 = x2 at *
  generalize W64 z.natAbs 3 = x3 at *
  go_enter Tryz.func77, Tryz.ntmps77
  go_wp2_with fail
  generalize hW : World.alloc _ _ = W0
  have hB : Below w.heap.size w W0 := by rw [← hW]; exact ((Below.refl w.heap.size w).alloc (Nat.le_refl _) _).alloc (by simp) _
  have rR : Row W0 (w.heap.size + 1) [.bool false, .int .u64 0, .int .u64 0, .int .u64 0, .int .u64 0] := by rw [← hW]; exact Row.at (by simp) _ _
  clear hW
  refine (HT.out _ hB).mono ?_
  rintro e w1 ⟨rfl, hb1⟩
  replace rR := rR.after hb1
  replace hB := hB.trans (hb1.mono hB.size)
  clear hb1
  have lR := rR.lt
  have a0 := rR.c 0 rfl
  have a1 := rR.c 1 rfl
  have a2 := rR.c 2 rfl
  have a3 := rR.c 3 rfl
  have a4 := rR.c 4 rfl
  have f0 := rR.f 0 rfl
  have f1 := rR.f 1 rfl
  have f2 := rR.f 2 rfl
  have f3 := rR.f 3 rfl
  have f4 := rR.f 4 rfl
  go_wp2_with fail
  clear a0 a1 a2 a3 a4 f0 f1 f2 f3 f4
  generalize hW2 : World.setCell _ _ _ = W2
  have rR2 : Row W2 (w.heap.size + 1) [.bool s, .int .u64 x0, .int .u64 x1, .int .u64 x2, .int .u64 x3] := by rw [← hW2]; exact rR.put5 _ _ _ _ _
  have hB2 : Below w.heap.size w W2 := by rw [← hW2]; exact below_put5 hB (Nat.le_succ _) _ _ _ _ _
  generalize hW3 : World.alloc _ _ = W3
  have rR3 : Row W3 (w.heap.size + 1) [.bool s, .int .u64 x0, .int .u64 x1, .int .u64 x2, .int .u64 x3] := by rw [← hW3]; exact rR2.alloc _
  have hB3 : Below w.heap.size w W3 := by rw [← hW3]; exact hB2.alloc hB2.size _
  exact bodyPost_ret (v := .tuple #[iv s x0 x1 x2 x3, .int .i64 0]) (by simp [results, Tryz.results77, go_sem, rR3.c 0 rfl, rR3.c 1 rfl, rR3.c 2 rfl, rR3.c 3 rfl, rR3.c 4 rfl]) rfl ⟨rfl, hB3⟩
 ·have e1 : toV z = .tuple #[iv false 0 0 0 0, .bool false] := by rw [toV, if_neg hz]
  rw [e1] at HT
  rw [show outV z = .tuple #[iv false 0 0 0 0, .int .i64 110] by rw [outV, if_neg hz]]
  clear hz e1
  rw [bigv] at HT ⊢
  generalize decide (z < 0) = s at *
  generalize L16 z.natAbs = n at *
  go_enter Tryz.func77, Tryz.ntmps77
  go_wp2_with fail
  generalize hW : World.alloc _ _ = W0
  have hB : Below w.heap.size w W0 := by rw [← hW]; exact ((Below.refl w.heap.size w).alloc (Nat.le_refl _) _).alloc (by simp) _
  have rR : Row W0 (w.heap.size + 1) [.bool false, .int .u64 0, .int .u64 0, .int .u64 0, .int .u64 0] := by rw [← hW]; exact Row.at (by simp) _ _
  clear hW
  refine (HT.out _ hB).mono ?_
  rintro e w1 ⟨rfl, hb1⟩
  replace rR := rR.after hb1
  replace hB := hB.trans (hb1.mono hB.size)
  clear hb1
  have lR := rR.lt
  have a0 := rR.c 0 rfl
  have a1 := rR.c 1 rfl
  have a2 := rR.c 2 rfl
  have a3 := rR.c 3 rfl
  have a4 := rR.c 4 rfl
  have f0 := rR.f 0 rfl
  have f1 := rR.f 1 rfl
  have f2 := rR.f 2 rfl
  have f3 := rR.f 3 rfl
  have f4 := rR.f 4 rfl
  go_wp2_with fail
  clear a0 a1 a2 a3 a4 f0 f1 f2 f3 f4
  generalize hW2 : World.setCell _ _ _ = W2
  have rR2 : Row W2 (w.heap.size + 1) [.bool false, .int .u64 0, .int .u64 0, .int .u64 0, .int .u64 0] := by rw [← hW2]; exact rR.put5 _ _ _ _ _
  have hB2 : Below w.heap.size w W2 := by rw [← hW2]; exact below_put5 hB (Nat.le_succ _) _ _ _ _ _
  generalize hW3 : World.alloc _ _ = W3
  have rR3 : Row W3 (w.heap.size + 1) [.bool false, .int .u64 0, .int .u64 0, .int .u64 0, .int .u64 0] := by rw [← hW3]; exact rR2.alloc _
  have hB3 : Below w.heap.size w W3 := by rw [← hW3]; exact hB2.alloc hB2.size _
  exact bodyPost_ret (v := .tuple #[iv false 0 0 0 0, .int .i64 110]) (by simp [results, Tryz.results77, go_sem, rR3.c 0 rfl, rR3.c 1 rfl, rR3.c 2 rfl, rR3.c 3 rfl, rR3.c 4 rfl]) rfl ⟨rfl, hB3⟩
end Go.Proofs.YtongeeggaigepaaGreatDoor

namespace Go.Proofs.YtongeeggaigepaaGreatDoor
open Go.RowKit
end Go.Proofs.YtongeeggaigepaaGreatDoor
namespace Go.Proofs.YtongeeggaigepaaGreatDoor
open Go.RowKit
def negR (n : Bool) (a b c d : Int) : Value := if (n && zeroB a b c d) = true then .tuple #[iv false 0 0 0 0, .int .i64 2] else .tuple #[iv (!n && !zeroB a b c d) a b c d, .int .i64 0]
set_option maxHeartbeats 400000 in
set_option maxRecDepth 100000 in
theorem neg_any (n : Bool) (a b c d : Int) (w : World) :
 Calls Tryz.prog 144 #[iv n a b c d] w fun e w' => e = .returned (negR n a b c d) ∧ Below w.heap.size w w' := by
 have hC := Lib.hid (fun W => check_any n a b c d W)
 have hS := Lib.hid (fun W => signed_any (!n) a b c d W)
 cases hz : (n && zeroB a b c d)
 ·have HR := Lib.hid (show negR n a b c d = .tuple #[iv (!n && !zeroB a b c d) a b c d, .int .i64 0] by simp [negR, hz])
  rw [errArg_ok hz] at hC
  clear hz
  generalize (!n && !zeroB a b c d) = s at *
  have HK : ∃ t, Hid ((!n) = t) := ⟨_, Lib.hid rfl⟩
  go_enter Tryz.func144, Tryz.ntmps144
  go_wp2_with fail
  refine (hC.out _).mono ?_
  rintro e w1 ⟨rfl, hb1⟩
  have hB : Below w.heap.size w w1 := (((Below.refl w.heap.size w).alloc (Nat.le_refl _) _).alloc (by simp) _).trans (hb1.mono (by simp; omega))
  have r1 : Row w1 w.heap.size [.bool n, .int .u64 a, .int .u64 b, .int .u64 c, .int .u64 d] := ((Row.at rfl _ _).alloc _).after hb1
  have r2 : Row w1 (w.heap.size + 1) [.bool false, .int .u64 0, .int .u64 0, .int .u64 0, .int .u64 0] := (Row.at (by simp) _ _).after hb1
  clear hb1
  have a0 := r1.c 0 rfl
  have a1 := r1.c 1 rfl
  have a2 := r1.c 2 rfl
  have a3 := r1.c 3 rfl
  have a4 := r1.c 4 rfl
  go_wp2_with fail
  refine (hS.out _).mono ?_
  rintro e w2 ⟨rfl, hb2⟩
  have q2 := r2.after hb2
  have HB2 : Below w.heap.size w w2 := hB.trans (hb2.mono hB.size)
  clear hb2
  have b0 := q2.c 0 rfl
  have b1 := q2.c 1 rfl
  have b2 := q2.c 2 rfl
  have b3 := q2.c 3 rfl
  have b4 := q2.c 4 rfl
  have f0 := q2.f 0 rfl
  have f1 := q2.f 1 rfl
  have f2 := q2.f 2 rfl
  have f3 := q2.f 3 rfl
  have f4 := q2.f 4 rfl
  go_wp2
  clear a0 a1 a2 a3 a4 b0 b1 b2 b3 b4 f0 f1 f2 f3 f4
  generalize hW : World.setCell _ _ _ = W4
  have rR4 : Row W4 (w.heap.size + 1) [.bool s, .int .u64 a, .int .u64 b, .int .u64 c, .int .u64 d] := by rw [← hW]; exact q2.put5 _ _ _ _ _
  have hB4 : Below w.heap.size w W4 := by rw [← hW]; exact below_put5 HB2 (by omega) _ _ _ _ _
  exact bodyPost_ret (v := .tuple #[iv s a b c d, .int .i64 0]) (by simp [results, Tryz.results144, go_sem, rR4.c 0 rfl, rR4.c 1 rfl, rR4.c 2 rfl, rR4.c 3 rfl, rR4.c 4 rfl]) rfl ⟨by rw [HR.out], hB4⟩
 ·have HR := Lib.hid (show negR n a b c d = .tuple #[iv false 0 0 0 0, .int .i64 2] by simp [negR, hz])
  have hn : n = true := by cases n <;> simp at hz ⊢
  have hz2 : zeroB a b c d = true := by cases n <;> simp at hz ⊢; exact hz
  subst hn
  rw [errArg_bad hz2] at hC
  clear hz hz2
  go_enter Tryz.func144, Tryz.ntmps144
  go_wp2_with fail
  refine (hC.out _).mono ?_
  rintro e w1 ⟨rfl, hb1⟩
  have hB : Below w.heap.size w w1 := (((Below.refl w.heap.size w).alloc (Nat.le_refl _) _).alloc (by simp) _).trans (hb1.mono (by simp; omega))
  have r2 : Row w1 (w.heap.size + 1) [.bool false, .int .u64 0, .int .u64 0, .int .u64 0, .int .u64 0] := (Row.at (by simp) _ _).after hb1
  clear hb1
  have b0 := r2.c 0 rfl
  have b1 := r2.c 1 rfl
  have b2 := r2.c 2 rfl
  have b3 := r2.c 3 rfl
  have b4 := r2.c 4 rfl
  have f0 := r2.f 0 rfl
  have f1 := r2.f 1 rfl
  have f2 := r2.f 2 rfl
  have f3 := r2.f 3 rfl
  have f4 := r2.f 4 rfl
  go_wp2
  clear b0 b1 b2 b3 b4 f0 f1 f2 f3 f4
  generalize hW : World.setCell _ _ _ = W4
  have rR4 : Row W4 (w.heap.size + 1) [.bool false, .int .u64 0, .int .u64 0, .int .u64 0, .int .u64 0] := by rw [← hW]; exact r2.put5 _ _ _ _ _
  have hB4 : Below w.heap.size w W4 := by rw [← hW]; exact below_put5 hB (by omega) _ _ _ _ _
  exact bodyPost_ret (v := .tuple #[iv false 0 0 0 0, .int .i64 2]) (by simp [results, Tryz.results144, go_sem, rR4.c 0 rfl, rR4.c 1 rfl, rR4.c 2 rfl, rR4.c 3 rfl, rR4.c 4 rfl]) rfl ⟨by rw [HR.out], hB4⟩
end Go.Proofs.YtongeeggaigepaaGreatDoor

namespace Go.Proofs.YtongeeggaigepaaGreatDoor
open Go.RowKit
def cmpN (a b : Nat) : Int := if a < b then -1 else if b < a then 1 else 0
theorem ordD_digR (a b n : Nat) : ordD (digR a) (digR b) n = cmpN (a % 65536 ^ n) (b % 65536 ^ n) := by
 induction n with
 | zero => rw [ordD, Nat.pow_zero, Nat.mod_one, Nat.mod_one]; rfl
 | succ n ih =>
   have h1 := Nat.mod_lt a (Nat.pow_pos (n := n) (show 0 < 65536 by decide))
   have h2 := Nat.mod_lt b (Nat.pow_pos (n := n) (show 0 < 65536 by decide))
   rw [ordD, ih, div_add_mod_pow, div_add_mod_pow]
   unfold digR cmpN
   generalize a % 65536 ^ n = α at *
   generalize b % 65536 ^ n = β at *
   generalize 65536 ^ n = p at *
   generalize D16 a n = x
   generalize D16 b n = y
   rcases Nat.lt_trichotomy x y with h | h | h
   ·have : (x + 1) * p ≤ y * p := Nat.mul_le_mul_right _ h
    rw [Nat.add_mul] at this
    rw [if_pos (by omega), if_pos (by omega)]
   ·subst h
    simp only [Int.lt_irrefl, if_false, Nat.add_lt_add_iff_right]
   ·have : (y + 1) * p ≤ x * p := Nat.mul_le_mul_right _ h
    rw [Nat.add_mul] at this
    rw [if_neg (by omega), if_pos (by omega), if_neg (by omega), if_pos (by omega)]
theorem mags_val (a b : Nat) : magsF (digR a) (digR b) (L16 a) (L16 b) = cmpN a b := by
 have h1 := Nat.le_max_left (L16 a) (L16 b)
 have h2 := Nat.le_max_right (L16 a) (L16 b)
 generalize max (L16 a) (L16 b) = n at *
 rw [← cut_digR h1, ← cut_digR h2, mags_cut _ _ (fun i => (digR_bd a i).1) (fun i => (digR_bd b i).1), ordD_digR, mod_pow_all h1, mod_pow_all h2]
set_option maxHeartbeats 400000 in
theorem mags_z (a b : Nat) (A B : Option Addr) (c c' : Nat) (w : World) (ha : DS w a A) (hb : DS w b B) (la : L16 a ≤ 1000000) (lb : L16 b ≤ 1000000) :
 Calls Tryz.prog 112 #[.slice A (L16 a) c, .slice B (L16 b) c'] w fun e w' => e = .returned (.int .i64 (cmpN a b)) ∧ ∃ k, w' = w.drewN k := by
 by_cases hnm : L16 a = L16 b
 ·rcases Nat.eq_zero_or_pos (L16 a) with h0 | hp
  ·have e1 := L16_zero h0
   have e2 := L16_zero (hnm ▸ h0)
   subst e1 e2
   clear ha hb
   rw [show cmpN 0 0 = 0 from rfl, L16_nought]
   go_enter Tryz.func112, Tryz.ntmps112
   go_wp2
   refine wp_loop_rounds 1 ?_
   iterate 1 (rw [rounds_succ]; go_wp2)
   go_ret
   exact ⟨rfl, 0, rfl⟩
  ·obtain ⟨p, rfl, hl, hx⟩ := ha hp
   obtain ⟨q, rfl, hl', hy⟩ := hb (hnm ▸ hp)
   have := mags_any (digR a) (digR b) (L16 a) (L16 b) p 0 c q 0 c' w la lb (fun i hi => by rw [Nat.zero_add]; exact hx i hi) (fun i hi => by rw [Nat.zero_add]; exact hy i hi)
   rw [mags_val] at this
   exact this
 ·have HM := Lib.hid (mags_val a b)
  generalize cmpN a b = v at *
  clear ha hb
  generalize hn : L16 a = n at *
  generalize hm : L16 b = m at *
  have HM' : Hid (v = if n < m then -1 else 1) := by
   refine Lib.hid (HM.out.symm.trans ?_)
   unfold magsF
   rw [if_neg hnm]
  clear hn hm HM
  by_cases hl : n < m
  ·have HM := Lib.hid (HM'.out.trans (if_pos hl))
   have h1 : (n : Int) ≠ m := by omega
   have h2 : (n : Int) < m := by omega
   rw [HM.out]
   clear HM HM'
   go_enter Tryz.func112, Tryz.ntmps112
   go_wp2
   go_ret
   exact ⟨rfl, 0, rfl⟩
  ·have HM := Lib.hid (HM'.out.trans (if_neg hl))
   have h1 : (n : Int) ≠ m := by omega
   have h2 : ¬ (n : Int) < m := by omega
   rw [HM.out]
   clear HM HM'
   go_enter Tryz.func112, Tryz.ntmps112
   go_wp2
   go_ret
   exact ⟨rfl, 0, rfl⟩
theorem cmp_signs (x y : Int) : cmpI x y = (match decide (x < 0), decide (y < 0) with
 | true, true => cmpN y.natAbs x.natAbs
 | true, false => -1
 | false, true => 1
 | false, false => cmpN x.natAbs y.natAbs) := by
 unfold cmpI cmpN
 by_cases hx : x < 0 <;> by_cases hy : y < 0 <;> simp only [hx, hy, decide_true, decide_false] <;> (repeat' split) <;> omega
set_option maxHeartbeats 400000 in
theorem cmp_z (x y : Int) (A B : Option Addr) (c c' : Nat) (w : World) (ha : DS w x.natAbs A) (hb : DS w y.natAbs B) (la : L16 x.natAbs ≤ 1000000) (lb : L16 y.natAbs ≤ 1000000) :
 Calls Tryz.prog 79 #[bigv x A c, bigv y B c'] w fun e w' => e = .returned (.int .i64 (cmpI x y)) ∧ Below w.heap.size w w' := by
 have H1 := Lib.hid (fun W (hW : Below w.heap.size w W) => mags_z x.natAbs y.natAbs A B c c' W (ha.below hW) (hb.below hW) la lb)
 have H2 := Lib.hid (fun W (hW : Below w.heap.size w W) => mags_z y.natAbs x.natAbs B A c' c W (hb.below hW) (ha.below hW) lb la)
 rw [bigv, bigv, cmp_signs]
 clear ha hb
 generalize x.natAbs = a at *
 generalize y.natAbs = b at *
 generalize L16 a = n at *
 generalize L16 b = m at *
 generalize cmpN a b = v at *
 generalize cmpN b a = v' at *
 cases decide (x < 0) <;> cases decide (y < 0)
 ·go_enter Tryz.func79, Tryz.ntmps79
  go_wp2_with fail
  generalize hW : World.alloc _ _ = W0
  have hB : Below w.heap.size w W0 := by rw [← hW]; exact ((Below.refl w.heap.size w).alloc (Nat.le_refl _) _).alloc (by simp) _
  clear hW
  refine (H1.out _ hB).mono ?_
  rintro e w1 ⟨rfl, kd, rfl⟩
  go_wp2_with fail
  go_ret
  exact ⟨rfl, below_drewN hB kd⟩
 ·go_enter Tryz.func79, Tryz.ntmps79
  go_wp2_with fail
  go_ret
  exact ⟨rfl, ((Below.refl w.heap.size w).alloc (Nat.le_refl _) _).alloc (by simp) _⟩
 ·go_enter Tryz.func79, Tryz.ntmps79
  go_wp2_with fail
  go_ret
  exact ⟨rfl, ((Below.refl w.heap.size w).alloc (Nat.le_refl _) _).alloc (by simp) _⟩
 ·go_enter Tryz.func79, Tryz.ntmps79
  go_wp2_with fail
  generalize hW : World.alloc _ _ = W0
  have hB : Below w.heap.size w W0 := by rw [← hW]; exact ((Below.refl w.heap.size w).alloc (Nat.le_refl _) _).alloc (by simp) _
  clear hW
  refine (H2.out _ hB).mono ?_
  rintro e w1 ⟨rfl, kd, rfl⟩
  go_wp2_with fail
  go_ret
  exact ⟨rfl, below_drewN hB kd⟩
end Go.Proofs.YtongeeggaigepaaGreatDoor
namespace Go.Proofs.YtongeeggaigepaaGreatDoor
open Go.RowKit
set_option maxHeartbeats 400000 in
theorem at_z (a i : Nat) (A : Option Addr) (c : Nat) (w : World) (ha : DS w a A) :
 Calls Tryz.prog 136 #[.slice A (L16 a) c, .int .i64 (i : Nat)] w fun e w' => e = .returned (.int .i64 (digR a i)) ∧ w = w' := by
 by_cases h : i < L16 a
 ·obtain ⟨b, rfl, hl, hx⟩ := ha (by omega)
  have hc := hx i h
  have h1 : (i : Int) < (L16 a : Nat) := by omega
  have h2 : (0 : Int) ≤ i := by omega
  clear hx ha
  generalize L16 a = n at *
  generalize digR a i = d at *
  go_enter Tryz.func136, Tryz.ntmps136
  go_wp2
  go_ret
  exact ⟨rfl, rfl⟩
 ·have e : digR a i = 0 := by unfold digR; rw [D16_over (by omega)]; rfl
  rw [e]
  have h1 : ¬ (i : Int) < (L16 a : Nat) := by omega
  clear ha e
  generalize L16 a = n at *
  go_enter Tryz.func136, Tryz.ntmps136
  go_wp2
  go_ret
  exact ⟨rfl, rfl⟩
theorem cut_z (m n : Nat) (A : Option Addr) (c : Nat) (w : World) (hm : L16 m ≤ n) (hn : n ≤ 1000000) (hc : n ≤ c) (hd : DR w (digR m) n A) :
 Calls Tryz.prog 115 #[.slice A n c] w fun e w' => e = .returned (.slice A (L16 m) c) ∧ L16 m ≤ c ∧ DS w' m A ∧ w = w' := by
 rcases Nat.eq_zero_or_pos n with rfl | hp
 ·have h0 : m = 0 := L16_zero (by omega)
  subst h0
  refine (cut_nought A c w).mono ?_
  rintro e w' ⟨rfl, rfl⟩
  exact ⟨by rw [L16_nought], by rw [L16_nought]; omega, DS.nought A, rfl⟩
 ·obtain ⟨b, rfl, hl, hx⟩ := hd hp
  refine (cut_any (digR m) n b 0 c w hn hc (fun i hi => by rw [Nat.zero_add]; exact hx i hi)).mono ?_
  rintro e w' ⟨rfl, rfl⟩
  rw [cut_digR hm]
  exact ⟨rfl, by omega, fun _ => ⟨b, rfl, hl, fun i hi => hx i (by omega)⟩, rfl⟩
theorem plus_digit (a b k : Nat) : (digR a k + digR b k + (carD a b k : Nat)).tmod 65536 = digR (a + b) k ∧ (digR a k + digR b k + (carD a b k : Nat)) % 65536 = digR (a + b) k ∧
 (digR a k + digR b k + (carD a b k : Nat)).tdiv 65536 = (carD a b (k + 1) : Nat) ∧ (digR a k + digR b k + (carD a b k : Nat)) / 65536 = (carD a b (k + 1) : Nat) := by
 have h1 := D16_add a b k
 have h2 := carD_next a b k
 unfold digR
 refine ⟨?_, ?_, ?_, ?_⟩
 ·rw [Int.tmod_eq_emod_of_nonneg (by omega)]; omega
 ·omega
 ·rw [Int.tdiv_eq_ediv_of_nonneg (by omega)]; omega
 ·omega
set_option maxRecDepth 100000 in
set_option maxHeartbeats 1000000 in
theorem plus_z (a b : Nat) (A B : Option Addr) (c c' : Nat) (w : World) (ha : DS w a A) (hb : DS w b B) (la : L16 a ≤ 10000) (lb : L16 b ≤ 10000) :
 Calls Tryz.prog 114 #[.slice A (L16 a) c, .slice B (L16 b) c'] w (SlPost w (a + b)) := by
 obtain ⟨i0, hi, hz0, hz1, hz2⟩ := info_parts info64
 obtain ⟨N, hNa, hNb, hN1, hNc⟩ : ∃ N : Nat, L16 a ≤ N ∧ L16 b ≤ N ∧ N ≤ 10000 ∧ (N ≤ L16 a ∨ N ≤ L16 b) := by
  by_cases h : L16 a ≤ L16 b
  ·exact ⟨_, h, Nat.le_refl _, lb, .inr (Nat.le_refl _)⟩
  ·exact ⟨_, Nat.le_refl _, by omega, la, .inl (Nat.le_refl _)⟩
 have HA := Lib.hid (fun W (hW : Below w.heap.size w W) i => at_z a i A c W (ha.below hW))
 have HB := Lib.hid (fun W (hW : Below w.heap.size w W) i => at_z b i B c' W (hb.below hW))
 have HL : Hid (L16 (a + b) ≤ N + 1) := Lib.hid (by
  have h1 := Nat.lt_of_lt_of_le (lt_L16 a) (Nat.pow_le_pow_right (n := 65536) (by decide) hNa)
  have h2 := Nat.lt_of_lt_of_le (lt_L16 b) (Nat.pow_le_pow_right (n := 65536) (by decide) hNb)
  apply L16_le
  rw [Nat.pow_succ]
  generalize 65536 ^ N = p at *
  omega)
 clear ha hb
 generalize hna : L16 a = n at *
 generalize hmb : L16 b = m at *
 clear hna hmb
 go_enter Tryz.func114, Tryz.ntmps114
 go_wp2_with (first
  | (at_make; refine wpList_make_own _ rfl _ _ 51 rfl w.heap.size 2 i0 (.int .i64 0) 1 Tryz.underlying51 hi hz0 hz1 .i64 .i64 _ (N + 1) rfl rfl (by omega) (by rw [hz2]; omega) (by unfold maxLen; omega) (Nat.le_refl _) ?_)
  | (fail))
 all_goals
  intro w1 hown1 hg1
  have hS : PlS w 0 (digV (a + b) 0) (.slice (some ⟨w.heap.size, 0, none⟩) 0 (N + 1)) w1 := ⟨hown1, (Below.refl w.heap.size w).grown hg1 (Nat.le_refl _) (fun j hj => by cases hj)⟩
  have HS := Lib.hid hS
  clear hS hown1 hg1
  go_wp2_with fail
  go_loopw [5, 6, 7] (fun v cy i wr => ∃ k : Nat, k ≤ N + 1 ∧ i = .int .i64 k ∧ cy = .int .i64 (carD a b k : Nat) ∧ Hid (PlS w k (digV (a + b) k) v wr)) (fun _ _ i _ => N + 1 - (intOf i).toNat)
  case atStart => exact ⟨0, by omega, rfl, by rw [carD_first]; rfl, HS⟩
  case round =>
   obtain ⟨k, hk, rfl, rfl, HK⟩ := hrel
   by_cases hkn : k < N + 1
   ·have hd0 := (digR_bd a k).1
    have hd1 := (digR_bd a k).2
    have hd2 := (digR_bd b k).1
    have hd3 := (digR_bd b k).2
    have hc1 := carD_le a b k
    obtain ⟨p1, p2, p3, p4⟩ := plus_digit a b k
    have hV := Lib.hid (show digV (a + b) (k + 1) = digV (a + b) k ++ [.int .i64 (digR (a + b) k)] from rfl)
    have hs0 := (digR_bd (a + b) k).1
    have hs1 := (digR_bd (a + b) k).2
    have CA := Lib.hid (fun W hW => HA.out W hW k)
    have CB := Lib.hid (fun W hW => HB.out W hW k)
    generalize hcn : carD a b (k + 1) = cn at *
    have HCN := Lib.hid hcn
    clear hcn
    generalize carD a b k = cc at *
    generalize digR a k = x at *
    generalize digR b k = y at *
    generalize digR (a + b) k = z at *
    have hc0 : (0 : Int) ≤ (cc : Nat) := by omega
    have hc2 : ((cc : Nat) : Int) ≤ 1 := by omega
    go_wp2_with fail
    all_goals first | (exfalso; omega) | skip
    all_goals
     refine (CA.out _ HK.out.2).mono ?_
     rintro e w2 ⟨rfl, rfl⟩
     go_wp2_with fail
     refine (CB.out _ HK.out.2).mono ?_
     rintro e w2 ⟨rfl, rfl⟩
     go_wp2_with (first
      | (at_builtin; refine wpList_append_own_at _ rfl _ _ 51 rfl w.heap.size 2 i0 (.int .i64 0) 1 8 Tryz.underlying51 hi hz0 hz1 hz2 rfl (by decide) _ _ _ rfl (HK.out.1.alloc _) ⟨wr.heap.size, 0, none⟩ 1 1 [.int .i64 z] rfl rfl (cell_one_new _ _ _) (ints_oneCell .i64 [z]) (by unfold maxLen; omega) (by omega) (by have := HK.out.2.size; simp; omega) ?_)
      | go_in)
     intro v1 w2 hown1 hgrow1 _ _
     have H1 := Lib.hid (HK.out.step (v' := v1) (d := .int .i64 z) hown1 hgrow1)
     clear hgrow1 hown1 HK
     go_wp2
     exact ⟨⟨k + 1, by omega, by go_num, by rw [HCN.out], by rw [hV.out]; exact H1⟩, by simp [intOf]; omega⟩
   ·obtain rfl : k = N + 1 := by omega
    obtain ⟨A', c2, rfl, hc2, hd, hpb⟩ := HK.out.form (fun i hi => digV_at (a + b) hi)
    have hB := Lib.hid HK.out.2
    have HD := Lib.hid hd
    have HPB := Lib.hid hpb
    clear hpb hd HK HS HA HB
    go_wp2_with fail
    all_goals first | (exfalso; omega) | skip
    all_goals
     refine (cut_z (a + b) (N + 1) A' c2 _ HL.out (by omega) hc2 HD.out).mono ?_
     rintro e w2 ⟨rfl, hcc, hds, rfl⟩
     have HP := Lib.hid (SlPost.mk hcc hds hB.out HPB.out)
     clear hcc hds
     go_wp2_with fail
     go_ret
     exact HP.out
end Go.Proofs.YtongeeggaigepaaGreatDoor
namespace Go.Proofs.YtongeeggaigepaaGreatDoor
open Go.RowKit
theorem at_q (a i : Nat) (A : Option Addr) (c : Nat) (w : World) (ha : DS w a A) :
 Calls Tryz.prog 136 #[.slice A (L16 a) c, .int .i64 (i : Nat)] w fun e w' => e = .returned (.int .i64 (digR a i)) ∧ ∃ k, w' = w.drewN k :=
 (at_z a i A c w ha).mono fun _ _ ⟨h, hw⟩ => ⟨h, 0, hw.symm⟩
theorem less_digit {a b : Nat} (h : b ≤ a) (k : Nat) :
 (digR a k - digR b k - (borD a b k : Nat) < 0 ∧ digR a k - digR b k - (borD a b k : Nat) + 65536 = digR (a - b) k ∧ borD a b (k + 1) = 1) ∨
 (¬ digR a k - digR b k - (borD a b k : Nat) < 0 ∧ digR a k - digR b k - (borD a b k : Nat) = digR (a - b) k ∧ borD a b (k + 1) = 0) := by
 have h1 := D16_sub h k
 have h2 := borD_next a b k
 unfold digR
 by_cases e : D16 a k < D16 b k + borD a b k
 ·rw [if_pos e] at h1 h2
  exact .inl ⟨by omega, h1.symm, h2⟩
 ·rw [if_neg e] at h1 h2
  exact .inr ⟨by omega, h1.symm, h2⟩
set_option maxRecDepth 100000 in
set_option maxHeartbeats 1000000 in
theorem less_z (a b : Nat) (A B : Option Addr) (c c' : Nat) (w : World) (hba : b ≤ a) (ha : DS w a A) (hb : DS w b B) (la : L16 a ≤ 10000) :
 Calls Tryz.prog 116 #[.slice A (L16 a) c, .slice B (L16 b) c'] w (SlPost w (a - b)) := by
 obtain ⟨i0, hi, hz0, hz1, hz2⟩ := info_parts info64
 have HA := Lib.hid (fun W (hW : Below w.heap.size w W) => ha.below hW)
 have HB := Lib.hid (fun W (hW : Below w.heap.size w W) i => at_q b i B c' W (hb.below hW))
 have HL : Hid (L16 (a - b) ≤ L16 a) := Lib.hid (L16_mono (Nat.sub_le _ _))
 have HD0 := Lib.hid (fun k => less_digit hba k)
 clear ha hb hba
 generalize hna : L16 a = n at *
 have HNA := Lib.hid hna
 clear hna
 generalize L16 b = m at *
 go_enter Tryz.func116, Tryz.ntmps116
 go_wp2_with (first
  | (at_make; refine wpList_make_own _ rfl _ _ 51 rfl w.heap.size 2 i0 (.int .i64 0) 1 Tryz.underlying51 hi hz0 hz1 .i64 .i64 _ n rfl rfl rfl (by rw [hz2]; omega) (by unfold maxLen; omega) (Nat.le_refl _) ?_)
  | (fail))
 intro w1 hown1 hg1
 have hS : PlS w 0 (digV (a - b) 0) (.slice (some ⟨w.heap.size, 0, none⟩) 0 n) w1 := ⟨hown1, (Below.refl w.heap.size w).grown hg1 (Nat.le_refl _) (fun j hj => by cases hj)⟩
 have HS := Lib.hid hS
 clear hS hown1 hg1
 go_wp2_with fail
 go_loopw [5, 6, 7] (fun v cy i wr => ∃ k : Nat, k ≤ n ∧ i = .int .i64 k ∧ cy = .int .i64 (borD a b k : Nat) ∧ Hid (PlS w k (digV (a - b) k) v wr)) (fun _ _ i _ => n - (intOf i).toNat)
 case atStart => exact ⟨0, by omega, rfl, by rw [borD_first]; rfl, HS⟩
 case round =>
  obtain ⟨k, hk, rfl, rfl, HK⟩ := hrel
  by_cases hkn : k < n
  ·obtain ⟨p, rfl, hl, hx⟩ := HA.out wr HK.out.2 (by rw [HNA.out]; omega)
   have hcx := hx k (by rw [HNA.out]; exact hkn)
   have hk1 : (k : Int) < n := by omega
   have hk0 : (0 : Int) ≤ k := by omega
   have hd0 := (digR_bd a k).1
   have hd1 := (digR_bd a k).2
   have hd2 := (digR_bd b k).1
   have hd3 := (digR_bd b k).2
   have hc1 := borD_le a b k
   have hs0 := (digR_bd (a - b) k).1
   have hs1 := (digR_bd (a - b) k).2
   have hV := Lib.hid (show digV (a - b) (k + 1) = digV (a - b) k ++ [.int .i64 (digR (a - b) k)] from rfl)
   have CB := Lib.hid (fun d => HB.out (wr.drewN d) (below_drewN HK.out.2 d) k)
   have hcase := HD0.out k
   clear hx
   generalize hcn : borD a b (k + 1) = cn at *
   have HCN := Lib.hid hcn
   clear hcn
   generalize borD a b k = cc at *
   generalize digR a k = x at *
   generalize digR b k = y at *
   generalize digR (a - b) k = z at *
   have hc0 : (0 : Int) ≤ (cc : Nat) := by omega
   have hc2 : ((cc : Nat) : Int) ≤ 1 := by omega
   have s1 : IntKind.i64.wrap (x - y) = x - y := IntWalk.i64_in _ (by omega)
   have s2 : IntKind.i64.wrap (x - y - (cc : Nat)) = x - y - (cc : Nat) := IntWalk.i64_in _ (by omega)
   rcases hcase with ⟨hlt, hz, rfl⟩ | ⟨hlt, hz, rfl⟩
   all_goals
    have HZ := Lib.hid hz
    clear hz
    go_wp2_with fail
    go_quiet ((go_at_call 136; exact Calls.quiet_of (CB.out _)))
    clear s1 s2 hcx
    generalize hW : World.drewN _ _ = W5
    have HK5 : Hid (PlS w k (digV (a - b) k) u5 W5) := by rw [← hW]; exact Lib.hid (HK.out.drew _)
    clear hW HK CB
    first
     | (go_wp2_with (first
         | (at_builtin; refine wpList_append_own_at _ rfl _ _ 51 rfl w.heap.size 2 i0 (.int .i64 0) 1 8 Tryz.underlying51 hi hz0 hz1 hz2 rfl (by decide) _ _ _ rfl (HK5.out.1.alloc _) ⟨W5.heap.size, 0, none⟩ 1 1 [.int .i64 (x - y - (cc : Nat) + 65536)] rfl rfl (cell_one_new _ _ _) (ints_oneCell .i64 [x - y - (cc : Nat) + 65536]) (by unfold maxLen; omega) (by omega) (by have := HK5.out.2.size; simp; omega) ?_)
         | go_in)
        intro v1 w2 hown1 hgrow1 _ _
        rw [HZ.out] at hown1)
     | (go_wp2_with (first
         | (at_builtin; refine wpList_append_own_at _ rfl _ _ 51 rfl w.heap.size 2 i0 (.int .i64 0) 1 8 Tryz.underlying51 hi hz0 hz1 hz2 rfl (by decide) _ _ _ rfl (HK5.out.1.alloc _) ⟨W5.heap.size, 0, none⟩ 1 1 [.int .i64 (x - y - (cc : Nat))] rfl rfl (cell_one_new _ _ _) (ints_oneCell .i64 [x - y - (cc : Nat)]) (by unfold maxLen; omega) (by omega) (by have := HK5.out.2.size; simp; omega) ?_)
         | go_in)
        intro v1 w2 hown1 hgrow1 _ _
        rw [HZ.out] at hown1)
    have H1 := Lib.hid (HK5.out.step (v' := v1) (d := .int .i64 z) hown1 hgrow1)
    clear hgrow1 hown1 HK5
    go_wp2
    exact ⟨⟨k + 1, by omega, by go_num, by rw [HCN.out]; rfl, by rw [hV.out]; exact H1⟩, by simp [intOf]; omega⟩
  ·obtain rfl : k = n := by omega
   obtain ⟨A', c2, rfl, hc2, hd, hpb⟩ := HK.out.form (fun i hi => digV_at (a - b) hi)
   have hB := Lib.hid HK.out.2
   have HD := Lib.hid hd
   have HPB := Lib.hid hpb
   clear hpb hd HK HS HA HB HD0
   go_wp2_with fail
   refine (cut_z (a - b) k A' c2 _ HL.out (by omega) hc2 HD.out).mono ?_
   rintro e w2 ⟨rfl, hcc, hds, rfl⟩
   have HP := Lib.hid (SlPost.mk hcc hds hB.out HPB.out)
   clear hcc hds
   go_wp2_with fail
   go_ret
   exact HP.out
end Go.Proofs.YtongeeggaigepaaGreatDoor
namespace Go.Proofs.YtongeeggaigepaaGreatDoor
open Go.RowKit
theorem neg_abs (z : Int) : (-z).natAbs = z.natAbs := by omega
set_option maxHeartbeats 800000 in
theorem refneg_z (z : Int) (A : Option Addr) (c : Nat) (w : World) (hd : DS w z.natAbs A) (hc : L16 z.natAbs ≤ c) (hl : L16 z.natAbs ≤ 1000000) :
 Calls Tryz.prog 78 #[bigv z A c] w fun e w' => e = .returned (bigv (-z) A c) ∧ DS w' z.natAbs A ∧ Below w.heap.size w w' := by
 have HO := Lib.hid (fun W (hW : Below w.heap.size w W) => of_z (!decide (z < 0)) z.natAbs (L16 z.natAbs) A c (-z) W (by by_cases h : z < 0 <;> simp [h] <;> omega) (Nat.le_refl _) hl hc (hd.below hW))
 have HD := Lib.hid (fun W (hW : Below w.heap.size w W) => hd.below hW)
 rw [bigv] at HO
 rw [bigv, bigv]
 rw [neg_abs] at HO ⊢
 clear hd hl
 generalize decide (z < 0) = s at *
 generalize decide (-z < 0) = s' at *
 generalize z.natAbs = m at *
 generalize L16 m = n at *
 go_enter Tryz.func78, Tryz.ntmps78
 go_wp2_with fail
 generalize hW : World.alloc _ _ = W0
 have hB : Below w.heap.size w W0 := by rw [← hW]; exact ((Below.refl w.heap.size w).alloc (Nat.le_refl _) _).alloc (by simp) _
 have rR : Row W0 (w.heap.size + 1) [.bool false, .slice none 0 0] := by rw [← hW]; exact Row.at (by simp) _ _
 clear hW
 refine (HO.out _ hB).mono ?_
 rintro e w1 ⟨rfl, hcc, hds, hb1⟩
 replace rR := rR.after hb1
 replace hB := hB.trans (hb1.mono hB.size)
 clear hb1 hds hcc
 have c0 := rR.c 0 rfl
 have c1 := rR.c 1 rfl
 have f0 := rR.f 0 rfl
 have f1 := rR.f 1 rfl
 go_wp2_with fail
 clear c0 c1 f0 f1
 generalize hW2 : World.setCell _ _ _ = W2
 have rR2 : Row W2 (w.heap.size + 1) [.bool s', .slice A n c] := by rw [← hW2]; exact (rR.set 0 (by simp) _).set 1 (by simp) _
 have hB2 : Below w.heap.size w W2 := by rw [← hW2]; exact below_put1 (below_put1 hB (Nat.le_succ _) 0 _) (Nat.le_succ _) 1 _
 exact bodyPost_ret (v := .agg #[.bool s', .slice A n c]) (by simp [results, Tryz.results78, go_sem, rR2.c 0 rfl, rR2.c 1 rfl]) rfl ⟨rfl, HD.out _ hB2, hB2⟩
end Go.Proofs.YtongeeggaigepaaGreatDoor

namespace Go.Proofs.YtongeeggaigepaaGreatDoor
open Go.RowKit
def rQ (a b i : Nat) : Nat := a / 65536 ^ i % b
def mQ (a b i : Nat) : Nat := rQ a b (i + 1) * 65536 + D16 a i
def dQ (m b k : Nat) : Nat := m / (b * 2 ^ k) * 2 ^ k
theorem top_step (a i : Nat) : a / 65536 ^ i = a / 65536 ^ (i + 1) * 65536 + D16 a i := by
 unfold D16
 rw [Nat.pow_succ, ← Nat.div_div_eq_div_mul]
 omega
theorem mQ_lt {a b : Nat} (i : Nat) (hb : 0 < b) : mQ a b i < b * 65536 := by
 have h1 : rQ a b (i + 1) < b := Nat.mod_lt _ hb
 have h2 : D16 a i < 65536 := Nat.mod_lt _ (by decide)
 unfold mQ
 have : (rQ a b (i + 1) + 1) * 65536 ≤ b * 65536 := Nat.mul_le_mul_right _ h1
 omega
theorem mQ_mod (a b i : Nat) : mQ a b i % b = rQ a b i := by
 unfold mQ rQ
 rw [top_step a i, Nat.add_mod, Nat.mul_mod, Nat.mod_mod, ← Nat.mul_mod, ← Nat.add_mod]
theorem mQ_div {a b : Nat} (i : Nat) (hb : 0 < b) : mQ a b i / b = D16 (a / b) i := by
 have h := mQ_lt (a := a) i hb
 have h1 : a / 65536 ^ i / b = a / 65536 ^ (i + 1) / b * 65536 + mQ a b i / b := by
  rw [top_step a i]
  have h2 := Nat.div_add_mod (a / 65536 ^ (i + 1)) b
  unfold mQ rQ
  generalize a / 65536 ^ (i + 1) = t at *
  generalize t / b = q at *
  generalize t % b = r at *
  rw [show t * 65536 + D16 a i = r * 65536 + D16 a i + b * (q * 65536) by rw [← h2, Nat.add_mul, Nat.mul_assoc]; omega, Nat.add_mul_div_left _ _ hb]
  omega
 unfold D16
 rw [Nat.div_div_eq_div_mul, Nat.mul_comm b, ← Nat.div_div_eq_div_mul, h1]
 have h3 : mQ a b i / b < 65536 := (Nat.div_lt_iff_lt_mul hb).2 (by rw [Nat.mul_comm]; exact h)
 rw [Nat.add_comm, Nat.add_mul_mod_self_right, Nat.mod_eq_of_lt h3]
theorem half_step (m c : Nat) (hc : 0 < c) : (c ≤ m % (2 * c) → m % c = m % (2 * c) - c ∧ m / c = 2 * (m / (2 * c)) + 1) ∧ (¬ c ≤ m % (2 * c) → m % c = m % (2 * c) ∧ m / c = 2 * (m / (2 * c))) := by
 have h1 := Nat.div_add_mod m (2 * c)
 have h2 := Nat.mod_lt m (show 0 < 2 * c by omega)
 generalize m / (2 * c) = q at *
 generalize m % (2 * c) = r at *
 constructor
 ·intro h
  have e : m = (r - c) + c * (2 * q + 1) := by rw [Nat.mul_add, Nat.mul_one, ← Nat.mul_assoc, Nat.mul_comm c 2]; omega
  rw [e, Nat.add_mul_mod_self_left, Nat.add_mul_div_left _ _ hc, Nat.mod_eq_of_lt (by omega), Nat.div_eq_of_lt (by omega)]
  omega
 ·intro h
  have e : m = r + c * (2 * q) := by rw [← Nat.mul_assoc, Nat.mul_comm c 2]; omega
  rw [e, Nat.add_mul_mod_self_left, Nat.add_mul_div_left _ _ hc, Nat.mod_eq_of_lt (by omega), Nat.div_eq_of_lt (by omega)]
  omega
theorem dQ_step (m b k : Nat) (hb : 0 < b) : (b * 2 ^ k ≤ m % (b * 2 ^ (k + 1)) → m % (b * 2 ^ k) = m % (b * 2 ^ (k + 1)) - b * 2 ^ k ∧ dQ m b k = dQ m b (k + 1) + 2 ^ k) ∧
 (¬ b * 2 ^ k ≤ m % (b * 2 ^ (k + 1)) → m % (b * 2 ^ k) = m % (b * 2 ^ (k + 1)) ∧ dQ m b k = dQ m b (k + 1)) := by
 have hp : 0 < 2 ^ k := Nat.pow_pos (by decide)
 have h := half_step m (b * 2 ^ k) (Nat.mul_pos hb hp)
 rw [show 2 * (b * 2 ^ k) = b * 2 ^ (k + 1) by rw [Nat.pow_succ, Nat.mul_comm, Nat.mul_assoc]] at h
 unfold dQ
 rw [Nat.pow_succ 2 k]
 rw [Nat.pow_succ 2 k] at h
 refine ⟨fun h1 => ?_, fun h1 => ?_⟩
 ·obtain ⟨h2, h3⟩ := h.1 h1
  refine ⟨h2, ?_⟩
  rw [h3, Nat.add_mul, Nat.one_mul, Nat.mul_comm 2, Nat.mul_assoc, Nat.mul_comm 2]
 ·obtain ⟨h2, h3⟩ := h.2 h1
  refine ⟨h2, ?_⟩
  rw [h3, Nat.mul_comm 2, Nat.mul_assoc, Nat.mul_comm 2]
theorem dQ_first {m b : Nat} (h : m < b * 65536) : m % (b * 2 ^ 16) = m ∧ dQ m b 16 = 0 := by
 have h1 : m < b * 2 ^ 16 := h
 exact ⟨Nat.mod_eq_of_lt h1, by unfold dQ; rw [Nat.div_eq_of_lt h1, Nat.zero_mul]⟩
theorem dQ_last (m b : Nat) : m % (b * 2 ^ 0) = m % b ∧ dQ m b 0 = m / b := by unfold dQ; simp
theorem dQ_lt {m b : Nat} (k : Nat) (hb : 0 < b) (h : m < b * 65536) : dQ m b k < 65536 := by
 have h1 : dQ m b k ≤ m / b := by
  unfold dQ
  rw [← Nat.div_div_eq_div_mul]
  exact Nat.div_mul_le_self _ _
 have h2 : m / b < 65536 := (Nat.div_lt_iff_lt_mul hb).2 (by rw [Nat.mul_comm]; exact h)
 omega
theorem L16_double {b k : Nat} (hk : k < 16) : L16 (b * 2 ^ k) ≤ L16 b + 1 := by
 apply L16_le
 rw [Nat.pow_succ]
 have h1 := lt_L16 b
 have h2 : 2 ^ k ≤ 65536 := Nat.le_trans (Nat.pow_le_pow_right (by decide) (show k ≤ 16 by omega)) (by decide)
 exact Nat.lt_of_lt_of_le (Nat.mul_lt_mul_of_pos_right h1 (Nat.pow_pos (by decide))) (Nat.mul_le_mul_left _ h2)
theorem L16_rest {m b : Nat} (h : m < b * 65536) : L16 m ≤ L16 b + 1 := by
 apply L16_le
 rw [Nat.pow_succ]
 exact Nat.lt_of_lt_of_le h (Nat.mul_le_mul_right _ (Nat.le_of_lt (lt_L16 b)))
theorem word_val {m : Nat} (h : L16 m ≤ 3) : D16 m 0 + 65536 * (D16 m 1 + 65536 * D16 m 2) = m ∧ m < 281474976710656 := by
 have h1 := valD_D16 m 3
 rw [mod_pow_all h] at h1
 have h2 := Nat.lt_of_lt_of_le (lt_L16 m) (Nat.pow_le_pow_right (n := 65536) (by decide) h)
 simp only [valD] at h1
 constructor
 ·omega
 ·exact h2
set_option maxRecDepth 100000 in
set_option maxHeartbeats 400000 in
theorem word_z (m : Nat) (A : Option Addr) (c : Nat) (w : World) (ha : DS w m A) (hm : L16 m ≤ 3) :
 Calls Tryz.prog 113 #[.slice A (L16 m) c] w fun e w' => e = .returned (.int .i64 (m : Nat)) ∧ w = w' := by
 have HA := Lib.hid (fun i => at_z m i A c w ha)
 obtain ⟨h1, h2⟩ := word_val hm
 have h10 := (digR_bd m 0).1
 have h11 := (digR_bd m 0).2
 have h20 := (digR_bd m 1).1
 have h21 := (digR_bd m 1).2
 have h30 := (digR_bd m 2).1
 have h31 := (digR_bd m 2).2
 have HV := Lib.hid (show digR m 0 + 65536 * (digR m 1 + 65536 * digR m 2) = (m : Int) by unfold digR; omega)
 clear h1 h2 ha hm
 have H0 := Lib.hid (HA.out 0)
 have H1 := Lib.hid (HA.out 1)
 have H2 := Lib.hid (HA.out 2)
 clear HA
 generalize digR m 0 = d0 at *
 generalize digR m 1 = d1 at *
 generalize digR m 2 = d2 at *
 generalize L16 m = n at *
 go_enter Tryz.func113, Tryz.ntmps113
 go_wp2_with fail
 refine H0.out.mono ?_
 rintro e w' ⟨rfl, rfl⟩
 go_wp2_with fail
 refine H1.out.mono ?_
 rintro e w' ⟨rfl, rfl⟩
 go_wp2_with fail
 refine H2.out.mono ?_
 rintro e w' ⟨rfl, rfl⟩
 go_wp2_with fail
 go_ret
 exact ⟨by show Ending.returned (.int .i64 (d0 + 65536 * (d1 + 65536 * d2))) = _; rw [HV.out], rfl⟩
end Go.Proofs.YtongeeggaigepaaGreatDoor

namespace Go.Proofs.YtongeeggaigepaaGreatDoor
open Go.RowKit
end Go.Proofs.YtongeeggaigepaaGreatDoor

namespace Go.Proofs.YtongeeggaigepaaGreatDoor
open Go.RowKit
end Go.Proofs.YtongeeggaigepaaGreatDoor

namespace Go.Proofs.YtongeeggaigepaaGreatDoor
open Go.RowKit
end Go.Proofs.YtongeeggaigepaaGreatDoor
namespace Go.Proofs.YtongeeggaigepaaGreatDoor
open Go.RowKit
end Go.Proofs.YtongeeggaigepaaGreatDoor
