import Derived.Test.YtcabndpmfkimgaaGreatDoorZKkWE
import Derived.Test.YtcabndpmfkimgaaGreatDoorZKkSO
namespace Go.Proofs.YtcabndpmfkimgaaGreatDoor
open Go.RowKit CrossMath

def GoodR (n d : Int) : Prop := 0 < d ∧ Int.gcd n d = 1 ∧ n.natAbs < 1237940039285380274899124224 ∧ d.natAbs < 1152921504606846976
theorem good_T {n d : Int} (h : GoodR n d) : n.natAbs < T256 ∧ d.natAbs < T256 := ⟨Nat.lt_trans h.2.2.1 (by decide), Nat.lt_trans h.2.2.2 (by decide)⟩
theorem good_L {n d : Int} (h : GoodR n d) : L16 n.natAbs ≤ 6 ∧ L16 d.natAbs ≤ 4 := ⟨L16_le (Nat.lt_trans h.2.2.1 (by decide)), L16_le (Nat.lt_trans h.2.2.2 (by decide))⟩
theorem mulD_bd {a b : Int} (ha : a.natAbs < 1152921504606846976) (hb : b.natAbs ≤ 67108864) : (b * a).natAbs ≤ 1152921504606846976 * 67108864 := by
 rw [Int.natAbs_mul, Nat.mul_comm]
 exact Nat.mul_le_mul (Nat.le_of_lt ha) hb
theorem rout_good (n d : Int) (A B : Option Addr) (c e : Nat) (w : World) (hd : 0 < d) (hn : n.natAbs < T256) (hd' : d.natAbs < T256) (dA : DS w n.natAbs A) (dB : DS w d.natAbs B) :
 Calls Tryz.prog 67 #[.agg #[.bool (decide (n < 0)), .slice A (L16 n.natAbs) c, .bool false, .slice B (L16 d.natAbs) e]] w fun e w' => e = .returned (.tuple #[.agg (ratA n d), .int .i64 0]) ∧ Below w.heap.size w w' := by
 have d0 : decide (d < 0) = false := by simp; omega
 refine rout_core _ _ _ _ _ _ _ _ _ _ _ _ A B _ c _ e w (fun W hW => ?_) (fun W hW => ?_)
 ·have := out_z n A c W (dA.below hW)
  rw [outV, if_pos hn] at this
  exact this
 ·have := out_z d B e W (dB.below hW)
  rw [outV, if_pos hd', bigv, d0] at this
  exact this
def GoodP (p : Pt) : Prop := GoodR p.xn p.xd ∧ GoodR p.yn p.yd
end Go.Proofs.YtcabndpmfkimgaaGreatDoor
