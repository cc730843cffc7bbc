import Derived.Test.YtongeeggaigepaaGreatDoorZKkWD
import Derived.Test.YtongeeggaigepaaGreatDoorZKkQDP
import Derived.Test.YtongeeggaigepaaGreatDoorZKkBG
import Derived.Test.YtongeeggaigepaaGreatDoorZKkBX
import Derived.Test.YtongeeggaigepaaGreatDoorZKkBase
import Derived.Test.YtongeeggaigepaaGreatDoorZKkCI
import Derived.Test.YtongeeggaigepaaGreatDoorZKkSM
namespace Go.Proofs.YtongeeggaigepaaGreatDoor
open Go.RowKit CrossMath
theorem bg_of {w : World} {z : Int} {e : Ending} {w' : World} {s : Bool} (hs : decide (z < 0) = s) (h : BigPost w z e w') : BgPost w s z.natAbs (L16 z.natAbs) e w' := by
 subst hs
 obtain ⟨A, c, rfl, hc, hd, hb⟩ := h
 exact ⟨A, c, rfl, hc, hd, hb⟩
theorem one_bg (W : World) : Calls Tryz.prog 80 #[.int .i64 1] W (BgPost W false 1 (L16 1)) := (num_z 1 W (by decide) (by decide)).mono fun _ _ h => bg_of (z := 1) rfl h
theorem L16_T {m : Nat} (h : m < T256) : L16 m ≤ 1000 := Nat.le_trans (L16_int.1 h) (by decide)
theorem L16_T6 {m : Nat} (h : m < T256) : L16 m ≤ 1000000 := Nat.le_trans (L16_int.1 h) (by decide)
theorem rmake_any (n d : Int) (A B : Option Addr) (c e : Nat) (w : World) (hd : 0 < d) (hn : n.natAbs < T256) (hd' : d.natAbs < T256) (dA : DS w n.natAbs A) (dB : DS w d.natAbs B) (hc : L16 n.natAbs ≤ c) (he : L16 d.natAbs ≤ e) :
 Calls Tryz.prog 44 #[.agg #[.bool (decide (n < 0)), .slice A (L16 n.natAbs) c], .agg #[.bool false, .slice B (L16 d.natAbs) e]] w (RqPost w (decide (frN n d < 0)) false (frN n d).natAbs (frD n d).natAbs (L16 (frN n d).natAbs) (L16 (frD n d).natAbs)) := by
 have d0 : decide (d < 0) = false := by simp; omega
 have hg0 : Int.gcd n d ≠ 0 := fun h => by have := (Int.gcd_eq_zero_iff.1 h).2; omega
 have eN : frN n d = n.tdiv (Int.gcd n d : Nat) := by unfold frN; rw [if_neg (by omega), Int.mul_one]
 have eD : frD n d = d.tdiv (Int.gcd n d : Nat) := by unfold frD; rw [show ((d.natAbs : Nat) : Int) = d by omega]
 have hgd : Int.gcd n d ≤ d.natAbs := Nat.le_of_dvd (by omega) (Int.natCast_dvd_natCast.1 (by rw [show ((d.natAbs : Nat) : Int) = d by omega]; exact Int.gcd_dvd_right ..))
 have hgT : Int.gcd n d < T256 := Nat.lt_of_le_of_lt hgd hd'
 have hcmp : ∀ (E : Option Addr) (h : Nat) (W : World), DS W d.natAbs B → DS W 1 E → Calls Tryz.prog 79 #[.agg #[.bool false, .slice B (L16 d.natAbs) e], .agg #[.bool false, .slice E (L16 1) h]] W fun e w' => e = .returned (.int .i64 (cmpI d 1)) ∧ Below W.heap.size W w' := by
  intro E h W hB hE
  have := cmp_z d 1 B E e h W hB hE (L16_T6 hd') (by show L16 1 ≤ _; exact Nat.le_trans (L16_T (by decide)) (by decide))
  rw [bigv, d0] at this
  exact this
 by_cases h1 : d = 1
 ·subst h1
  have e1 : Int.gcd n 1 = 1 := by simp
  rw [eN, eD, e1, show ((1 : Nat) : Int) = 1 from rfl, Int.tdiv_one, Int.tdiv_one]
  rw [show cmpI 1 1 = 0 from rfl] at hcmp
  exact make_one _ A B _ _ _ _ c e (L16 1) w dA dB hc he one_bg hcmp
 ·have hne : cmpI d 1 ≠ 0 := by unfold cmpI; rw [if_neg (by omega), if_pos (by omega)]; decide
  have q0 : decide (d.tdiv (Int.gcd n d : Nat) < 0) = false := by
   have : 0 ≤ d.tdiv (Int.gcd n d : Nat) := Int.tdiv_nonneg (by omega) (by omega)
   simp; omega
  rw [eN, eD]
  refine make_gen _ _ _ A B _ _ _ _ c e (L16 1) (Int.gcd n d) (L16 (Int.gcd n d)) _ _ _ _ (cmpI d 1) w dA dB hc he one_bg hcmp ?_ ?_ ?_ hne
  ·intro W hA hB
   have := refgcd_z n d A B c e W hA hB hc he hn hd'
   rw [bigv, bigv, d0] at this
   refine this.mono ?_
   rintro e' w' ⟨X, x, rfl, hx, hD, hb⟩
   refine ⟨X, x, ?_, hx, hD, hb⟩
   rw [bigv, show decide (((Int.gcd n d : Nat) : Int) < 0) = false by simp]
   rfl
  ·intro E h W hA hE hh
   have := refquo_z n (Int.gcd n d : Nat) A E c h W hA hE (L16_T hn) (by rw [Int.natAbs_natCast]; exact L16_T hgT) (by omega)
   rw [bigv, bigv, show decide (((Int.gcd n d : Nat) : Int) < 0) = false by simp] at this
   refine this.mono ?_
   rintro e' w' ⟨X, x, Y, y, rfl, hx, _, hD, _, hb⟩
   exact ⟨X, x, Y, y, _, _, rfl, hx, hD, hb⟩
  ·intro E h W hA hE hh
   have := refquo_z d (Int.gcd n d : Nat) B E e h W hA hE (L16_T hd') (by rw [Int.natAbs_natCast]; exact L16_T hgT) (by omega)
   rw [bigv, bigv, d0, show decide (((Int.gcd n d : Nat) : Int) < 0) = false by simp] at this
   refine this.mono ?_
   rintro e' w' ⟨X, x, Y, y, rfl, hx, _, hD, _, hb⟩
   refine ⟨X, x, Y, y, decide (d.tmod (Int.gcd n d : Nat) < 0), L16 (d.tmod (Int.gcd n d : Nat)).natAbs, ?_, hx, hD, hb⟩
   rw [bigv, q0]
   rfl
end Go.Proofs.YtongeeggaigepaaGreatDoor

namespace Go.Proofs.YtongeeggaigepaaGreatDoor
open Go.RowKit
end Go.Proofs.YtongeeggaigepaaGreatDoor

namespace Go.Proofs.YtongeeggaigepaaGreatDoor
open Go.RowKit
section
variable {w0 W W1 : World} {T0 : World → Prop} {L : List (Nat × Array Value)} {F : Nat → Option (Nat × (Value → World → Prop))} {al b pt : Nat} {z r : Array Value} {listed : Array Bool} {a : Act}
end
end Go.Proofs.YtongeeggaigepaaGreatDoor
