import Derived.Test.YtcabndpmfkimgaaGreatDoorZKkWD
import Derived.Test.YtcabndpmfkimgaaGreatDoorZKkQDP
import Derived.Test.YtcabndpmfkimgaaGreatDoorZKkBG
import Derived.Test.YtcabndpmfkimgaaGreatDoorZKkBX
import Derived.Test.YtcabndpmfkimgaaGreatDoorZKkY
import Derived.Test.YtcabndpmfkimgaaGreatDoorZKkCI
import Derived.Test.YtcabndpmfkimgaaGreatDoorZKkSM
namespace Go.Proofs.YtcabndpmfkimgaaGreatDoor
open Go.RowKit CrossMath

theorem bg_of {w : World} {z : Int} {e : Ending} {w' : World} {s : Bool} (hs : decide (z < 0) = s) (h : BigPost w z e w') : BgPost w s z.natAbs (L16 z.natAbs) e w' := by
 subst hs
 obtain ⟨A, c, rfl, hc, hd, hb⟩ := h
 exact ⟨A, c, rfl, hc, hd, hb⟩
theorem one_bg (W : World) : Calls Tryz.prog 34 #[.int .i64 1] W (BgPost W false 1 (L16 1)) := (num_z 1 W (by decide) (by decide)).mono fun _ _ h => bg_of (z := 1) rfl h
theorem L16_T {m : Nat} (h : m < T256) : L16 m ≤ 1000 := Nat.le_trans (L16_int.1 h) (by decide)
theorem L16_T6 {m : Nat} (h : m < T256) : L16 m ≤ 1000000 := Nat.le_trans (L16_int.1 h) (by decide)
theorem rmake_any (n d : Int) (A B : Option Addr) (c e : Nat) (w : World) (hd : 0 < d) (hn : n.natAbs < T256) (hd' : d.natAbs < T256) (dA : DS w n.natAbs A) (dB : DS w d.natAbs B) (hc : L16 n.natAbs ≤ c) (he : L16 d.natAbs ≤ e) :
 Calls Tryz.prog 33 #[.agg #[.bool (decide (n < 0)), .slice A (L16 n.natAbs) c], .agg #[.bool false, .slice B (L16 d.natAbs) e]] w (RqPost w (decide (frN n d < 0)) false (frN n d).natAbs (frD n d).natAbs (L16 (frN n d).natAbs) (L16 (frD n d).natAbs)) := by
 have d0 : decide (d < 0) = false := by simp; omega
 have hg0 : Int.gcd n d ≠ 0 := fun h => by have := (Int.gcd_eq_zero_iff.1 h).2; omega
 have eN : frN n d = n.tdiv (Int.gcd n d : Nat) := by unfold frN; rw [if_neg (by omega), Int.mul_one]
 have eD : frD n d = d.tdiv (Int.gcd n d : Nat) := by unfold frD; rw [show ((d.natAbs : Nat) : Int) = d by omega]
 have hgd : Int.gcd n d ≤ d.natAbs := Nat.le_of_dvd (by omega) (Int.natCast_dvd_natCast.1 (by rw [show ((d.natAbs : Nat) : Int) = d by omega]; exact Int.gcd_dvd_right ..))
 have hgT : Int.gcd n d < T256 := Nat.lt_of_le_of_lt hgd hd'
 have hcmp : ∀ (E : Option Addr) (h : Nat) (W : World), DS W d.natAbs B → DS W 1 E → Calls Tryz.prog 60 #[.agg #[.bool false, .slice B (L16 d.natAbs) e], .agg #[.bool false, .slice E (L16 1) h]] W fun e w' => e = .returned (.int .i64 (cmpI d 1)) ∧ Below W.heap.size W w' := by
  intro E h W hB hE
  have := cmp_z d 1 B E e h W hB hE (L16_T6 hd') (by show L16 1 ≤ _; exact Nat.le_trans (L16_T (by decide)) (by decide))
  rw [bigv, d0] at this
  exact this
 by_cases h1 : d = 1
 ·subst h1
  have e1 : Int.gcd n 1 = 1 := by simp
  rw [eN, eD, e1, show ((1 : Nat) : Int) = 1 from rfl, Int.tdiv_one, Int.tdiv_one]
  rw [show cmpI 1 1 = 0 from rfl] at hcmp
  exact make_one _ A B _ _ _ _ c e (L16 1) w dA dB hc he one_bg hcmp
 ·have hne : cmpI d 1 ≠ 0 := by unfold cmpI; rw [if_neg (by omega), if_pos (by omega)]; decide
  have q0 : decide (d.tdiv (Int.gcd n d : Nat) < 0) = false := by
   have : 0 ≤ d.tdiv (Int.gcd n d : Nat) := Int.tdiv_nonneg (by omega) (by omega)
   simp; omega
  rw [eN, eD]
  refine make_gen _ _ _ A B _ _ _ _ c e (L16 1) (Int.gcd n d) (L16 (Int.gcd n d)) _ _ _ _ (cmpI d 1) w dA dB hc he one_bg hcmp ?_ ?_ ?_ hne
  ·intro W hA hB
   have := refgcd_z n d A B c e W hA hB hc he hn hd'
   rw [bigv, bigv, d0] at this
   refine this.mono ?_
   rintro e' w' ⟨X, x, rfl, hx, hD, hb⟩
   refine ⟨X, x, ?_, hx, hD, hb⟩
   rw [bigv, show decide (((Int.gcd n d : Nat) : Int) < 0) = false by simp]
   rfl
  ·intro E h W hA hE hh
   have := refquo_z n (Int.gcd n d : Nat) A E c h W hA hE (L16_T hn) (by rw [Int.natAbs_natCast]; exact L16_T hgT) (by omega)
   rw [bigv, bigv, show decide (((Int.gcd n d : Nat) : Int) < 0) = false by simp] at this
   refine this.mono ?_
   rintro e' w' ⟨X, x, Y, y, rfl, hx, _, hD, _, hb⟩
   exact ⟨X, x, Y, y, _, _, rfl, hx, hD, hb⟩
  ·intro E h W hA hE hh
   have := refquo_z d (Int.gcd n d : Nat) B E e h W hA hE (L16_T hd') (by rw [Int.natAbs_natCast]; exact L16_T hgT) (by omega)
   rw [bigv, bigv, d0, show decide (((Int.gcd n d : Nat) : Int) < 0) = false by simp] at this
   refine this.mono ?_
   rintro e' w' ⟨X, x, Y, y, rfl, hx, _, hD, _, hb⟩
   refine ⟨X, x, Y, y, decide (d.tmod (Int.gcd n d : Nat) < 0), L16 (d.tmod (Int.gcd n d : Nat)).natAbs, ?_, hx, hD, hb⟩
   rw [bigv, q0]
   rfl
theorem radd_any (n d n2 d2 : Int) (A B E G : Option Addr) (c e f h : Nat) (w : World) (hd : 0 < d) (hd2 : 0 < d2) (h1 : n.natAbs < T256) (h2 : d.natAbs < T256) (h3 : n2.natAbs < T256) (h4 : d2.natAbs < T256)
 (m1 : (n * d2).natAbs < T256) (m2 : (n2 * d).natAbs < T256) (m3 : (n * d2 + n2 * d).natAbs < T256) (m4 : (d * d2).natAbs < T256) (dA : DS w n.natAbs A) (dB : DS w d.natAbs B) (dE : DS w n2.natAbs E) (dG : DS w d2.natAbs G) :
 Calls Tryz.prog 36 #[.agg #[.bool (decide (n < 0)), .slice A (L16 n.natAbs) c, .bool false, .slice B (L16 d.natAbs) e], .agg #[.bool (decide (n2 < 0)), .slice E (L16 n2.natAbs) f, .bool false, .slice G (L16 d2.natAbs) h]] w
  (RqPost w (decide (frN (n * d2 + n2 * d) (d * d2) < 0)) false (frN (n * d2 + n2 * d) (d * d2)).natAbs (frD (n * d2 + n2 * d) (d * d2)).natAbs (L16 (frN (n * d2 + n2 * d) (d * d2)).natAbs) (L16 (frD (n * d2 + n2 * d) (d * d2)).natAbs)) := by
 have d0 : decide (d < 0) = false := by simp; omega
 have d20 : decide (d2 < 0) = false := by simp; omega
 have hdd : 0 < d * d2 := Int.mul_pos hd hd2
 have dd0 : decide (d * d2 < 0) = false := by simp; omega
 refine radd_core _ _ _ _ (decide (n * d2 < 0)) (decide (n2 * d < 0)) (decide (n * d2 + n2 * d < 0)) false _ _ A B E G _ c _ e _ f _ h _ _ _ _ (n * d2).natAbs (L16 (n * d2).natAbs) (n2 * d).natAbs (L16 (n2 * d).natAbs) (n * d2 + n2 * d).natAbs (L16 (n * d2 + n2 * d).natAbs) (d * d2).natAbs (L16 (d * d2).natAbs) _ _ _ _ w dA dB dE dG ?_ ?_ ?_ ?_ ?_
 ·intro W hA hG
  have := mul_z n d2 A G c h W hA hG (L16_T h1) (L16_T h4)
  rw [bigv, bigv, d20] at this
  exact this.mono fun _ _ h => bg_of rfl h
 ·intro W hE hB
  have := mul_z n2 d E B f e W hE hB (L16_T h3) (L16_T h2)
  rw [bigv, bigv, d0] at this
  exact this.mono fun _ _ h => bg_of rfl h
 ·intro X x Y y W hX hY _ _
  refine (refadd_z (n * d2) (n2 * d) X Y x y W hX hY (L16_T m1) (L16_T m2)).mono ?_
  rintro e' w' ⟨P, p, rfl, hp, hD, hb, _⟩
  exact ⟨P, p, rfl, hp, hD, hb⟩
 ·intro W hB hG
  have := mul_z d d2 B G e h W hB hG (L16_T h2) (L16_T h4)
  rw [bigv, bigv, d0, d20] at this
  exact this.mono fun _ _ h => bg_of dd0 h
 ·intro X x Y y W hX hY hx hy
  exact rmake_any (n * d2 + n2 * d) (d * d2) X Y x y W hdd m3 m4 hX hY hx hy
end Go.Proofs.YtcabndpmfkimgaaGreatDoor

namespace Go.Proofs.YtcabndpmfkimgaaGreatDoor
open Go.RowKit

end Go.Proofs.YtcabndpmfkimgaaGreatDoor

namespace Go.Proofs.YtcabndpmfkimgaaGreatDoor
open Go.RowKit

section
variable {w0 W W1 : World} {T0 : World → Prop} {L : List (Nat × Array Value)} {F : Nat → Option (Nat × (Value → World → Prop))} {al b pt : Nat} {z r : Array Value} {listed : Array Bool} {a : Act}
end

end Go.Proofs.YtcabndpmfkimgaaGreatDoor
