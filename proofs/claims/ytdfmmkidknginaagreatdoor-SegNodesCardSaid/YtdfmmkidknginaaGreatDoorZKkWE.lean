import Derived.Test.YtdfmmkidknginaaGreatDoorZKkSG
import Derived.Test.YtdfmmkidknginaaGreatDoorZKkQDP
import Derived.Test.YtdfmmkidknginaaGreatDoorZKkBG
import Derived.Test.YtdfmmkidknginaaGreatDoorZKkBX
import Derived.Test.YtdfmmkidknginaaGreatDoorZKkBase
import Derived.Test.YtdfmmkidknginaaGreatDoorZKkCI
import Derived.Test.YtdfmmkidknginaaGreatDoorZKkSM
import Derived.Test.YtdfmmkidknginaaGreatDoorZKkSI
import Derived.Test.YtdfmmkidknginaaGreatDoorZKkYI
namespace Go.Proofs.YtdfmmkidknginaaGreatDoor
open Go.RowKit CrossMath
theorem bg_of {w : World} {z : Int} {e : Ending} {w' : World} {s : Bool} (hs : decide (z < 0) = s) (h : BigPost w z e w') : BgPost w s z.natAbs (L16 z.natAbs) e w' := by
 subst hs
 obtain ⟨A, c, rfl, hc, hd, hb⟩ := h
 exact ⟨A, c, rfl, hc, hd, hb⟩
theorem one_bg (W : World) : Calls Tryz.prog 80 #[.int .i64 1] W (BgPost W false 1 (L16 1)) := (num_z 1 W (by decide) (by decide)).mono fun _ _ h => bg_of (z := 1) rfl h
theorem L16_T {m : Nat} (h : m < T256) : L16 m ≤ 1000 := Nat.le_trans (L16_int.1 h) (by decide)
theorem L16_T6 {m : Nat} (h : m < T256) : L16 m ≤ 1000000 := Nat.le_trans (L16_int.1 h) (by decide)
theorem rmake_any (n d : Int) (A B : Option Addr) (c e : Nat) (w : World) (hd : 0 < d) (hn : n.natAbs < T256) (hd' : d.natAbs < T256) (dA : DS w n.natAbs A) (dB : DS w d.natAbs B) (hc : L16 n.natAbs ≤ c) (he : L16 d.natAbs ≤ e) :
 Calls Tryz.prog 44 #[.agg #[.bool (decide (n < 0)), .slice A (L16 n.natAbs) c], .agg #[.bool false, .slice B (L16 d.natAbs) e]] w (RqPost w (decide (frN n d < 0)) false (frN n d).natAbs (frD n d).natAbs (L16 (frN n d).natAbs) (L16 (frD n d).natAbs)) := by
 have d0 : decide (d < 0) = false := by simp; omega
 have hg0 : Int.gcd n d ≠ 0 := fun h => by have := (Int.gcd_eq_zero_iff.1 h).2; omega
 have eN : frN n d = n.tdiv (Int.gcd n d : Nat) := by unfold frN; rw [if_neg (by omega), Int.mul_one]
 have eD : frD n d = d.tdiv (Int.gcd n d : Nat) := by unfold frD; rw [show ((d.natAbs : Nat) : Int) = d by omega]
 have hgd : Int.gcd n d ≤ d.natAbs := Nat.le_of_dvd (by omega) (Int.natCast_dvd_natCast.1 (by rw [show ((d.natAbs : Nat) : Int) = d by omega]; exact Int.gcd_dvd_right ..))
 have hgT : Int.gcd n d < T256 := Nat.lt_of_le_of_lt hgd hd'
 have hcmp : ∀ (E : Option Addr) (h : Nat) (W : World), DS W d.natAbs B → DS W 1 E → Calls Tryz.prog 79 #[.agg #[.bool false, .slice B (L16 d.natAbs) e], .agg #[.bool false, .slice E (L16 1) h]] W fun e w' => e = .returned (.int .i64 (cmpI d 1)) ∧ Below W.heap.size W w' := by
  intro E h W hB hE
  have := cmp_z d 1 B E e h W hB hE (L16_T6 hd') (by show L16 1 ≤ _; exact Nat.le_trans (L16_T (by decide)) (by decide))
  rw [bigv, d0] at this
  exact this
 by_cases h1 : d = 1
 ·subst h1
  have e1 : Int.gcd n 1 = 1 := by simp
  rw [eN, eD, e1, show ((1 : Nat) : Int) = 1 from rfl, Int.tdiv_one, Int.tdiv_one]
  rw [show cmpI 1 1 = 0 from rfl] at hcmp
  exact make_one _ A B _ _ _ _ c e (L16 1) w dA dB hc he one_bg hcmp
 ·have hne : cmpI d 1 ≠ 0 := by unfold cmpI; rw [if_neg (by omega), if_pos (by omega)]; decide
  have q0 : decide (d.tdiv (Int.gcd n d : Nat) < 0) = false := by
   have : 0 ≤ d.tdiv (Int.gcd n d : Nat) := Int.tdiv_nonneg (by omega) (by omega)
   simp; omega
  rw [eN, eD]
  refine make_gen _ _ _ A B _ _ _ _ c e (L16 1) (Int.gcd n d) (L16 (Int.gcd n d)) _ _ _ _ (cmpI d 1) w dA dB hc he one_bg hcmp ?_ ?_ ?_ hne
  ·intro W hA hB
   have := refgcd_z n d A B c e W hA hB hc he hn hd'
   rw [bigv, bigv, d0] at this
   refine this.mono ?_
   rintro e' w' ⟨X, x, rfl, hx, hD, hb⟩
   refine ⟨X, x, ?_, hx, hD, hb⟩
   rw [bigv, show decide (((Int.gcd n d : Nat) : Int) < 0) = false by simp]
   rfl
  ·intro E h W hA hE hh
   have := refquo_z n (Int.gcd n d : Nat) A E c h W hA hE (L16_T hn) (by rw [Int.natAbs_natCast]; exact L16_T hgT) (by omega)
   rw [bigv, bigv, show decide (((Int.gcd n d : Nat) : Int) < 0) = false by simp] at this
   refine this.mono ?_
   rintro e' w' ⟨X, x, Y, y, rfl, hx, _, hD, _, hb⟩
   exact ⟨X, x, Y, y, _, _, rfl, hx, hD, hb⟩
  ·intro E h W hA hE hh
   have := refquo_z d (Int.gcd n d : Nat) B E e h W hA hE (L16_T hd') (by rw [Int.natAbs_natCast]; exact L16_T hgT) (by omega)
   rw [bigv, bigv, d0, show decide (((Int.gcd n d : Nat) : Int) < 0) = false by simp] at this
   refine this.mono ?_
   rintro e' w' ⟨X, x, Y, y, rfl, hx, _, hD, _, hb⟩
   refine ⟨X, x, Y, y, decide (d.tmod (Int.gcd n d : Nat) < 0), L16 (d.tmod (Int.gcd n d : Nat)).natAbs, ?_, hx, hD, hb⟩
   rw [bigv, q0]
   rfl
theorem radd_any (n d n2 d2 : Int) (A B E G : Option Addr) (c e f h : Nat) (w : World) (hd : 0 < d) (hd2 : 0 < d2) (h1 : n.natAbs < T256) (h2 : d.natAbs < T256) (h3 : n2.natAbs < T256) (h4 : d2.natAbs < T256)
 (m1 : (n * d2).natAbs < T256) (m2 : (n2 * d).natAbs < T256) (m3 : (n * d2 + n2 * d).natAbs < T256) (m4 : (d * d2).natAbs < T256) (dA : DS w n.natAbs A) (dB : DS w d.natAbs B) (dE : DS w n2.natAbs E) (dG : DS w d2.natAbs G) :
 Calls Tryz.prog 72 #[.agg #[.bool (decide (n < 0)), .slice A (L16 n.natAbs) c, .bool false, .slice B (L16 d.natAbs) e], .agg #[.bool (decide (n2 < 0)), .slice E (L16 n2.natAbs) f, .bool false, .slice G (L16 d2.natAbs) h]] w
  (RqPost w (decide (frN (n * d2 + n2 * d) (d * d2) < 0)) false (frN (n * d2 + n2 * d) (d * d2)).natAbs (frD (n * d2 + n2 * d) (d * d2)).natAbs (L16 (frN (n * d2 + n2 * d) (d * d2)).natAbs) (L16 (frD (n * d2 + n2 * d) (d * d2)).natAbs)) := by
 have d0 : decide (d < 0) = false := by simp; omega
 have d20 : decide (d2 < 0) = false := by simp; omega
 have hdd : 0 < d * d2 := Int.mul_pos hd hd2
 have dd0 : decide (d * d2 < 0) = false := by simp; omega
 refine radd_core _ _ _ _ (decide (n * d2 < 0)) (decide (n2 * d < 0)) (decide (n * d2 + n2 * d < 0)) false _ _ A B E G _ c _ e _ f _ h _ _ _ _ (n * d2).natAbs (L16 (n * d2).natAbs) (n2 * d).natAbs (L16 (n2 * d).natAbs) (n * d2 + n2 * d).natAbs (L16 (n * d2 + n2 * d).natAbs) (d * d2).natAbs (L16 (d * d2).natAbs) _ _ _ _ w dA dB dE dG ?_ ?_ ?_ ?_ ?_
 ·intro W hA hG
  have := mul_z n d2 A G c h W hA hG (L16_T h1) (L16_T h4)
  rw [bigv, bigv, d20] at this
  exact this.mono fun _ _ h => bg_of rfl h
 ·intro W hE hB
  have := mul_z n2 d E B f e W hE hB (L16_T h3) (L16_T h2)
  rw [bigv, bigv, d0] at this
  exact this.mono fun _ _ h => bg_of rfl h
 ·intro X x Y y W hX hY _ _
  refine (refadd_z (n * d2) (n2 * d) X Y x y W hX hY (L16_T m1) (L16_T m2)).mono ?_
  rintro e' w' ⟨P, p, rfl, hp, hD, hb, _⟩
  exact ⟨P, p, rfl, hp, hD, hb⟩
 ·intro W hB hG
  have := mul_z d d2 B G e h W hB hG (L16_T h2) (L16_T h4)
  rw [bigv, bigv, d0, d20] at this
  exact this.mono fun _ _ h => bg_of dd0 h
 ·intro X x Y y W hX hY hx hy
  exact rmake_any (n * d2 + n2 * d) (d * d2) X Y x y W hdd m3 m4 hX hY hx hy
end Go.Proofs.YtdfmmkidknginaaGreatDoor

namespace Go.Proofs.YtdfmmkidknginaaGreatDoor
open Go.RowKit
def PqPost (w : World) (u v : Bool) (m p n q k j i l : Nat) (e : Ending) (w' : World) : Prop := ∃ A ka B jb E ie G lg, e = .returned (.agg #[.bool u, .slice A k ka, .bool false, .slice B j jb, .bool v, .slice E i ie, .bool false, .slice G l lg]) ∧ (k ≤ ka ∧ j ≤ jb ∧ i ≤ ie ∧ l ≤ lg) ∧ (DS w' m A ∧ DS w' p B ∧ DS w' n E ∧ DS w' q G) ∧ Below w.heap.size w w'
set_option maxRecDepth 100000 in
set_option maxHeartbeats 6400000 in
theorem pfrom_core (s t s' t' : Bool) (a0 a1 a2 a3 b0 b1 b2 b3 c0 c1 c2 c3 d0 d1 d2 d3 : Int) (u v : Bool) (m p n q k j i l : Nat) (w : World)
 (h1 : ∀ W, Calls Tryz.prog 56 #[.agg #[.bool s, .int .u64 a0, .int .u64 a1, .int .u64 a2, .int .u64 a3, .bool t, .int .u64 b0, .int .u64 b1, .int .u64 b2, .int .u64 b3]] W (RqPost W u false m p k j)) (h2 : ∀ W, Calls Tryz.prog 56 #[.agg #[.bool s', .int .u64 c0, .int .u64 c1, .int .u64 c2, .int .u64 c3, .bool t', .int .u64 d0, .int .u64 d1, .int .u64 d2, .int .u64 d3]] W (RqPost W v false n q i l)) :
 Calls Tryz.prog 22 #[.agg #[.bool s, .int .u64 a0, .int .u64 a1, .int .u64 a2, .int .u64 a3, .bool t, .int .u64 b0, .int .u64 b1, .int .u64 b2, .int .u64 b3, .bool s', .int .u64 c0, .int .u64 c1, .int .u64 c2, .int .u64 c3, .bool t', .int .u64 d0, .int .u64 d1, .int .u64 d2, .int .u64 d3]] w (PqPost w u v m p n q k j i l) := by
 have H1 := Lib.hid h1; clear h1
 have H2 := Lib.hid h2; clear h2
 go_enter Tryz.func22, Tryz.ntmps22
 go_upto_region 1 with fail
 generalize hW : World.alloc _ _ = W0
 have hK : KT w ([] ++ [(w.heap.size, #[.bool s, .int .u64 a0, .int .u64 a1, .int .u64 a2, .int .u64 a3, .bool t, .int .u64 b0, .int .u64 b1, .int .u64 b2, .int .u64 b3, .bool s', .int .u64 c0, .int .u64 c1, .int .u64 c2, .int .u64 c3, .bool t', .int .u64 d0, .int .u64 d1, .int .u64 d2, .int .u64 d3])]) ([] ++ [(w.heap.size + 1, 8)]) W0 := by
  rw [← hW]
  exact (KT.of ((KS.nil w).boxed rfl _ _)).made (by simp) _ _ rfl
 have z0 : W0.drew.cell? ⟨w.heap.size + 1, 0, none⟩ = some (.bool false) := by rw [← hW]; exact (Row.at (by simp) [.bool false, .slice none 0 0, .bool false, .slice none 0 0, .bool false, .slice none 0 0, .bool false, .slice none 0 0] _).c 0 rfl
 have hz : w.heap.size + 1 < W0.drew.heap.size := by rw [← hW]; show _ < (World.alloc _ _).heap.size; simp
 clear hW
 generalize hL : ([] ++ [(w.heap.size, #[.bool s, .int .u64 a0, .int .u64 a1, .int .u64 a2, .int .u64 a3, .bool t, .int .u64 b0, .int .u64 b1, .int .u64 b2, .int .u64 b3, .bool s', .int .u64 c0, .int .u64 c1, .int .u64 c2, .int .u64 c3, .bool t', .int .u64 d0, .int .u64 d1, .int .u64 d2, .int .u64 d3])] : List (Nat × Array Value)) = L at hK
 have HL := Lib.hid hL; clear hL
 have HM : Hid ((w.heap.size + 1, 8) ∈ ([] ++ [(w.heap.size + 1, 8)] : List (Nat × Nat))) := Lib.hid (by simp)
 generalize [] ++ [(w.heap.size + 1, 8)] = M at hK HM
 have l0 : ∀ W, KT w L M W → W.cell? ⟨w.heap.size, 0, none⟩ = some (.bool s) := fun W h => h.c 0 (by rw [← HL.out]; rfl) 0 rfl
 have l1 : ∀ W, KT w L M W → W.cell? ⟨w.heap.size, 1, none⟩ = some (.int .u64 a0) := fun W h => h.c 0 (by rw [← HL.out]; rfl) 1 rfl
 have l2 : ∀ W, KT w L M W → W.cell? ⟨w.heap.size, 2, none⟩ = some (.int .u64 a1) := fun W h => h.c 0 (by rw [← HL.out]; rfl) 2 rfl
 have l3 : ∀ W, KT w L M W → W.cell? ⟨w.heap.size, 3, none⟩ = some (.int .u64 a2) := fun W h => h.c 0 (by rw [← HL.out]; rfl) 3 rfl
 have l4 : ∀ W, KT w L M W → W.cell? ⟨w.heap.size, 4, none⟩ = some (.int .u64 a3) := fun W h => h.c 0 (by rw [← HL.out]; rfl) 4 rfl
 have l5 : ∀ W, KT w L M W → W.cell? ⟨w.heap.size, 5, none⟩ = some (.bool t) := fun W h => h.c 0 (by rw [← HL.out]; rfl) 5 rfl
 have l6 : ∀ W, KT w L M W → W.cell? ⟨w.heap.size, 6, none⟩ = some (.int .u64 b0) := fun W h => h.c 0 (by rw [← HL.out]; rfl) 6 rfl
 have l7 : ∀ W, KT w L M W → W.cell? ⟨w.heap.size, 7, none⟩ = some (.int .u64 b1) := fun W h => h.c 0 (by rw [← HL.out]; rfl) 7 rfl
 have l8 : ∀ W, KT w L M W → W.cell? ⟨w.heap.size, 8, none⟩ = some (.int .u64 b2) := fun W h => h.c 0 (by rw [← HL.out]; rfl) 8 rfl
 have l9 : ∀ W, KT w L M W → W.cell? ⟨w.heap.size, 9, none⟩ = some (.int .u64 b3) := fun W h => h.c 0 (by rw [← HL.out]; rfl) 9 rfl
 have l10 : ∀ W, KT w L M W → W.cell? ⟨w.heap.size, 10, none⟩ = some (.bool s') := fun W h => h.c 0 (by rw [← HL.out]; rfl) 10 rfl
 have l11 : ∀ W, KT w L M W → W.cell? ⟨w.heap.size, 11, none⟩ = some (.int .u64 c0) := fun W h => h.c 0 (by rw [← HL.out]; rfl) 11 rfl
 have l12 : ∀ W, KT w L M W → W.cell? ⟨w.heap.size, 12, none⟩ = some (.int .u64 c1) := fun W h => h.c 0 (by rw [← HL.out]; rfl) 12 rfl
 have l13 : ∀ W, KT w L M W → W.cell? ⟨w.heap.size, 13, none⟩ = some (.int .u64 c2) := fun W h => h.c 0 (by rw [← HL.out]; rfl) 13 rfl
 have l14 : ∀ W, KT w L M W → W.cell? ⟨w.heap.size, 14, none⟩ = some (.int .u64 c3) := fun W h => h.c 0 (by rw [← HL.out]; rfl) 14 rfl
 have l15 : ∀ W, KT w L M W → W.cell? ⟨w.heap.size, 15, none⟩ = some (.bool t') := fun W h => h.c 0 (by rw [← HL.out]; rfl) 15 rfl
 have l16 : ∀ W, KT w L M W → W.cell? ⟨w.heap.size, 16, none⟩ = some (.int .u64 d0) := fun W h => h.c 0 (by rw [← HL.out]; rfl) 16 rfl
 have l17 : ∀ W, KT w L M W → W.cell? ⟨w.heap.size, 17, none⟩ = some (.int .u64 d1) := fun W h => h.c 0 (by rw [← HL.out]; rfl) 17 rfl
 have l18 : ∀ W, KT w L M W → W.cell? ⟨w.heap.size, 18, none⟩ = some (.int .u64 d2) := fun W h => h.c 0 (by rw [← HL.out]; rfl) 18 rfl
 have l19 : ∀ W, KT w L M W → W.cell? ⟨w.heap.size, 19, none⟩ = some (.int .u64 d3) := fun W h => h.c 0 (by rw [← HL.out]; rfl) 19 rfl
 have xc0 : ∀ W, KT w L M W → W.cell? ⟨w.heap.size + 1, 0, none⟩ = some (cellAt W (w.heap.size + 1) 0) := fun W h => h.here HM.out 0 (by omega)
 have xf0 : ∀ W, KT w L M W → W.frozen? ⟨w.heap.size + 1, 0, none⟩ = false := fun W h => h.free HM.out 0 (by omega)
 have xc1 : ∀ W, KT w L M W → W.cell? ⟨w.heap.size + 1, 1, none⟩ = some (cellAt W (w.heap.size + 1) 1) := fun W h => h.here HM.out 1 (by omega)
 have xf1 : ∀ W, KT w L M W → W.frozen? ⟨w.heap.size + 1, 1, none⟩ = false := fun W h => h.free HM.out 1 (by omega)
 have xc2 : ∀ W, KT w L M W → W.cell? ⟨w.heap.size + 1, 2, none⟩ = some (cellAt W (w.heap.size + 1) 2) := fun W h => h.here HM.out 2 (by omega)
 have xf2 : ∀ W, KT w L M W → W.frozen? ⟨w.heap.size + 1, 2, none⟩ = false := fun W h => h.free HM.out 2 (by omega)
 have xc3 : ∀ W, KT w L M W → W.cell? ⟨w.heap.size + 1, 3, none⟩ = some (cellAt W (w.heap.size + 1) 3) := fun W h => h.here HM.out 3 (by omega)
 have xf3 : ∀ W, KT w L M W → W.frozen? ⟨w.heap.size + 1, 3, none⟩ = false := fun W h => h.free HM.out 3 (by omega)
 have xc4 : ∀ W, KT w L M W → W.cell? ⟨w.heap.size + 1, 4, none⟩ = some (cellAt W (w.heap.size + 1) 4) := fun W h => h.here HM.out 4 (by omega)
 have xf4 : ∀ W, KT w L M W → W.frozen? ⟨w.heap.size + 1, 4, none⟩ = false := fun W h => h.free HM.out 4 (by omega)
 have xc5 : ∀ W, KT w L M W → W.cell? ⟨w.heap.size + 1, 5, none⟩ = some (cellAt W (w.heap.size + 1) 5) := fun W h => h.here HM.out 5 (by omega)
 have xf5 : ∀ W, KT w L M W → W.frozen? ⟨w.heap.size + 1, 5, none⟩ = false := fun W h => h.free HM.out 5 (by omega)
 have xc6 : ∀ W, KT w L M W → W.cell? ⟨w.heap.size + 1, 6, none⟩ = some (cellAt W (w.heap.size + 1) 6) := fun W h => h.here HM.out 6 (by omega)
 have xf6 : ∀ W, KT w L M W → W.frozen? ⟨w.heap.size + 1, 6, none⟩ = false := fun W h => h.free HM.out 6 (by omega)
 have xc7 : ∀ W, KT w L M W → W.cell? ⟨w.heap.size + 1, 7, none⟩ = some (cellAt W (w.heap.size + 1) 7) := fun W h => h.here HM.out 7 (by omega)
 have xf7 : ∀ W, KT w L M W → W.frozen? ⟨w.heap.size + 1, 7, none⟩ = false := fun W h => h.free HM.out 7 (by omega)
 have hk0 := hK.drew
 clear hK
 go_region_held3 (fun w' : World => KT w L M w')
  (repeat (first
    | (with_reducible assumption)
    | (with_reducible refine KT.put8 ?_ HM.out _ _ _ _ _ _ _ _)
    | (with_reducible refine KT.drew ?_)
    | (with_reducible refine KT.after ?_ hb)))
  (first
    | (go_at_call 56; (with_reducible refine (H1.out _).mono ?_); rintro e w' ⟨A, ka, B, jb, rfl, ⟨e1, e2⟩, ⟨dA, dB⟩, hb⟩; (replace z0 := (hb.cell (p := ⟨w.heap.size + 1, 0, none⟩) hz).trans z0); (replace hz := Nat.lt_of_lt_of_le hz hb.size))
    | (go_at_call 56; (with_reducible refine (H2.out _).mono ?_); rintro e w' ⟨E, ie, G, lg, rfl, ⟨e3, e4⟩, ⟨dE, dG⟩, hb⟩; (replace dA := dA.below hb); (replace dB := dB.below hb); (replace z0 := (hb.cell (p := ⟨w.heap.size + 1, 0, none⟩) hz).trans z0); (replace hz := Nat.lt_of_lt_of_le hz hb.size)))
 have hq := ‹KT w L M _›
 have hr := hq.put_row (cs := [.bool u, .slice A k ka, .bool false, .slice B j jb, .bool v, .slice E i ie, .bool false, .slice G l lg]) HM.out rfl
 have D1 := dA.put8 z0 (.bool u) (.slice A k ka) (.bool false) (.slice B j jb) (.bool v) (.slice E i ie) (.bool false) (.slice G l lg)
 have D2 := dB.put8 z0 (.bool u) (.slice A k ka) (.bool false) (.slice B j jb) (.bool v) (.slice E i ie) (.bool false) (.slice G l lg)
 have D3 := dE.put8 z0 (.bool u) (.slice A k ka) (.bool false) (.slice B j jb) (.bool v) (.slice E i ie) (.bool false) (.slice G l lg)
 have D4 := dG.put8 z0 (.bool u) (.slice A k ka) (.bool false) (.slice B j jb) (.bool v) (.slice E i ie) (.bool false) (.slice G l lg)
 have hB := hq.1.2
 go_wp2_with fail
 exact bodyPost_ret (results_R1 (cs := #[.bool u, .slice A k ka, .bool false, .slice B j jb, .bool v, .slice E i ie, .bool false, .slice G l lg]) rfl rfl hr agg_rpoint) rfl ⟨A, ka, B, jb, E, ie, G, lg, rfl, ⟨e1, e2, e3, e4⟩, ⟨D1, D2, D3, D4⟩, hB⟩
theorem wpList_load_W' {P : Program} {ops : Array Oper} {rest : List Oper} {op : Oper} {a : Act} {w : World} {Q : Exit → Act → World → Prop} (ty : TypeId) (x : Operand) (ho : op.op = .load ty x) (b o : Nat) (hx : a.eval x = .pointer (some ⟨b, o, none⟩)) (hw : Region.wanted op (yielded ops a.tmps) = true) (cs : Array Value) (h : w.rangeAt b o cs.toList) (hT : AggTy P ty cs.size)
 (k : wpList P ops Q rest (a.put op.dst (.agg cs)) w) : wpList P ops Q (op :: rest) a w := by
 show (if Region.wanted op (yielded ops a.tmps) = true then _ else _)
 rw [if_pos hw]
 obtain ⟨⟨d, hu, hd⟩, hi⟩ := hT
 exact .inl (wp_load_mid ty x ho b o hx cs.toList d h hu hd (by simpa using hi) (by simpa using k))
theorem Row.fst10 {w : World} {b : Nat} {R S : Array Value} (h : Row w b (R ++ S).toList) : w.rangeAt b 0 R.toList := h.range 0 _ (fun j v hv => by
 have hj := (List.getElem?_eq_some_iff.1 hv).1
 rw [Nat.zero_add, Array.toList_append, List.getElem?_append_left hj]; exact hv)
theorem Row.snd10 {w : World} {b : Nat} {R S : Array Value} (hR : R.size = 10) (h : Row w b (R ++ S).toList) : w.rangeAt b 10 S.toList := h.range 10 _ (fun j v hv => by
 rw [Array.toList_append, List.getElem?_append_right (by simp [hR])]
 simpa [hR] using hv)
end Go.Proofs.YtdfmmkidknginaaGreatDoor

namespace Go.Proofs.YtdfmmkidknginaaGreatDoor
open Go.RowKit
def RqAt (v : Value) (s t : Bool) (m p k j : Nat) (W : World) : Prop := ∃ A c B d, v = .agg #[.bool s, .slice A k c, .bool t, .slice B j d] ∧ (k ≤ c ∧ j ≤ d) ∧ (DS W m A ∧ DS W p B)
def PqAt (x : Value) (u v : Bool) (m p n q k j i l : Nat) (W : World) : Prop := ∃ A ka B jb E ie G lg, x = .agg #[.bool u, .slice A k ka, .bool false, .slice B j jb, .bool v, .slice E i ie, .bool false, .slice G l lg] ∧ (k ≤ ka ∧ j ≤ jb ∧ i ≤ ie ∧ l ≤ lg) ∧ (DS W m A ∧ DS W p B ∧ DS W n E ∧ DS W q G)
def Stays (T : World → Prop) : Prop := (∀ W W', T W → Below W.heap.size W W' → T W') ∧ ∀ (W W' : World) (X : Nat) (s : Bool), T W → On W W' X → W.cell? ⟨X, 0, none⟩ = some (.bool s) → T W'
def RnAt (v : Value) (s : Bool) (m k g : Nat) (W : World) : Prop := ∃ X x Y y, v = .agg #[.bool s, .slice X k x, .bool false, .slice Y g y] ∧ (DS W m X ∧ DS W 1 Y)
theorem RnAt.stays (v : Value) (s : Bool) (m k g : Nat) : Stays (RnAt v s m k g) :=
 ⟨fun _ _ ⟨A, c, B, d, h1, h3, h4⟩ hb => ⟨A, c, B, d, h1, h3.below hb, h4.below hb⟩, fun _ _ _ _ ⟨A, c, B, d, h1, h3, h4⟩ ho hX => ⟨A, c, B, d, h1, h3.on ho hX, h4.on ho hX⟩⟩
theorem RqAt.stays (v : Value) (s t : Bool) (m p k j : Nat) : Stays (RqAt v s t m p k j) :=
 ⟨fun _ _ ⟨A, c, B, d, h1, h2, h3, h4⟩ hb => ⟨A, c, B, d, h1, h2, h3.below hb, h4.below hb⟩, fun _ _ _ _ ⟨A, c, B, d, h1, h2, h3, h4⟩ ho hX => ⟨A, c, B, d, h1, h2, h3.on ho hX, h4.on ho hX⟩⟩
theorem PqAt.stays (x : Value) (u v : Bool) (m p n q k j i l : Nat) : Stays (PqAt x u v m p n q k j i l) :=
 ⟨fun _ _ ⟨A, ka, B, jb, E, ie, G, lg, h1, h2, h3, h4, h5, h6⟩ hb => ⟨A, ka, B, jb, E, ie, G, lg, h1, h2, h3.below hb, h4.below hb, h5.below hb, h6.below hb⟩,
  fun _ _ _ _ ⟨A, ka, B, jb, E, ie, G, lg, h1, h2, h3, h4, h5, h6⟩ ho hX => ⟨A, ka, B, jb, E, ie, G, lg, h1, h2, h3.on ho hX, h4.on ho hX, h5.on ho hX, h6.on ho hX⟩⟩
structure FactS (w0 : World) (T0 : World → Prop) (L : List (Nat × Array Value)) (F : Nat → Option (Nat × (Value → World → Prop))) (al b pt : Nat) (z r : Array Value) (ls : Nat → Bool) (sl : Nat → Value) (W : World) : Prop where
 base : KS w0 L W
 ini : T0 W
 fact : ∀ i u T, F i = some (u, T) → ls i = true → T (sl u) W
 box : ls al = true → ∃ X, sl b = .pointer (some ⟨X, 0, none⟩) ∧ LBs w0 L X ∧ Row W X (if ls pt = true then r else z).toList
 c : ls pt = true → ls al = true
section
variable {w0 W W1 : World} {T0 : World → Prop} {L : List (Nat × Array Value)} {F : Nat → Option (Nat × (Value → World → Prop))} {al b pt : Nat} {z r : Array Value} {listed : Array Bool} {a : Act}
theorem FactS.start (h : KS w0 L W) (h0 : T0 W) (sl : Nat → Value) : FactS w0 T0 L F al b pt z r (fun _ => false) sl W := ⟨h, h0, fun _ _ _ _ h => (by simp at h), fun h => (by simp at h), fun h => (by simp at h)⟩
theorem FactS.next (h : FactS w0 T0 L F al b pt z r (fun i => listed.getD i false) (slotOf a) W) (h0 : Stays T0) (hF : ∀ i u T, F i = some (u, T) → ∀ v, Stays (T v)) (hb : Below W.heap.size W W1) (i u : Nat) (v : Value) (hi : i ≠ al ∧ i ≠ pt) (hu : u ≠ b) (hsz : u < a.tmps.size)
 (hf : ∀ j u' T, F j = some (u', T) → (j = i ↔ u' = u)) (hT : ∀ u' T, F i = some (u', T) → T v W1) :
 FactS w0 T0 L F al b pt z r (fun i' => (listed.setIfInBounds i true).getD i' false) (slotOf (a.put (some u) v)) W1 := by
 refine ⟨h.base.after hb, h0.1 _ _ h.ini hb, fun j u' T hj hl => ?_, fun q => ?_, fun q => by rw [getD_set_ne false hi.2] at q; rw [getD_set_ne false hi.1]; exact h.c q⟩
 ·by_cases e : j = i
  ·subst e
   have := (hf j u' T hj).1 rfl
   subst this
   rw [slot_put_same v hsz]; exact hT _ _ hj
  ·rw [getD_set_ne false (fun q => e q.symm)] at hl
   rw [slot_put_other v (fun q => e ((hf j u' T hj).2 q.symm))]
   exact (hF j u' T hj _).1 _ _ (h.fact j u' T hj hl) hb
 ·rw [getD_set_ne false hi.1] at q
  obtain ⟨X, h1, h2, h3⟩ := h.box q
  refine ⟨X, by rw [slot_put_other v hu]; exact h1, h2, ?_⟩
  rw [getD_set_ne false hi.2]; exact h3.after hb
theorem FactS.made (h : FactS w0 T0 L F al b pt z r (fun i => listed.getD i false) (slotOf a) W) (h0 : Stays T0) (hF : ∀ i u T, F i = some (u, T) → ∀ v, Stays (T v)) (hp0 : listed.getD al false = false) (hap : al ≠ pt) (hsz : b < a.tmps.size) (hf : ∀ j u' T, F j = some (u', T) → j ≠ al ∧ u' ≠ b) (ty : TypeId) :
 FactS w0 T0 L F al b pt z r (fun i' => (listed.setIfInBounds al true).getD i' false) (slotOf (a.put (some b) (.pointer (some ⟨W.heap.size, 0, none⟩)))) (W.alloc (.cells z ty)) := by
 have hb := (Below.refl W.heap.size W).alloc (Nat.le_refl _) (.cells z ty)
 have hp : listed.getD pt false = false := by
  cases q : listed.getD pt false
  ·rfl
  ·have : listed.getD al false = true := h.c q
   rw [hp0] at this; cases this
 refine ⟨h.base.alloc _, h0.1 _ _ h.ini hb, fun j u' T hj hl => ?_, fun _ => ⟨W.heap.size, slot_put_same _ hsz, h.base.lb, ?_⟩, fun q => by rw [getD_set_ne false hap, hp] at q; cases q⟩
 ·have hn := hf j u' T hj
  rw [getD_set_ne false (fun q => hn.1 q.symm)] at hl
  rw [slot_put_other _ (fun q => hn.2 q.symm)]
  exact (hF j u' T hj _).1 _ _ (h.fact j u' T hj hl) hb
 ·rw [getD_set_ne false hap, hp, if_neg (by decide)]; exact Row.at rfl _ _
theorem FactS.put (h : FactS w0 T0 L F al b pt z r (fun i => listed.getD i false) (slotOf a) W) (hT0 : Stays T0) (hF : ∀ i u T, F i = some (u, T) → ∀ v, Stays (T v)) (h0 : listed.getD pt false = false) (hls : pt < listed.size) (hl : listed.getD al false = true) (hf : ∀ j u' T, F j = some (u', T) → j ≠ pt) {X : Nat} (hX : slotOf a b = .pointer (some ⟨X, 0, none⟩)) (hzr : z.size = r.size) {s : Bool} (hz0 : z.toList[0]? = some (.bool s)) (v : Value) :
 FactS w0 T0 L F al b pt z r (fun i' => (listed.setIfInBounds pt true).getD i' false) (slotOf (a.put none v)) (W.setCells X 0 r.toList) := by
 obtain ⟨X', hs', hlb, hr⟩ := h.box hl
 obtain rfl : X' = X := by rw [hX] at hs'; injection hs' with q; injection q with q; injection q with q; exact q.symm
 simp only [h0, Bool.false_eq_true, if_false] at hr
 have ho := On.setCells W X' r.toList 0 W (On.refl W X')
 refine ⟨⟨fun q hq => ho.row (Nat.ne_of_lt (hlb.2 q hq)) (h.base.1 q hq), below_on h.base.2 ho hlb.1⟩, hT0.2 _ _ _ s h.ini ho (hr.c 0 hz0), fun j u' T hj hl' => ?_, fun _ => ⟨X', hX, hlb, ?_⟩, fun _ => by
  by_cases e : pt = al
  ·rw [e]; have : al < listed.size := e ▸ hls
   simp [this]
  ·rw [getD_set_ne false e]; exact hl⟩
 ·rw [getD_set_ne false (fun q => hf j u' T hj q.symm)] at hl'
  exact (hF j u' T hj _).2 _ _ _ s (h.fact j u' T hj hl') ho (hr.c 0 hz0)
 ·have e : (listed.setIfInBounds pt true).getD pt false = true := by simp [hls]
  rw [e, if_pos rfl]
  exact hr.putAll r.toList (by simpa using hzr)
end
end Go.Proofs.YtdfmmkidknginaaGreatDoor

namespace Go.Proofs.YtdfmmkidknginaaGreatDoor
open Go.RowKit CrossMath
theorem fr_good {n d : Int} (hd : 0 < d) (hg : Int.gcd n d = 1) : frN n d = n ∧ frD n d = d := by
 unfold frN frD
 rw [hg, if_neg (by omega), show ((1 : Nat) : Int) = 1 from rfl, Int.tdiv_one, Int.tdiv_one]
 omega
theorem rout_good (n d : Int) (A B : Option Addr) (c e : Nat) (w : World) (hd : 0 < d) (hn : n.natAbs < T256) (hd' : d.natAbs < T256) (dA : DS w n.natAbs A) (dB : DS w d.natAbs B) :
 Calls Tryz.prog 43 #[.agg #[.bool (decide (n < 0)), .slice A (L16 n.natAbs) c, .bool false, .slice B (L16 d.natAbs) e]] w fun e w' => e = .returned (.tuple #[.agg (ratA n d), .int .i64 0]) ∧ Below w.heap.size w w' := by
 have d0 : decide (d < 0) = false := by simp; omega
 refine rout_core _ _ _ _ _ _ _ _ _ _ _ _ A B _ c _ e w (fun W hW => ?_) (fun W hW => ?_)
 ·have := out_z n A c W (dA.below hW)
  rw [outV, if_pos hn] at this
  exact this
 ·have := out_z d B e W (dB.below hW)
  rw [outV, if_pos hd', bigv, d0] at this
  exact this
end Go.Proofs.YtdfmmkidknginaaGreatDoor

namespace Go.Proofs.YtdfmmkidknginaaGreatDoor
open Go.RowKit

set_option maxRecDepth 100000 in
set_option maxHeartbeats 6400000 in
theorem rright_no1 (s t : Bool) (a0 a1 a2 a3 b0 b1 b2 b3 : Int) (w : World)
 (hR1 : ∀ W, Calls Tryz.prog 96 #[.agg #[.bool s, .int .u64 a0, .int .u64 a1, .int .u64 a2, .int .u64 a3]] W (fun e w' => e = .returned (.bool false) ∧ Below W.heap.size W w')) :
 Calls Tryz.prog 54 #[.agg #[.bool s, .int .u64 a0, .int .u64 a1, .int .u64 a2, .int .u64 a3, .bool t, .int .u64 b0, .int .u64 b1, .int .u64 b2, .int .u64 b3]] w fun e w' => e = .returned (.bool false) ∧ Below w.heap.size w w' := by
 have H1 := Lib.hid hR1; clear hR1
 have HB := Lib.hid ((Below.refl w.heap.size w).alloc (Nat.le_refl _) (.cells #[.bool s, .int .u64 a0, .int .u64 a1, .int .u64 a2, .int .u64 a3, .bool t, .int .u64 b0, .int .u64 b1, .int .u64 b2, .int .u64 b3] 44))
 have r0 := Row.at (w := w) rfl [.bool s, .int .u64 a0, .int .u64 a1, .int .u64 a2, .int .u64 a3, .bool t, .int .u64 b0, .int .u64 b1, .int .u64 b2, .int .u64 b3] 44
 go_enter Tryz.func54, Tryz.ntmps54
 have x0 := r0.c 0 rfl
 have x1 := r0.c 1 rfl
 have x2 := r0.c 2 rfl
 have x3 := r0.c 3 rfl
 have x4 := r0.c 4 rfl
 have HR := Lib.hid r0; clear r0
 go_wp2_with fail
 refine (H1.out _).mono ?_
 rintro e w1 ⟨rfl, hb⟩
 have HB1 := Lib.hid (HB.out.trans (hb.mono HB.out.size))
 have HR1 := Lib.hid (HR.out.after hb)
 clear hb HB HR x0 x1 x2 x3 x4
 go_wp2_with fail
 go_ret
 exact ⟨rfl, HB1.out⟩
set_option maxRecDepth 100000 in
set_option maxHeartbeats 6400000 in
theorem rright_no2 (s t : Bool) (a0 a1 a2 a3 b0 b1 b2 b3 : Int) (w : World)
 (hR1 : ∀ W, Calls Tryz.prog 96 #[.agg #[.bool s, .int .u64 a0, .int .u64 a1, .int .u64 a2, .int .u64 a3]] W (fun e w' => e = .returned (.bool true) ∧ Below W.heap.size W w'))
 (hR2 : ∀ W, Calls Tryz.prog 96 #[.agg #[.bool t, .int .u64 b0, .int .u64 b1, .int .u64 b2, .int .u64 b3]] W (fun e w' => e = .returned (.bool false) ∧ Below W.heap.size W w')) :
 Calls Tryz.prog 54 #[.agg #[.bool s, .int .u64 a0, .int .u64 a1, .int .u64 a2, .int .u64 a3, .bool t, .int .u64 b0, .int .u64 b1, .int .u64 b2, .int .u64 b3]] w fun e w' => e = .returned (.bool false) ∧ Below w.heap.size w w' := by
 have H1 := Lib.hid hR1; clear hR1
 have H2 := Lib.hid hR2; clear hR2
 have HB := Lib.hid ((Below.refl w.heap.size w).alloc (Nat.le_refl _) (.cells #[.bool s, .int .u64 a0, .int .u64 a1, .int .u64 a2, .int .u64 a3, .bool t, .int .u64 b0, .int .u64 b1, .int .u64 b2, .int .u64 b3] 44))
 have r0 := Row.at (w := w) rfl [.bool s, .int .u64 a0, .int .u64 a1, .int .u64 a2, .int .u64 a3, .bool t, .int .u64 b0, .int .u64 b1, .int .u64 b2, .int .u64 b3] 44
 go_enter Tryz.func54, Tryz.ntmps54
 have x0 := r0.c 0 rfl
 have x1 := r0.c 1 rfl
 have x2 := r0.c 2 rfl
 have x3 := r0.c 3 rfl
 have x4 := r0.c 4 rfl
 have HR := Lib.hid r0; clear r0
 go_wp2_with fail
 refine (H1.out _).mono ?_
 rintro e w1 ⟨rfl, hb⟩
 have HB1 := Lib.hid (HB.out.trans (hb.mono HB.out.size))
 have HR1 := Lib.hid (HR.out.after hb)
 clear hb HB HR x0 x1 x2 x3 x4
 have x5 := HR1.out.c 5 rfl
 have x6 := HR1.out.c 6 rfl
 have x7 := HR1.out.c 7 rfl
 have x8 := HR1.out.c 8 rfl
 have x9 := HR1.out.c 9 rfl
 go_wp2_with fail
 refine (H2.out _).mono ?_
 rintro e w2 ⟨rfl, hb⟩
 have HB2 := Lib.hid (HB1.out.trans (hb.mono HB1.out.size))
 clear hb HB1 HR1 x5 x6 x7 x8 x9
 go_wp2_with fail
 go_ret
 exact ⟨rfl, HB2.out⟩
set_option maxRecDepth 100000 in
set_option maxHeartbeats 6400000 in
theorem rrightG_core (s t u vd : Bool) (sg cc : Int) (a0 a1 a2 a3 b0 b1 b2 b3 : Int) (m k p j gm gk k1 : Nat) (w : World)
 (hR1 : ∀ W, Calls Tryz.prog 96 #[.agg #[.bool s, .int .u64 a0, .int .u64 a1, .int .u64 a2, .int .u64 a3]] W (fun e w' => e = .returned (.bool true) ∧ Below W.heap.size W w'))
 (hR2 : ∀ W, Calls Tryz.prog 96 #[.agg #[.bool t, .int .u64 b0, .int .u64 b1, .int .u64 b2, .int .u64 b3]] W (fun e w' => e = .returned (.bool true) ∧ Below W.heap.size W w'))
 (hF1 : ∀ W, Calls Tryz.prog 97 #[.agg #[.bool s, .int .u64 a0, .int .u64 a1, .int .u64 a2, .int .u64 a3]] W (BgPost W u m k))
 (hF2 : ∀ W, Calls Tryz.prog 97 #[.agg #[.bool t, .int .u64 b0, .int .u64 b1, .int .u64 b2, .int .u64 b3]] W (BgPost W vd p j))
 (hS : ∀ B d W, DS W p B → Calls Tryz.prog 98 #[.agg #[.bool vd, .slice B j d]] W (fun e w' => e = .returned (.int .i64 sg) ∧ Below W.heap.size W w'))
 (hG : ∀ A c B d W, DS W m A → DS W p B → k ≤ c → j ≤ d → Calls Tryz.prog 81 #[.agg #[.bool u, .slice A k c], .agg #[.bool vd, .slice B j d]] W (BgPost W false gm gk))
 (hN : ∀ W, Calls Tryz.prog 80 #[.int .i64 1] W (BgPost W false 1 k1))
 (hC : ∀ A c B d W, DS W gm A → DS W 1 B → Calls Tryz.prog 79 #[.agg #[.bool false, .slice A gk c], .agg #[.bool false, .slice B k1 d]] W (fun e w' => e = .returned (.int .i64 cc) ∧ Below W.heap.size W w')) :
 Calls Tryz.prog 54 #[.agg #[.bool s, .int .u64 a0, .int .u64 a1, .int .u64 a2, .int .u64 a3, .bool t, .int .u64 b0, .int .u64 b1, .int .u64 b2, .int .u64 b3]] w fun e w' => e = .returned (.bool (decide (0 < sg) && decide (cc = 0))) ∧ Below w.heap.size w w' := by
 have H_hR1 := Lib.hid hR1; clear hR1
 have H_hR2 := Lib.hid hR2; clear hR2
 have H_hF1 := Lib.hid hF1; clear hF1
 have H_hF2 := Lib.hid hF2; clear hF2
 have H_hS := Lib.hid hS; clear hS
 have H_hG := Lib.hid hG; clear hG
 have H_hN := Lib.hid hN; clear hN
 have H_hC := Lib.hid hC; clear hC
 go_enter Tryz.func54, Tryz.ntmps54
 go_upto_region 1 with fail
 generalize hW : World.alloc _ _ = W0
 have hK : KS w ([] ++ [(w.heap.size, #[.bool s, .int .u64 a0, .int .u64 a1, .int .u64 a2, .int .u64 a3, .bool t, .int .u64 b0, .int .u64 b1, .int .u64 b2, .int .u64 b3])]) W0 := by rw [← hW]; exact (KS.nil w).boxed rfl _ _
 clear hW
 generalize hL : ([] ++ [(w.heap.size, #[.bool s, .int .u64 a0, .int .u64 a1, .int .u64 a2, .int .u64 a3, .bool t, .int .u64 b0, .int .u64 b1, .int .u64 b2, .int .u64 b3])] : List (Nat × Array Value)) = L at hK
 have HL := Lib.hid hL; clear hL
 have y0 : ∀ W, KS w L W → W.cell? ⟨w.heap.size, 0, none⟩ = some (.bool s) := fun W h => h.c 0 (by rw [← HL.out]; rfl) 0 rfl
 have y1 : ∀ W, KS w L W → W.cell? ⟨w.heap.size, 1, none⟩ = some (.int .u64 a0) := fun W h => h.c 0 (by rw [← HL.out]; rfl) 1 rfl
 have y2 : ∀ W, KS w L W → W.cell? ⟨w.heap.size, 2, none⟩ = some (.int .u64 a1) := fun W h => h.c 0 (by rw [← HL.out]; rfl) 2 rfl
 have y3 : ∀ W, KS w L W → W.cell? ⟨w.heap.size, 3, none⟩ = some (.int .u64 a2) := fun W h => h.c 0 (by rw [← HL.out]; rfl) 3 rfl
 have y4 : ∀ W, KS w L W → W.cell? ⟨w.heap.size, 4, none⟩ = some (.int .u64 a3) := fun W h => h.c 0 (by rw [← HL.out]; rfl) 4 rfl
 have y5 : ∀ W, KS w L W → W.cell? ⟨w.heap.size, 5, none⟩ = some (.bool t) := fun W h => h.c 0 (by rw [← HL.out]; rfl) 5 rfl
 have y6 : ∀ W, KS w L W → W.cell? ⟨w.heap.size, 6, none⟩ = some (.int .u64 b0) := fun W h => h.c 0 (by rw [← HL.out]; rfl) 6 rfl
 have y7 : ∀ W, KS w L W → W.cell? ⟨w.heap.size, 7, none⟩ = some (.int .u64 b1) := fun W h => h.c 0 (by rw [← HL.out]; rfl) 7 rfl
 have y8 : ∀ W, KS w L W → W.cell? ⟨w.heap.size, 8, none⟩ = some (.int .u64 b2) := fun W h => h.c 0 (by rw [← HL.out]; rfl) 8 rfl
 have y9 : ∀ W, KS w L W → W.cell? ⟨w.heap.size, 9, none⟩ = some (.int .u64 b3) := fun W h => h.c 0 (by rw [← HL.out]; rfl) 9 rfl
 have x0 := y0 _ hK
 have x1 := y1 _ hK
 have x2 := y2 _ hK
 have x3 := y3 _ hK
 have x4 := y4 _ hK
 have HY := Lib.hid (And.intro y0 (And.intro y1 (And.intro y2 (And.intro y3 (And.intro y4 (And.intro y5 (And.intro y6 (And.intro y7 (And.intro y8 y9)))))))))
 clear y0 y1 y2 y3 y4 y5 y6 y7 y8 y9
 go_wp2_with fail
 refine (H_hR1.out _).mono ?_
 rintro e w1 ⟨rfl, hb⟩
 replace hK := hK.after hb
 clear hb x0 x1 x2 x3 x4
 obtain ⟨y0, y1, y2, y3, y4, y5, y6, y7, y8, y9⟩ := HY.out
 have x5 := y5 _ hK
 have x6 := y6 _ hK
 have x7 := y7 _ hK
 have x8 := y8 _ hK
 have x9 := y9 _ hK
 clear y0 y1 y2 y3 y4 y5 y6 y7 y8 y9
 go_wp2_with fail
 refine (H_hR2.out _).mono ?_
 rintro e w2 ⟨rfl, hb⟩
 replace hK := hK.after hb
 clear hb x5 x6 x7 x8 x9
 go_upto_region 3 with fail
 go_cut [3, 4] from 15 to 20 (fun x y wx => ∃ X Y A c B d, x = .pointer (some ⟨X, 0, none⟩) ∧ y = .pointer (some ⟨Y, 0, none⟩) ∧ Hid (Below w.heap.size w wx ∧ Row wx X [.bool u, .slice A k c] ∧ Row wx Y [.bool vd, .slice B j d] ∧ (k ≤ c ∧ j ≤ d) ∧ DS wx m A ∧ DS wx p B))
 case first =>
  refine wp_region_midG (by kernel_rfl) [] (fun i => match i with
   | 0 => some (.pointer (some ⟨w.heap.size, 0, none⟩))
   | 1 => some (.agg #[.bool s, .int .u64 a0, .int .u64 a1, .int .u64 a2, .int .u64 a3])
   | 3 => some (.pointer (some ⟨w.heap.size, 5, none⟩))
   | 4 => some (.agg #[.bool t, .int .u64 b0, .int .u64 b1, .int .u64 b2, .int .u64 b3])
   | _ => none) (fun j hj => by cases hj) (FromS w L u vd m k p j) (by kernel_rfl) (FromS.start hK.drew _) ?_ ?_
  ·intro listed a W i o hI ho h0 hdep K hK'
   have hi : i < 10 := (Array.getElem?_eq_some_iff.1 ho).1
   have hS := hI.world
   have hls : listed.size = 10 := hI.lsize
   have hsz : a.tmps.size = 32 := hI.size
   have q1 : a.tmps[1]?.getD undef = .pointer (some ⟨w.heap.size, 0, none⟩) := hI.old 1 (noDst_spec (by kernel_rfl))
   have h0' := getD_no h0
   have hcase : i = 0 ∨ i = 1 ∨ i = 2 ∨ i = 3 ∨ i = 4 ∨ i = 5 ∨ i = 6 ∨ i = 7 ∨ i = 8 ∨ i = 9 := by omega
   clear hi
   rcases hcase with rfl | rfl | rfl | rfl | rfl | rfl | rfl | rfl | rfl | rfl
   ·obtain rfl := oI ho
    clear hdep hI ho hsz
    go_simp
    exact hK' (.pointer (some ⟨w.heap.size, 0, none⟩)) _ (fun u hu => oV hu) (hS.next (Below.refl _ _) 0 15 _ (by decide) (by decide))
   ·obtain rfl := oI ho
    have d0 : listed.getD 0 false = true := hdep ⟨0, .data⟩ (by simp) rfl
    have q15 : a.tmps[15]?.getD undef = .pointer (some ⟨w.heap.size, 0, none⟩) := hI.val 0 _ 15 _ rfl rfl rfl d0
    obtain ⟨y0, y1, y2, y3, y4, y5, y6, y7, y8, y9⟩ := HY.out
    have x0 := y0 _ hS.base
    have x1 := y1 _ hS.base
    have x2 := y2 _ hS.base
    have x3 := y3 _ hS.base
    have x4 := y4 _ hS.base
    clear y0 y1 y2 y3 y4 y5 y6 y7 y8 y9
    clear hdep hI ho hsz
    go_simp
    exact hK' (.agg #[.bool s, .int .u64 a0, .int .u64 a1, .int .u64 a2, .int .u64 a3]) _ (fun u hu => oV hu) (hS.next (Below.refl _ _) 1 16 _ (by decide) (by decide))
   ·obtain rfl := oI ho
    have d1 : listed.getD 1 false = true := hdep ⟨1, .data⟩ (by simp) rfl
    have q16 : a.tmps[16]?.getD undef = .agg #[.bool s, .int .u64 a0, .int .u64 a1, .int .u64 a2, .int .u64 a3] := hI.val 1 _ 16 _ rfl rfl rfl d1
    clear hdep hI ho
    have HZ := Lib.hid hsz; clear hsz
    go_simp
    refine (H_hF1.out _).mono ?_
    rintro e W1 ⟨A, c, rfl, hc, hd, hb⟩
    exact hK' _ _ (fun u hu => nV hu) (hS.callN hb h0' (by rw [HZ.out]; decide) A c hc hd)
   ·obtain rfl := oI ho
    clear hdep hI ho hsz
    go_simp
    exact hK' (.pointer (some ⟨w.heap.size, 5, none⟩)) _ (fun u hu => oV hu) (hS.next (Below.refl _ _) 3 18 _ (by decide) (by decide))
   ·obtain rfl := oI ho
    have d3 : listed.getD 3 false = true := hdep ⟨3, .data⟩ (by simp) rfl
    have q18 : a.tmps[18]?.getD undef = .pointer (some ⟨w.heap.size, 5, none⟩) := hI.val 3 _ 18 _ rfl rfl rfl d3
    obtain ⟨y0, y1, y2, y3, y4, y5, y6, y7, y8, y9⟩ := HY.out
    have x5 := y5 _ hS.base
    have x6 := y6 _ hS.base
    have x7 := y7 _ hS.base
    have x8 := y8 _ hS.base
    have x9 := y9 _ hS.base
    clear y0 y1 y2 y3 y4 y5 y6 y7 y8 y9
    clear hdep hI ho hsz
    go_simp
    exact hK' (.agg #[.bool t, .int .u64 b0, .int .u64 b1, .int .u64 b2, .int .u64 b3]) _ (fun u hu => oV hu) (hS.next (Below.refl _ _) 4 19 _ (by decide) (by decide))
   ·obtain rfl := oI ho
    have d4 : listed.getD 4 false = true := hdep ⟨4, .data⟩ (by simp) rfl
    have q19 : a.tmps[19]?.getD undef = .agg #[.bool t, .int .u64 b0, .int .u64 b1, .int .u64 b2, .int .u64 b3] := hI.val 4 _ 19 _ rfl rfl rfl d4
    clear hdep hI ho
    have HZ := Lib.hid hsz; clear hsz
    go_simp
    refine (H_hF2.out _).mono ?_
    rintro e W1 ⟨A, c, rfl, hc, hd, hb⟩
    exact hK' _ _ (fun u hu => nV hu) (hS.callD hb h0' (by rw [HZ.out]; decide) A c hc hd)
   ·obtain rfl := oI ho
    clear hdep hI ho
    have HZ := Lib.hid hsz; clear hsz
    go_simp
    exact hK' _ _ (fun u hu => nV hu) (hS.newN h0' (by rw [HZ.out]; decide) _)
   ·obtain rfl := oI ho
    clear hdep hI ho
    have HZ := Lib.hid hsz; clear hsz
    go_simp
    exact hK' _ _ (fun u hu => nV hu) (hS.newD h0' (by rw [HZ.out]; decide) _)
   ·obtain rfl := oI ho
    have d2 : listed.getD 2 false = true := hdep ⟨2, .data⟩ (by simp) rfl
    have d6 : listed.getD 6 false = true := hdep ⟨6, .data⟩ (by simp) rfl
    obtain ⟨A, c, hA, hc, hd⟩ := hS.n d2
    obtain ⟨X, hX, hlb, hr⟩ := hS.x d6
    (try dsimp only at hr)
    rw [h0', if_neg (by decide)] at hr
    have e1 : a.eval (.tmp 3) = .pointer (some ⟨X, 0, none⟩) := by rw [← hX]; exact act_tmp' a 3
    have e2 : a.eval (.tmp 17) = .agg #[.bool u, .slice A k c] := by rw [← hA]; exact act_tmp' a 17
    refine wp_store_mid _ _ _ rfl X 0 #[.bool u, .slice A k c] e1 e2 (hr.there 0 2 (Nat.le_refl _)) agg_big.2 (by simp [Value.oneCell']) ?_
    exact hK' undef _ (fun u hu => nV hu) (hS.putN h0' hls d2 d6 hX hA rfl _)
   ·obtain rfl := oI ho
    have d5 : listed.getD 5 false = true := hdep ⟨5, .data⟩ (by simp) rfl
    have d7 : listed.getD 7 false = true := hdep ⟨7, .data⟩ (by simp) rfl
    obtain ⟨A, c, hA, hc, hd⟩ := hS.d d5
    obtain ⟨X, hX, hlb, hr⟩ := hS.y d7
    (try dsimp only at hr)
    rw [h0', if_neg (by decide)] at hr
    have e1 : a.eval (.tmp 4) = .pointer (some ⟨X, 0, none⟩) := by rw [← hX]; exact act_tmp' a 4
    have e2 : a.eval (.tmp 20) = .agg #[.bool vd, .slice A j c] := by rw [← hA]; exact act_tmp' a 20
    refine wp_store_mid _ _ _ rfl X 0 #[.bool vd, .slice A j c] e1 e2 (hr.there 0 2 (Nat.le_refl _)) agg_big.2 (by simp [Value.oneCell']) ?_
    exact hK' undef _ (fun u hu => nV hu) (hS.putD h0' hls d5 d7 hX hA rfl _)
  ·intro listed a W hI hall
   obtain ⟨X, hX, _, hrX⟩ := hI.world.x (hall 6 (by decide))
   obtain ⟨Y, hY, _, hrY⟩ := hI.world.y (hall 7 (by decide))
   obtain ⟨A, c, hA, hc, hdA⟩ := hI.world.n (hall 2 (by decide))
   obtain ⟨B, d, hB, hd, hdB⟩ := hI.world.d (hall 5 (by decide))
   (try dsimp only at hrX hrY)
   rw [hall 8 (by decide), if_pos rfl, hA] at hrX
   rw [hall 9 (by decide), if_pos rfl, hB] at hrY
   have hbase := hI.world.base.2
   obtain ⟨f, hf⟩ : ∃ f : Nat → Value, ∀ t, slotOf a t = f t := ⟨_, fun _ => rfl⟩
   have ha := hI.frame [15, 16, 17, 18, 19, 20, 3, 4] (by kernel_rfl) f hf
   have e3 : f 3 = .pointer (some ⟨X, 0, none⟩) := (hf 3).symm.trans hX
   have e4 : f 4 = .pointer (some ⟨Y, 0, none⟩) := (hf 4).symm.trans hY
   clear hf hI hX hY hA hB hall
   subst ha
   simp only [setAll, List.foldl_cons, List.foldl_nil, List.setIfInBounds_toArray, List.set_cons_zero, List.set_cons_succ, e3, e4]
   go_wp2_with fail
   go_meet
   exact ⟨_, _, A, c, B, d, rfl, rfl, Lib.hid ⟨hbase, hrX, hrY, ⟨hc, hd⟩, hdA, hdB⟩⟩
 case rest =>
  obtain ⟨X, Y, A, c, B, d, rfl, rfl, HF⟩ := hcut
  clear hK HL HY
  have hB0 := HF.out.1
  have rX := HF.out.2.1
  have rY := HF.out.2.2.1
  have HC := Lib.hid HF.out.2.2.2.1
  have dA := HF.out.2.2.2.2.1
  have dB := HF.out.2.2.2.2.2
  have y0 := rY.c 0 rfl
  have y1 := rY.c 1 rfl
  have HD := Lib.hid (And.intro dA dB)
  have HR := Lib.hid (And.intro rX (And.intro rY hB0))
  clear HF dA dB rX rY hB0
  go_wp2_with fail
  refine (H_hS.out _ _ _ HD.out.2).mono ?_
  rintro e w3 ⟨rfl, hb⟩
  have HR3 := Lib.hid (And.intro (HR.out.1.after hb) (And.intro (HR.out.2.1.after hb) (HR.out.2.2.trans (hb.mono HR.out.2.2.size))))
  have HD3 := Lib.hid (And.intro (HD.out.1.below hb) (HD.out.2.below hb))
  clear hb HR HD y0 y1
  by_cases hsg : 0 < sg
  case neg =>
   have HB3 := Lib.hid HR3.out.2.2
   clear HR3 HD3
   go_wp2_with fail
   go_ret
   exact ⟨by rw [show decide (0 < sg) = false from decide_eq_false (by omega)]; rfl, HB3.out⟩
  case pos =>
   have x0 := HR3.out.1.c 0 rfl
   have x1 := HR3.out.1.c 1 rfl
   have y0 := HR3.out.2.1.c 0 rfl
   have y1 := HR3.out.2.1.c 1 rfl
   go_wp2_with fail
   refine (H_hG.out _ _ _ _ _ HD3.out.1 HD3.out.2 HC.out.1 HC.out.2).mono ?_
   rintro e w4 ⟨G, g, rfl, hg, dG, hb⟩
   have HB4 := Lib.hid (HR3.out.2.2.trans (hb.mono HR3.out.2.2.size))
   have HG4 := Lib.hid dG
   clear hb HR3 HD3 x0 x1 y0 y1 hg dG
   go_wp2_with fail
   refine (H_hN.out _).mono ?_
   rintro e w5 ⟨E, h, rfl, hh, dE, hb⟩
   have HB5 := Lib.hid (HB4.out.trans (hb.mono HB4.out.size))
   have HG5 := Lib.hid (And.intro (HG4.out.below hb) dE)
   clear hb HB4 HG4 hh dE
   go_wp2_with fail
   refine (H_hC.out _ _ _ _ _ HG5.out.1 HG5.out.2).mono ?_
   rintro e w6 ⟨rfl, hb⟩
   have HB6 := Lib.hid (HB5.out.trans (hb.mono HB5.out.size))
   clear hb HB5 HG5
   go_wp2_with fail
   go_ret
   exact ⟨by rw [show decide (0 < sg) = true from decide_eq_true (by omega)]; simp; rfl, HB6.out⟩
theorem fits_no (p q : Bool) (A B : Option Addr) (k c j d : Nat) (w : World) (h : 6 < k ∨ 4 < j) :
 Calls Tryz.prog 55 #[.agg #[.bool p, .slice A k c, .bool q, .slice B j d]] w fun e w' => e = .returned (.bool false) ∧ Below w.heap.size w w' := by
 have HB := Lib.hid ((Below.refl w.heap.size w).alloc (Nat.le_refl _) (.cells #[.bool p, .slice A k c, .bool q, .slice B j d] 55))
 go_enter Tryz.func55, Tryz.ntmps55
 have r0 := Row.at (w := w) rfl [.bool p, .slice A k c, .bool q, .slice B j d] 55
 have x0 := r0.c 0 rfl
 have x1 := r0.c 1 rfl
 have x2 := r0.c 2 rfl
 have x3 := r0.c 3 rfl
 clear r0
 go_upto_region 1 with fail
 go_quiet (fail)
 by_cases h1 : (k : Int) ≤ 6
 ·have h2 : ¬ (j : Int) ≤ 4 := by omega
  go_wp2
  go_ret
  exact ⟨rfl, below_drewN HB.out _⟩
 ·go_wp2
  go_ret
  exact ⟨rfl, below_drewN HB.out _⟩
theorem fits_dec (p q : Bool) (A B : Option Addr) (m n c d : Nat) (w : World) :
 Calls Tryz.prog 55 #[.agg #[.bool p, .slice A (L16 m) c, .bool q, .slice B (L16 n) d]] w fun e w' => e = .returned (.bool (decide (m < 79228162514264337593543950336) && decide (n < 18446744073709551616))) ∧ Below w.heap.size w w' := by
 have e1 : m < 79228162514264337593543950336 ↔ L16 m ≤ 6 := ⟨fun h => L16_le (Nat.lt_of_lt_of_le h (by decide)), fun h => Nat.lt_of_lt_of_le (lt_L16 m) (Nat.le_trans (Nat.pow_le_pow_right (by decide) h) (by decide))⟩
 have e2 : n < 18446744073709551616 ↔ L16 n ≤ 4 := ⟨fun h => L16_le (Nat.lt_of_lt_of_le h (by decide)), fun h => Nat.lt_of_lt_of_le (lt_L16 n) (Nat.le_trans (Nat.pow_le_pow_right (by decide) h) (by decide))⟩
 by_cases h : m < 79228162514264337593543950336 ∧ n < 18446744073709551616
 ·rw [decide_eq_true h.1, decide_eq_true h.2]
  exact fits_any p q A B _ c _ d w (e1.1 h.1) (e2.1 h.2)
 ·have hv : (decide (m < 79228162514264337593543950336) && decide (n < 18446744073709551616)) = false := by
   rw [Bool.and_eq_false_iff, decide_eq_false_iff_not, decide_eq_false_iff_not]
   exact Classical.not_and_iff_not_or_not.1 h
  rw [hv]
  refine fits_no p q A B _ c _ d w ?_
  rcases Classical.not_and_iff_not_or_not.1 h with h | h
  ·exact .inl (Nat.lt_of_not_le fun q => h (e1.2 q))
  ·exact .inr (Nat.lt_of_not_le fun q => h (e2.2 q))
set_option maxRecDepth 100000 in
set_option maxHeartbeats 6400000 in
theorem pright_no1 (R S : Array Value) (hR : R.size = 10) (hS : S.size = 10) (w : World)
 (h1 : ∀ W, Calls Tryz.prog 54 #[.agg R] W fun e w' => e = .returned (.bool false) ∧ Below W.heap.size W w') :
 Calls Tryz.prog 21 #[.agg (R ++ S)] w fun e w' => e = .returned (.bool false) ∧ Below w.heap.size w w' := by
 have H1 := Lib.hid h1; clear h1
 have tR : AggTy Tryz.prog 44 R.size := by rw [hR]; exact agg_rat
 have tS : AggTy Tryz.prog 44 S.size := by rw [hS]; exact agg_rat
 have HRS := Lib.hid hR
 have r0 := Row.at (w := w) rfl (R ++ S).toList 46
 have hB := (Below.refl w.heap.size w).alloc (Nat.le_refl _) (.cells (R ++ S) 46)
 go_enter Tryz.func21, Tryz.ntmps21
 go_wp2_with (refine wpList_load_M rfl _ _ rfl _ 0 rfl R r0.fst10 tR ?_)
 refine (H1.out _).mono ?_
 rintro e w1 ⟨rfl, hb⟩
 have r1 := r0.after hb
 replace hB := hB.trans (hb.mono hB.size)
 clear hb r0
 have HB := Lib.hid hB
 clear hB
 go_wp2_with fail
 go_ret
 exact ⟨rfl, HB.out⟩
set_option maxRecDepth 100000 in
set_option maxHeartbeats 6400000 in
theorem pright_no2 (R S : Array Value) (hR : R.size = 10) (hS : S.size = 10) (w : World)
 (h1 : ∀ W, Calls Tryz.prog 54 #[.agg R] W fun e w' => e = .returned (.bool true) ∧ Below W.heap.size W w')
 (h2 : ∀ W, Calls Tryz.prog 54 #[.agg S] W fun e w' => e = .returned (.bool false) ∧ Below W.heap.size W w') :
 Calls Tryz.prog 21 #[.agg (R ++ S)] w fun e w' => e = .returned (.bool false) ∧ Below w.heap.size w w' := by
 have H1 := Lib.hid h1; clear h1
 have H2 := Lib.hid h2; clear h2
 have tR : AggTy Tryz.prog 44 R.size := by rw [hR]; exact agg_rat
 have tS : AggTy Tryz.prog 44 S.size := by rw [hS]; exact agg_rat
 have HRS := Lib.hid hR
 have r0 := Row.at (w := w) rfl (R ++ S).toList 46
 have hB := (Below.refl w.heap.size w).alloc (Nat.le_refl _) (.cells (R ++ S) 46)
 go_enter Tryz.func21, Tryz.ntmps21
 go_wp2_with (refine wpList_load_M rfl _ _ rfl _ 0 rfl R r0.fst10 tR ?_)
 refine (H1.out _).mono ?_
 rintro e w1 ⟨rfl, hb⟩
 have r1 := r0.after hb
 replace hB := hB.trans (hb.mono hB.size)
 clear hb r0
 go_wp2_with (refine wpList_load_W' _ _ rfl _ 10 rfl rfl S (r1.snd10 HRS.out) tS ?_)
 refine (H2.out _).mono ?_
 rintro e w2 ⟨rfl, hb⟩
 replace hB := hB.trans (hb.mono hB.size)
 clear hb r1
 have HB := Lib.hid hB
 clear hB
 go_wp2_with fail
 go_ret
 exact ⟨rfl, HB.out⟩
set_option maxRecDepth 100000 in
set_option maxHeartbeats 6400000 in
theorem prightG_core (f1 f2 : Bool) (R S : Array Value) (hR : R.size = 10) (hS : S.size = 10) (u v : Bool) (m p n q k j i l : Nat) (w : World)
 (g1 : ∀ A ka B jb W, Calls Tryz.prog 55 #[.agg #[.bool u, .slice A k ka, .bool false, .slice B j jb]] W fun e w' => e = .returned (.bool f1) ∧ Below W.heap.size W w')
 (g2 : ∀ A ka B jb W, Calls Tryz.prog 55 #[.agg #[.bool v, .slice A i ka, .bool false, .slice B l jb]] W fun e w' => e = .returned (.bool f2) ∧ Below W.heap.size W w')
 (h1 : ∀ W, Calls Tryz.prog 54 #[.agg R] W fun e w' => e = .returned (.bool true) ∧ Below W.heap.size W w')
 (h2 : ∀ W, Calls Tryz.prog 54 #[.agg S] W fun e w' => e = .returned (.bool true) ∧ Below W.heap.size W w')
 (h3 : ∀ W, Calls Tryz.prog 56 #[.agg R] W (RqPost W u false m p k j)) (h4 : ∀ W, Calls Tryz.prog 56 #[.agg S] W (RqPost W v false n q i l)) :
 Calls Tryz.prog 21 #[.agg (R ++ S)] w fun e w' => e = .returned (.bool (f1 && f2)) ∧ Below w.heap.size w w' := by
 have H1 := Lib.hid h1; clear h1
 have H2 := Lib.hid h2; clear h2
 have H3 := Lib.hid h3; clear h3
 have H4 := Lib.hid h4; clear h4
 have HF1 := Lib.hid g1; clear g1
 have HF2 := Lib.hid g2; clear g2
 have tR : AggTy Tryz.prog 44 R.size := by rw [hR]; exact agg_rat
 have tS : AggTy Tryz.prog 44 S.size := by rw [hS]; exact agg_rat
 have HRS := Lib.hid hR
 have r0 := Row.at (w := w) rfl (R ++ S).toList 46
 have hB := (Below.refl w.heap.size w).alloc (Nat.le_refl _) (.cells (R ++ S) 46)
 go_enter Tryz.func21, Tryz.ntmps21
 go_wp2_with (refine wpList_load_M rfl _ _ rfl _ 0 rfl R r0.fst10 tR ?_)
 refine (H1.out _).mono ?_
 rintro e w1 ⟨rfl, hb⟩
 have r1 := r0.after hb
 replace hB := hB.trans (hb.mono hB.size)
 clear hb r0
 go_wp2_with (refine wpList_load_W' _ _ rfl _ 10 rfl rfl S (r1.snd10 HRS.out) tS ?_)
 refine (H2.out _).mono ?_
 rintro e w2 ⟨rfl, hb⟩
 have r2 := r1.after hb
 replace hB := hB.trans (hb.mono hB.size)
 clear hb r1
 go_wp2_with (refine wpList_load_W' _ _ rfl _ 0 rfl rfl R r2.fst10 tR ?_)
 refine (H3.out _).mono ?_
 rintro e w3 ⟨A, ka, B, jb, rfl, _, _, hb⟩
 have r3 := r2.after hb
 replace hB := hB.trans (hb.mono hB.size)
 clear hb r2
 go_wp2_with fail
 refine (HF1.out _ _ _ _ _).mono ?_
 rintro e w4 ⟨rfl, hb⟩
 have r4 := r3.after hb
 replace hB := hB.trans (hb.mono hB.size)
 clear hb r3
 cases f1
 case false =>
  have HB := Lib.hid hB
  clear hB
  go_wp2_with fail
  go_ret
  exact ⟨rfl, HB.out⟩
 case true =>
  go_wp2_with (refine wpList_load_W' _ _ rfl _ 10 rfl rfl S (r4.snd10 HRS.out) tS ?_)
  refine (H4.out _).mono ?_
  rintro e w5 ⟨E, ie, G, lg, rfl, _, _, hb⟩
  replace hB := hB.trans (hb.mono hB.size)
  clear hb r4
  go_wp2_with fail
  refine (HF2.out _ _ _ _ _).mono ?_
  rintro e w6 ⟨rfl, hb⟩
  replace hB := hB.trans (hb.mono hB.size)
  clear hb
  have HB := Lib.hid hB
  clear hB
  go_wp2_with fail
  go_ret
  exact ⟨rfl, HB.out⟩
end Go.Proofs.YtdfmmkidknginaaGreatDoor

namespace Go.Proofs.YtdfmmkidknginaaGreatDoor
open Go.RowKit CrossMath

theorem right_O (o : Option Int) (ho : oM o < T256) (W : World) : Calls Tryz.prog 96 #[.agg #[.bool (oS o), .int .u64 (W64 (oM o) 0 : Nat), .int .u64 (W64 (oM o) 1 : Nat), .int .u64 (W64 (oM o) 2 : Nat), .int .u64 (W64 (oM o) 3 : Nat)]] W fun e w' => e = .returned (.bool o.isSome) ∧ Below W.heap.size W w' := by
 have h := right_any (oS o) (W64 (oM o) 0 : Nat) (W64 (oM o) 1 : Nat) (W64 (oM o) 2 : Nat) (W64 (oM o) 3 : Nat) W
 cases o with
 | some z =>
   have e : rightB (oS (some z)) (W64 (oM (some z)) 0 : Nat) (W64 (oM (some z)) 1 : Nat) (W64 (oM (some z)) 2 : Nat) (W64 (oM (some z)) 3 : Nat) = true := right_num z ho
   rw [e] at h
   exact h
 | none =>
   have e : rightB (oS none) (W64 (oM none) 0 : Nat) (W64 (oM none) 1 : Nat) (W64 (oM none) 2 : Nat) (W64 (oM none) 3 : Nat) = false := by decide
   rw [e] at h
   exact h
theorem cmpI_pos (d : Int) : decide (0 < cmpI d 0) = decide (0 < d) := by
 unfold cmpI
 by_cases h : 0 < d
 ·have h1 : ¬ d < 0 := by omega
  rw [if_neg h1, if_pos h, decide_eq_true h]; rfl
 ·rw [decide_eq_false h, if_neg h]
  split <;> decide
theorem cmpI_zeroB (a b : Int) : decide (cmpI a b = 0) = decide (a = b) := by
 unfold cmpI
 by_cases h : a = b
 ·subst h; simp
 ·rw [decide_eq_false h]
  by_cases h2 : a < b
  ·rw [if_pos h2]; rfl
  ·rw [if_neg h2, if_pos (by omega)]; rfl
theorem refrat_O (a b : Option Int) (ha : oM a < T256) (hb : oM b < T256) (w : World) :
 Calls Tryz.prog 54 #[.agg (rO a b)] w fun e w' => e = .returned (.bool (riB a b)) ∧ Below w.heap.size w w' := by
 have HA := right_O a ha
 have HB := right_O b hb
 cases a with
 | none => exact rright_no1 _ _ _ _ _ _ _ _ _ _ w (fun W => HA W)
 | some n =>
   cases b with
   | none => exact rright_no2 _ _ _ _ _ _ _ _ _ _ w (fun W => HA W) (fun W => HB W)
   | some d =>
     have hn : n.natAbs < T256 := ha
     have hd' : d.natAbs < T256 := hb
     have hgT : Int.gcd n d < T256 := by
      by_cases h0 : d = 0
      ·subst h0; rw [Int.gcd_zero_right]; exact hn
      ·exact Nat.lt_of_le_of_lt (Nat.le_of_dvd (by omega) (by have := Int.natAbs_dvd_natAbs.2 (Int.gcd_dvd_right n d); rwa [Int.natAbs_natCast] at this)) hd'
     have hv : riB (some n) (some d) = (decide (0 < cmpI d 0) && decide (cmpI (Int.gcd n d : Nat) 1 = 0)) := by
      rw [cmpI_pos, cmpI_zeroB]
      unfold riB
      simp only [Bool.decide_and]
      congr 1
      exact decide_eq_decide.2 (by omega)
     rw [hv]
     refine rrightG_core (decide (n < 0)) (decide (d < 0)) (decide (n < 0)) (decide (d < 0)) (cmpI d 0) (cmpI (Int.gcd n d : Nat) 1) _ _ _ _ _ _ _ _ n.natAbs (L16 n.natAbs) d.natAbs (L16 d.natAbs) (Int.gcd n d) (L16 (Int.gcd n d)) (L16 1) w (fun W => HA W) (fun W => HB W) (fun W => (from_z n W hn).mono fun _ _ h => bg_of rfl h) (fun W => (from_z d W hd').mono fun _ _ h => bg_of rfl h) ?_ ?_ one_bg ?_
     ·intro B c W hB
      exact refsign_z d B c W hB (L16_T6 hd')
     ·intro A c B e W hA hB hc he
      have := refgcd_z n d A B c e W hA hB hc he hn hd'
      refine this.mono ?_
      rintro e' w' ⟨X, x, rfl, hx, hD, hb⟩
      refine ⟨X, x, ?_, hx, hD, hb⟩
      rw [bigv, show decide (((Int.gcd n d : Nat) : Int) < 0) = false by simp]
      rfl
     ·intro A c B e W hA hB
      have := cmp_z (Int.gcd n d : Nat) 1 A B c e W hA hB (by rw [Int.natAbs_natCast]; exact L16_T6 hgT) (by show L16 1 ≤ _; exact L16_T6 (by decide))
      rw [bigv, show decide (((Int.gcd n d : Nat) : Int) < 0) = false by simp] at this
      exact this
theorem riB_some {a b : Option Int} (h : riB a b = true) : ∃ n d, a = some n ∧ b = some d ∧ 0 < d := by
 cases a with
 | none => cases h
 | some n =>
   cases b with
   | none => cases h
   | some d => exact ⟨n, d, rfl, rfl, (of_decide_eq_true h).1⟩
set_option maxRecDepth 100000 in
theorem refpoint_O (a b c d : Option Int) (ha : oM a < T256) (hb : oM b < T256) (hc : oM c < T256) (hd : oM d < T256) (w : World) :
 Calls Tryz.prog 21 #[.agg (pO a b c d)] w fun e w' => e = .returned (.bool (okB a b && okB c d)) ∧ Below w.heap.size w w' := by
 have hp : pO a b c d = rO a b ++ rO c d := rfl
 rw [hp]
 have H1 := refrat_O a b ha hb
 have H2 := refrat_O c d hc hd
 cases h1 : riB a b with
 | false =>
   rw [h1] at H1
   have e : (okB a b && okB c d) = false := by unfold okB; rw [h1]; simp
   rw [e]
   exact pright_no1 _ _ rfl rfl w H1
 | true =>
   rw [h1] at H1
   cases h2 : riB c d with
   | false =>
     rw [h2] at H2
     have e : (okB a b && okB c d) = false := by unfold okB; rw [h2]; simp
     rw [e]
     exact pright_no2 _ _ rfl rfl w H1 H2
   | true =>
     rw [h2] at H2
     obtain ⟨n, m, rfl, rfl, hm⟩ := riB_some h1
     obtain ⟨p, q, rfl, rfl, hq⟩ := riB_some h2
     have m0 : decide (m < 0) = false := by simp; omega
     have q0 : decide (q < 0) = false := by simp; omega
     have e : (okB (some n) (some m) && okB (some p) (some q)) = ((decide (n.natAbs < 79228162514264337593543950336) && decide (m.natAbs < 18446744073709551616)) && (decide (p.natAbs < 79228162514264337593543950336) && decide (q.natAbs < 18446744073709551616))) := by
      unfold okB
      rw [h1, h2, Bool.and_true, Bool.and_true]
      have g : ∀ x y : Int, (!grB (some x) (some y)) = (decide (x.natAbs < 79228162514264337593543950336) && decide (y.natAbs < 18446744073709551616)) := fun x y => by
       show (!(decide (79228162514264337593543950336 ≤ x.natAbs) || decide (18446744073709551616 ≤ y.natAbs))) = _
       rw [Bool.not_or, ← decide_not, ← decide_not]
       congr 1 <;> exact decide_eq_decide.2 (by omega)
      rw [g, g]
     rw [e]
     have F1 := fun W => rfrom_any n m W ha hb
     have F2 := fun W => rfrom_any p q W hc hd
     rw [m0] at F1
     rw [q0] at F2
     exact prightG_core _ _ _ _ rfl rfl (decide (n < 0)) (decide (p < 0)) n.natAbs m.natAbs p.natAbs q.natAbs _ _ _ _ w (fun A ka B jb W => fits_dec _ _ A B _ _ ka jb W) (fun A ka B jb W => fits_dec _ _ A B _ _ ka jb W) H1 H2 F1 F2
theorem ok_pt4 {a b c d : Option Int} (h : (okB a b && okB c d) = true) : ∃ p : Pt, RtP p ∧ a = some p.xn ∧ b = some p.xd ∧ c = some p.yn ∧ d = some p.yd := by
 obtain ⟨h1, h2⟩ := Bool.and_eq_true_iff.1 h
 obtain ⟨n, m, rfl, rfl, _⟩ := riB_some (Bool.and_eq_true_iff.1 h1).2
 obtain ⟨k, l, rfl, rfl, _⟩ := riB_some (Bool.and_eq_true_iff.1 h2).2
 exact ⟨⟨n, m, k, l⟩, ⟨(okB_iff n m).1 h1, (okB_iff k l).1 h2⟩, rfl, rfl, rfl, rfl⟩
end Go.Proofs.YtdfmmkidknginaaGreatDoor

namespace Go.Proofs.YtdfmmkidknginaaGreatDoor
open Go.RowKit CrossMath
set_option maxRecDepth 100000 in
set_option maxHeartbeats 6400000 in
theorem rmul_core (s q t l s1 s2 u v : Bool) (A B E G : Option Addr) (k c j d i f h g mA mB mE mG m1 k1 m2 k2 xm ym xk yk : Nat) (w : World) (dA : DS w mA A) (dB : DS w mB B) (dE : DS w mE E) (dG : DS w mG G)
 (h1 : ∀ W, DS W mA A → DS W mE E → Calls Tryz.prog 99 #[.agg #[.bool s, .slice A k c], .agg #[.bool t, .slice E i f]] W (BgPost W s1 m1 k1))
 (h2 : ∀ W, DS W mB B → DS W mG G → Calls Tryz.prog 99 #[.agg #[.bool q, .slice B j d], .agg #[.bool l, .slice G h g]] W (BgPost W s2 m2 k2))
 (h3 : ∀ X x Y y W, DS W m1 X → DS W m2 Y → k1 ≤ x → k2 ≤ y → Calls Tryz.prog 44 #[.agg #[.bool s1, .slice X k1 x], .agg #[.bool s2, .slice Y k2 y]] W (RqPost W u v xm ym xk yk)) :
 Calls Tryz.prog 57 #[.agg #[.bool s, .slice A k c, .bool q, .slice B j d], .agg #[.bool t, .slice E i f, .bool l, .slice G h g]] w (RqPost w u v xm ym xk yk) := by
 have H1 := Lib.hid h1; clear h1
 have H2 := Lib.hid h2; clear h2
 have H3 := Lib.hid h3; clear h3
 go_enter Tryz.func57, Tryz.ntmps57
 go_upto_region 1 with fail
 generalize hW : World.alloc _ _ = W0
 have hb0 : Below w.heap.size w W0 := by rw [← hW]; exact (((Below.refl w.heap.size w).alloc (Nat.le_refl _) _).alloc (by simp) _).alloc (by simp; omega) _
 have hK : KT w ([] ++ [(w.heap.size, #[.bool s, .slice A k c, .bool q, .slice B j d])] ++ [(w.heap.size + 1, #[.bool t, .slice E i f, .bool l, .slice G h g])]) ([] ++ [(w.heap.size + 1 + 1, 4)]) W0 := by
  rw [← hW]
  exact (KT.of (((KS.nil w).boxed rfl _ _).boxed (by simp) _ _)).made (by simp) _ _ rfl
 have z0 : W0.drew.cell? ⟨w.heap.size + 1 + 1, 0, none⟩ = some (.bool false) := by rw [← hW]; exact (Row.at (by simp) [.bool false, .slice none 0 0, .bool false, .slice none 0 0] _).c 0 rfl
 have hz : w.heap.size + 1 + 1 < W0.drew.heap.size := by rw [← hW]; show _ < (World.alloc _ _).heap.size; simp
 replace dA := (dA.below hb0).drew'
 replace dB := (dB.below hb0).drew'
 replace dE := (dE.below hb0).drew'
 replace dG := (dG.below hb0).drew'
 clear hW hb0
 generalize hL : ([] ++ [(w.heap.size, #[.bool s, .slice A k c, .bool q, .slice B j d])] ++ [(w.heap.size + 1, #[.bool t, .slice E i f, .bool l, .slice G h g])] : List (Nat × Array Value)) = L at hK
 have HL := Lib.hid hL; clear hL
 have HM : Hid ((w.heap.size + 1 + 1, 4) ∈ ([] ++ [(w.heap.size + 1 + 1, 4)] : List (Nat × Nat))) := Lib.hid (by simp)
 generalize [] ++ [(w.heap.size + 1 + 1, 4)] = M at hK HM
 have l0 : ∀ W, KT w L M W → W.cell? ⟨w.heap.size, 0, none⟩ = some (.bool s) := fun W h => h.c 0 (by rw [← HL.out]; rfl) 0 rfl
 have l1 : ∀ W, KT w L M W → W.cell? ⟨w.heap.size, 1, none⟩ = some (.slice A k c) := fun W h => h.c 0 (by rw [← HL.out]; rfl) 1 rfl
 have l2 : ∀ W, KT w L M W → W.cell? ⟨w.heap.size, 2, none⟩ = some (.bool q) := fun W h => h.c 0 (by rw [← HL.out]; rfl) 2 rfl
 have l3 : ∀ W, KT w L M W → W.cell? ⟨w.heap.size, 3, none⟩ = some (.slice B j d) := fun W h => h.c 0 (by rw [← HL.out]; rfl) 3 rfl
 have n0 : ∀ W, KT w L M W → W.cell? ⟨w.heap.size + 1, 0, none⟩ = some (.bool t) := fun W h => h.c 1 (by rw [← HL.out]; rfl) 0 rfl
 have n1 : ∀ W, KT w L M W → W.cell? ⟨w.heap.size + 1, 1, none⟩ = some (.slice E i f) := fun W h => h.c 1 (by rw [← HL.out]; rfl) 1 rfl
 have n2 : ∀ W, KT w L M W → W.cell? ⟨w.heap.size + 1, 2, none⟩ = some (.bool l) := fun W h => h.c 1 (by rw [← HL.out]; rfl) 2 rfl
 have n3 : ∀ W, KT w L M W → W.cell? ⟨w.heap.size + 1, 3, none⟩ = some (.slice G h g) := fun W h => h.c 1 (by rw [← HL.out]; rfl) 3 rfl
 have xc0 : ∀ W, KT w L M W → W.cell? ⟨w.heap.size + 1 + 1, 0, none⟩ = some (cellAt W (w.heap.size + 1 + 1) 0) := fun W h => h.here HM.out 0 (by omega)
 have xf0 : ∀ W, KT w L M W → W.frozen? ⟨w.heap.size + 1 + 1, 0, none⟩ = false := fun W h => h.free HM.out 0 (by omega)
 have xc1 : ∀ W, KT w L M W → W.cell? ⟨w.heap.size + 1 + 1, 1, none⟩ = some (cellAt W (w.heap.size + 1 + 1) 1) := fun W h => h.here HM.out 1 (by omega)
 have xf1 : ∀ W, KT w L M W → W.frozen? ⟨w.heap.size + 1 + 1, 1, none⟩ = false := fun W h => h.free HM.out 1 (by omega)
 have xc2 : ∀ W, KT w L M W → W.cell? ⟨w.heap.size + 1 + 1, 2, none⟩ = some (cellAt W (w.heap.size + 1 + 1) 2) := fun W h => h.here HM.out 2 (by omega)
 have xf2 : ∀ W, KT w L M W → W.frozen? ⟨w.heap.size + 1 + 1, 2, none⟩ = false := fun W h => h.free HM.out 2 (by omega)
 have xc3 : ∀ W, KT w L M W → W.cell? ⟨w.heap.size + 1 + 1, 3, none⟩ = some (cellAt W (w.heap.size + 1 + 1) 3) := fun W h => h.here HM.out 3 (by omega)
 have xf3 : ∀ W, KT w L M W → W.frozen? ⟨w.heap.size + 1 + 1, 3, none⟩ = false := fun W h => h.free HM.out 3 (by omega)
 have hk0 := hK.drew
 clear hK
 go_region_held3 (fun w' : World => KT w L M w')
  (repeat (first
    | (with_reducible assumption)
    | (with_reducible refine KT.put4q ?_ HM.out _ _ _ _)
    | (with_reducible refine KT.drew ?_)
    | (with_reducible refine KT.after ?_ hb)))
  (first
    | (go_at_call 99; (with_reducible refine (H1.out _ dA dE).mono ?_); rintro e w' ⟨X1, x1, rfl, c1, e1, hb⟩; (replace dB := dB.below hb); (replace dG := dG.below hb); (replace z0 := (hb.cell (p := ⟨w.heap.size + 1 + 1, 0, none⟩) hz).trans z0); (replace hz := Nat.lt_of_lt_of_le hz hb.size))
    | (go_at_call 99; (with_reducible refine (H2.out _ dB dG).mono ?_); rintro e w' ⟨X2, x2, rfl, c2, e2, hb⟩; (replace e1 := e1.below hb); (replace z0 := (hb.cell (p := ⟨w.heap.size + 1 + 1, 0, none⟩) hz).trans z0); (replace hz := Nat.lt_of_lt_of_le hz hb.size))
    | (go_at_call 44; (with_reducible refine (H3.out _ _ _ _ _ e1 e2 c1 c2).mono ?_); rintro e w' ⟨X, x, Y, y, rfl, hc, ⟨dX, dY⟩, hb⟩; (replace z0 := (hb.cell (p := ⟨w.heap.size + 1 + 1, 0, none⟩) hz).trans z0); (replace hz := Nat.lt_of_lt_of_le hz hb.size)))
 have hq := ‹KT w L M _›
 have hr := hq.put_row (cs := [.bool u, .slice X xk x, .bool v, .slice Y yk y]) HM.out rfl
 have D1 := dX.fill4 z0 (.bool u) (.slice X xk x) (.bool v) (.slice Y yk y)
 have D2 := dY.fill4 z0 (.bool u) (.slice X xk x) (.bool v) (.slice Y yk y)
 have hB := hq.1.2
 go_wp2_with fail
 exact bodyPost_ret (results_R1 (cs := #[.bool u, .slice X xk x, .bool v, .slice Y yk y]) rfl rfl hr agg_rrat) rfl ⟨X, x, Y, y, rfl, hc, ⟨D1, D2⟩, hB⟩
theorem rmul_any (n d n2 d2 : Int) (A B E G : Option Addr) (c e f h : Nat) (w : World) (hd : 0 < d) (hd2 : 0 < d2) (h1 : n.natAbs < T256) (h2 : d.natAbs < T256) (h3 : n2.natAbs < T256) (h4 : d2.natAbs < T256)
 (m1 : (n * n2).natAbs < T256) (m4 : (d * d2).natAbs < T256) (dA : DS w n.natAbs A) (dB : DS w d.natAbs B) (dE : DS w n2.natAbs E) (dG : DS w d2.natAbs G) :
 Calls Tryz.prog 57 #[.agg #[.bool (decide (n < 0)), .slice A (L16 n.natAbs) c, .bool false, .slice B (L16 d.natAbs) e], .agg #[.bool (decide (n2 < 0)), .slice E (L16 n2.natAbs) f, .bool false, .slice G (L16 d2.natAbs) h]] w
  (RqPost w (decide (frN (n * n2) (d * d2) < 0)) false (frN (n * n2) (d * d2)).natAbs (frD (n * n2) (d * d2)).natAbs (L16 (frN (n * n2) (d * d2)).natAbs) (L16 (frD (n * n2) (d * d2)).natAbs)) := by
 have d0 : decide (d < 0) = false := by simp; omega
 have d20 : decide (d2 < 0) = false := by simp; omega
 have hdd : 0 < d * d2 := Int.mul_pos hd hd2
 have dd0 : decide (d * d2 < 0) = false := by simp; omega
 refine rmul_core _ _ _ _ (decide (n * n2 < 0)) false _ _ A B E G _ c _ e _ f _ h _ _ _ _ (n * n2).natAbs (L16 (n * n2).natAbs) (d * d2).natAbs (L16 (d * d2).natAbs) _ _ _ _ w dA dB dE dG ?_ ?_ ?_
 ·intro W hA hE
  have := mul_z n n2 A E c f W hA hE (L16_T h1) (L16_T h3)
  rw [bigv, bigv] at this
  exact this.mono fun _ _ h => bg_of rfl h
 ·intro W hB hG
  have := mul_z d d2 B G e h W hB hG (L16_T h2) (L16_T h4)
  rw [bigv, bigv, d0, d20] at this
  exact this.mono fun _ _ h => bg_of dd0 h
 ·intro X x Y y W hX hY hx hy
  exact rmake_any (n * n2) (d * d2) X Y x y W hdd m1 m4 hX hY hx hy
def bgFct (idx slot : Nat) (s : Bool) (m k : Nat) : Fct := ⟨idx, slot, fun v W => ∃ X x, v = .agg #[.bool s, .slice X k x] ∧ k ≤ x ∧ DS W m X, fun v X Y h hb => by
 obtain ⟨A, x, h1, h2, h3⟩ := h
 exact ⟨A, x, h1, h2, h3.below hb⟩⟩
set_option maxRecDepth 100000 in
set_option maxHeartbeats 6400000 in
theorem rcmp_core (s q t l s1 s2 : Bool) (A B E G : Option Addr) (k c j d i f h g mA mB mE mG m1 k1 m2 k2 : Nat) (r : Int) (w : World) (dA : DS w mA A) (dB : DS w mB B) (dE : DS w mE E) (dG : DS w mG G)
 (h1 : ∀ W, DS W mA A → DS W mG G → Calls Tryz.prog 99 #[.agg #[.bool s, .slice A k c], .agg #[.bool l, .slice G h g]] W (BgPost W s1 m1 k1))
 (h2 : ∀ W, DS W mE E → DS W mB B → Calls Tryz.prog 99 #[.agg #[.bool t, .slice E i f], .agg #[.bool q, .slice B j d]] W (BgPost W s2 m2 k2))
 (h3 : ∀ X x Y y W, DS W m1 X → DS W m2 Y → Calls Tryz.prog 79 #[.agg #[.bool s1, .slice X k1 x], .agg #[.bool s2, .slice Y k2 y]] W fun e w' => e = .returned (.int .i64 r) ∧ Below W.heap.size W w') :
 Calls Tryz.prog 59 #[.agg #[.bool s, .slice A k c, .bool q, .slice B j d], .agg #[.bool t, .slice E i f, .bool l, .slice G h g]] w fun e w' => e = .returned (.int .i64 r) ∧ Below w.heap.size w w' := by
 have H1 := Lib.hid h1; clear h1
 have H2 := Lib.hid h2; clear h2
 have H3 := Lib.hid h3; clear h3
 go_enter Tryz.func59, Tryz.ntmps59
 go_upto_region 1 with fail
 generalize hW : World.alloc _ _ = W0
 have hb0 : Below w.heap.size w W0 := by rw [← hW]; exact ((Below.refl w.heap.size w).alloc (Nat.le_refl _) _).alloc (by simp) _
 have rA : Row W0 w.heap.size [.bool s, .slice A k c, .bool q, .slice B j d] := by rw [← hW]; exact (Row.at rfl [_, _, _, _] _).alloc _
 have rB : Row W0 (w.heap.size + 1) [.bool t, .slice E i f, .bool l, .slice G h g] := by rw [← hW]; exact Row.at (by simp) [_, _, _, _] _
 have HD := Lib.hid (And.intro (dA.below hb0) (And.intro (dB.below hb0) (And.intro (dE.below hb0) (dG.below hb0))))
 have HR := Lib.hid (And.intro rA rB)
 clear hW rA rB dA dB dE dG
 refine wp_region_fct (by kernel_rfl) [] (fun ix => match ix with
  | 0 => some (Value.pointer (some ⟨w.heap.size, 0, none⟩))
  | 1 => some (Value.agg #[.bool s, .slice A k c])
  | 2 => some (Value.pointer (some ⟨w.heap.size + 1, 2, none⟩))
  | 3 => some (Value.agg #[.bool l, .slice G h g])
  | 5 => some (Value.pointer (some ⟨w.heap.size + 1, 0, none⟩))
  | 6 => some (Value.agg #[.bool t, .slice E i f])
  | 7 => some (Value.pointer (some ⟨w.heap.size, 2, none⟩))
  | 8 => some (Value.agg #[.bool q, .slice B j d])
  | 10 => some (Value.int .i64 r)
  | 11 => some (Value.int .i64 r)
  | _ => none) (by intro j hj; cases hj) 12 [bgFct 4 9 s1 m1 k1, bgFct 9 14 s2 m2 k2] (fun _ _ => False) (by kernel_rfl) (by kernel_rfl) (by rfl) ?_ ?_
 ·intro listed a W ix o hI ho hdep hB hF K hK hKf
  have hi : ix < 12 := (Array.getElem?_eq_some_iff.1 ho).1
  have hcase : ix = 0 ∨ ix = 1 ∨ ix = 2 ∨ ix = 3 ∨ ix = 4 ∨ ix = 5 ∨ ix = 6 ∨ ix = 7 ∨ ix = 8 ∨ ix = 9 ∨ ix = 10 ∨ ix = 11 := by omega
  clear hi
  rcases hcase with rfl | rfl | rfl | rfl | rfl | rfl | rfl | rfl | rfl | rfl | rfl | rfl
  ·obtain rfl := oI ho
   have q2 : a.tmps[2]?.getD undef = Value.pointer (some ⟨w.heap.size, 0, none⟩) := hI.old 2 (noDst_spec (by kernel_rfl))
   clear hdep hI ho hF
   go_simp
   exact hK (by decide) (Value.pointer (some ⟨w.heap.size, 0, none⟩)) _ (fun u hu => oV hu) (Below.refl _ _) (fct_none rfl)
  ·obtain rfl := oI ho
   have d0 : listed.getD 0 false = true := hdep ⟨0, .data⟩ (by simp) rfl
   have q5 : a.tmps[5]?.getD undef = Value.pointer (some ⟨w.heap.size, 0, none⟩) := hI.val 0 _ 5 _ rfl rfl rfl d0
   have x0 := (HR.out.1.after hB).c 0 rfl
   have x1 := (HR.out.1.after hB).c 1 rfl
   clear hdep hI ho hF
   go_simp
   exact hK (by decide) (Value.agg #[.bool s, .slice A k c]) _ (fun u hu => oV hu) (Below.refl _ _) (fct_none rfl)
  ·obtain rfl := oI ho
   have q3 : a.tmps[3]?.getD undef = Value.pointer (some ⟨w.heap.size + 1, 0, none⟩) := hI.old 3 (noDst_spec (by kernel_rfl))
   clear hdep hI ho hF
   go_simp
   exact hK (by decide) (Value.pointer (some ⟨w.heap.size + 1, 2, none⟩)) _ (fun u hu => oV hu) (Below.refl _ _) (fct_none rfl)
  ·obtain rfl := oI ho
   have d2 : listed.getD 2 false = true := hdep ⟨2, .data⟩ (by simp) rfl
   have q7 : a.tmps[7]?.getD undef = Value.pointer (some ⟨w.heap.size + 1, 2, none⟩) := hI.val 2 _ 7 _ rfl rfl rfl d2
   have x0 := (HR.out.2.after hB).c 2 rfl
   have x1 := (HR.out.2.after hB).c 3 rfl
   clear hdep hI ho hF
   go_simp
   exact hK (by decide) (Value.agg #[.bool l, .slice G h g]) _ (fun u hu => oV hu) (Below.refl _ _) (fct_none rfl)
  ·obtain rfl := oI ho
   have d1 : listed.getD 1 false = true := hdep ⟨1, .data⟩ (by simp) rfl
   have q6 : a.tmps[6]?.getD undef = Value.agg #[.bool s, .slice A k c] := hI.val 1 _ 6 _ rfl rfl rfl d1
   have d3 : listed.getD 3 false = true := hdep ⟨3, .data⟩ (by simp) rfl
   have q8 : a.tmps[8]?.getD undef = Value.agg #[.bool l, .slice G h g] := hI.val 3 _ 8 _ rfl rfl rfl d3
   clear hdep hI ho hF
   go_simp
   refine (H1.out _ (HD.out.1.below hB) (HD.out.2.2.2.below hB)).mono ?_
   rintro e W2 ⟨X, x, rfl, hx, hX, hb⟩
   exact hK (by decide) (.agg #[.bool _, .slice X _ x]) _ (fun u hu => nV hu) hb (fun p hp e => by
    simp only [List.mem_cons, List.not_mem_nil, or_false] at hp
    rcases hp with rfl | rfl
    ·exact ⟨X, x, rfl, hx, hX⟩
    ·exact absurd e (fct_ne (i := 9) rfl))
  ·obtain rfl := oI ho
   have q3 : a.tmps[3]?.getD undef = Value.pointer (some ⟨w.heap.size + 1, 0, none⟩) := hI.old 3 (noDst_spec (by kernel_rfl))
   clear hdep hI ho hF
   go_simp
   exact hK (by decide) (Value.pointer (some ⟨w.heap.size + 1, 0, none⟩)) _ (fun u hu => oV hu) (Below.refl _ _) (fct_none rfl)
  ·obtain rfl := oI ho
   have d5 : listed.getD 5 false = true := hdep ⟨5, .data⟩ (by simp) rfl
   have q10 : a.tmps[10]?.getD undef = Value.pointer (some ⟨w.heap.size + 1, 0, none⟩) := hI.val 5 _ 10 _ rfl rfl rfl d5
   have x0 := (HR.out.2.after hB).c 0 rfl
   have x1 := (HR.out.2.after hB).c 1 rfl
   clear hdep hI ho hF
   go_simp
   exact hK (by decide) (Value.agg #[.bool t, .slice E i f]) _ (fun u hu => oV hu) (Below.refl _ _) (fct_none rfl)
  ·obtain rfl := oI ho
   have q2 : a.tmps[2]?.getD undef = Value.pointer (some ⟨w.heap.size, 0, none⟩) := hI.old 2 (noDst_spec (by kernel_rfl))
   clear hdep hI ho hF
   go_simp
   exact hK (by decide) (Value.pointer (some ⟨w.heap.size, 2, none⟩)) _ (fun u hu => oV hu) (Below.refl _ _) (fct_none rfl)
  ·obtain rfl := oI ho
   have d7 : listed.getD 7 false = true := hdep ⟨7, .data⟩ (by simp) rfl
   have q12 : a.tmps[12]?.getD undef = Value.pointer (some ⟨w.heap.size, 2, none⟩) := hI.val 7 _ 12 _ rfl rfl rfl d7
   have x0 := (HR.out.1.after hB).c 2 rfl
   have x1 := (HR.out.1.after hB).c 3 rfl
   clear hdep hI ho hF
   go_simp
   exact hK (by decide) (Value.agg #[.bool q, .slice B j d]) _ (fun u hu => oV hu) (Below.refl _ _) (fct_none rfl)
  ·obtain rfl := oI ho
   have d6 : listed.getD 6 false = true := hdep ⟨6, .data⟩ (by simp) rfl
   have q11 : a.tmps[11]?.getD undef = Value.agg #[.bool t, .slice E i f] := hI.val 6 _ 11 _ rfl rfl rfl d6
   have d8 : listed.getD 8 false = true := hdep ⟨8, .data⟩ (by simp) rfl
   have q13 : a.tmps[13]?.getD undef = Value.agg #[.bool q, .slice B j d] := hI.val 8 _ 13 _ rfl rfl rfl d8
   clear hdep hI ho hF
   go_simp
   refine (H2.out _ (HD.out.2.2.1.below hB) (HD.out.2.1.below hB)).mono ?_
   rintro e W2 ⟨X, x, rfl, hx, hX, hb⟩
   exact hK (by decide) (.agg #[.bool _, .slice X _ x]) _ (fun u hu => nV hu) hb (fun p hp e => by
    simp only [List.mem_cons, List.not_mem_nil, or_false] at hp
    rcases hp with rfl | rfl
    ·exact absurd e (fct_ne (i := 4) rfl)
    ·exact ⟨X, x, rfl, hx, hX⟩)
  ·obtain rfl := oI ho
   have d4 : listed.getD 4 false = true := hdep ⟨4, .data⟩ (by simp) rfl
   have d9 : listed.getD 9 false = true := hdep ⟨9, .data⟩ (by simp) rfl
   obtain ⟨X, x, hq1, hx, hX⟩ := hF (bgFct 4 9 s1 m1 k1) (by simp) d4
   obtain ⟨Y, y, hq2, hy, hY⟩ := hF (bgFct 9 14 s2 m2 k2) (by simp) d9
   have q9 : a.tmps[9]?.getD undef = .agg #[.bool s1, .slice X k1 x] := hq1
   have q14 : a.tmps[14]?.getD undef = .agg #[.bool s2, .slice Y k2 y] := hq2
   have HC := Lib.hid (H3.out X x Y y W hX hY)
   clear hdep hI ho hF hx hy hX hY hq1 hq2
   go_simp
   refine HC.out.mono ?_
   rintro e W2 ⟨rfl, hb⟩
   exact hK (by decide) (Value.int .i64 r) _ (fun u hu => oV hu) hb (fct_none rfl)
  ·obtain rfl := oI ho
   have d10 : listed.getD 10 false = true := hdep ⟨10, .data⟩ (by simp) rfl
   have q15 : a.tmps[15]?.getD undef = Value.int .i64 r := hI.val 10 _ 15 _ rfl rfl rfl d10
   clear hdep hI ho hF
   go_simp
   exact hK (by decide) (Value.int .i64 r) _ (fun u hu => oV hu) (Below.refl _ _) (fct_none rfl)
 ·intro listed a W hI hall hfin hend
  obtain ⟨hBW, _⟩ := hend rfl
  have q4 : a.tmps[4]?.getD undef = Value.int .i64 r := hI.val 11 _ 4 _ rfl rfl rfl (hall 11 (by decide))
  have hdf : a.defers = [] := hI.defers
  have HE := Lib.hid (hb0.trans (hBW.mono hb0.size))
  clear hBW hall hfin hend hI
  obtain ⟨tm, df⟩ := a
  simp only at hdf q4
  subst hdf
  go_wp2_with fail
  exact bodyPost_ret (v := .int .i64 r) (by simp [results, Tryz.results59, go_sem, q4]) rfl ⟨rfl, HE.out⟩
theorem rcmp_any (n d n2 d2 : Int) (A B E G : Option Addr) (c e f h : Nat) (w : World) (hd : 0 < d) (hd2 : 0 < d2) (h1 : n.natAbs < T256) (h2 : d.natAbs < T256) (h3 : n2.natAbs < T256) (h4 : d2.natAbs < T256)
 (m1 : (n * d2).natAbs < T256) (m2 : (n2 * d).natAbs < T256) (dA : DS w n.natAbs A) (dB : DS w d.natAbs B) (dE : DS w n2.natAbs E) (dG : DS w d2.natAbs G) :
 Calls Tryz.prog 59 #[.agg #[.bool (decide (n < 0)), .slice A (L16 n.natAbs) c, .bool false, .slice B (L16 d.natAbs) e], .agg #[.bool (decide (n2 < 0)), .slice E (L16 n2.natAbs) f, .bool false, .slice G (L16 d2.natAbs) h]] w fun e w' => e = .returned (.int .i64 (cmpI (n * d2) (n2 * d))) ∧ Below w.heap.size w w' := by
 have d0 : decide (d < 0) = false := by simp; omega
 have d20 : decide (d2 < 0) = false := by simp; omega
 refine rcmp_core _ _ _ _ (decide (n * d2 < 0)) (decide (n2 * d < 0)) A B E G _ c _ e _ f _ h _ _ _ _ (n * d2).natAbs (L16 (n * d2).natAbs) (n2 * d).natAbs (L16 (n2 * d).natAbs) _ w dA dB dE dG ?_ ?_ ?_
 ·intro W hA hG
  have := mul_z n d2 A G c h W hA hG (L16_T h1) (L16_T h4)
  rw [bigv, bigv, d20] at this
  exact this.mono fun _ _ h => bg_of rfl h
 ·intro W hE hB
  have := mul_z n2 d E B f e W hE hB (L16_T h3) (L16_T h2)
  rw [bigv, bigv, d0] at this
  exact this.mono fun _ _ h => bg_of rfl h
 ·intro X x Y y W hX hY
  exact cmp_z (n * d2) (n2 * d) X Y x y W hX hY (L16_T6 m1) (L16_T6 m2)
end Go.Proofs.YtdfmmkidknginaaGreatDoor

namespace Go.Proofs.YtdfmmkidknginaaGreatDoor
open Go.RowKit CrossMath
structure NegZ (w : World) (A B : Option Addr) (s0 s : Bool) (k c j d m p : Nat) (ls : Nat → Bool) (W : World) : Prop where
 c10 : ls 1 = true → ls 0 = true
 c41 : ls 4 = true → ls 1 = true
 c32 : ls 3 = true → ls 2 = true
 c53 : ls 5 = true → ls 3 = true
 n : Row W w.heap.size [.bool (if ls 4 = true then s else s0), .slice A k c]
 d : Row W (w.heap.size + 1) [.bool (if ls 5 = true then false else true), .slice B j d]
 z : Row W (w.heap.size + 1 + 1) [.bool false, .slice none 0 0, .bool false, .slice none 0 0]
 dA : DS W m A
 dB : DS W p B
 b : Below w.heap.size w W
section
variable {w : World} {A B : Option Addr} {s0 s : Bool} {k c j d m p : Nat} {listed : Array Bool} {W W1 : World}
theorem NegZ.no4 {ls : Nat → Bool} (h : NegZ w A B s0 s k c j d m p ls W) (h0 : ls 0 = false) : ls 4 = false := by
 cases e : ls 4 with
 | false => rfl
 | true => rw [h.c10 (h.c41 e)] at h0; cases h0
theorem NegZ.no5 {ls : Nat → Bool} (h : NegZ w A B s0 s k c j d m p ls W) (h0 : ls 2 = false) : ls 5 = false := by
 cases e : ls 5 with
 | false => rfl
 | true => rw [h.c32 (h.c53 e)] at h0; cases h0
theorem neg_off {i k : Nat} (h : i ≠ k) : (listed.setIfInBounds i true).getD k false = listed.getD k false := getD_set_ne false h
theorem NegZ.next (h : NegZ w A B s0 s k c j d m p (fun j => listed.getD j false) W) (i : Nat) (hi : i ≠ 4 ∧ i ≠ 5) (h1 : i = 1 → listed.getD 0 false = true) (h3 : i = 3 → listed.getD 2 false = true) (hb : Below W.heap.size W W1) :
 NegZ w A B s0 s k c j d m p (fun j => (listed.setIfInBounds i true).getD j false) W1 := by
 have e4 := neg_off (listed := listed) (i := i) (k := 4) hi.1
 have e5 := neg_off (listed := listed) (i := i) (k := 5) hi.2
 refine ⟨fun q => ?_, fun q => ?_, fun q => ?_, fun q => ?_, ?_, ?_, h.z.after hb, h.dA.below hb, h.dB.below hb, h.b.trans (hb.mono h.b.size)⟩
 ·by_cases e : i = 1
  ·exact fct_up (h1 e)
  ·simp only [neg_off e] at q; exact fct_up (h.c10 q)
 ·simp only [e4] at q; exact fct_up (h.c41 q)
 ·by_cases e : i = 3
  ·exact fct_up (h3 e)
  ·simp only [neg_off e] at q; exact fct_up (h.c32 q)
 ·simp only [e5] at q; exact fct_up (h.c53 q)
 ·simp only [e4]; exact h.n.after hb
 ·simp only [e5]; exact h.d.after hb
theorem NegZ.put4 (h : NegZ w A B s0 s k c j d m p (fun j => listed.getD j false) W) (hs : listed.size = 6) (h1 : listed.getD 1 false = true) :
 NegZ w A B s0 s k c j d m p (fun j => (listed.setIfInBounds 4 true).getD j false) ((W.setCell ⟨w.heap.size, 0, none⟩ (.bool s)).setCell ⟨w.heap.size, 1, none⟩ (.slice A k c)) := by
 have e : (listed.setIfInBounds 4 true).getD 4 false = true := by simp [hs]
 have hn := h.n
 have ho := On.setCells W w.heap.size [.bool s, .slice A k c] 0 W (On.refl W _)
 have hc := hn.c 0 rfl
 refine ⟨fun q => ?_, fun _ => fct_up h1, fun q => ?_, fun q => ?_, ?_, ?_, ho.row (by omega) h.z, h.dA.on ho hc, h.dB.on ho hc, below_put1 (below_put1 h.b (Nat.le_refl _) 0 _) (Nat.le_refl _) 1 _⟩
 ·simp only [neg_off (show 4 ≠ 1 by decide)] at q; exact fct_up (h.c10 q)
 ·simp only [neg_off (show 4 ≠ 3 by decide)] at q; exact fct_up (h.c32 q)
 ·simp only [neg_off (show 4 ≠ 5 by decide)] at q; exact fct_up (h.c53 q)
 ·simp only [e, if_true]
  exact (hn.set 0 (by simp) (.bool s)).set 1 (by simp) (.slice A k c)
 ·simp only [neg_off (show 4 ≠ 5 by decide)]
  exact ho.row (by omega) h.d
theorem NegZ.put5 (h : NegZ w A B s0 s k c j d m p (fun j => listed.getD j false) W) (hs : listed.size = 6) (h3 : listed.getD 3 false = true) :
 NegZ w A B s0 s k c j d m p (fun j => (listed.setIfInBounds 5 true).getD j false) ((W.setCell ⟨w.heap.size + 1, 0, none⟩ (.bool false)).setCell ⟨w.heap.size + 1, 1, none⟩ (.slice B j d)) := by
 have e : (listed.setIfInBounds 5 true).getD 5 false = true := by simp [hs]
 have hn := h.d
 have ho := On.setCells W (w.heap.size + 1) [.bool false, .slice B j d] 0 W (On.refl W _)
 have hc := hn.c 0 rfl
 refine ⟨fun q => ?_, fun q => ?_, fun q => ?_, fun _ => fct_up h3, ?_, ?_, ho.row (by omega) h.z, h.dA.on ho hc, h.dB.on ho hc, below_put1 (below_put1 h.b (by omega) 0 _) (by omega) 1 _⟩
 ·simp only [neg_off (show 5 ≠ 1 by decide)] at q; exact fct_up (h.c10 q)
 ·simp only [neg_off (show 5 ≠ 4 by decide)] at q; exact fct_up (h.c41 q)
 ·simp only [neg_off (show 5 ≠ 3 by decide)] at q; exact fct_up (h.c32 q)
 ·simp only [neg_off (show 5 ≠ 4 by decide)]
  exact ho.row (by omega) h.n
 ·simp only [e, if_true]
  exact (hn.set 0 (by simp) (.bool false)).set 1 (by simp) (.slice B j d)
end
set_option maxRecDepth 100000 in
set_option maxHeartbeats 3200000 in
theorem make_one_neg (s s0 : Bool) (A B : Option Addr) (m p k j c d k1 : Nat) (w : World) (dA : DS w m A) (dB : DS w p B) (ck : k ≤ c) (cj : j ≤ d)
 (hN1 : ∀ W, DS W m A → Calls Tryz.prog 78 #[.agg #[.bool s0, .slice A k c]] W fun e w' => e = .returned (.agg #[.bool s, .slice A k c]) ∧ Below W.heap.size W w')
 (hN2 : ∀ W, DS W p B → Calls Tryz.prog 78 #[.agg #[.bool true, .slice B j d]] W fun e w' => e = .returned (.agg #[.bool false, .slice B j d]) ∧ Below W.heap.size W w')
 (hNum : ∀ W, Calls Tryz.prog 80 #[.int .i64 1] W (BgPost W false 1 k1))
 (hCmp : ∀ E h W, DS W p B → DS W 1 E → Calls Tryz.prog 79 #[.agg #[.bool false, .slice B j d], .agg #[.bool false, .slice E k1 h]] W fun e w' => e = .returned (.int .i64 0) ∧ Below W.heap.size W w')
 :
  Calls Tryz.prog 44 #[.agg #[.bool s0, .slice A k c], .agg #[.bool true, .slice B j d]] w (RqPost w s false m p k j) := by
  have HN1 := Lib.hid hN1; clear hN1
  have HN2 := Lib.hid hN2; clear hN2
  have HNum := Lib.hid hNum; clear hNum
  have HCmp := Lib.hid hCmp; clear hCmp
  have HC := Lib.hid (And.intro ck cj); clear ck cj
  go_enter Tryz.func44, Tryz.ntmps44
  go_upto_region 1 with fail
  generalize hW : World.alloc _ _ = W0
  have hb0 : Below w.heap.size w W0 := by rw [← hW]; exact (((Below.refl w.heap.size w).alloc (Nat.le_refl _) _).alloc (by simp) _).alloc (by simp; omega) _
  have rN0 : Row W0 w.heap.size [.bool s0, .slice A k c] := by rw [← hW]; exact ((Row.at rfl [_, _] _).alloc _).alloc _
  have rD0 : Row W0 (w.heap.size + 1) [.bool true, .slice B j d] := by rw [← hW]; exact (Row.at (by simp) [_, _] _).alloc _
  have rZ0 : Row W0 (w.heap.size + 1 + 1) [.bool false, .slice none 0 0, .bool false, .slice none 0 0] := by rw [← hW]; exact Row.at (by simp) _ _
  have dA0 := dA.below hb0
  have dB0 := dB.below hb0
  clear hW dA dB
  have y0 := rD0.c 0 rfl
  go_upto_region 2 with fail
  clear y0
  have HS0 : NegZ w A B s0 s k c j d m p (fun _ => false) W0.drew := ⟨fun h => absurd h Bool.false_ne_true, fun h => absurd h Bool.false_ne_true, fun h => absurd h Bool.false_ne_true, fun h => absurd h Bool.false_ne_true, rN0.drew, rD0.drew, rZ0.drew, dA0, dB0, hb0.drew⟩
  clear rN0 rD0 rZ0 dA0 dB0 hb0
  refine wp_region_mid (by kernel_rfl) (fun i => match i with
   | 0 => some (.agg #[.bool s0, .slice A k c])
   | 1 => some (.agg #[.bool s, .slice A k c])
   | 2 => some (.agg #[.bool true, .slice B j d])
   | 3 => some (.agg #[.bool false, .slice B j d])
   | _ => none) (fun ls _ W => NegZ w A B s0 s k c j d m p ls W) (by kernel_rfl) HS0 ?_ ?_
  ·intro listed a W i o hI ho h0 hdep K hK
   have hi : i < 6 := (Array.getElem?_eq_some_iff.1 ho).1
   have hS : NegZ w A B s0 s k c j d m p (fun j => listed.getD j false) W := hI.world
   have hsz : listed.size = 6 := hI.lsize
   have h0' := fct_no h0
   have q2 : a.tmps[2]?.getD undef = .pointer (some ⟨w.heap.size, 0, none⟩) := hI.old 2 (noDst_spec (by kernel_rfl))
   have q3 : a.tmps[3]?.getD undef = .pointer (some ⟨w.heap.size + 1, 0, none⟩) := hI.old 3 (noDst_spec (by kernel_rfl))
   have hcase : i = 0 ∨ i = 1 ∨ i = 2 ∨ i = 3 ∨ i = 4 ∨ i = 5 := by omega
   clear hi
   rcases hcase with rfl | rfl | rfl | rfl | rfl | rfl
   ·obtain rfl := oI ho
    have r := hS.n
    have e4 : (fun j => listed.getD j false) 4 = false := hS.no4 h0'
    simp only [e4, Bool.false_eq_true, if_false] at r
    have x0 := r.c 0 rfl
    have x1 := r.c 1 rfl
    clear hdep hI ho r
    go_simp
    exact hK (.agg #[.bool s0, .slice A k c]) _ (fun u hu => oV hu) (hS.next 0 (by decide) (fun h => absurd h (by decide)) (fun h => absurd h (by decide)) (Below.refl _ _))
   ·obtain rfl := oI ho
    have d0 : listed.getD 0 false = true := hdep ⟨0, .data⟩ (by simp) rfl
    have q12 : a.tmps[12]?.getD undef = .agg #[.bool s0, .slice A k c] := hI.val 0 _ 12 _ rfl rfl rfl d0
    clear hdep hI ho
    go_simp
    refine (HN1.out _ hS.dA).mono ?_
    rintro e W2 ⟨rfl, hb⟩
    exact hK (.agg #[.bool s, .slice A k c]) _ (fun u hu => oV hu) (hS.next 1 (by decide) (fun _ => d0) (fun h => absurd h (by decide)) hb)
   ·obtain rfl := oI ho
    have r := hS.d
    have e5 : (fun j => listed.getD j false) 5 = false := hS.no5 h0'
    simp only [e5, Bool.false_eq_true, if_false] at r
    have x0 := r.c 0 rfl
    have x1 := r.c 1 rfl
    clear hdep hI ho r
    go_simp
    exact hK (.agg #[.bool true, .slice B j d]) _ (fun u hu => oV hu) (hS.next 2 (by decide) (fun h => absurd h (by decide)) (fun h => absurd h (by decide)) (Below.refl _ _))
   ·obtain rfl := oI ho
    have d2 : listed.getD 2 false = true := hdep ⟨2, .data⟩ (by simp) rfl
    have q14 : a.tmps[14]?.getD undef = .agg #[.bool true, .slice B j d] := hI.val 2 _ 14 _ rfl rfl rfl d2
    clear hdep hI ho
    go_simp
    refine (HN2.out _ hS.dB).mono ?_
    rintro e W2 ⟨rfl, hb⟩
    exact hK (.agg #[.bool false, .slice B j d]) _ (fun u hu => oV hu) (hS.next 3 (by decide) (fun h => absurd h (by decide)) (fun _ => d2) hb)
   ·obtain rfl := oI ho
    have d1 : listed.getD 1 false = true := hdep ⟨1, .data⟩ (by simp) rfl
    have q13 : a.tmps[13]?.getD undef = .agg #[.bool s, .slice A k c] := hI.val 1 _ 13 _ rfl rfl rfl d1
    have r := hS.n
    have e4 : (fun j => listed.getD j false) 4 = false := h0'
    simp only [e4, Bool.false_eq_true, if_false] at r
    have x0 := r.c 0 rfl
    have x1 := r.c 1 rfl
    have f0 := r.f 0 rfl
    have f1 := r.f 1 rfl
    clear hdep hI ho r e4
    go_simp
    exact hK undef _ (fun u hu => nV hu) (hS.put4 hsz d1)
   ·obtain rfl := oI ho
    have d3 : listed.getD 3 false = true := hdep ⟨3, .data⟩ (by simp) rfl
    have q15 : a.tmps[15]?.getD undef = .agg #[.bool false, .slice B j d] := hI.val 3 _ 15 _ rfl rfl rfl d3
    have r := hS.d
    have e5 : (fun j => listed.getD j false) 5 = false := h0'
    simp only [e5, Bool.false_eq_true, if_false] at r
    have x0 := r.c 0 rfl
    have x1 := r.c 1 rfl
    have f0 := r.f 0 rfl
    have f1 := r.f 1 rfl
    clear hdep hI ho r e5
    go_simp
    exact hK undef _ (fun u hu => nV hu) (hS.put5 hsz d3)
  intro listed a1 W1 hI hall
  have hS : NegZ w A B s0 s k c j d m p (fun j => listed.getD j false) W1 := hI.world
  have rN := hS.n
  have rD := hS.d
  have e4 : (fun j => listed.getD j false) 4 = true := hall 4 (by decide)
  have e5 : (fun j => listed.getD j false) 5 = true := hall 5 (by decide)
  simp only [e4, if_true] at rN
  simp only [e5, if_true] at rD
  have rZ := hS.z
  have dA := hS.dA
  have dB := hS.dB
  have hb0 := hS.b
  obtain ⟨f, hf⟩ : ∃ f : Nat → Value, ∀ t, slotOf a1 t = f t := ⟨_, fun _ => rfl⟩
  have ha := hI.frame [12, 13, 14, 15] (by kernel_rfl) f hf
  clear hf hI hall hS e4 e5 HS0 HN1 HN2
  subst ha
  simp only [setAll, List.foldl_cons, List.foldl_nil, List.setIfInBounds_toArray, List.set_cons_zero, List.set_cons_succ]
  generalize W1 = W0 at *
  have HD := Lib.hid (And.intro dA dB)
  have HR := Lib.hid (And.intro rN (And.intro rD (And.intro rZ hb0)))
  clear dA dB rN rD rZ hb0
  go_upto_region 3 with fail
  have hk0 : KS w [(w.heap.size, #[.bool s, .slice A k c]), ((w.heap.size + 1), #[.bool false, .slice B j d]), ((w.heap.size + 1 + 1), #[.bool false, .slice none 0 0, .bool false, .slice none 0 0])] W0 := ⟨fun q hq => by
   simp only [List.mem_cons, List.not_mem_nil, or_false] at hq
   rcases hq with rfl | rfl | rfl
   ·exact HR.out.1
   ·exact HR.out.2.1
   ·exact HR.out.2.2.1, HR.out.2.2.2⟩
  clear HR
  generalize hL : [(w.heap.size, #[.bool s, .slice A k c]), ((w.heap.size + 1), #[.bool false, .slice B j d]), ((w.heap.size + 1 + 1), (#[.bool false, .slice none 0 0, .bool false, .slice none 0 0] : Array Value))] = L at hk0
  have HL := Lib.hid hL; clear hL
  have l0 : ∀ W, KS w L W → W.cell? ⟨(w.heap.size + 1), 0, none⟩ = some (.bool false) := fun W h => h.c 1 (by rw [← HL.out]; rfl) 0 rfl
  have l1 : ∀ W, KS w L W → W.cell? ⟨(w.heap.size + 1), 1, none⟩ = some (.slice B j d) := fun W h => h.c 1 (by rw [← HL.out]; rfl) 1 rfl
  have dA := HD.out.1.drew'
  have dB := HD.out.2.drew'
  clear HD
  have hk := hk0.drew
  clear hk0
  go_region_held3 (fun W : World => KS w L W)
   (repeat (first | (with_reducible assumption) | (with_reducible refine KS.drew ?_) | (with_reducible refine KS.after ?_ hb)))
   (first
     | (go_at_call 80; (with_reducible refine (HNum.out _).mono ?_); rintro e w' ⟨E, h, rfl, _, dE, hb⟩; (replace dA := dA.below hb); (replace dB := dB.below hb))
     | (go_at_call 79; (with_reducible refine (HCmp.out _ _ _ dB dE).mono ?_); rintro e w' ⟨rfl, hb⟩; (replace dA := dA.below hb); (replace dB := dB.below hb)))
  have hK := ‹KS w L _›
  have HD := Lib.hid (And.intro dA dB)
  clear dA dB dE l0 l1
  have x0 := hK.c 0 (b := w.heap.size) (cs := #[.bool s, .slice A k c]) (by rw [← HL.out]; rfl) 0 rfl
  have x1 := hK.c 0 (b := w.heap.size) (cs := #[.bool s, .slice A k c]) (by rw [← HL.out]; rfl) 1 rfl
  have y0 := hK.c 1 (b := w.heap.size + 1) (cs := #[.bool false, .slice B j d]) (by rw [← HL.out]; rfl) 0 rfl
  have y1 := hK.c 1 (b := w.heap.size + 1) (cs := #[.bool false, .slice B j d]) (by rw [← HL.out]; rfl) 1 rfl
  have rZ := hK.row 2 (b := w.heap.size + 1 + 1) (cs := #[.bool false, .slice none 0 0, .bool false, .slice none 0 0]) (by rw [← HL.out]; rfl)
  have hB := Lib.hid hK.2
  clear hK HL hk
  go_wp2_with (refine wpList_store_R rfl _ _ _ rfl _ #[.bool s, .slice A k c, .bool false, .slice B j d] rfl rfl _ rZ (by rfl) agg_rrat (by simp [OneC, Value.oneCell']) ?_; intro w3 r3 o3)
  exact bodyPost_ret (results_R1 (cs := #[.bool s, .slice A k c, .bool false, .slice B j d]) rfl rfl r3 agg_rrat) rfl ⟨A, c, B, d, rfl, HC.out, ⟨HD.out.1.on o3 (rZ.c 0 rfl), HD.out.2.on o3 (rZ.c 0 rfl)⟩, below_on hB.out o3 (by omega)⟩
set_option maxRecDepth 100000 in
set_option maxHeartbeats 3200000 in
theorem make_gen_neg (s s0 u v : Bool) (A B : Option Addr) (m p k j c d k1 gm gk xm xk ym yk : Nat) (r : Int) (w : World) (dA : DS w m A) (dB : DS w p B) (ck : k ≤ c) (cj : j ≤ d)
 (hN1 : ∀ W, DS W m A → Calls Tryz.prog 78 #[.agg #[.bool s0, .slice A k c]] W fun e w' => e = .returned (.agg #[.bool s, .slice A k c]) ∧ Below W.heap.size W w')
 (hN2 : ∀ W, DS W p B → Calls Tryz.prog 78 #[.agg #[.bool true, .slice B j d]] W fun e w' => e = .returned (.agg #[.bool false, .slice B j d]) ∧ Below W.heap.size W w')
 (hNum : ∀ W, Calls Tryz.prog 80 #[.int .i64 1] W (BgPost W false 1 k1))
 (hCmp : ∀ E h W, DS W p B → DS W 1 E → Calls Tryz.prog 79 #[.agg #[.bool false, .slice B j d], .agg #[.bool false, .slice E k1 h]] W fun e w' => e = .returned (.int .i64 r) ∧ Below W.heap.size W w')
 (hGcd : ∀ W, DS W m A → DS W p B → Calls Tryz.prog 81 #[.agg #[.bool s, .slice A k c], .agg #[.bool false, .slice B j d]] W (BgPost W false gm gk))
 (hQ1 : ∀ E h W, DS W m A → DS W gm E → gk ≤ h → Calls Tryz.prog 82 #[.agg #[.bool s, .slice A k c], .agg #[.bool false, .slice E gk h]] W fun e w' => ∃ X x Y y rs rk, e = .returned (.tuple #[.agg #[.bool u, .slice X xk x], .agg #[.bool rs, .slice Y rk y]]) ∧ xk ≤ x ∧ DS w' xm X ∧ Below W.heap.size W w')
 (hQ2 : ∀ E h W, DS W p B → DS W gm E → gk ≤ h → Calls Tryz.prog 82 #[.agg #[.bool false, .slice B j d], .agg #[.bool false, .slice E gk h]] W fun e w' => ∃ X x Y y rs rk, e = .returned (.tuple #[.agg #[.bool v, .slice X yk x], .agg #[.bool rs, .slice Y rk y]]) ∧ yk ≤ x ∧ DS w' ym X ∧ Below W.heap.size W w') (hr : r ≠ 0) :
 Calls Tryz.prog 44 #[.agg #[.bool s0, .slice A k c], .agg #[.bool true, .slice B j d]] w (RqPost w u v xm ym xk yk) := by
 have HN1 := Lib.hid hN1; clear hN1
 have HN2 := Lib.hid hN2; clear hN2
 have HNum := Lib.hid hNum; clear hNum
 have HCmp := Lib.hid hCmp; clear hCmp
 have HGcd := Lib.hid hGcd; clear hGcd
 have HQ1 := Lib.hid hQ1; clear hQ1
 have HQ2 := Lib.hid hQ2; clear hQ2
 have hr0 : (r == 0) = false := by simpa using hr
 clear hr
 have HC := Lib.hid (And.intro ck cj); clear ck cj
 go_enter Tryz.func44, Tryz.ntmps44
 go_upto_region 1 with fail
 generalize hW : World.alloc _ _ = W0
 have hb0 : Below w.heap.size w W0 := by rw [← hW]; exact (((Below.refl w.heap.size w).alloc (Nat.le_refl _) _).alloc (by simp) _).alloc (by simp; omega) _
 have rN0 : Row W0 w.heap.size [.bool s0, .slice A k c] := by rw [← hW]; exact ((Row.at rfl [_, _] _).alloc _).alloc _
 have rD0 : Row W0 (w.heap.size + 1) [.bool true, .slice B j d] := by rw [← hW]; exact (Row.at (by simp) [_, _] _).alloc _
 have rZ0 : Row W0 (w.heap.size + 1 + 1) [.bool false, .slice none 0 0, .bool false, .slice none 0 0] := by rw [← hW]; exact Row.at (by simp) _ _
 have dA0 := dA.below hb0
 have dB0 := dB.below hb0
 clear hW dA dB
 have y0 := rD0.c 0 rfl
 go_upto_region 2 with fail
 clear y0
 have HS0 : NegZ w A B s0 s k c j d m p (fun _ => false) W0.drew := ⟨fun h => absurd h Bool.false_ne_true, fun h => absurd h Bool.false_ne_true, fun h => absurd h Bool.false_ne_true, fun h => absurd h Bool.false_ne_true, rN0.drew, rD0.drew, rZ0.drew, dA0, dB0, hb0.drew⟩
 clear rN0 rD0 rZ0 dA0 dB0 hb0
 refine wp_region_mid (by kernel_rfl) (fun i => match i with
  | 0 => some (.agg #[.bool s0, .slice A k c])
  | 1 => some (.agg #[.bool s, .slice A k c])
  | 2 => some (.agg #[.bool true, .slice B j d])
  | 3 => some (.agg #[.bool false, .slice B j d])
  | _ => none) (fun ls _ W => NegZ w A B s0 s k c j d m p ls W) (by kernel_rfl) HS0 ?_ ?_
 ·intro listed a W i o hI ho h0 hdep K hK
  have hi : i < 6 := (Array.getElem?_eq_some_iff.1 ho).1
  have hS : NegZ w A B s0 s k c j d m p (fun j => listed.getD j false) W := hI.world
  have hsz : listed.size = 6 := hI.lsize
  have h0' := fct_no h0
  have q2 : a.tmps[2]?.getD undef = .pointer (some ⟨w.heap.size, 0, none⟩) := hI.old 2 (noDst_spec (by kernel_rfl))
  have q3 : a.tmps[3]?.getD undef = .pointer (some ⟨w.heap.size + 1, 0, none⟩) := hI.old 3 (noDst_spec (by kernel_rfl))
  have hcase : i = 0 ∨ i = 1 ∨ i = 2 ∨ i = 3 ∨ i = 4 ∨ i = 5 := by omega
  clear hi
  rcases hcase with rfl | rfl | rfl | rfl | rfl | rfl
  ·obtain rfl := oI ho
   have r := hS.n
   have e4 : (fun j => listed.getD j false) 4 = false := hS.no4 h0'
   simp only [e4, Bool.false_eq_true, if_false] at r
   have x0 := r.c 0 rfl
   have x1 := r.c 1 rfl
   clear hdep hI ho r
   go_simp
   exact hK (.agg #[.bool s0, .slice A k c]) _ (fun u hu => oV hu) (hS.next 0 (by decide) (fun h => absurd h (by decide)) (fun h => absurd h (by decide)) (Below.refl _ _))
  ·obtain rfl := oI ho
   have d0 : listed.getD 0 false = true := hdep ⟨0, .data⟩ (by simp) rfl
   have q12 : a.tmps[12]?.getD undef = .agg #[.bool s0, .slice A k c] := hI.val 0 _ 12 _ rfl rfl rfl d0
   clear hdep hI ho
   go_simp
   refine (HN1.out _ hS.dA).mono ?_
   rintro e W2 ⟨rfl, hb⟩
   exact hK (.agg #[.bool s, .slice A k c]) _ (fun u hu => oV hu) (hS.next 1 (by decide) (fun _ => d0) (fun h => absurd h (by decide)) hb)
  ·obtain rfl := oI ho
   have r := hS.d
   have e5 : (fun j => listed.getD j false) 5 = false := hS.no5 h0'
   simp only [e5, Bool.false_eq_true, if_false] at r
   have x0 := r.c 0 rfl
   have x1 := r.c 1 rfl
   clear hdep hI ho r
   go_simp
   exact hK (.agg #[.bool true, .slice B j d]) _ (fun u hu => oV hu) (hS.next 2 (by decide) (fun h => absurd h (by decide)) (fun h => absurd h (by decide)) (Below.refl _ _))
  ·obtain rfl := oI ho
   have d2 : listed.getD 2 false = true := hdep ⟨2, .data⟩ (by simp) rfl
   have q14 : a.tmps[14]?.getD undef = .agg #[.bool true, .slice B j d] := hI.val 2 _ 14 _ rfl rfl rfl d2
   clear hdep hI ho
   go_simp
   refine (HN2.out _ hS.dB).mono ?_
   rintro e W2 ⟨rfl, hb⟩
   exact hK (.agg #[.bool false, .slice B j d]) _ (fun u hu => oV hu) (hS.next 3 (by decide) (fun h => absurd h (by decide)) (fun _ => d2) hb)
  ·obtain rfl := oI ho
   have d1 : listed.getD 1 false = true := hdep ⟨1, .data⟩ (by simp) rfl
   have q13 : a.tmps[13]?.getD undef = .agg #[.bool s, .slice A k c] := hI.val 1 _ 13 _ rfl rfl rfl d1
   have r := hS.n
   have e4 : (fun j => listed.getD j false) 4 = false := h0'
   simp only [e4, Bool.false_eq_true, if_false] at r
   have x0 := r.c 0 rfl
   have x1 := r.c 1 rfl
   have f0 := r.f 0 rfl
   have f1 := r.f 1 rfl
   clear hdep hI ho r e4
   go_simp
   exact hK undef _ (fun u hu => nV hu) (hS.put4 hsz d1)
  ·obtain rfl := oI ho
   have d3 : listed.getD 3 false = true := hdep ⟨3, .data⟩ (by simp) rfl
   have q15 : a.tmps[15]?.getD undef = .agg #[.bool false, .slice B j d] := hI.val 3 _ 15 _ rfl rfl rfl d3
   have r := hS.d
   have e5 : (fun j => listed.getD j false) 5 = false := h0'
   simp only [e5, Bool.false_eq_true, if_false] at r
   have x0 := r.c 0 rfl
   have x1 := r.c 1 rfl
   have f0 := r.f 0 rfl
   have f1 := r.f 1 rfl
   clear hdep hI ho r e5
   go_simp
   exact hK undef _ (fun u hu => nV hu) (hS.put5 hsz d3)
 intro listed a1 W1 hI hall
 have hS : NegZ w A B s0 s k c j d m p (fun j => listed.getD j false) W1 := hI.world
 have rN := hS.n
 have rD := hS.d
 have e4 : (fun j => listed.getD j false) 4 = true := hall 4 (by decide)
 have e5 : (fun j => listed.getD j false) 5 = true := hall 5 (by decide)
 simp only [e4, if_true] at rN
 simp only [e5, if_true] at rD
 have rZ := hS.z
 have dA := hS.dA
 have dB := hS.dB
 have hb0 := hS.b
 obtain ⟨f, hf⟩ : ∃ f : Nat → Value, ∀ t, slotOf a1 t = f t := ⟨_, fun _ => rfl⟩
 have ha := hI.frame [12, 13, 14, 15] (by kernel_rfl) f hf
 clear hf hI hall hS e4 e5 HS0 HN1 HN2
 subst ha
 simp only [setAll, List.foldl_cons, List.foldl_nil, List.setIfInBounds_toArray, List.set_cons_zero, List.set_cons_succ]
 generalize W1 = W0 at *
 have HD := Lib.hid (And.intro dA dB)
 have HR := Lib.hid (And.intro rN (And.intro rD (And.intro rZ hb0)))
 clear dA dB rN rD rZ hb0
 go_upto_region 3 with fail
 have hk0 : KS w [(w.heap.size, #[.bool s, .slice A k c]), ((w.heap.size + 1), #[.bool false, .slice B j d]), ((w.heap.size + 1 + 1), #[.bool false, .slice none 0 0, .bool false, .slice none 0 0])] W0 := ⟨fun q hq => by
  simp only [List.mem_cons, List.not_mem_nil, or_false] at hq
  rcases hq with rfl | rfl | rfl
  ·exact HR.out.1
  ·exact HR.out.2.1
  ·exact HR.out.2.2.1, HR.out.2.2.2⟩
 clear HR
 generalize hL : [(w.heap.size, #[.bool s, .slice A k c]), ((w.heap.size + 1), #[.bool false, .slice B j d]), ((w.heap.size + 1 + 1), (#[.bool false, .slice none 0 0, .bool false, .slice none 0 0] : Array Value))] = L at hk0
 have HL := Lib.hid hL; clear hL
 have l0 : ∀ W, KS w L W → W.cell? ⟨(w.heap.size + 1), 0, none⟩ = some (.bool false) := fun W h => h.c 1 (by rw [← HL.out]; rfl) 0 rfl
 have l1 : ∀ W, KS w L W → W.cell? ⟨(w.heap.size + 1), 1, none⟩ = some (.slice B j d) := fun W h => h.c 1 (by rw [← HL.out]; rfl) 1 rfl
 have dA := HD.out.1.drew'
 have dB := HD.out.2.drew'
 clear HD
 have hk := hk0.drew
 clear hk0
 go_region_held3 (fun W : World => KS w L W)
  (repeat (first | (with_reducible assumption) | (with_reducible refine KS.drew ?_) | (with_reducible refine KS.after ?_ hb)))
  (first
    | (go_at_call 80; (with_reducible refine (HNum.out _).mono ?_); rintro e w' ⟨E, h, rfl, _, dE, hb⟩; (replace dA := dA.below hb); (replace dB := dB.below hb))
    | (go_at_call 79; (with_reducible refine (HCmp.out _ _ _ dB dE).mono ?_); rintro e w' ⟨rfl, hb⟩; (replace dA := dA.below hb); (replace dB := dB.below hb)))
 have hK := ‹KS w L _›
 have HD := Lib.hid (And.intro dA dB)
 clear dA dB dE l0 l1
 have x0 := hK.c 0 (b := w.heap.size) (cs := #[.bool s, .slice A k c]) (by rw [← HL.out]; rfl) 0 rfl
 have x1 := hK.c 0 (b := w.heap.size) (cs := #[.bool s, .slice A k c]) (by rw [← HL.out]; rfl) 1 rfl
 have y0 := hK.c 1 (b := w.heap.size + 1) (cs := #[.bool false, .slice B j d]) (by rw [← HL.out]; rfl) 0 rfl
 have y1 := hK.c 1 (b := w.heap.size + 1) (cs := #[.bool false, .slice B j d]) (by rw [← HL.out]; rfl) 1 rfl
 clear hk
 go_wp2_with fail
 refine (HGcd.out _ HD.out.1 HD.out.2).mono ?_
 rintro e w1 ⟨G, g, rfl, cg, dG, hb⟩
 replace hK := hK.after hb
 have HD1 := Lib.hid (And.intro (HD.out.1.below hb) (And.intro (HD.out.2.below hb) dG))
 have CG := Lib.hid cg
 clear hb HD dG cg x0 x1 y0 y1
 go_upto_region 6 with (refine wpList_store_R rfl _ _ _ rfl _ #[.bool false, .slice G gk g] rfl rfl _ (Row.at rfl [.bool false, .slice none 0 0] _) (by rfl) agg_big (by simp [OneC, Value.oneCell']) ?_; intro w2 r2 o2)
 have HD2 : Hid (DS w2 m A ∧ DS w2 p B ∧ DS w2 gm G) := by
  have zz := (Row.at (w := w1) rfl [.bool false, .slice none 0 0] 53).c 0 rfl
  have hb1 := (Below.refl w1.heap.size w1).alloc (Nat.le_refl _) (.cells #[.bool false, .slice none 0 0] 53)
  exact Lib.hid ⟨(HD1.out.1.below hb1).on o2 zz, (HD1.out.2.1.below hb1).on o2 zz, (HD1.out.2.2.below hb1).on o2 zz⟩
 have hK2 := KS.wroteK hK o2 r2
 clear hK o2 r2 HD1
 generalize w1.heap.size = C at *
 rw [← HL.out] at hK2
 clear HL
 have x0 := hK2.c 0 (b := w.heap.size) (cs := #[.bool s, .slice A k c]) rfl 0 rfl
 have x1 := hK2.c 0 (b := w.heap.size) (cs := #[.bool s, .slice A k c]) rfl 1 rfl
 have g0 := hK2.c 3 (b := C) (cs := #[.bool false, .slice G gk g]) rfl 0 rfl
 have g1 := hK2.c 3 (b := C) (cs := #[.bool false, .slice G gk g]) rfl 1 rfl
 have HK2 := Lib.hid hK2
 clear hK2
 go_wp2_with fail
 refine (HQ1.out _ _ _ HD2.out.1 HD2.out.2.2 CG.out).mono ?_
 rintro e w3 ⟨X, x, X', x', rs, rk, rfl, cx, dX, hb⟩
 have hK := HK2.out.after hb
 have HD3 := Lib.hid (And.intro (HD2.out.2.1.below hb) (And.intro (HD2.out.2.2.below hb) dX))
 have CX := Lib.hid cx
 clear hb HK2 HD2 dX cx x0 x1 g0 g1
 go_upto_region 7 with (first
  | (refine wpList_store_R rfl _ _ _ rfl w3.heap.size #[.bool u, .slice X xk x] rfl rfl _ ((Row.at rfl [.bool false, .slice none 0 0] _).alloc _) (by rfl) agg_big (by simp [OneC, Value.oneCell']) ?_; intro w4 r4 o4)
  | (refine wpList_store_R rfl _ _ _ rfl (w3.heap.size + 1) #[.bool rs, .slice X' rk x'] rfl rfl _ (o4.row (by omega) (Row.at (by simp) [.bool false, .slice none 0 0] _)) (by rfl) agg_big (by simp [OneC, Value.oneCell']) ?_; intro w5 r5 o5))
 have hT := two_wrote hK r4 o4 o5
 have HD4 := Lib.hid (And.intro (hT.2 _ _ HD3.out.1) (And.intro (hT.2 _ _ HD3.out.2.1) (hT.2 _ _ HD3.out.2.2)))
 have HK4 := Lib.hid hT.1
 have y0 := hT.1.c 1 (b := w.heap.size + 1) (cs := #[.bool false, .slice B j d]) rfl 0 rfl
 have y1 := hT.1.c 1 (b := w.heap.size + 1) (cs := #[.bool false, .slice B j d]) rfl 1 rfl
 have g0 := hT.1.c 3 (b := C) (cs := #[.bool false, .slice G gk g]) rfl 0 rfl
 have g1 := hT.1.c 3 (b := C) (cs := #[.bool false, .slice G gk g]) rfl 1 rfl
 clear hT hK r4 o4 r5 o5 HD3
 generalize w3.heap.size = D at *
 go_wp2_with fail
 refine (HQ2.out _ _ _ HD4.out.1 HD4.out.2.1 CG.out).mono ?_
 rintro e w6 ⟨Y, y, Y', y', rs', rk', rfl, cy, dY, hb⟩
 have hK := HK4.out.after hb
 have HD5 := Lib.hid (And.intro (HD4.out.2.2.below hb) dY)
 have CY := Lib.hid cy
 clear hb HK4 HD4 dY cy y0 y1 g0 g1
 go_upto_region 8 with (first
  | (refine wpList_store_R rfl _ _ _ rfl w6.heap.size #[.bool v, .slice Y yk y] rfl rfl _ ((Row.at rfl [.bool false, .slice none 0 0] _).alloc _) (by rfl) agg_big (by simp [OneC, Value.oneCell']) ?_; intro w7 r7 o7)
  | (refine wpList_store_R rfl _ _ _ rfl (w6.heap.size + 1) #[.bool rs', .slice Y' rk' y'] rfl rfl _ (o7.row (by omega) (Row.at (by simp) [.bool false, .slice none 0 0] _)) (by rfl) agg_big (by simp [OneC, Value.oneCell']) ?_; intro w8 r8 o8))
 have hT := two_wrote hK r7 o7 o8
 have HD6 := Lib.hid (And.intro (hT.2 _ _ HD5.out.1) (hT.2 _ _ HD5.out.2))
 have x0 := hT.1.c 4 (b := D) (cs := #[.bool u, .slice X xk x]) rfl 0 rfl
 have x1 := hT.1.c 4 (b := D) (cs := #[.bool u, .slice X xk x]) rfl 1 rfl
 have y0 := hT.1.c 5 (b := w6.heap.size) (cs := #[.bool v, .slice Y yk y]) rfl 0 rfl
 have y1 := hT.1.c 5 (b := w6.heap.size) (cs := #[.bool v, .slice Y yk y]) rfl 1 rfl
 have rZ := hT.1.row 2 (b := w.heap.size + 1 + 1) (cs := #[.bool false, .slice none 0 0, .bool false, .slice none 0 0]) rfl
 have hB := Lib.hid hT.1.2
 clear hT hK r7 o7 r8 o8 HD5
 generalize w6.heap.size = F at *
 go_wp2_with (refine wpList_store_R rfl _ _ _ rfl _ #[.bool u, .slice X xk x, .bool v, .slice Y yk y] rfl rfl _ rZ (by rfl) agg_rrat (by simp [OneC, Value.oneCell']) ?_; intro w9 r9 o9)
 exact bodyPost_ret (results_R1 (cs := #[.bool u, .slice X xk x, .bool v, .slice Y yk y]) rfl rfl r9 agg_rrat) rfl ⟨X, x, Y, y, rfl, ⟨CX.out, CY.out⟩, ⟨HD6.out.1.on o9 (rZ.c 0 rfl), HD6.out.2.on o9 (rZ.c 0 rfl)⟩, below_on hB.out o9 (by omega)⟩
end Go.Proofs.YtdfmmkidknginaaGreatDoor

namespace Go.Proofs.YtdfmmkidknginaaGreatDoor
open Go.RowKit CrossMath
theorem rmake_neg (n d : Int) (A B : Option Addr) (c e : Nat) (w : World) (hd : 0 < d) (hn : n.natAbs < T256) (hd' : d.natAbs < T256) (dA : DS w n.natAbs A) (dB : DS w d.natAbs B) (hc : L16 n.natAbs ≤ c) (he : L16 d.natAbs ≤ e) :
 Calls Tryz.prog 44 #[.agg #[.bool (decide (-n < 0)), .slice A (L16 n.natAbs) c], .agg #[.bool true, .slice B (L16 d.natAbs) e]] w (RqPost w (decide (frN n d < 0)) false (frN n d).natAbs (frD n d).natAbs (L16 (frN n d).natAbs) (L16 (frD n d).natAbs)) := by
 have d0 : decide (d < 0) = false := by simp; omega
 have d1 : decide (-d < 0) = true := by simp; omega
 have hN1 : ∀ W, DS W n.natAbs A → Calls Tryz.prog 78 #[.agg #[.bool (decide (-n < 0)), .slice A (L16 n.natAbs) c]] W fun e w' => e = .returned (.agg #[.bool (decide (n < 0)), .slice A (L16 n.natAbs) c]) ∧ Below W.heap.size W w' := fun W hA => by
  have := refneg_z (-n) A c W (by rw [Int.natAbs_neg]; exact hA) (by rw [Int.natAbs_neg]; exact hc) (by rw [Int.natAbs_neg]; exact L16_T6 hn)
  rw [Int.neg_neg, bigv, bigv, Int.natAbs_neg] at this
  exact this.mono fun _ _ h => ⟨h.1, h.2.2⟩
 have hN2 : ∀ W, DS W d.natAbs B → Calls Tryz.prog 78 #[.agg #[.bool true, .slice B (L16 d.natAbs) e]] W fun e' w' => e' = .returned (.agg #[.bool false, .slice B (L16 d.natAbs) e]) ∧ Below W.heap.size W w' := fun W hB => by
  have := refneg_z (-d) B e W (by rw [Int.natAbs_neg]; exact hB) (by rw [Int.natAbs_neg]; exact he) (by rw [Int.natAbs_neg]; exact L16_T6 hd')
  rw [Int.neg_neg, bigv, bigv, Int.natAbs_neg, d0, d1] at this
  exact this.mono fun _ _ h => ⟨h.1, h.2.2⟩
 have hg0 : Int.gcd n d ≠ 0 := fun h => by have := (Int.gcd_eq_zero_iff.1 h).2; omega
 have eN : frN n d = n.tdiv (Int.gcd n d : Nat) := by unfold frN; rw [if_neg (by omega), Int.mul_one]
 have eD : frD n d = d.tdiv (Int.gcd n d : Nat) := by unfold frD; rw [show ((d.natAbs : Nat) : Int) = d by omega]
 have hgd : Int.gcd n d ≤ d.natAbs := Nat.le_of_dvd (by omega) (Int.natCast_dvd_natCast.1 (by rw [show ((d.natAbs : Nat) : Int) = d by omega]; exact Int.gcd_dvd_right ..))
 have hgT : Int.gcd n d < T256 := Nat.lt_of_le_of_lt hgd hd'
 have hcmp : ∀ (E : Option Addr) (h : Nat) (W : World), DS W d.natAbs B → DS W 1 E → Calls Tryz.prog 79 #[.agg #[.bool false, .slice B (L16 d.natAbs) e], .agg #[.bool false, .slice E (L16 1) h]] W fun e w' => e = .returned (.int .i64 (cmpI d 1)) ∧ Below W.heap.size W w' := by
  intro E h W hB hE
  have := cmp_z d 1 B E e h W hB hE (L16_T6 hd') (by show L16 1 ≤ _; exact Nat.le_trans (L16_T (by decide)) (by decide))
  rw [bigv, d0] at this
  exact this
 by_cases h1 : d = 1
 ·subst h1
  have e1 : Int.gcd n 1 = 1 := by simp
  rw [eN, eD, e1, show ((1 : Nat) : Int) = 1 from rfl, Int.tdiv_one, Int.tdiv_one]
  rw [show cmpI 1 1 = 0 from rfl] at hcmp
  exact make_one_neg _ _ A B _ _ _ _ c e (L16 1) w dA dB hc he hN1 hN2 one_bg hcmp
 ·have hne : cmpI d 1 ≠ 0 := by unfold cmpI; rw [if_neg (by omega), if_pos (by omega)]; decide
  have q0 : decide (d.tdiv (Int.gcd n d : Nat) < 0) = false := by
   have : 0 ≤ d.tdiv (Int.gcd n d : Nat) := Int.tdiv_nonneg (by omega) (by omega)
   simp; omega
  rw [eN, eD]
  refine make_gen_neg _ _ _ _ A B _ _ _ _ c e (L16 1) (Int.gcd n d) (L16 (Int.gcd n d)) _ _ _ _ (cmpI d 1) w dA dB hc he hN1 hN2 one_bg hcmp ?_ ?_ ?_ hne
  ·intro W hA hB
   have := refgcd_z n d A B c e W hA hB hc he hn hd'
   rw [bigv, bigv, d0] at this
   refine this.mono ?_
   rintro e' w' ⟨X, x, rfl, hx, hD, hb⟩
   refine ⟨X, x, ?_, hx, hD, hb⟩
   rw [bigv, show decide (((Int.gcd n d : Nat) : Int) < 0) = false by simp]
   rfl
  ·intro E h W hA hE hh
   have := refquo_z n (Int.gcd n d : Nat) A E c h W hA hE (L16_T hn) (by rw [Int.natAbs_natCast]; exact L16_T hgT) (by omega)
   rw [bigv, bigv, show decide (((Int.gcd n d : Nat) : Int) < 0) = false by simp] at this
   refine this.mono ?_
   rintro e' w' ⟨X, x, Y, y, rfl, hx, _, hD, _, hb⟩
   exact ⟨X, x, Y, y, _, _, rfl, hx, hD, hb⟩
  ·intro E h W hA hE hh
   have := refquo_z d (Int.gcd n d : Nat) B E e h W hA hE (L16_T hd') (by rw [Int.natAbs_natCast]; exact L16_T hgT) (by omega)
   rw [bigv, bigv, d0, show decide (((Int.gcd n d : Nat) : Int) < 0) = false by simp] at this
   refine this.mono ?_
   rintro e' w' ⟨X, x, Y, y, rfl, hx, _, hD, _, hb⟩
   refine ⟨X, x, Y, y, decide (d.tmod (Int.gcd n d : Nat) < 0), L16 (d.tmod (Int.gcd n d : Nat)).natAbs, ?_, hx, hD, hb⟩
   rw [bigv, q0]
   rfl
theorem rmake_z (n d : Int) (A B : Option Addr) (c e : Nat) (w : World) (hd : d ≠ 0) (hn : n.natAbs < T256) (hd' : d.natAbs < T256) (dA : DS w n.natAbs A) (dB : DS w d.natAbs B) (hc : L16 n.natAbs ≤ c) (he : L16 d.natAbs ≤ e) :
 Calls Tryz.prog 44 #[.agg #[.bool (decide (n < 0)), .slice A (L16 n.natAbs) c], .agg #[.bool (decide (d < 0)), .slice B (L16 d.natAbs) e]] w (RqPost w (decide (frN n d < 0)) false (frN n d).natAbs (frD n d).natAbs (L16 (frN n d).natAbs) (L16 (frD n d).natAbs)) := by
 by_cases h : 0 < d
 ·rw [show decide (d < 0) = false by simp; omega]
  exact rmake_any n d A B c e w h hn hd' dA dB hc he
 ·rw [show decide (d < 0) = true by simp; omega]
  have := rmake_neg (-n) (-d) A B c e w (by omega) (by rw [Int.natAbs_neg]; exact hn) (by rw [Int.natAbs_neg]; exact hd') (by rw [Int.natAbs_neg]; exact dA) (by rw [Int.natAbs_neg]; exact dB) (by rw [Int.natAbs_neg]; exact hc) (by rw [Int.natAbs_neg]; exact he)
  rw [Int.neg_neg, Int.natAbs_neg, Int.natAbs_neg, frN_neg n d hd, frD_neg] at this
  exact this
end Go.Proofs.YtdfmmkidknginaaGreatDoor

namespace Go.Proofs.YtdfmmkidknginaaGreatDoor
open Go.RowKit CrossMath
set_option maxRecDepth 100000 in
set_option maxHeartbeats 3200000 in
theorem pcmp_core (p0 p1 p2 p3 p4 p5 p6 p7 q0 q1 q2 q3 q4 q5 q6 q7 : Value) (r1 r2 : Int) (w : World)
 (h1 : ∀ W, Below w.heap.size w W → Calls Tryz.prog 59 #[.agg #[p0, p1, p2, p3], .agg #[q0, q1, q2, q3]] W fun e w' => e = .returned (.int .i64 r1) ∧ Below W.heap.size W w')
 (h2 : ∀ W, Below w.heap.size w W → Calls Tryz.prog 59 #[.agg #[p4, p5, p6, p7], .agg #[q4, q5, q6, q7]] W fun e w' => e = .returned (.int .i64 r2) ∧ Below W.heap.size W w') :
 Calls Tryz.prog 60 #[.agg #[p0, p1, p2, p3, p4, p5, p6, p7], .agg #[q0, q1, q2, q3, q4, q5, q6, q7]] w fun e w' => e = .returned (.int .i64 (if r1 = 0 then r2 else r1)) ∧ Below w.heap.size w w' := by
 have H1 := Lib.hid h1; clear h1
 have H2 := Lib.hid h2; clear h2
 by_cases h0 : r1 = 0
 ·subst h0
  rw [if_pos rfl]
  go_enter Tryz.func60, Tryz.ntmps60
  go_upto_region 1 with fail
  generalize hW : World.alloc _ _ = W0
  have rP : Row W0 w.heap.size [p0, p1, p2, p3, p4, p5, p6, p7] := by rw [← hW]; exact (Row.at rfl [p0, p1, p2, p3, p4, p5, p6, p7] _).alloc _
  have rQ : Row W0 (w.heap.size + 1) [q0, q1, q2, q3, q4, q5, q6, q7] := by rw [← hW]; exact Row.at (by simp) [q0, q1, q2, q3, q4, q5, q6, q7] _
  have hB : Below w.heap.size w W0 := by rw [← hW]; exact ((Below.refl w.heap.size w).alloc (Nat.le_refl _) _).alloc (by simp) _
  clear hW
  have x0 := rP.c 0 rfl
  have y0 := rQ.c 0 rfl
  have x1 := rP.c 1 rfl
  have y1 := rQ.c 1 rfl
  have x2 := rP.c 2 rfl
  have y2 := rQ.c 2 rfl
  have x3 := rP.c 3 rfl
  have y3 := rQ.c 3 rfl
  go_wp2_with fail
  refine (H1.out _ hB).mono ?_
  rintro e w1 ⟨rfl, hb⟩
  replace hB := hB.trans (hb.mono hB.size)
  replace rP := rP.after hb
  replace rQ := rQ.after hb
  clear hb x0 y0 x1 y1 x2 y2 x3 y3
  have x4 := rP.c 4 rfl
  have y4 := rQ.c 4 rfl
  have x5 := rP.c 5 rfl
  have y5 := rQ.c 5 rfl
  have x6 := rP.c 6 rfl
  have y6 := rQ.c 6 rfl
  have x7 := rP.c 7 rfl
  have y7 := rQ.c 7 rfl
  have HB := Lib.hid hB
  have HR := Lib.hid (And.intro rP rQ)
  clear rP rQ hB
  go_wp2_with fail
  refine (H2.out _ HB.out).mono ?_
  rintro e w2 ⟨rfl, hb⟩
  have HZ := Lib.hid (HB.out.trans (hb.mono HB.out.size))
  clear hb
  go_wp2_with fail
  go_ret
  exact ⟨rfl, HZ.out⟩
 ·rw [if_neg h0]
  have h0' : (r1 == 0) = false := by simpa using h0
  clear h0
  go_enter Tryz.func60, Tryz.ntmps60
  go_upto_region 1 with fail
  generalize hW : World.alloc _ _ = W0
  have rP : Row W0 w.heap.size [p0, p1, p2, p3, p4, p5, p6, p7] := by rw [← hW]; exact (Row.at rfl [p0, p1, p2, p3, p4, p5, p6, p7] _).alloc _
  have rQ : Row W0 (w.heap.size + 1) [q0, q1, q2, q3, q4, q5, q6, q7] := by rw [← hW]; exact Row.at (by simp) [q0, q1, q2, q3, q4, q5, q6, q7] _
  have hB : Below w.heap.size w W0 := by rw [← hW]; exact ((Below.refl w.heap.size w).alloc (Nat.le_refl _) _).alloc (by simp) _
  clear hW
  have x0 := rP.c 0 rfl
  have y0 := rQ.c 0 rfl
  have x1 := rP.c 1 rfl
  have y1 := rQ.c 1 rfl
  have x2 := rP.c 2 rfl
  have y2 := rQ.c 2 rfl
  have x3 := rP.c 3 rfl
  have y3 := rQ.c 3 rfl
  go_wp2_with fail
  refine (H1.out _ hB).mono ?_
  rintro e w1 ⟨rfl, hb⟩
  replace hB := hB.trans (hb.mono hB.size)
  replace rP := rP.after hb
  replace rQ := rQ.after hb
  clear hb x0 y0 x1 y1 x2 y2 x3 y3
  have HB := Lib.hid hB
  clear rP rQ hB H1 H2
  go_wp2_with fail
  go_ret
  exact ⟨rfl, HB.out⟩
end Go.Proofs.YtdfmmkidknginaaGreatDoor

namespace Go.Proofs.YtdfmmkidknginaaGreatDoor
open Go.RowKit CrossMath
theorem fr_le {n d : Int} : (frN n d).natAbs ≤ n.natAbs ∧ (frD n d).natAbs ≤ d.natAbs := by
 unfold frN frD
 have es : ∀ z : Int, (z * (if d < 0 then -1 else 1)).natAbs = z.natAbs := fun z => by split <;> simp
 rw [es, Int.natAbs_tdiv, Int.natAbs_tdiv, Int.natAbs_natCast, Int.natAbs_natCast]
 exact ⟨Nat.div_le_self _ _, Nat.div_le_self _ _⟩
end Go.Proofs.YtdfmmkidknginaaGreatDoor

namespace Go.Proofs.YtdfmmkidknginaaGreatDoor
open Go.RowKit Go.Sort CrossMath
def PtE (p : Pt) (u : Array Value) (W : World) : Prop := ∃ A a B b E f G g, u = #[.bool (decide (p.xn < 0)), .slice A (L16 p.xn.natAbs) a, .bool false, .slice B (L16 p.xd.natAbs) b, .bool (decide (p.yn < 0)), .slice E (L16 p.yn.natAbs) f, .bool false, .slice G (L16 p.yd.natAbs) g] ∧ DS W p.xn.natAbs A ∧ DS W p.xd.natAbs B ∧ DS W p.yn.natAbs E ∧ DS W p.yd.natAbs G
theorem PtE.keep {p : Pt} (v : Array Value) (W W' : World) (h : PtE p v W) (hb : Below W.heap.size W W') : PtE p v W' := by
 obtain ⟨A, a, B, b, E, f, G, g, h0, h1, h2, h3, h4⟩ := h
 exact ⟨A, a, B, b, E, f, G, g, h0, h1.below hb, h2.below hb, h3.below hb, h4.below hb⟩
theorem rfrom_rt {n d : Int} (h : RtR n d) (W : World) : Calls Tryz.prog 56 #[.agg (ratA n d)] W (RqPost W (decide (n < 0)) false n.natAbs d.natAbs (L16 n.natAbs) (L16 d.natAbs)) := by
 have := rfrom_any n d W h.T.1 h.T.2
 rw [show decide (d < 0) = false by have := h.2.2.1; simp; omega] at this
 exact this
theorem pfrom_rt (p : Pt) (hp : RtP p) (W : World) : Calls Tryz.prog 22 #[.agg (ptA p)] W fun e w' => ∃ p0 p1 p2 p3 p4 p5 p6 p7, e = .returned (.agg #[p0, p1, p2, p3, p4, p5, p6, p7]) ∧ OneC #[p0, p1, p2, p3, p4, p5, p6, p7] ∧ PtE p #[p0, p1, p2, p3, p4, p5, p6, p7] w' ∧ Below W.heap.size W w' := by
 have hfrom : Calls Tryz.prog 22 #[.agg (ptA p)] W (PqPost W (decide (p.xn < 0)) (decide (p.yn < 0)) p.xn.natAbs p.xd.natAbs p.yn.natAbs p.yd.natAbs (L16 p.xn.natAbs) (L16 p.xd.natAbs) (L16 p.yn.natAbs) (L16 p.yd.natAbs)) :=
  pfrom_core _ _ _ _ _ _ _ _ _ _ _ _ _ _ _ _ _ _ _ _ _ _ _ _ _ _ _ _ _ _ W (fun W => rfrom_rt hp.1 W) (fun W => rfrom_rt hp.2 W)
 refine hfrom.mono ?_
 rintro e w' ⟨A, ka, B, jb, E, ie, G, lg, rfl, _, ⟨d1, d2, d3, d4⟩, hb⟩
 exact ⟨_, _, _, _, _, _, _, _, rfl, by simp [OneC, Value.oneCell'], ⟨A, ka, B, jb, E, ie, G, lg, rfl, d1, d2, d3, d4⟩, hb⟩
theorem rt_mul {n d m e : Int} (h : RtR n d) (g : RtR m e) : (n * e).natAbs < T256 := by
 rw [Int.natAbs_mul]
 exact Nat.lt_of_le_of_lt (Nat.mul_le_mul (Nat.le_of_lt h.1) (Nat.le_of_lt g.2.1)) (by decide)
theorem pcmp_rt (p q : Pt) (hp : RtP p) (hq : RtP q) (u v : Array Value) (W : World) (hu : PtE p u W) (hv : PtE q v W) : Calls Tryz.prog 60 #[.agg u, .agg v] W fun e w' => e = .returned (.int .i64 (cmpQ p q)) ∧ Below W.heap.size W w' := by
 obtain ⟨A1, a1, B1, b1, E1, f1, G1, g1, rfl, x1, x2, x3, x4⟩ := hu
 obtain ⟨A2, a2, B2, b2, E2, f2, G2, g2, rfl, y1, y2, y3, y4⟩ := hv
 exact pcmp_core _ _ _ _ _ _ _ _ _ _ _ _ _ _ _ _ (cmpI (p.xn * q.xd) (q.xn * p.xd)) (cmpI (p.yn * q.yd) (q.yn * p.yd)) W
  (fun W' hW => rcmp_any p.xn p.xd q.xn q.xd A1 B1 A2 B2 a1 b1 a2 b2 W' hp.1.2.2.1 hq.1.2.2.1 hp.1.T.1 hp.1.T.2 hq.1.T.1 hq.1.T.2 (rt_mul hp.1 hq.1) (rt_mul hq.1 hp.1) (x1.below hW) (x2.below hW) (y1.below hW) (y2.below hW))
  (fun W' hW => rcmp_any p.yn p.yd q.yn q.yd E1 G1 E2 G2 f1 g1 f2 g2 W' hp.2.2.2.1 hq.2.2.2.1 hp.2.T.1 hp.2.T.2 hq.2.T.1 hq.2.T.2 (rt_mul hp.2 hq.2) (rt_mul hq.2 hp.2) (x3.below hW) (x4.below hW) (y3.below hW) (y4.below hW))
end Go.Proofs.YtdfmmkidknginaaGreatDoor
