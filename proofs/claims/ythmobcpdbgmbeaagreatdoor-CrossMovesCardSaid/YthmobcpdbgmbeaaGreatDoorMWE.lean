/- The document's Right, Make, Add of fractions by their numbers. -/
import Derived.Test.YthmobcpdbgmbeaaGreatDoorMWD
import Derived.Test.YthmobcpdbgmbeaaGreatDoorMQDP
import Derived.Test.YthmobcpdbgmbeaaGreatDoorMBG
import Derived.Test.YthmobcpdbgmbeaaGreatDoorMBX
import Derived.Test.YthmobcpdbgmbeaaGreatDoorMY
import Derived.Test.YthmobcpdbgmbeaaGreatDoorMCI
import Derived.Test.YthmobcpdbgmbeaaGreatDoorMSM
namespace Go.Proofs.YthmobcpdbgmbeaaGreatDoor
open Go.RowKit CrossMath

theorem bg_of {w : World} {z : Int} {e : Ending} {w' : World} {s : Bool} (hs : decide (z < 0) = s) (h : BigPost w z e w') : BgPost w s z.natAbs (L16 z.natAbs) e w' := by
  subst hs
  obtain ⟨A, c, rfl, hc, hd, hb⟩ := h
  exact ⟨A, c, rfl, hc, hd, hb⟩
theorem one_bg (W : World) : Calls Tryz.prog 34 #[.int .i64 1] W (BgPost W false 1 (L16 1)) := (num_z 1 W (by decide) (by decide)).mono fun _ _ h => bg_of (z := 1) rfl h
theorem L16_T {m : Nat} (h : m < T256) : L16 m ≤ 1000 := Nat.le_trans (L16_int.1 h) (by decide)
theorem L16_T6 {m : Nat} (h : m < T256) : L16 m ≤ 1000000 := Nat.le_trans (L16_int.1 h) (by decide)
theorem rright_any (n d : Int) (w : World) (hd : 0 < d) (hg : Int.gcd n d = 1) (hn : n.natAbs < T256) (hd' : d.natAbs < T256) :
    Calls Tryz.prog 84 #[.agg (ratA n d)] w fun e w' => e = .returned (.bool true) ∧ Below w.heap.size w w' := by
  have d0 : decide (d < 0) = false := by simp; omega
  have hR : ∀ (z : Int) (_ : z.natAbs < T256) (W : World), Calls Tryz.prog 116 #[.agg (intA z)] W fun e w' => e = .returned (.bool true) ∧ Below W.heap.size W w' := fun z hz W => by
    have := right_any (decide (z < 0)) (W64 z.natAbs 0 : Nat) (W64 z.natAbs 1 : Nat) (W64 z.natAbs 2 : Nat) (W64 z.natAbs 3 : Nat) W
    rw [right_num z hz] at this
    exact this
  refine rright_core _ _ (decide (n < 0)) _ _ _ _ _ _ _ _ n.natAbs (L16 n.natAbs) d.natAbs (L16 d.natAbs) 1 (L16 1) (L16 1) w (fun W => hR n hn W) (fun W => hR d hd' W) (fun W => (from_z n W hn).mono fun _ _ h => bg_of rfl h) (fun W => (from_z d W hd').mono fun _ _ h => bg_of d0 h) ?_ ?_ one_bg ?_
  · intro B c W hB
    have := refsign_z d B c W hB (L16_T6 hd')
    rw [bigv, d0, show cmpI d 0 = 1 by unfold cmpI; rw [if_neg (by omega), if_pos hd]] at this
    exact this
  · intro A c B e W hA hB hc he
    have := refgcd_z n d A B c e W hA hB hc he hn hd'
    rw [hg] at this
    rw [bigv, bigv, d0] at this
    refine this.mono ?_
    rintro e' w' ⟨X, x, rfl, hx, hD, hb⟩
    exact ⟨X, x, rfl, hx, hD, hb⟩
  · intro A c B e W hA hB
    exact cmp_z 1 1 A B c e W hA hB (by show L16 1 ≤ _; exact Nat.le_trans (L16_T (by decide)) (by decide)) (by show L16 1 ≤ _; exact Nat.le_trans (L16_T (by decide)) (by decide))
theorem rmake_any (n d : Int) (A B : Option Addr) (c e : Nat) (w : World) (hd : 0 < d) (hn : n.natAbs < T256) (hd' : d.natAbs < T256) (dA : DS w n.natAbs A) (dB : DS w d.natAbs B) (hc : L16 n.natAbs ≤ c) (he : L16 d.natAbs ≤ e) :
    Calls Tryz.prog 33 #[.agg #[.bool (decide (n < 0)), .slice A (L16 n.natAbs) c], .agg #[.bool false, .slice B (L16 d.natAbs) e]] w (RqPost w (decide (frN n d < 0)) false (frN n d).natAbs (frD n d).natAbs (L16 (frN n d).natAbs) (L16 (frD n d).natAbs)) := by
  have d0 : decide (d < 0) = false := by simp; omega
  have hg0 : Int.gcd n d ≠ 0 := fun h => by have := (Int.gcd_eq_zero_iff.1 h).2; omega
  have eN : frN n d = n.tdiv (Int.gcd n d : Nat) := by unfold frN; rw [if_neg (by omega), Int.mul_one]
  have eD : frD n d = d.tdiv (Int.gcd n d : Nat) := by unfold frD; rw [show ((d.natAbs : Nat) : Int) = d by omega]
  have hgd : Int.gcd n d ≤ d.natAbs := Nat.le_of_dvd (by omega) (Int.natCast_dvd_natCast.1 (by rw [show ((d.natAbs : Nat) : Int) = d by omega]; exact Int.gcd_dvd_right ..))
  have hgT : Int.gcd n d < T256 := Nat.lt_of_le_of_lt hgd hd'
  have hcmp : ∀ (E : Option Addr) (h : Nat) (W : World), DS W d.natAbs B → DS W 1 E → Calls Tryz.prog 60 #[.agg #[.bool false, .slice B (L16 d.natAbs) e], .agg #[.bool false, .slice E (L16 1) h]] W fun e w' => e = .returned (.int .i64 (cmpI d 1)) ∧ Below W.heap.size W w' := by
    intro E h W hB hE
    have := cmp_z d 1 B E e h W hB hE (L16_T6 hd') (by show L16 1 ≤ _; exact Nat.le_trans (L16_T (by decide)) (by decide))
    rw [bigv, d0] at this
    exact this
  by_cases h1 : d = 1
  · subst h1
    have e1 : Int.gcd n 1 = 1 := by simp
    rw [eN, eD, e1, show ((1 : Nat) : Int) = 1 from rfl, Int.tdiv_one, Int.tdiv_one]
    rw [show cmpI 1 1 = 0 from rfl] at hcmp
    exact make_one _ A B _ _ _ _ c e (L16 1) w dA dB hc he one_bg hcmp
  · have hne : cmpI d 1 ≠ 0 := by unfold cmpI; rw [if_neg (by omega), if_pos (by omega)]; decide
    have q0 : decide (d.tdiv (Int.gcd n d : Nat) < 0) = false := by
      have : 0 ≤ d.tdiv (Int.gcd n d : Nat) := Int.tdiv_nonneg (by omega) (by omega)
      simp; omega
    rw [eN, eD]
    refine make_gen _ _ _ A B _ _ _ _ c e (L16 1) (Int.gcd n d) (L16 (Int.gcd n d)) _ _ _ _ (cmpI d 1) w dA dB hc he one_bg hcmp ?_ ?_ ?_ hne
    · intro W hA hB
      have := refgcd_z n d A B c e W hA hB hc he hn hd'
      rw [bigv, bigv, d0] at this
      refine this.mono ?_
      rintro e' w' ⟨X, x, rfl, hx, hD, hb⟩
      refine ⟨X, x, ?_, hx, hD, hb⟩
      rw [bigv, show decide (((Int.gcd n d : Nat) : Int) < 0) = false by simp]
      rfl
    · intro E h W hA hE hh
      have := refquo_z n (Int.gcd n d : Nat) A E c h W hA hE (L16_T hn) (by rw [Int.natAbs_natCast]; exact L16_T hgT) (by omega)
      rw [bigv, bigv, show decide (((Int.gcd n d : Nat) : Int) < 0) = false by simp] at this
      refine this.mono ?_
      rintro e' w' ⟨X, x, Y, y, rfl, hx, _, hD, _, hb⟩
      exact ⟨X, x, Y, y, _, _, rfl, hx, hD, hb⟩
    · intro E h W hA hE hh
      have := refquo_z d (Int.gcd n d : Nat) B E e h W hA hE (L16_T hd') (by rw [Int.natAbs_natCast]; exact L16_T hgT) (by omega)
      rw [bigv, bigv, d0, show decide (((Int.gcd n d : Nat) : Int) < 0) = false by simp] at this
      refine this.mono ?_
      rintro e' w' ⟨X, x, Y, y, rfl, hx, _, hD, _, hb⟩
      refine ⟨X, x, Y, y, decide (d.tmod (Int.gcd n d : Nat) < 0), L16 (d.tmod (Int.gcd n d : Nat)).natAbs, ?_, hx, hD, hb⟩
      rw [bigv, q0]
      rfl
theorem lt_mul_T {a b x y : Nat} (ha : a < 65536 ^ x) (hb : b < 65536 ^ y) : a * b < 65536 ^ (x + y) := by
  rw [Nat.pow_add]
  exact Nat.mul_lt_mul'' ha hb
theorem radd_any (n d n2 d2 : Int) (A B E G : Option Addr) (c e f h : Nat) (w : World) (hd : 0 < d) (hd2 : 0 < d2) (h1 : n.natAbs < T256) (h2 : d.natAbs < T256) (h3 : n2.natAbs < T256) (h4 : d2.natAbs < T256)
    (m1 : (n * d2).natAbs < T256) (m2 : (n2 * d).natAbs < T256) (m3 : (n * d2 + n2 * d).natAbs < T256) (m4 : (d * d2).natAbs < T256) (dA : DS w n.natAbs A) (dB : DS w d.natAbs B) (dE : DS w n2.natAbs E) (dG : DS w d2.natAbs G) :
    Calls Tryz.prog 36 #[.agg #[.bool (decide (n < 0)), .slice A (L16 n.natAbs) c, .bool false, .slice B (L16 d.natAbs) e], .agg #[.bool (decide (n2 < 0)), .slice E (L16 n2.natAbs) f, .bool false, .slice G (L16 d2.natAbs) h]] w
      (RqPost w (decide (frN (n * d2 + n2 * d) (d * d2) < 0)) false (frN (n * d2 + n2 * d) (d * d2)).natAbs (frD (n * d2 + n2 * d) (d * d2)).natAbs (L16 (frN (n * d2 + n2 * d) (d * d2)).natAbs) (L16 (frD (n * d2 + n2 * d) (d * d2)).natAbs)) := by
  have d0 : decide (d < 0) = false := by simp; omega
  have d20 : decide (d2 < 0) = false := by simp; omega
  have hdd : 0 < d * d2 := Int.mul_pos hd hd2
  have dd0 : decide (d * d2 < 0) = false := by simp; omega
  refine radd_core _ _ _ _ (decide (n * d2 < 0)) (decide (n2 * d < 0)) (decide (n * d2 + n2 * d < 0)) false _ _ A B E G _ c _ e _ f _ h _ _ _ _ (n * d2).natAbs (L16 (n * d2).natAbs) (n2 * d).natAbs (L16 (n2 * d).natAbs) (n * d2 + n2 * d).natAbs (L16 (n * d2 + n2 * d).natAbs) (d * d2).natAbs (L16 (d * d2).natAbs) _ _ _ _ w dA dB dE dG ?_ ?_ ?_ ?_ ?_
  · intro W hA hG
    have := mul_z n d2 A G c h W hA hG (L16_T h1) (L16_T h4)
    rw [bigv, bigv, d20] at this
    exact this.mono fun _ _ h => bg_of rfl h
  · intro W hE hB
    have := mul_z n2 d E B f e W hE hB (L16_T h3) (L16_T h2)
    rw [bigv, bigv, d0] at this
    exact this.mono fun _ _ h => bg_of rfl h
  · intro X x Y y W hX hY _ _
    refine (refadd_z (n * d2) (n2 * d) X Y x y W hX hY (L16_T m1) (L16_T m2)).mono ?_
    rintro e' w' ⟨P, p, rfl, hp, hD, hb, _⟩
    exact ⟨P, p, rfl, hp, hD, hb⟩
  · intro W hB hG
    have := mul_z d d2 B G e h W hB hG (L16_T h2) (L16_T h4)
    rw [bigv, bigv, d0, d20] at this
    exact this.mono fun _ _ h => bg_of dd0 h
  · intro X x Y y W hX hY hx hy
    exact rmake_any (n * d2 + n2 * d) (d * d2) X Y x y W hdd m3 m4 hX hY hx hy
end Go.Proofs.YthmobcpdbgmbeaaGreatDoor

/- The document's From and Right of a point that may be, over what their calls answer. -/
namespace Go.Proofs.YthmobcpdbgmbeaaGreatDoor
open Go.RowKit

/-- A call's answer is such a point. -/
def PqPost (w : World) (u v : Bool) (m p n q k j i l : Nat) (e : Ending) (w' : World) : Prop := ∃ A ka B jb E ie G lg, e = .returned (.agg #[.bool u, .slice A k ka, .bool false, .slice B j jb, .bool v, .slice E i ie, .bool false, .slice G l lg]) ∧ (k ≤ ka ∧ j ≤ jb ∧ i ≤ ie ∧ l ≤ lg) ∧ (DS w' m A ∧ DS w' p B ∧ DS w' n E ∧ DS w' q G) ∧ Below w.heap.size w w'
set_option maxRecDepth 100000 in
set_option maxHeartbeats 6400000 in
theorem pfrom_core (s t s' t' : Bool) (a0 a1 a2 a3 b0 b1 b2 b3 c0 c1 c2 c3 d0 d1 d2 d3 : Int) (u v : Bool) (m p n q k j i l : Nat) (w : World)
    (h1 : ∀ W, Calls Tryz.prog 46 #[.agg #[.bool s, .int .u64 a0, .int .u64 a1, .int .u64 a2, .int .u64 a3, .bool t, .int .u64 b0, .int .u64 b1, .int .u64 b2, .int .u64 b3]] W (RqPost W u false m p k j)) (h2 : ∀ W, Calls Tryz.prog 46 #[.agg #[.bool s', .int .u64 c0, .int .u64 c1, .int .u64 c2, .int .u64 c3, .bool t', .int .u64 d0, .int .u64 d1, .int .u64 d2, .int .u64 d3]] W (RqPost W v false n q i l)) :
    Calls Tryz.prog 17 #[.agg #[.bool s, .int .u64 a0, .int .u64 a1, .int .u64 a2, .int .u64 a3, .bool t, .int .u64 b0, .int .u64 b1, .int .u64 b2, .int .u64 b3, .bool s', .int .u64 c0, .int .u64 c1, .int .u64 c2, .int .u64 c3, .bool t', .int .u64 d0, .int .u64 d1, .int .u64 d2, .int .u64 d3]] w (PqPost w u v m p n q k j i l) := by
  have H1 := Lib.hid h1; clear h1
  have H2 := Lib.hid h2; clear h2
  go_enter Tryz.func17, Tryz.ntmps17
  go_upto_region 1 with fail
  generalize hW : World.alloc _ _ = W0
  have hK : KT w ([] ++ [(w.heap.size, #[.bool s, .int .u64 a0, .int .u64 a1, .int .u64 a2, .int .u64 a3, .bool t, .int .u64 b0, .int .u64 b1, .int .u64 b2, .int .u64 b3, .bool s', .int .u64 c0, .int .u64 c1, .int .u64 c2, .int .u64 c3, .bool t', .int .u64 d0, .int .u64 d1, .int .u64 d2, .int .u64 d3])]) ([] ++ [(w.heap.size + 1, 8)]) W0 := by
    rw [← hW]
    exact (KT.of ((KS.nil w).boxed rfl _ _)).made (by simp) _ _ rfl
  have z0 : W0.drew.cell? ⟨w.heap.size + 1, 0, none⟩ = some (.bool false) := by rw [← hW]; exact (Row.at (by simp) [.bool false, .slice none 0 0, .bool false, .slice none 0 0, .bool false, .slice none 0 0, .bool false, .slice none 0 0] _).c 0 rfl
  have hz : w.heap.size + 1 < W0.drew.heap.size := by rw [← hW]; show _ < (World.alloc _ _).heap.size; simp
  clear hW
  generalize hL : ([] ++ [(w.heap.size, #[.bool s, .int .u64 a0, .int .u64 a1, .int .u64 a2, .int .u64 a3, .bool t, .int .u64 b0, .int .u64 b1, .int .u64 b2, .int .u64 b3, .bool s', .int .u64 c0, .int .u64 c1, .int .u64 c2, .int .u64 c3, .bool t', .int .u64 d0, .int .u64 d1, .int .u64 d2, .int .u64 d3])] : List (Nat × Array Value)) = L at hK
  have HL := Lib.hid hL; clear hL
  have HM : Hid ((w.heap.size + 1, 8) ∈ ([] ++ [(w.heap.size + 1, 8)] : List (Nat × Nat))) := Lib.hid (by simp)
  generalize [] ++ [(w.heap.size + 1, 8)] = M at hK HM
  have l0 : ∀ W, KT w L M W → W.cell? ⟨w.heap.size, 0, none⟩ = some (.bool s) := fun W h => h.c 0 (by rw [← HL.out]; rfl) 0 rfl
  have l1 : ∀ W, KT w L M W → W.cell? ⟨w.heap.size, 1, none⟩ = some (.int .u64 a0) := fun W h => h.c 0 (by rw [← HL.out]; rfl) 1 rfl
  have l2 : ∀ W, KT w L M W → W.cell? ⟨w.heap.size, 2, none⟩ = some (.int .u64 a1) := fun W h => h.c 0 (by rw [← HL.out]; rfl) 2 rfl
  have l3 : ∀ W, KT w L M W → W.cell? ⟨w.heap.size, 3, none⟩ = some (.int .u64 a2) := fun W h => h.c 0 (by rw [← HL.out]; rfl) 3 rfl
  have l4 : ∀ W, KT w L M W → W.cell? ⟨w.heap.size, 4, none⟩ = some (.int .u64 a3) := fun W h => h.c 0 (by rw [← HL.out]; rfl) 4 rfl
  have l5 : ∀ W, KT w L M W → W.cell? ⟨w.heap.size, 5, none⟩ = some (.bool t) := fun W h => h.c 0 (by rw [← HL.out]; rfl) 5 rfl
  have l6 : ∀ W, KT w L M W → W.cell? ⟨w.heap.size, 6, none⟩ = some (.int .u64 b0) := fun W h => h.c 0 (by rw [← HL.out]; rfl) 6 rfl
  have l7 : ∀ W, KT w L M W → W.cell? ⟨w.heap.size, 7, none⟩ = some (.int .u64 b1) := fun W h => h.c 0 (by rw [← HL.out]; rfl) 7 rfl
  have l8 : ∀ W, KT w L M W → W.cell? ⟨w.heap.size, 8, none⟩ = some (.int .u64 b2) := fun W h => h.c 0 (by rw [← HL.out]; rfl) 8 rfl
  have l9 : ∀ W, KT w L M W → W.cell? ⟨w.heap.size, 9, none⟩ = some (.int .u64 b3) := fun W h => h.c 0 (by rw [← HL.out]; rfl) 9 rfl
  have l10 : ∀ W, KT w L M W → W.cell? ⟨w.heap.size, 10, none⟩ = some (.bool s') := fun W h => h.c 0 (by rw [← HL.out]; rfl) 10 rfl
  have l11 : ∀ W, KT w L M W → W.cell? ⟨w.heap.size, 11, none⟩ = some (.int .u64 c0) := fun W h => h.c 0 (by rw [← HL.out]; rfl) 11 rfl
  have l12 : ∀ W, KT w L M W → W.cell? ⟨w.heap.size, 12, none⟩ = some (.int .u64 c1) := fun W h => h.c 0 (by rw [← HL.out]; rfl) 12 rfl
  have l13 : ∀ W, KT w L M W → W.cell? ⟨w.heap.size, 13, none⟩ = some (.int .u64 c2) := fun W h => h.c 0 (by rw [← HL.out]; rfl) 13 rfl
  have l14 : ∀ W, KT w L M W → W.cell? ⟨w.heap.size, 14, none⟩ = some (.int .u64 c3) := fun W h => h.c 0 (by rw [← HL.out]; rfl) 14 rfl
  have l15 : ∀ W, KT w L M W → W.cell? ⟨w.heap.size, 15, none⟩ = some (.bool t') := fun W h => h.c 0 (by rw [← HL.out]; rfl) 15 rfl
  have l16 : ∀ W, KT w L M W → W.cell? ⟨w.heap.size, 16, none⟩ = some (.int .u64 d0) := fun W h => h.c 0 (by rw [← HL.out]; rfl) 16 rfl
  have l17 : ∀ W, KT w L M W → W.cell? ⟨w.heap.size, 17, none⟩ = some (.int .u64 d1) := fun W h => h.c 0 (by rw [← HL.out]; rfl) 17 rfl
  have l18 : ∀ W, KT w L M W → W.cell? ⟨w.heap.size, 18, none⟩ = some (.int .u64 d2) := fun W h => h.c 0 (by rw [← HL.out]; rfl) 18 rfl
  have l19 : ∀ W, KT w L M W → W.cell? ⟨w.heap.size, 19, none⟩ = some (.int .u64 d3) := fun W h => h.c 0 (by rw [← HL.out]; rfl) 19 rfl
  have xc0 : ∀ W, KT w L M W → W.cell? ⟨w.heap.size + 1, 0, none⟩ = some (cellAt W (w.heap.size + 1) 0) := fun W h => h.here HM.out 0 (by omega)
  have xf0 : ∀ W, KT w L M W → W.frozen? ⟨w.heap.size + 1, 0, none⟩ = false := fun W h => h.free HM.out 0 (by omega)
  have xc1 : ∀ W, KT w L M W → W.cell? ⟨w.heap.size + 1, 1, none⟩ = some (cellAt W (w.heap.size + 1) 1) := fun W h => h.here HM.out 1 (by omega)
  have xf1 : ∀ W, KT w L M W → W.frozen? ⟨w.heap.size + 1, 1, none⟩ = false := fun W h => h.free HM.out 1 (by omega)
  have xc2 : ∀ W, KT w L M W → W.cell? ⟨w.heap.size + 1, 2, none⟩ = some (cellAt W (w.heap.size + 1) 2) := fun W h => h.here HM.out 2 (by omega)
  have xf2 : ∀ W, KT w L M W → W.frozen? ⟨w.heap.size + 1, 2, none⟩ = false := fun W h => h.free HM.out 2 (by omega)
  have xc3 : ∀ W, KT w L M W → W.cell? ⟨w.heap.size + 1, 3, none⟩ = some (cellAt W (w.heap.size + 1) 3) := fun W h => h.here HM.out 3 (by omega)
  have xf3 : ∀ W, KT w L M W → W.frozen? ⟨w.heap.size + 1, 3, none⟩ = false := fun W h => h.free HM.out 3 (by omega)
  have xc4 : ∀ W, KT w L M W → W.cell? ⟨w.heap.size + 1, 4, none⟩ = some (cellAt W (w.heap.size + 1) 4) := fun W h => h.here HM.out 4 (by omega)
  have xf4 : ∀ W, KT w L M W → W.frozen? ⟨w.heap.size + 1, 4, none⟩ = false := fun W h => h.free HM.out 4 (by omega)
  have xc5 : ∀ W, KT w L M W → W.cell? ⟨w.heap.size + 1, 5, none⟩ = some (cellAt W (w.heap.size + 1) 5) := fun W h => h.here HM.out 5 (by omega)
  have xf5 : ∀ W, KT w L M W → W.frozen? ⟨w.heap.size + 1, 5, none⟩ = false := fun W h => h.free HM.out 5 (by omega)
  have xc6 : ∀ W, KT w L M W → W.cell? ⟨w.heap.size + 1, 6, none⟩ = some (cellAt W (w.heap.size + 1) 6) := fun W h => h.here HM.out 6 (by omega)
  have xf6 : ∀ W, KT w L M W → W.frozen? ⟨w.heap.size + 1, 6, none⟩ = false := fun W h => h.free HM.out 6 (by omega)
  have xc7 : ∀ W, KT w L M W → W.cell? ⟨w.heap.size + 1, 7, none⟩ = some (cellAt W (w.heap.size + 1) 7) := fun W h => h.here HM.out 7 (by omega)
  have xf7 : ∀ W, KT w L M W → W.frozen? ⟨w.heap.size + 1, 7, none⟩ = false := fun W h => h.free HM.out 7 (by omega)
  have hk0 := hK.drew
  clear hK
  go_region_held3 (fun w' : World => KT w L M w')
    (repeat (first
      | (with_reducible assumption)
      | (with_reducible refine KT.put8 ?_ HM.out _ _ _ _ _ _ _ _)
      | (with_reducible refine KT.drew ?_)
      | (with_reducible refine KT.after ?_ hb)))
    (first
      | (go_at_call 46; (with_reducible refine (H1.out _).mono ?_); rintro e w' ⟨A, ka, B, jb, rfl, ⟨e1, e2⟩, ⟨dA, dB⟩, hb⟩; (replace z0 := (hb.cell (p := ⟨w.heap.size + 1, 0, none⟩) hz).trans z0); (replace hz := Nat.lt_of_lt_of_le hz hb.size))
      | (go_at_call 46; (with_reducible refine (H2.out _).mono ?_); rintro e w' ⟨E, ie, G, lg, rfl, ⟨e3, e4⟩, ⟨dE, dG⟩, hb⟩; (replace dA := dA.below hb); (replace dB := dB.below hb); (replace z0 := (hb.cell (p := ⟨w.heap.size + 1, 0, none⟩) hz).trans z0); (replace hz := Nat.lt_of_lt_of_le hz hb.size)))
  have hq := ‹KT w L M _›
  have hr := hq.put_row (cs := [.bool u, .slice A k ka, .bool false, .slice B j jb, .bool v, .slice E i ie, .bool false, .slice G l lg]) HM.out rfl
  have D1 := dA.put8 z0 (.bool u) (.slice A k ka) (.bool false) (.slice B j jb) (.bool v) (.slice E i ie) (.bool false) (.slice G l lg)
  have D2 := dB.put8 z0 (.bool u) (.slice A k ka) (.bool false) (.slice B j jb) (.bool v) (.slice E i ie) (.bool false) (.slice G l lg)
  have D3 := dE.put8 z0 (.bool u) (.slice A k ka) (.bool false) (.slice B j jb) (.bool v) (.slice E i ie) (.bool false) (.slice G l lg)
  have D4 := dG.put8 z0 (.bool u) (.slice A k ka) (.bool false) (.slice B j jb) (.bool v) (.slice E i ie) (.bool false) (.slice G l lg)
  have hB := hq.1.2
  go_wp2_with fail
  exact bodyPost_ret (results_R1 (cs := #[.bool u, .slice A k ka, .bool false, .slice B j jb, .bool v, .slice E i ie, .bool false, .slice G l lg]) rfl rfl hr agg_rpoint) rfl ⟨A, ka, B, jb, E, ie, G, lg, rfl, ⟨e1, e2, e3, e4⟩, ⟨D1, D2, D3, D4⟩, hB⟩
theorem wpList_load_W' {P : Program} {ops : Array Oper} {rest : List Oper} {op : Oper} {a : Act} {w : World} {Q : Exit → Act → World → Prop} (ty : TypeId) (x : Operand) (ho : op.op = .load ty x) (b o : Nat) (hx : a.eval x = .pointer (some ⟨b, o, none⟩)) (hw : Region.wanted op (yielded ops a.tmps) = true) (cs : Array Value) (h : w.rangeAt b o cs.toList) (hT : AggTy P ty cs.size)
    (k : wpList P ops Q rest (a.put op.dst (.agg cs)) w) : wpList P ops Q (op :: rest) a w := by
  show (if Region.wanted op (yielded ops a.tmps) = true then _ else _)
  rw [if_pos hw]
  obtain ⟨⟨d, hu, hd⟩, hi⟩ := hT
  exact .inl (wp_load_mid ty x ho b o hx cs.toList d h hu hd (by simpa using hi) (by simpa using k))
theorem Row.fst10 {w : World} {b : Nat} {R S : Array Value} (h : Row w b (R ++ S).toList) : w.rangeAt b 0 R.toList := h.range 0 _ (fun j v hv => by
  have hj := (List.getElem?_eq_some_iff.1 hv).1
  rw [Nat.zero_add, Array.toList_append, List.getElem?_append_left hj]; exact hv)
theorem Row.snd10 {w : World} {b : Nat} {R S : Array Value} (hR : R.size = 10) (h : Row w b (R ++ S).toList) : w.rangeAt b 10 S.toList := h.range 10 _ (fun j v hv => by
  rw [Array.toList_append, List.getElem?_append_right (by simp [hR])]
  simpa [hR] using hv)
set_option maxRecDepth 100000 in
set_option maxHeartbeats 6400000 in
theorem pright_core (R S : Array Value) (hR : R.size = 10) (hS : S.size = 10) (u v : Bool) (m p n q k j i l : Nat) (w : World) (hk : k ≤ 6) (hj : j ≤ 4) (hi : i ≤ 6) (hl : l ≤ 4)
    (h1 : ∀ W, Calls Tryz.prog 84 #[.agg R] W fun e w' => e = .returned (.bool true) ∧ Below W.heap.size W w')
    (h2 : ∀ W, Calls Tryz.prog 84 #[.agg S] W fun e w' => e = .returned (.bool true) ∧ Below W.heap.size W w')
    (h3 : ∀ W, Calls Tryz.prog 46 #[.agg R] W (RqPost W u false m p k j)) (h4 : ∀ W, Calls Tryz.prog 46 #[.agg S] W (RqPost W v false n q i l)) :
    Calls Tryz.prog 47 #[.agg (R ++ S)] w fun e w' => e = .returned (.bool true) ∧ Below w.heap.size w w' := by
  have H1 := Lib.hid h1; clear h1
  have H2 := Lib.hid h2; clear h2
  have H3 := Lib.hid h3; clear h3
  have H4 := Lib.hid h4; clear h4
  have HF1 := Lib.hid (fun A ka B jb W => fits_any u false A B k ka j jb W hk hj)
  have HF2 := Lib.hid (fun A ka B jb W => fits_any v false A B i ka l jb W hi hl)
  have tR : AggTy Tryz.prog 32 R.size := by rw [hR]; exact agg_rat
  have tS : AggTy Tryz.prog 32 S.size := by rw [hS]; exact agg_rat
  have HRS := Lib.hid hR
  clear hk hj hi hl
  have r0 := Row.at (w := w) rfl (R ++ S).toList 34
  have hB := (Below.refl w.heap.size w).alloc (Nat.le_refl _) (.cells (R ++ S) 34)
  go_enter Tryz.func47, Tryz.ntmps47
  go_wp2_with (refine wpList_load_M rfl _ _ rfl _ 0 rfl R r0.fst10 tR ?_)
  refine (H1.out _).mono ?_
  rintro e w1 ⟨rfl, hb⟩
  have r1 := r0.after hb
  replace hB := hB.trans (hb.mono hB.size)
  clear hb r0
  go_wp2_with (refine wpList_load_W' _ _ rfl _ 10 rfl rfl S (r1.snd10 HRS.out) tS ?_)
  refine (H2.out _).mono ?_
  rintro e w2 ⟨rfl, hb⟩
  have r2 := r1.after hb
  replace hB := hB.trans (hb.mono hB.size)
  clear hb r1
  go_wp2_with (refine wpList_load_W' _ _ rfl _ 0 rfl rfl R r2.fst10 tR ?_)
  refine (H3.out _).mono ?_
  rintro e w3 ⟨A, ka, B, jb, rfl, _, _, hb⟩
  have r3 := r2.after hb
  replace hB := hB.trans (hb.mono hB.size)
  clear hb r2
  go_wp2_with fail
  refine (HF1.out _ _ _ _ _).mono ?_
  rintro e w4 ⟨rfl, hb⟩
  have r4 := r3.after hb
  replace hB := hB.trans (hb.mono hB.size)
  clear hb r3
  go_wp2_with (refine wpList_load_W' _ _ rfl _ 10 rfl rfl S (r4.snd10 HRS.out) tS ?_)
  refine (H4.out _).mono ?_
  rintro e w5 ⟨E, ie, G, lg, rfl, _, _, hb⟩
  replace hB := hB.trans (hb.mono hB.size)
  clear hb r4
  go_wp2_with fail
  refine (HF2.out _ _ _ _ _).mono ?_
  rintro e w6 ⟨rfl, hb⟩
  replace hB := hB.trans (hb.mono hB.size)
  clear hb
  have HB := Lib.hid hB
  clear hB
  go_wp2_with fail
  go_ret
  exact ⟨rfl, HB.out⟩
end Go.Proofs.YthmobcpdbgmbeaaGreatDoor

/- The document's Moved of a point that may be, over what its calls answer. -/
namespace Go.Proofs.YthmobcpdbgmbeaaGreatDoor
open Go.RowKit

/-- What stands in a slot is such a fraction, such a point. -/
def RqAt (v : Value) (s t : Bool) (m p k j : Nat) (W : World) : Prop := ∃ A c B d, v = .agg #[.bool s, .slice A k c, .bool t, .slice B j d] ∧ (k ≤ c ∧ j ≤ d) ∧ (DS W m A ∧ DS W p B)
def PqAt (x : Value) (u v : Bool) (m p n q k j i l : Nat) (W : World) : Prop := ∃ A ka B jb E ie G lg, x = .agg #[.bool u, .slice A k ka, .bool false, .slice B j jb, .bool v, .slice E i ie, .bool false, .slice G l lg] ∧ (k ≤ ka ∧ j ≤ jb ∧ i ≤ ie ∧ l ≤ lg) ∧ (DS W m A ∧ DS W p B ∧ DS W n E ∧ DS W q G)
/-- A property of values and worlds that stands while memory comes, and while a block is written that began with a Bool. -/
def Stays (T : World → Prop) : Prop := (∀ W W', T W → Below W.heap.size W W' → T W') ∧ ∀ (W W' : World) (X : Nat) (s : Bool), T W → On W W' X → W.cell? ⟨X, 0, none⟩ = some (.bool s) → T W'
def RnAt (v : Value) (s : Bool) (m k g : Nat) (W : World) : Prop := ∃ X x Y y, v = .agg #[.bool s, .slice X k x, .bool false, .slice Y g y] ∧ (DS W m X ∧ DS W 1 Y)
theorem RnAt.stays (v : Value) (s : Bool) (m k g : Nat) : Stays (RnAt v s m k g) :=
  ⟨fun _ _ ⟨A, c, B, d, h1, h3, h4⟩ hb => ⟨A, c, B, d, h1, h3.below hb, h4.below hb⟩, fun _ _ _ _ ⟨A, c, B, d, h1, h3, h4⟩ ho hX => ⟨A, c, B, d, h1, h3.on ho hX, h4.on ho hX⟩⟩
theorem RqAt.stays (v : Value) (s t : Bool) (m p k j : Nat) : Stays (RqAt v s t m p k j) :=
  ⟨fun _ _ ⟨A, c, B, d, h1, h2, h3, h4⟩ hb => ⟨A, c, B, d, h1, h2, h3.below hb, h4.below hb⟩, fun _ _ _ _ ⟨A, c, B, d, h1, h2, h3, h4⟩ ho hX => ⟨A, c, B, d, h1, h2, h3.on ho hX, h4.on ho hX⟩⟩
theorem PqAt.stays (x : Value) (u v : Bool) (m p n q k j i l : Nat) : Stays (PqAt x u v m p n q k j i l) :=
  ⟨fun _ _ ⟨A, ka, B, jb, E, ie, G, lg, h1, h2, h3, h4, h5, h6⟩ hb => ⟨A, ka, B, jb, E, ie, G, lg, h1, h2, h3.below hb, h4.below hb, h5.below hb, h6.below hb⟩,
   fun _ _ _ _ ⟨A, ka, B, jb, E, ie, G, lg, h1, h2, h3, h4, h5, h6⟩ ho hX => ⟨A, ka, B, jb, E, ie, G, lg, h1, h2, h3.on ho hX, h4.on ho hX, h5.on ho hX, h6.on ho hX⟩⟩
/-- In the midst of a region: blocks that are known; facts of slots (F i = the slot that operation i fills, and what is known of it), each from when it has come up; one variable, made at operation al in slot b, filled at operation pt. -/
structure FactS (w0 : World) (T0 : World → Prop) (L : List (Nat × Array Value)) (F : Nat → Option (Nat × (Value → World → Prop))) (al b pt : Nat) (z r : Array Value) (ls : Nat → Bool) (sl : Nat → Value) (W : World) : Prop where
  base : KS w0 L W
  ini : T0 W
  fact : ∀ i u T, F i = some (u, T) → ls i = true → T (sl u) W
  box : ls al = true → ∃ X, sl b = .pointer (some ⟨X, 0, none⟩) ∧ LBs w0 L X ∧ Row W X (if ls pt = true then r else z).toList
  c : ls pt = true → ls al = true
section
variable {w0 W W1 : World} {T0 : World → Prop} {L : List (Nat × Array Value)} {F : Nat → Option (Nat × (Value → World → Prop))} {al b pt : Nat} {z r : Array Value} {listed : Array Bool} {a : Act}
theorem FactS.start (h : KS w0 L W) (h0 : T0 W) (sl : Nat → Value) : FactS w0 T0 L F al b pt z r (fun _ => false) sl W := ⟨h, h0, fun _ _ _ _ h => (by simp at h), fun h => (by simp at h), fun h => (by simp at h)⟩
/-- An operation of which nothing more is said, or one that fills a fact's slot. -/
theorem FactS.next (h : FactS w0 T0 L F al b pt z r (fun i => listed.getD i false) (slotOf a) W) (h0 : Stays T0) (hF : ∀ i u T, F i = some (u, T) → ∀ v, Stays (T v)) (hb : Below W.heap.size W W1) (i u : Nat) (v : Value) (hi : i ≠ al ∧ i ≠ pt) (hu : u ≠ b) (hsz : u < a.tmps.size)
    (hf : ∀ j u' T, F j = some (u', T) → (j = i ↔ u' = u)) (hT : ∀ u' T, F i = some (u', T) → T v W1) :
    FactS w0 T0 L F al b pt z r (fun i' => (listed.setIfInBounds i true).getD i' false) (slotOf (a.put (some u) v)) W1 := by
  refine ⟨h.base.after hb, h0.1 _ _ h.ini hb, fun j u' T hj hl => ?_, fun q => ?_, fun q => by rw [getD_set_ne false hi.2] at q; rw [getD_set_ne false hi.1]; exact h.c q⟩
  · by_cases e : j = i
    · subst e
      have := (hf j u' T hj).1 rfl
      subst this
      rw [slot_put_same v hsz]; exact hT _ _ hj
    · rw [getD_set_ne false (fun q => e q.symm)] at hl
      rw [slot_put_other v (fun q => e ((hf j u' T hj).2 q.symm))]
      exact (hF j u' T hj _).1 _ _ (h.fact j u' T hj hl) hb
  · rw [getD_set_ne false hi.1] at q
    obtain ⟨X, h1, h2, h3⟩ := h.box q
    refine ⟨X, by rw [slot_put_other v hu]; exact h1, h2, ?_⟩
    rw [getD_set_ne false hi.2]; exact h3.after hb
theorem FactS.made (h : FactS w0 T0 L F al b pt z r (fun i => listed.getD i false) (slotOf a) W) (h0 : Stays T0) (hF : ∀ i u T, F i = some (u, T) → ∀ v, Stays (T v)) (hp0 : listed.getD al false = false) (hap : al ≠ pt) (hsz : b < a.tmps.size) (hf : ∀ j u' T, F j = some (u', T) → j ≠ al ∧ u' ≠ b) (ty : TypeId) :
    FactS w0 T0 L F al b pt z r (fun i' => (listed.setIfInBounds al true).getD i' false) (slotOf (a.put (some b) (.pointer (some ⟨W.heap.size, 0, none⟩)))) (W.alloc (.cells z ty)) := by
  have hb := (Below.refl W.heap.size W).alloc (Nat.le_refl _) (.cells z ty)
  have hp : listed.getD pt false = false := by
    cases q : listed.getD pt false
    · rfl
    · have : listed.getD al false = true := h.c q
      rw [hp0] at this; cases this
  refine ⟨h.base.alloc _, h0.1 _ _ h.ini hb, fun j u' T hj hl => ?_, fun _ => ⟨W.heap.size, slot_put_same _ hsz, h.base.lb, ?_⟩, fun q => by rw [getD_set_ne false hap, hp] at q; cases q⟩
  · have hn := hf j u' T hj
    rw [getD_set_ne false (fun q => hn.1 q.symm)] at hl
    rw [slot_put_other _ (fun q => hn.2 q.symm)]
    exact (hF j u' T hj _).1 _ _ (h.fact j u' T hj hl) hb
  · rw [getD_set_ne false hap, hp, if_neg (by decide)]; exact Row.at rfl _ _
theorem FactS.put (h : FactS w0 T0 L F al b pt z r (fun i => listed.getD i false) (slotOf a) W) (hT0 : Stays T0) (hF : ∀ i u T, F i = some (u, T) → ∀ v, Stays (T v)) (h0 : listed.getD pt false = false) (hls : pt < listed.size) (hl : listed.getD al false = true) (hf : ∀ j u' T, F j = some (u', T) → j ≠ pt) {X : Nat} (hX : slotOf a b = .pointer (some ⟨X, 0, none⟩)) (hzr : z.size = r.size) {s : Bool} (hz0 : z.toList[0]? = some (.bool s)) (v : Value) :
    FactS w0 T0 L F al b pt z r (fun i' => (listed.setIfInBounds pt true).getD i' false) (slotOf (a.put none v)) (W.setCells X 0 r.toList) := by
  obtain ⟨X', hs', hlb, hr⟩ := h.box hl
  obtain rfl : X' = X := by rw [hX] at hs'; injection hs' with q; injection q with q; injection q with q; exact q.symm
  simp only [h0, Bool.false_eq_true, if_false] at hr
  have ho := On.setCells W X' r.toList 0 W (On.refl W X')
  refine ⟨⟨fun q hq => ho.row (Nat.ne_of_lt (hlb.2 q hq)) (h.base.1 q hq), below_on h.base.2 ho hlb.1⟩, hT0.2 _ _ _ s h.ini ho (hr.c 0 hz0), fun j u' T hj hl' => ?_, fun _ => ⟨X', hX, hlb, ?_⟩, fun _ => by
    by_cases e : pt = al
    · rw [e]; have : al < listed.size := e ▸ hls
      simp [this]
    · rw [getD_set_ne false e]; exact hl⟩
  · rw [getD_set_ne false (fun q => hf j u' T hj q.symm)] at hl'
    exact (hF j u' T hj _).2 _ _ _ s (h.fact j u' T hj hl') ho (hr.c 0 hz0)
  · have e : (listed.setIfInBounds pt true).getD pt false = true := by simp [hls]
    rw [e, if_pos rfl]
    exact hr.putAll r.toList (by simpa using hzr)
end

set_option maxRecDepth 100000 in
set_option maxHeartbeats 6400000 in
theorem pmoved_core (R S D : Array Value) (hR : R.size = 10) (hS : S.size = 10) (hD : D.size = 20) (oD : OneC D) (dx dy : Int) (u v s1 s2 s3 s4 : Bool) (m p n q k j i l mx kx my ky g1 : Nat) (m3 p3 k3 j3 m4 p4 k4 j4 : Nat) (w : World)
    (h1 : decide (dx < -67108864) = false) (h2 : decide (67108864 < dx) = false) (h3 : decide (dy < -67108864) = false) (h4 : decide (67108864 < dy) = false)
    (hRt : ∀ W, Calls Tryz.prog 47 #[.agg (R ++ S)] W (fun e w' => e = .returned (.bool true) ∧ Below W.heap.size W w'))
    (hFr : ∀ W, Calls Tryz.prog 17 #[.agg (R ++ S)] W (PqPost W u v m p n q k j i l))
    (hNx : ∀ W, Calls Tryz.prog 37 #[.int .i64 dx] W (RatPost W s1 mx kx g1))
    (hNy : ∀ W, Calls Tryz.prog 37 #[.int .i64 dy] W (RatPost W s2 my ky g1))
    (hAx : ∀ A ka B jb X x Y y W, k ≤ ka → j ≤ jb → DS W m A → DS W p B → DS W mx X → DS W 1 Y → Calls Tryz.prog 36 #[.agg #[.bool u, .slice A k ka, .bool false, .slice B j jb], .agg #[.bool s1, .slice X kx x, .bool false, .slice Y g1 y]] W (RqPost W s3 false m3 p3 k3 j3))
    (hAy : ∀ E ie G lg X x Y y W, i ≤ ie → l ≤ lg → DS W n E → DS W q G → DS W my X → DS W 1 Y → Calls Tryz.prog 36 #[.agg #[.bool v, .slice E i ie, .bool false, .slice G l lg], .agg #[.bool s2, .slice X ky x, .bool false, .slice Y g1 y]] W (RqPost W s4 false m4 p4 k4 j4))
    (hO : ∀ A c B d E f G h W, DS W m3 A → DS W p3 B → DS W m4 E → DS W p4 G → Calls Tryz.prog 41 #[.agg #[.bool s3, .slice A k3 c, .bool false, .slice B j3 d, .bool s4, .slice E k4 f, .bool false, .slice G j4 h]] W (fun e w' => e = .returned (.tuple #[.agg D, .int .i64 0]) ∧ Below W.heap.size W w')) :
    Calls Tryz.prog 19 #[.agg (R ++ S), .int .i64 dx, .int .i64 dy] w fun e w' => e = .returned (.tuple #[.agg D, .bool true]) ∧ Below w.heap.size w w' := by
  have H_hRt := Lib.hid hRt; clear hRt
  have H_hFr := Lib.hid hFr; clear hFr
  have H_hNx := Lib.hid hNx; clear hNx
  have H_hNy := Lib.hid hNy; clear hNy
  have H_hAx := Lib.hid hAx; clear hAx
  have H_hAy := Lib.hid hAy; clear hAy
  have H_hO := Lib.hid hO; clear hO
  have H_oD := Lib.hid oD; clear oD
  have tP : AggTy Tryz.prog 34 (R ++ S).size := by rw [show (R ++ S).size = 20 by simp [hR, hS]]; exact agg_point
  have tD : AggTy Tryz.prog 34 D.size := by rw [hD]; exact agg_point
  have HD := Lib.hid hD
  have r0 := (Row.at (w := w) rfl (R ++ S).toList 34).alloc (.cells zero_point 34)
  have rz := Row.at (w := w.alloc (.cells (R ++ S) 34)) (n := w.heap.size + 1) (by simp) zero_point.toList 34
  have hB := ((Below.refl w.heap.size w).alloc (Nat.le_refl _) (.cells (R ++ S) 34)).alloc (by simp) (.cells zero_point 34)
  clear hR hS hD
  go_enter Tryz.func19, Tryz.ntmps19
  go_wp2_with (refine wpList_load_W' _ _ rfl w.heap.size 0 rfl rfl (R ++ S) r0.whole tP ?_)
  refine (H_hRt.out _).mono ?_
  rintro e w1 ⟨rfl, hb⟩
  have r1 := r0.after hb
  replace rz := rz.after hb
  replace hB := hB.trans (hb.mono hB.size)
  clear hb r0
  go_wp2_with (refine wpList_load_R rfl _ _ rfl w.heap.size rfl (R ++ S) r1 tP ?_)
  refine (H_hFr.out _).mono ?_
  rintro e w2 ⟨A, ka, B, jb, E, ie, G, lg, rfl, hc, hd, hb⟩
  replace rz := rz.after hb
  replace hB := hB.trans (hb.mono hB.size)
  clear r1
  have HC := Lib.hid hc
  have HDS := Lib.hid hd
  clear hb hc hd h1 h2 h3 h4
  go_upto_region 4 with (refine wpList_store_R rfl _ _ _ rfl _ #[.bool u, .slice A k ka, .bool false, .slice B j jb, .bool v, .slice E i ie, .bool false, .slice G l lg] rfl rfl _ (Row.at rfl [.bool false, .slice none 0 0, .bool false, .slice none 0 0, .bool false, .slice none 0 0, .bool false, .slice none 0 0] _) (by rfl) agg_rpoint (by simp [OneC, Value.oneCell']) ?_; intro w3 r3 o3)
  have hlt : w.heap.size + 1 < w2.heap.size := rz.lt
  have hb3 := (Below.refl w2.heap.size w2).alloc (Nat.le_refl _) (.cells #[.bool false, .slice none 0 0, .bool false, .slice none 0 0, .bool false, .slice none 0 0, .bool false, .slice none 0 0] 51)
  have zz := (Row.at (w := w2) rfl [.bool false, .slice none 0 0, .bool false, .slice none 0 0, .bool false, .slice none 0 0, .bool false, .slice none 0 0] 51).c 0 rfl
  have HDS3 : Hid (DS w3 m A ∧ DS w3 p B ∧ DS w3 n E ∧ DS w3 q G) := Lib.hid ⟨(HDS.out.1.below hb3).on o3 zz, (HDS.out.2.1.below hb3).on o3 zz, (HDS.out.2.2.1.below hb3).on o3 zz, (HDS.out.2.2.2.below hb3).on o3 zz⟩
  have hK : KS w [(w.heap.size + 1, zero_point), (w2.heap.size, #[.bool u, .slice A k ka, .bool false, .slice B j jb, .bool v, .slice E i ie, .bool false, .slice G l lg])] w3 := by
    refine ⟨fun x hx => ?_, below_on (hB.alloc hB.size _) o3 hB.size⟩
    simp only [List.mem_cons, List.not_mem_nil, or_false] at hx
    rcases hx with rfl | rfl
    · exact o3.row (by simp only; omega) (rz.alloc _)
    · exact r3
  clear zz hb3 r3 o3 rz hB HDS hlt
  generalize w2.heap.size = C at *
  generalize hL : [(w.heap.size + 1, zero_point), (C, (#[.bool u, .slice A k ka, .bool false, .slice B j jb, .bool v, .slice E i ie, .bool false, .slice G l lg] : Array Value))] = L at hK
  have HL := Lib.hid hL; clear hL
  have y0 : ∀ W, KS w L W → W.cell? ⟨C, 0, none⟩ = some (.bool u) := fun W h => h.c 1 (by rw [← HL.out]; rfl) 0 rfl
  have y1 : ∀ W, KS w L W → W.cell? ⟨C, 1, none⟩ = some (.slice A k ka) := fun W h => h.c 1 (by rw [← HL.out]; rfl) 1 rfl
  have y2 : ∀ W, KS w L W → W.cell? ⟨C, 2, none⟩ = some (.bool false) := fun W h => h.c 1 (by rw [← HL.out]; rfl) 2 rfl
  have y3 : ∀ W, KS w L W → W.cell? ⟨C, 3, none⟩ = some (.slice B j jb) := fun W h => h.c 1 (by rw [← HL.out]; rfl) 3 rfl
  have y4 : ∀ W, KS w L W → W.cell? ⟨C, 4, none⟩ = some (.bool v) := fun W h => h.c 1 (by rw [← HL.out]; rfl) 4 rfl
  have y5 : ∀ W, KS w L W → W.cell? ⟨C, 5, none⟩ = some (.slice E i ie) := fun W h => h.c 1 (by rw [← HL.out]; rfl) 5 rfl
  have y6 : ∀ W, KS w L W → W.cell? ⟨C, 6, none⟩ = some (.bool false) := fun W h => h.c 1 (by rw [← HL.out]; rfl) 6 rfl
  have y7 : ∀ W, KS w L W → W.cell? ⟨C, 7, none⟩ = some (.slice G l lg) := fun W h => h.c 1 (by rw [← HL.out]; rfl) 7 rfl
  have HY := Lib.hid (And.intro y0 (And.intro y1 (And.intro y2 (And.intro y3 (And.intro y4 (And.intro y5 (And.intro y6 y7)))))))
  clear y0 y1 y2 y3 y4 y5 y6 y7
  generalize hF : (fun ix => match ix with
    | 3 => some (37, fun x W => RnAt x s1 mx kx g1 W)
    | 4 => some (38, fun x W => RqAt x s3 false m3 p3 k3 j3 W)
    | 8 => some (42, fun x W => RnAt x s2 my ky g1 W)
    | 9 => some (43, fun x W => RqAt x s4 false m4 p4 k4 j4 W)
    | 10 => some (44, fun x W => PqAt x s3 s4 m3 p3 m4 p4 k3 j3 k4 j4 W)
    | _ => none : Nat → Option (Nat × (Value → World → Prop))) = F
  have hst : ∀ i u T, F i = some (u, T) → ∀ v, Stays (T v) := by
    intro i u T h v
    rw [← hF] at h
    dsimp only at h
    split at h <;> first | (cases h; done) | (cases h; first | exact RqAt.stays .. | exact PqAt.stays .. | exact RnAt.stays ..)
  have hst0 : Stays (fun W => DS W m A ∧ DS W p B ∧ DS W n E ∧ DS W q G) :=
    ⟨fun _ _ h hb => ⟨h.1.below hb, h.2.1.below hb, h.2.2.1.below hb, h.2.2.2.below hb⟩, fun _ _ _ _ h ho hX => ⟨h.1.on ho hX, h.2.1.on ho hX, h.2.2.1.on ho hX, h.2.2.2.on ho hX⟩⟩
  have hsl : ∀ j u T, F j = some (u, T) → (j = 3 ∧ u = 37) ∨ (j = 4 ∧ u = 38) ∨ (j = 8 ∧ u = 42) ∨ (j = 9 ∧ u = 43) ∨ (j = 10 ∧ u = 44) := by
    intro i u T h
    rw [← hF] at h
    dsimp only at h
    split at h <;> first | (cases h; done) | (cases h; simp)
  have f3 : F 3 = some (37, fun x W => RnAt x s1 mx kx g1 W) := by subst hF; rfl
  have f4 : F 4 = some (38, fun x W => RqAt x s3 false m3 p3 k3 j3 W) := by subst hF; rfl
  have f8 : F 8 = some (42, fun x W => RnAt x s2 my ky g1 W) := by subst hF; rfl
  have f9 : F 9 = some (43, fun x W => RqAt x s4 false m4 p4 k4 j4 W) := by subst hF; rfl
  have f10 : F 10 = some (44, fun x W => PqAt x s3 s4 m3 p3 m4 p4 k3 j3 k4 j4 W) := by subst hF; rfl
  have HFF := Lib.hid (And.intro hst (And.intro hst0 (And.intro hsl (And.intro f3 (And.intro f4 (And.intro f8 (And.intro f9 f10)))))))
  clear hst hst0 hsl f3 f4 f8 f9 f10 hF
  dsimp only [Act.put]
  go_cut [9, 10] from 33 to 47 (fun x y wx => ∃ X, x = .pointer (some ⟨X, 0, none⟩) ∧ y = .int .i64 0 ∧ Hid (Below w.heap.size w wx ∧ Row wx X D.toList ∧ Row wx (w.heap.size + 1) zero_point.toList))
  case first =>
    refine wp_region_midG (by kernel_rfl) [] (fun ix => match ix with
      | 0 => some (.pointer (some ⟨C, 0, none⟩))
      | 1 => some (.agg #[.bool u, .slice A k ka, .bool false, .slice B j jb])
      | 2 => some (.int .i64 dx)
      | 5 => some (.pointer (some ⟨C, 4, none⟩))
      | 6 => some (.agg #[.bool v, .slice E i ie, .bool false, .slice G l lg])
      | 7 => some (.int .i64 dy)
      | 11 => some (.tuple #[.agg D, .int .i64 0])
      | 12 => some (.tuple #[.agg D, .int .i64 0])
      | 13 => some (.agg D)
      | 14 => some (.int .i64 0)
      | 17 => some (.int .i64 0)
      | _ => none) (fun j hj => by cases hj) (FactS w (fun W => DS W m A ∧ DS W p B ∧ DS W n E ∧ DS W q G) L F 15 9 16 zero_point D) (by kernel_rfl) (FactS.start hK.drew HDS3.out _) ?_ ?_
    · intro listed a W ix o hI ho h0 hdep K hK'
      have hi : ix < 18 := (Array.getElem?_eq_some_iff.1 ho).1
      have hS := hI.world
      have HZ := Lib.hid (show a.tmps.size = 51 from hI.size)
      have hls : listed.size = 18 := hI.lsize
      have q1 : a.tmps[1]?.getD undef = .int .i64 dx := hI.old 1 (noDst_spec (by kernel_rfl))
      have q2 : a.tmps[2]?.getD undef = .int .i64 dy := hI.old 2 (noDst_spec (by kernel_rfl))
      have q8 : a.tmps[8]?.getD undef = .pointer (some ⟨C, 0, none⟩) := hI.old 8 (noDst_spec (by kernel_rfl))
      have h0' := getD_no h0
      have hcase : ix = 0 ∨ ix = 1 ∨ ix = 2 ∨ ix = 3 ∨ ix = 4 ∨ ix = 5 ∨ ix = 6 ∨ ix = 7 ∨ ix = 8 ∨ ix = 9 ∨ ix = 10 ∨ ix = 11 ∨ ix = 12 ∨ ix = 13 ∨ ix = 14 ∨ ix = 15 ∨ ix = 16 ∨ ix = 17 := by omega
      clear hi
      rcases hcase with rfl | rfl | rfl | rfl | rfl | rfl | rfl | rfl | rfl | rfl | rfl | rfl | rfl | rfl | rfl | rfl | rfl | rfl
      · obtain rfl := Option.some.inj (show some _ = some o from ho)
        clear hdep hI ho
        go_simp
        exact hK' (.pointer (some ⟨C, 0, none⟩)) _ (fun u hu => Option.some.inj (show some _ = some u from hu)) (hS.next HFF.out.2.1 HFF.out.1 (Below.refl _ _) 0 34 _ (by decide) (by decide) (by rw [HZ.out]; decide) (fun j u' T hj => by have := HFF.out.2.2.1 j u' T hj; omega) (fun u' T hj => by have := HFF.out.2.2.1 _ u' T hj; omega))
      · obtain rfl := Option.some.inj (show some _ = some o from ho)
        have d0 : listed.getD 0 false = true := hdep ⟨0, .data⟩ (by simp) rfl
        have q34 : a.tmps[34]?.getD undef = .pointer (some ⟨C, 0, none⟩) := hI.val 0 _ 34 _ rfl rfl rfl d0
        obtain ⟨y0, y1, y2, y3, y4, y5, y6, y7⟩ := HY.out
        have x0 := y0 _ hS.base
        have x1 := y1 _ hS.base
        have x2 := y2 _ hS.base
        have x3 := y3 _ hS.base
        clear y0 y1 y2 y3 y4 y5 y6 y7
        clear hdep hI ho
        go_simp
        exact hK' (.agg #[.bool u, .slice A k ka, .bool false, .slice B j jb]) _ (fun u hu => Option.some.inj (show some _ = some u from hu)) (hS.next HFF.out.2.1 HFF.out.1 (Below.refl _ _) 1 35 _ (by decide) (by decide) (by rw [HZ.out]; decide) (fun j u' T hj => by have := HFF.out.2.2.1 j u' T hj; omega) (fun u' T hj => by have := HFF.out.2.2.1 _ u' T hj; omega))
      · obtain rfl := Option.some.inj (show some _ = some o from ho)
        clear hdep hI ho
        go_simp
        exact hK' (.int .i64 dx) _ (fun u hu => Option.some.inj (show some _ = some u from hu)) (hS.next HFF.out.2.1 HFF.out.1 (Below.refl _ _) 2 36 _ (by decide) (by decide) (by rw [HZ.out]; decide) (fun j u' T hj => by have := HFF.out.2.2.1 j u' T hj; omega) (fun u' T hj => by have := HFF.out.2.2.1 _ u' T hj; omega))
      · obtain rfl := Option.some.inj (show some _ = some o from ho)
        have d2 : listed.getD 2 false = true := hdep ⟨2, .data⟩ (by simp) rfl
        have q36 : a.tmps[36]?.getD undef = .int .i64 dx := hI.val 2 _ 36 _ rfl rfl rfl d2
        clear hdep hI ho
        go_simp
        refine (H_hNx.out _).mono ?_
        rintro e W1 ⟨X, x, Y, y, rfl, hX, hY, hb⟩
        exact hK' _ _ (fun u hu => absurd (show (none : Option Value) = some u from hu) (by simp)) (hS.next HFF.out.2.1 HFF.out.1 hb 3 37 _ (by decide) (by decide) (by rw [HZ.out]; decide) (fun j u' T hj => by have := HFF.out.2.2.1 j u' T hj; omega) (fun u' T hj => by have e := (HFF.out.2.2.2.1).symm.trans hj; cases e; exact ⟨X, x, Y, y, rfl, hX, hY⟩))
      · obtain rfl := Option.some.inj (show some _ = some o from ho)
        have d1 : listed.getD 1 false = true := hdep ⟨1, .data⟩ (by simp) rfl
        have q35 : a.tmps[35]?.getD undef = .agg #[.bool u, .slice A k ka, .bool false, .slice B j jb] := hI.val 1 _ 35 _ rfl rfl rfl d1
        have d3 : listed.getD 3 false = true := hdep ⟨3, .data⟩ (by simp) rfl
        obtain ⟨X, x, Y, y, hv, hX, hY⟩ := hS.fact 3 _ _ HFF.out.2.2.2.1 d3
        have q37 : a.tmps[37]?.getD undef = _ := hv
        have HX := Lib.hid (And.intro hX hY); clear hX hY hv
        clear hdep hI ho
        go_simp
        refine (H_hAx.out _ _ _ _ _ _ _ _ _ HC.out.1 HC.out.2.1 hS.ini.1 hS.ini.2.1 HX.out.1 HX.out.2).mono ?_
        rintro e W1 ⟨X2, x2, Y2, y2, rfl, hc2, hd2, hb⟩
        exact hK' _ _ (fun u hu => absurd (show (none : Option Value) = some u from hu) (by simp)) (hS.next HFF.out.2.1 HFF.out.1 hb 4 38 _ (by decide) (by decide) (by rw [HZ.out]; decide) (fun j u' T hj => by have := HFF.out.2.2.1 j u' T hj; omega) (fun u' T hj => by have e := (HFF.out.2.2.2.2.1).symm.trans hj; cases e; exact ⟨X2, x2, Y2, y2, rfl, hc2, hd2⟩))
      · obtain rfl := Option.some.inj (show some _ = some o from ho)
        clear hdep hI ho
        go_simp
        exact hK' (.pointer (some ⟨C, 4, none⟩)) _ (fun u hu => Option.some.inj (show some _ = some u from hu)) (hS.next HFF.out.2.1 HFF.out.1 (Below.refl _ _) 5 39 _ (by decide) (by decide) (by rw [HZ.out]; decide) (fun j u' T hj => by have := HFF.out.2.2.1 j u' T hj; omega) (fun u' T hj => by have := HFF.out.2.2.1 _ u' T hj; omega))
      · obtain rfl := Option.some.inj (show some _ = some o from ho)
        have d5 : listed.getD 5 false = true := hdep ⟨5, .data⟩ (by simp) rfl
        have q39 : a.tmps[39]?.getD undef = .pointer (some ⟨C, 4, none⟩) := hI.val 5 _ 39 _ rfl rfl rfl d5
        obtain ⟨y0, y1, y2, y3, y4, y5, y6, y7⟩ := HY.out
        have x4 := y4 _ hS.base
        have x5 := y5 _ hS.base
        have x6 := y6 _ hS.base
        have x7 := y7 _ hS.base
        clear y0 y1 y2 y3 y4 y5 y6 y7
        clear hdep hI ho
        go_simp
        exact hK' (.agg #[.bool v, .slice E i ie, .bool false, .slice G l lg]) _ (fun u hu => Option.some.inj (show some _ = some u from hu)) (hS.next HFF.out.2.1 HFF.out.1 (Below.refl _ _) 6 40 _ (by decide) (by decide) (by rw [HZ.out]; decide) (fun j u' T hj => by have := HFF.out.2.2.1 j u' T hj; omega) (fun u' T hj => by have := HFF.out.2.2.1 _ u' T hj; omega))
      · obtain rfl := Option.some.inj (show some _ = some o from ho)
        clear hdep hI ho
        go_simp
        exact hK' (.int .i64 dy) _ (fun u hu => Option.some.inj (show some _ = some u from hu)) (hS.next HFF.out.2.1 HFF.out.1 (Below.refl _ _) 7 41 _ (by decide) (by decide) (by rw [HZ.out]; decide) (fun j u' T hj => by have := HFF.out.2.2.1 j u' T hj; omega) (fun u' T hj => by have := HFF.out.2.2.1 _ u' T hj; omega))
      · obtain rfl := Option.some.inj (show some _ = some o from ho)
        have d7 : listed.getD 7 false = true := hdep ⟨7, .data⟩ (by simp) rfl
        have q41 : a.tmps[41]?.getD undef = .int .i64 dy := hI.val 7 _ 41 _ rfl rfl rfl d7
        clear hdep hI ho
        go_simp
        refine (H_hNy.out _).mono ?_
        rintro e W1 ⟨X, x, Y, y, rfl, hX, hY, hb⟩
        exact hK' _ _ (fun u hu => absurd (show (none : Option Value) = some u from hu) (by simp)) (hS.next HFF.out.2.1 HFF.out.1 hb 8 42 _ (by decide) (by decide) (by rw [HZ.out]; decide) (fun j u' T hj => by have := HFF.out.2.2.1 j u' T hj; omega) (fun u' T hj => by have e := (HFF.out.2.2.2.2.2.1).symm.trans hj; cases e; exact ⟨X, x, Y, y, rfl, hX, hY⟩))
      · obtain rfl := Option.some.inj (show some _ = some o from ho)
        have d6 : listed.getD 6 false = true := hdep ⟨6, .data⟩ (by simp) rfl
        have q40 : a.tmps[40]?.getD undef = .agg #[.bool v, .slice E i ie, .bool false, .slice G l lg] := hI.val 6 _ 40 _ rfl rfl rfl d6
        have d8 : listed.getD 8 false = true := hdep ⟨8, .data⟩ (by simp) rfl
        obtain ⟨X, x, Y, y, hv, hX, hY⟩ := hS.fact 8 _ _ HFF.out.2.2.2.2.2.1 d8
        have q42 : a.tmps[42]?.getD undef = _ := hv
        have HX := Lib.hid (And.intro hX hY); clear hX hY hv
        clear hdep hI ho
        go_simp
        refine (H_hAy.out _ _ _ _ _ _ _ _ _ HC.out.2.2.1 HC.out.2.2.2 hS.ini.2.2.1 hS.ini.2.2.2 HX.out.1 HX.out.2).mono ?_
        rintro e W1 ⟨X2, x2, Y2, y2, rfl, hc2, hd2, hb⟩
        exact hK' _ _ (fun u hu => absurd (show (none : Option Value) = some u from hu) (by simp)) (hS.next HFF.out.2.1 HFF.out.1 hb 9 43 _ (by decide) (by decide) (by rw [HZ.out]; decide) (fun j u' T hj => by have := HFF.out.2.2.1 j u' T hj; omega) (fun u' T hj => by have e := (HFF.out.2.2.2.2.2.2.1).symm.trans hj; cases e; exact ⟨X2, x2, Y2, y2, rfl, hc2, hd2⟩))
      · obtain rfl := Option.some.inj (show some _ = some o from ho)
        have d4 : listed.getD 4 false = true := hdep ⟨4, .data⟩ (by simp) rfl
        have d9 : listed.getD 9 false = true := hdep ⟨9, .data⟩ (by simp) rfl
        obtain ⟨X, x, Y, y, hv, hc1, hd1⟩ := hS.fact 4 _ _ HFF.out.2.2.2.2.1 d4
        obtain ⟨X2, x2, Y2, y2, hv2, hc2, hd2⟩ := hS.fact 9 _ _ HFF.out.2.2.2.2.2.2.1 d9
        have q38 : a.tmps[38]?.getD undef = _ := hv
        have q43 : a.tmps[43]?.getD undef = _ := hv2
        have HX := Lib.hid (And.intro hc1 (And.intro hd1 (And.intro hc2 hd2))); clear hc1 hd1 hc2 hd2 hv hv2
        clear hdep hI ho
        go_simp
        exact hK' _ _ (fun u hu => absurd (show (none : Option Value) = some u from hu) (by simp)) (hS.next HFF.out.2.1 HFF.out.1 (Below.refl _ _) 10 44 _ (by decide) (by decide) (by rw [HZ.out]; decide) (fun j u' T hj => by have := HFF.out.2.2.1 j u' T hj; omega) (fun u' T hj => by have e := (HFF.out.2.2.2.2.2.2.2).symm.trans hj; cases e; exact ⟨X, x, Y, y, X2, x2, Y2, y2, rfl, ⟨HX.out.1.1, HX.out.1.2, HX.out.2.2.1.1, HX.out.2.2.1.2⟩, ⟨HX.out.2.1.1, HX.out.2.1.2, HX.out.2.2.2.1, HX.out.2.2.2.2⟩⟩))
      · obtain rfl := Option.some.inj (show some _ = some o from ho)
        have d10 : listed.getD 10 false = true := hdep ⟨10, .data⟩ (by simp) rfl
        obtain ⟨X, x, Y, y, X2, x2, Y2, y2, hv, _, h1, h2, h3, h4⟩ := hS.fact 10 _ _ HFF.out.2.2.2.2.2.2.2 d10
        have q44 : a.tmps[44]?.getD undef = _ := hv
        have HX := Lib.hid (And.intro h1 (And.intro h2 (And.intro h3 h4))); clear h1 h2 h3 h4 hv
        clear hdep hI ho
        go_simp
        refine (H_hO.out _ _ _ _ _ _ _ _ _ HX.out.1 HX.out.2.1 HX.out.2.2.1 HX.out.2.2.2).mono ?_
        rintro e W1 ⟨rfl, hb⟩
        exact hK' (.tuple #[.agg D, .int .i64 0]) _ (fun u hu => Option.some.inj (show some _ = some u from hu)) (hS.next HFF.out.2.1 HFF.out.1 hb 11 45 _ (by decide) (by decide) (by rw [HZ.out]; decide) (fun j u' T hj => by have := HFF.out.2.2.1 j u' T hj; omega) (fun u' T hj => by have := HFF.out.2.2.1 _ u' T hj; omega))
      · obtain rfl := Option.some.inj (show some _ = some o from ho)
        have d11 : listed.getD 11 false = true := hdep ⟨11, .data⟩ (by simp) rfl
        have q45 : a.tmps[45]?.getD undef = .tuple #[.agg D, .int .i64 0] := hI.val 11 _ 45 _ rfl rfl rfl d11
        clear hdep hI ho
        go_simp
        exact hK' (.tuple #[.agg D, .int .i64 0]) _ (fun u hu => Option.some.inj (show some _ = some u from hu)) (hS.next HFF.out.2.1 HFF.out.1 (Below.refl _ _) 12 33 _ (by decide) (by decide) (by rw [HZ.out]; decide) (fun j u' T hj => by have := HFF.out.2.2.1 j u' T hj; omega) (fun u' T hj => by have := HFF.out.2.2.1 _ u' T hj; omega))
      · obtain rfl := Option.some.inj (show some _ = some o from ho)
        have d12 : listed.getD 12 false = true := hdep ⟨12, .data⟩ (by simp) rfl
        have q33 : a.tmps[33]?.getD undef = .tuple #[.agg D, .int .i64 0] := hI.val 12 _ 33 _ rfl rfl rfl d12
        clear hdep hI ho
        go_simp
        exact hK' (.agg D) _ (fun u hu => Option.some.inj (show some _ = some u from hu)) (hS.next HFF.out.2.1 HFF.out.1 (Below.refl _ _) 13 46 _ (by decide) (by decide) (by rw [HZ.out]; decide) (fun j u' T hj => by have := HFF.out.2.2.1 j u' T hj; omega) (fun u' T hj => by have := HFF.out.2.2.1 _ u' T hj; omega))
      · obtain rfl := Option.some.inj (show some _ = some o from ho)
        have d12 : listed.getD 12 false = true := hdep ⟨12, .data⟩ (by simp) rfl
        have q33 : a.tmps[33]?.getD undef = .tuple #[.agg D, .int .i64 0] := hI.val 12 _ 33 _ rfl rfl rfl d12
        clear hdep hI ho
        go_simp
        exact hK' (.int .i64 0) _ (fun u hu => Option.some.inj (show some _ = some u from hu)) (hS.next HFF.out.2.1 HFF.out.1 (Below.refl _ _) 14 47 _ (by decide) (by decide) (by rw [HZ.out]; decide) (fun j u' T hj => by have := HFF.out.2.2.1 j u' T hj; omega) (fun u' T hj => by have := HFF.out.2.2.1 _ u' T hj; omega))
      · obtain rfl := Option.some.inj (show some _ = some o from ho)
        clear hdep hI ho
        go_simp
        exact hK' _ _ (fun u hu => absurd (show (none : Option Value) = some u from hu) (by simp)) (hS.made HFF.out.2.1 HFF.out.1 h0' (by decide) (by rw [HZ.out]; decide) (fun j u' T hj => by have := HFF.out.2.2.1 j u' T hj; omega) _)
      · obtain rfl := Option.some.inj (show some _ = some o from ho)
        have d13 : listed.getD 13 false = true := hdep ⟨13, .data⟩ (by simp) rfl
        have q46 : a.tmps[46]?.getD undef = .agg D := hI.val 13 _ 46 _ rfl rfl rfl d13
        have d15 : listed.getD 15 false = true := hdep ⟨15, .data⟩ (by simp) rfl
        obtain ⟨X, hX, hlb, hr⟩ := hS.box d15
        simp only [h0', Bool.false_eq_true, if_false] at hr
        have e1 : a.eval (.tmp 9) = .pointer (some ⟨X, 0, none⟩) := by rw [← hX]; exact act_tmp' a 9
        have e2 : a.eval (.tmp 46) = .agg D := by rw [← q46]; exact act_tmp' a 46
        refine wp_store_mid _ _ _ rfl X 0 D e1 e2 (hr.there 0 D.size (by rw [HD.out]; exact Nat.le_refl _)) tD.2 H_oD.out ?_
        exact hK' undef _ (fun u hu => absurd (show (none : Option Value) = some u from hu) (by simp)) (hS.put HFF.out.2.1 HFF.out.1 h0' (by omega) d15 (fun j u' T hj => by have := HFF.out.2.2.1 j u' T hj; omega) hX (by rw [HD.out]; rfl) (s := false) rfl _)
      · obtain rfl := Option.some.inj (show some _ = some o from ho)
        have d14 : listed.getD 14 false = true := hdep ⟨14, .data⟩ (by simp) rfl
        have q47 : a.tmps[47]?.getD undef = .int .i64 0 := hI.val 14 _ 47 _ rfl rfl rfl d14
        clear hdep hI ho
        go_simp
        exact hK' (.int .i64 0) _ (fun u hu => Option.some.inj (show some _ = some u from hu)) (hS.next HFF.out.2.1 HFF.out.1 (Below.refl _ _) 17 10 _ (by decide) (by decide) (by rw [HZ.out]; decide) (fun j u' T hj => by have := HFF.out.2.2.1 j u' T hj; omega) (fun u' T hj => by have := HFF.out.2.2.1 _ u' T hj; omega))
    · intro listed a W hI hall
      obtain ⟨X, hX, _, hrX⟩ := hI.world.box (hall 15 (by decide))
      have h10 : slotOf a 10 = .int .i64 0 := hI.val 17 _ 10 _ rfl rfl rfl (hall 17 (by decide))
      rw [hall 16 (by decide), if_pos rfl] at hrX
      have hbase := hI.world.base
      have hb2 := hbase.2
      have rZ := hbase.row 0 (b := w.heap.size + 1) (cs := zero_point) (by rw [← HL.out]; rfl)
      obtain ⟨f, hf⟩ : ∃ f : Nat → Value, ∀ t, slotOf a t = f t := ⟨_, fun _ => rfl⟩
      have ha := hI.frame [34, 35, 36, 37, 38, 39, 40, 41, 42, 43, 44, 45, 33, 46, 47, 9, 10] (by kernel_rfl) f hf
      have e9 : f 9 = .pointer (some ⟨X, 0, none⟩) := (hf 9).symm.trans hX
      have e10 : f 10 = .int .i64 0 := (hf 10).symm.trans h10
      clear hf hI hX h10 hall hbase
      subst ha
      simp only [setAll, List.foldl_cons, List.foldl_nil, List.setIfInBounds_toArray, List.set_cons_zero, List.set_cons_succ, e9, e10]
      go_wp2_with fail
      go_meet
      exact ⟨_, rfl, rfl, Lib.hid ⟨hb2, hrX, rZ⟩⟩
  case rest =>
    obtain ⟨X, rfl, rfl, HF⟩ := hcut
    clear hK HL HY HFF
    have rX := HF.out.2.1
    have rZ := HF.out.2.2
    have HB := Lib.hid HF.out.1
    clear HF
    go_wp2_with (first
      | (refine wpList_load_R rfl _ _ rfl X rfl D rX tD ?_)
      | (refine wpList_store_R rfl _ _ _ rfl _ D rfl rfl _ rZ (by rw [HD.out]; rfl) tD H_oD.out ?_; intro w7 r7 o7))
    exact bodyPost_ret (results_R2 (cs := D) rfl rfl r7 tD) rfl ⟨rfl, below_on HB.out o7 (by omega)⟩
end Go.Proofs.YthmobcpdbgmbeaaGreatDoor
