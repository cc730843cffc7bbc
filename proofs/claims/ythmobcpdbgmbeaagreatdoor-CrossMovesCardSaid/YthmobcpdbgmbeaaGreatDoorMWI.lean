/- The document's Moved of a point, by its numbers. -/
import Derived.Test.YthmobcpdbgmbeaaGreatDoorMWE
import Derived.Test.YthmobcpdbgmbeaaGreatDoorMSO
namespace Go.Proofs.YthmobcpdbgmbeaaGreatDoor
open Go.RowKit CrossMath

/-- A fraction in lowest terms that a point may have. -/
def GoodR (n d : Int) : Prop := 0 < d ∧ Int.gcd n d = 1 ∧ n.natAbs < 1237940039285380274899124224 ∧ d.natAbs < 1152921504606846976
theorem good_T {n d : Int} (h : GoodR n d) : n.natAbs < T256 ∧ d.natAbs < T256 := ⟨Nat.lt_trans h.2.2.1 (by decide), Nat.lt_trans h.2.2.2 (by decide)⟩
theorem good_L {n d : Int} (h : GoodR n d) : L16 n.natAbs ≤ 6 ∧ L16 d.natAbs ≤ 4 := ⟨L16_le (Nat.lt_trans h.2.2.1 (by decide)), L16_le (Nat.lt_trans h.2.2.2 (by decide))⟩
theorem fr_good {n d : Int} (hd : 0 < d) (hg : Int.gcd n d = 1) : frN n d = n ∧ frD n d = d := by
  unfold frN frD
  rw [hg, if_neg (by omega), show ((1 : Nat) : Int) = 1 from rfl, Int.tdiv_one, Int.tdiv_one]
  omega
theorem mulD_bd {a b : Int} (ha : a.natAbs < 1152921504606846976) (hb : b.natAbs ≤ 67108864) : (b * a).natAbs ≤ 1152921504606846976 * 67108864 := by
  rw [Int.natAbs_mul, Nat.mul_comm]
  exact Nat.mul_le_mul (Nat.le_of_lt ha) hb
theorem radd_good (n d x : Int) (A B E G : Option Addr) (c e f h : Nat) (w : World) (hg : GoodR n d) (hx : Bd x) (dA : DS w n.natAbs A) (dB : DS w d.natAbs B) (dE : DS w x.natAbs E) (dG : DS w 1 G) :
    Calls Tryz.prog 36 #[.agg #[.bool (decide (n < 0)), .slice A (L16 n.natAbs) c, .bool false, .slice B (L16 d.natAbs) e], .agg #[.bool (decide (x < 0)), .slice E (L16 x.natAbs) f, .bool false, .slice G (L16 1) h]] w
      (RqPost w (decide (n + x * d < 0)) false (n + x * d).natAbs d.natAbs (L16 (n + x * d).natAbs) (L16 d.natAbs)) := by
  obtain ⟨hd, hgc, hn1, hd1⟩ := hg
  have hxb : x.natAbs ≤ 67108864 := by unfold Bd at hx; omega
  have hm := mulD_bd hd1 hxb
  have key := radd_any n d x 1 A B E G c e f h w hd (by decide) (Nat.lt_trans hn1 (by decide)) (Nat.lt_trans hd1 (by decide)) (Nat.lt_of_le_of_lt hxb (by decide)) (by decide)
    (by rw [Int.mul_one]; exact Nat.lt_trans hn1 (by decide)) (Nat.lt_of_le_of_lt hm (by decide))
    (by rw [Int.mul_one]; exact Nat.lt_of_le_of_lt (Int.natAbs_add_le _ _) (Nat.lt_of_lt_of_le (Nat.add_lt_add_of_lt_of_le hn1 hm) (by decide))) (by rw [Int.mul_one]; exact Nat.lt_trans hd1 (by decide)) dA dB dE dG
  rw [Int.mul_one, Int.mul_one] at key
  have hfr := frN_mv n d x (by omega)
  have hf := fr_good hd hgc
  rw [hfr.1, hfr.2, hf.1, hf.2] at key
  exact key
theorem rout_good (n d : Int) (A B : Option Addr) (c e : Nat) (w : World) (hd : 0 < d) (hn : n.natAbs < T256) (hd' : d.natAbs < T256) (dA : DS w n.natAbs A) (dB : DS w d.natAbs B) :
    Calls Tryz.prog 67 #[.agg #[.bool (decide (n < 0)), .slice A (L16 n.natAbs) c, .bool false, .slice B (L16 d.natAbs) e]] w fun e w' => e = .returned (.tuple #[.agg (ratA n d), .int .i64 0]) ∧ Below w.heap.size w w' := by
  have d0 : decide (d < 0) = false := by simp; omega
  refine rout_core _ _ _ _ _ _ _ _ _ _ _ _ A B _ c _ e w (fun W hW => ?_) (fun W hW => ?_)
  · have := out_z n A c W (dA.below hW)
    rw [outV, if_pos hn] at this
    exact this
  · have := out_z d B e W (dB.below hW)
    rw [outV, if_pos hd', bigv, d0] at this
    exact this
theorem rright_good {n d : Int} (h : GoodR n d) (W : World) : Calls Tryz.prog 84 #[.agg (ratA n d)] W fun e w' => e = .returned (.bool true) ∧ Below W.heap.size W w' := rright_any n d W h.1 h.2.1 (good_T h).1 (good_T h).2
theorem rfrom_good {n d : Int} (h : GoodR n d) (W : World) : Calls Tryz.prog 46 #[.agg (ratA n d)] W (RqPost W (decide (n < 0)) false n.natAbs d.natAbs (L16 n.natAbs) (L16 d.natAbs)) := by
  have := rfrom_any n d W (good_T h).1 (good_T h).2
  rw [show decide (d < 0) = false by have := h.1; simp; omega] at this
  exact this
def GoodP (p : Pt) : Prop := GoodR p.xn p.xd ∧ GoodR p.yn p.yd
set_option maxRecDepth 100000 in
theorem pmoved_any (p : Pt) (dx dy : Int) (w : World) (hp : GoodP p) (hx : Bd dx) (hy : Bd dy) : Calls Tryz.prog 19 #[.agg (ptA p), .int .i64 dx, .int .i64 dy] w fun e w' => e = .returned (.tuple #[.agg (ptA (mvP p dx dy)), .bool true]) ∧ Below w.heap.size w w' := by
  obtain ⟨h1, h2⟩ := hp
  have hx' := hx
  have hy' := hy
  unfold Bd at hx' hy'
  have l1 := good_L h1
  have l2 := good_L h2
  have bm : ∀ {n d x : Int}, GoodR n d → Bd x → (n + x * d).natAbs < 65536 ^ 6 := fun {n d x} hg hx => by
    have hxb : x.natAbs ≤ 67108864 := by unfold Bd at hx; omega
    exact Nat.lt_of_le_of_lt (Int.natAbs_add_le _ _) (Nat.lt_of_lt_of_le (Nat.add_lt_add_of_lt_of_le hg.2.2.1 (mulD_bd hg.2.2.2 hxb)) (by decide))
  have m1 := bm h1 hx
  have m2 := bm h2 hy
  have hfrom : ∀ W, Calls Tryz.prog 17 #[.agg (ptA p)] W (PqPost W (decide (p.xn < 0)) (decide (p.yn < 0)) p.xn.natAbs p.xd.natAbs p.yn.natAbs p.yd.natAbs (L16 p.xn.natAbs) (L16 p.xd.natAbs) (L16 p.yn.natAbs) (L16 p.yd.natAbs)) := fun W =>
    pfrom_core _ _ _ _ _ _ _ _ _ _ _ _ _ _ _ _ _ _ _ _ _ _ _ _ _ _ _ _ _ _ W (fun W => rfrom_good h1 W) (fun W => rfrom_good h2 W)
  refine pmoved_core (ratA p.xn p.xd) (ratA p.yn p.yd) (ptA (mvP p dx dy)) rfl rfl rfl (ptA_one _) dx dy (decide (p.xn < 0)) (decide (p.yn < 0)) (decide (dx < 0)) (decide (dy < 0)) (decide (p.xn + dx * p.xd < 0)) (decide (p.yn + dy * p.yd < 0)) p.xn.natAbs p.xd.natAbs p.yn.natAbs p.yd.natAbs (L16 p.xn.natAbs) (L16 p.xd.natAbs) (L16 p.yn.natAbs) (L16 p.yd.natAbs)
    dx.natAbs (L16 dx.natAbs) dy.natAbs (L16 dy.natAbs) (L16 1) (p.xn + dx * p.xd).natAbs p.xd.natAbs (L16 (p.xn + dx * p.xd).natAbs) (L16 p.xd.natAbs) (p.yn + dy * p.yd).natAbs p.yd.natAbs (L16 (p.yn + dy * p.yd).natAbs) (L16 p.yd.natAbs) w (by simp; omega) (by simp; omega) (by simp; omega) (by simp; omega) ?_ hfrom ?_ ?_ ?_ ?_ ?_
  · exact fun W => pright_core _ _ rfl rfl _ _ _ _ _ _ _ _ _ _ W l1.1 l1.2 l2.1 l2.2 (fun W => rright_good h1 W) (fun W => rright_good h2 W) (fun W => rfrom_good h1 W) (fun W => rfrom_good h2 W)
  · exact fun W => rnum_any dx W (in_i64 hx).1 (in_i64 hx).2
  · exact fun W => rnum_any dy W (in_i64 hy).1 (in_i64 hy).2
  · exact fun A ka B jb X x Y y W _ _ dA dB dX dY => radd_good p.xn p.xd dx A B X Y ka jb x y W h1 hx dA dB dX dY
  · exact fun A ka B jb X x Y y W _ _ dA dB dX dY => radd_good p.yn p.yd dy A B X Y ka jb x y W h2 hy dA dB dX dY
  · intro A c B d E f G h W dA dB dE dG
    have k1 : L16 (p.xn + dx * p.xd).natAbs ≤ 6 := L16_le m1
    have k2 : L16 (p.yn + dy * p.yd).natAbs ≤ 6 := L16_le m2
    have t1 : (p.xn + dx * p.xd).natAbs < T256 := Nat.lt_trans m1 (by decide)
    have t2 : (p.yn + dy * p.yd).natAbs < T256 := Nat.lt_trans m2 (by decide)
    exact ptout_core _ _ _ _ A B E G _ c _ d _ f _ h (ratA (p.xn + dx * p.xd) p.xd) (ratA (p.yn + dy * p.yd) p.yd) rfl rfl (ratA_one _ _) (ratA_one _ _) W
      (fun W hW => rout_good _ _ A B c d W h1.1 t1 (good_T h1).2 (dA.below hW) (dB.below hW)) (fun W hW => rout_good _ _ E G f h W h2.1 t2 (good_T h2).2 (dE.below hW) (dG.below hW))
      (fun W => fits_any _ _ A B _ c _ d W k1 l1.2) (fun W => fits_any _ _ E G _ f _ h W k2 l2.2)
end Go.Proofs.YthmobcpdbgmbeaaGreatDoor
