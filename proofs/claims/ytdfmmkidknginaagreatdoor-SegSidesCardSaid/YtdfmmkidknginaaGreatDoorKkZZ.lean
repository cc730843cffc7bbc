import Derived.Test.YtdfmmkidknginaaGreatDoorKkZY
namespace Go.Proofs.YtdfmmkidknginaaGreatDoor
open Go.RowKit Go.Sort CrossMath

def M128 : Nat := 340282366920938463463374607431768211456
def M64 : Nat := 18446744073709551616
theorem w_bd {u n d a : Int} (hu : u.natAbs ≤ 134217728) (ha : Bd a) (h : RtR n d) :
 (frN (n * 1 + -a * d) (d * 1)).natAbs < M128 ∧ (frD (n * 1 + -a * d) (d * 1)).natAbs < M64 ∧ 0 < frD (n * 1 + -a * d) (d * 1) ∧ (u * frN (n * 1 + -a * d) (d * 1)).natAbs < M128 ∧
   (wN u n d a).natAbs < M128 ∧ (wD u n d a).natAbs < M64 ∧ 0 < wD u n d a ∧ (-a * d).natAbs < M128 ∧ (n * 1 + -a * d).natAbs < M128 := by
 have hd : d * 1 ≠ 0 := by have := h.2.2.1; omega
 have e0 : (n * 1 + -a * d).natAbs = (n - a * d).natAbs := by rw [Int.neg_mul]; congr 1; omega
 have w1 := way_bd ha h
 have hd2 := h.2.1
 have e1 : (-a * d).natAbs = (a * d).natAbs := by rw [Int.neg_mul, Int.natAbs_neg]
 have p1 := frD_pos (n := n * 1 + -a * d) hd
 have b1 := fr_le (n := n * 1 + -a * d) (d := d * 1)
 unfold wN wD
 generalize frN (n * 1 + -a * d) (d * 1) = N at *
 generalize frD (n * 1 + -a * d) (d * 1) = D at *
 have b2 := fr_le (n := u * N) (d := 1 * D)
 have p2 := frD_pos (n := u * N) (d := 1 * D) (by omega)
 have hN : N.natAbs ≤ 158456325028528675187087900672 := Nat.le_trans (Nat.le_trans b1.1 (Nat.le_of_eq e0)) w1.2
 have hD : D.natAbs ≤ d.natAbs := by have := b1.2; rwa [Int.mul_one] at this
 have m1 : (u * N).natAbs ≤ 134217728 * 158456325028528675187087900672 := by
  rw [Int.natAbs_mul]
  exact Nat.mul_le_mul hu hN
 have hY : (frD (u * N) (1 * D)).natAbs ≤ D.natAbs := by have := b2.2; rwa [Int.one_mul] at this ⊢
 have hX := b2.1
 generalize frN (u * N) (1 * D) = X at *
 generalize frD (u * N) (1 * D) = Y at *
 generalize u * N = V at *
 unfold M128 M64
 refine ⟨by omega, by omega, p1, by omega, by omega, by omega, p2, ?_, ?_⟩
 ·rw [e1]; omega
 ·rw [e0]; omega
theorem T_of_128 {m : Nat} (h : m < M128) : m < T256 := Nat.lt_trans h (by decide)
theorem T_of_64 {m : Nat} (h : m < M64) : m < T256 := Nat.lt_trans h (by decide)
theorem T_mul {a b : Int} (h1 : a.natAbs < M128) (h2 : b.natAbs < M64) : (a * b).natAbs < T256 := by
 rw [Int.natAbs_mul]
 exact Nat.lt_of_lt_of_le (Nat.mul_lt_mul'' h1 h2) (by decide)
theorem way_in {a b : Int} (ha : Bd a) (hb : Bd b) : (b - a).natAbs ≤ 134217728 ∧ IntKind.i64.wrap (b - a) = b - a ∧ -9223372036854775808 ≤ b - a ∧ b - a ≤ 9223372036854775807 := by
 unfold Bd at *
 refine ⟨by omega, ?_, by omega, by omega⟩
 rw [IntKind.wrap_i64]; omega
theorem bd_T4 {a : Int} (ha : Bd a) : a.natAbs < T256 := by
 unfold Bd at ha
 exact Nat.lt_of_le_of_lt (show a.natAbs ≤ 67108864 by omega) (by decide)
theorem way_T {a : Int} (ha : a.natAbs ≤ 134217728) : a.natAbs < T256 := Nat.lt_of_le_of_lt ha (by decide)
set_option maxRecDepth 100000 in
theorem refside_any (s : Sg) (p : Pt) (u : Array Value) (w : World) (hs : BdS s) (hp : RtP p) (hu : PtE p u w) :
 Calls Tryz.prog 23 #[.agg (sgA s), .agg u] w fun e w' => e = .returned (.int .i64 (sideV s p)) ∧ Below w.heap.size w w' := by
 obtain ⟨A, a, B, b, E, f, G, g, rfl, d1, d2, d3, d4⟩ := hu
 obtain ⟨b1, b2, b3, b4⟩ := hs
 obtain ⟨hx, hy⟩ := hp
 rw [← side_cross s p hx.2.2.1 hy.2.2.1]
 obtain ⟨ux1, ux2, ux3, ux4⟩ := way_in b1 b3
 obtain ⟨uy1, uy2, uy3, uy4⟩ := way_in b2 b4
 obtain ⟨x1, x2, x3, x4, x5, x6, x7, x8, x9⟩ := w_bd ux1 b2 hy
 obtain ⟨y1, y2, y3, y4, y5, y6, y7, y8, y9⟩ := w_bd uy1 b1 hx
 have t1 : (1 : Int).natAbs < T256 := by decide
 refine refside_core (decide (p.xn < 0)) (decide (p.yn < 0)) (decide (s.bx - s.ax < 0)) (decide (s.ay < 0)) (decide (s.bY - s.ay < 0)) (decide (s.ax < 0)) (decide ((frN (p.yn * 1 + -s.ay * p.yd) (p.yd * 1)) < 0)) (decide ((wN (s.bx - s.ax) p.yn p.yd s.ay) < 0)) (decide ((frN (p.xn * 1 + -s.ax * p.xd) (p.xd * 1)) < 0)) (decide ((wN (s.bY - s.ay) p.xn p.xd s.ax) < 0)) p.xn.natAbs p.xd.natAbs p.yn.natAbs p.yd.natAbs _ _ _ _ (s.bx - s.ax).natAbs (L16 (s.bx - s.ax).natAbs) s.ay.natAbs (L16 s.ay.natAbs) (s.bY - s.ay).natAbs (L16 (s.bY - s.ay).natAbs) s.ax.natAbs (L16 s.ax.natAbs) (L16 1) (frN (p.yn * 1 + -s.ay * p.yd) (p.yd * 1)).natAbs (frD (p.yn * 1 + -s.ay * p.yd) (p.yd * 1)).natAbs (L16 (frN (p.yn * 1 + -s.ay * p.yd) (p.yd * 1)).natAbs) (L16 (frD (p.yn * 1 + -s.ay * p.yd) (p.yd * 1)).natAbs) (wN (s.bx - s.ax) p.yn p.yd s.ay).natAbs (wD (s.bx - s.ax) p.yn p.yd s.ay).natAbs (L16 (wN (s.bx - s.ax) p.yn p.yd s.ay).natAbs) (L16 (wD (s.bx - s.ax) p.yn p.yd s.ay).natAbs) (frN (p.xn * 1 + -s.ax * p.xd) (p.xd * 1)).natAbs (frD (p.xn * 1 + -s.ax * p.xd) (p.xd * 1)).natAbs (L16 (frN (p.xn * 1 + -s.ax * p.xd) (p.xd * 1)).natAbs) (L16 (frD (p.xn * 1 + -s.ax * p.xd) (p.xd * 1)).natAbs) (wN (s.bY - s.ay) p.xn p.xd s.ax).natAbs (wD (s.bY - s.ay) p.xn p.xd s.ax).natAbs (L16 (wN (s.bY - s.ay) p.xn p.xd s.ax).natAbs) (L16 (wD (s.bY - s.ay) p.xn p.xd s.ax).natAbs) s.ax s.ay s.bx s.bY (s.bx - s.ax) (s.bY - s.ay) _ A B E G a b f g w ux2 uy2 d1 d2 d3 d4
  (fun W => rnumQ_any _ W ux3 ux4) (fun W => rnumQ_any _ W (in_i64 b2).1 (in_i64 b2).2) ?_ ?_ (fun W => rnumQ_any _ W uy3 uy4) (fun W => rnumQ_any _ W (in_i64 b1).1 (in_i64 b1).2) ?_ ?_ ?_
 ·intro A c D d E f G g W _ hA hD hE hG hf
  exact rsub_any p.yn p.yd s.ay 1 A D E G c d f g W hy.2.2.1 (by decide) hy.T.1 hy.T.2 (bd_T4 b2) t1 (by rw [Int.mul_one]; exact hy.T.1) (T_of_128 x8) (T_of_128 x9) (by rw [Int.mul_one]; exact hy.T.2) hA hD hE hG hf
 ·intro A c D d E f G g W _ hA hD hE hG
  exact rmul_any (s.bx - s.ax) 1 _ _ A D E G c d f g W (by decide) x3 (way_T ux1) t1 (T_of_128 x1) (T_of_64 x2) (T_of_128 x4) (by rw [Int.one_mul]; exact T_of_64 x2) hA hD hE hG
 ·intro A c D d E f G g W _ hA hD hE hG hf
  exact rsub_any p.xn p.xd s.ax 1 A D E G c d f g W hx.2.2.1 (by decide) hx.T.1 hx.T.2 (bd_T4 b1) t1 (by rw [Int.mul_one]; exact hx.T.1) (T_of_128 y8) (T_of_128 y9) (by rw [Int.mul_one]; exact hx.T.2) hA hD hE hG hf
 ·intro A c D d E f G g W _ hA hD hE hG
  exact rmul_any (s.bY - s.ay) 1 _ _ A D E G c d f g W (by decide) y3 (way_T uy1) t1 (T_of_128 y1) (T_of_64 y2) (T_of_128 y4) (by rw [Int.one_mul]; exact T_of_64 y2) hA hD hE hG
 ·intro A c D d E f G g W _ hA hD hE hG
  exact rcmp_any (wN (s.bx - s.ax) p.yn p.yd s.ay) (wD (s.bx - s.ax) p.yn p.yd s.ay) (wN (s.bY - s.ay) p.xn p.xd s.ax) (wD (s.bY - s.ay) p.xn p.xd s.ax) A D E G c d f g W x7 y7 (T_of_128 x5) (T_of_64 x6) (T_of_128 y5) (T_of_64 y6) (T_mul x5 y6) (T_mul y5 x6) hA hD hE hG
theorem cmpQ_lex (p q : Pt) : cmpQ p q = lex (p.xn * q.xd - q.xn * p.xd) (p.yn * q.yd - q.yn * p.yd) := by
 unfold cmpQ lex
 rw [cmp3_sign, cmp3_sign]
 by_cases h : p.xn * q.xd - q.xn * p.xd = 0
 ·rw [if_pos h, if_pos (by rw [h]; rfl)]
 ·rw [if_neg h, if_neg (fun q => h (Int.sign_eq_zero_iff_zero.1 q))]
theorem cmpQ_dot (p : Pt) (x y : Int) : cmpQ p (dotP x y) = cmpPt p x y := by
 rw [cmpQ_lex, cmpPt_lex]
 unfold dotP
 rw [Int.mul_one, Int.mul_one]
theorem cmpQ_dot' (p : Pt) (x y : Int) : cmpQ (dotP x y) p = -cmpPt p x y := by
 rw [cmpQ_lex, cmpPt_lex, ← lex_neg]
 unfold dotP
 rw [Int.mul_one, Int.mul_one, Int.neg_sub, Int.neg_sub]
theorem on_doc (s : Sg) (p : Pt) (hx : 0 < p.xd) (hy : 0 < p.yd) (hne : NeS s) :
 ((sideV s p == 0) && ((cmpQ (dotP s.ax s.ay) p == 0) || ((cmpQ p (dotP s.bx s.bY) == 0) || (cmpQ (dotP s.ax s.ay) p == cmpQ p (dotP s.bx s.bY))))) = onB s p := by
 rw [cmpQ_dot, cmpQ_dot']
 have hv : (sideV s p == 0) = decide (valS s p = 0) := by
  rw [sideV_val]
  by_cases h : valS s p = 0
  ·rw [h]; rfl
  ·rw [decide_eq_false h]
   exact beq_eq_false_iff_ne.2 (fun q => h (Int.sign_eq_zero_iff_zero.1 q))
 have hn : ¬ (cmpPt p s.ax s.ay = 0 ∧ cmpPt p s.bx s.bY = 0) := by
  rintro ⟨h1, h2⟩
  rw [cmpPt_lex] at h1 h2
  obtain ⟨a1, a2⟩ := lex_zero h1
  obtain ⟨c1, c2⟩ := lex_zero h2
  exact hne ⟨Int.eq_of_mul_eq_mul_right (show p.xd ≠ 0 by omega) (by omega), Int.eq_of_mul_eq_mul_right (show p.yd ≠ 0 by omega) (by omega)⟩
 unfold onB
 rw [hv]
 congr 1
 have h1 := lex3 (p.xn - s.ax * p.xd) (p.yn - s.ay * p.yd)
 have h2 := lex3 (p.xn - s.bx * p.xd) (p.yn - s.bY * p.yd)
 rw [← cmpPt_lex] at h1 h2
 generalize cmpPt p s.ax s.ay = x at *
 generalize cmpPt p s.bx s.bY = y at *
 rw [Bool.eq_iff_iff]
 simp only [Bool.or_eq_true, beq_iff_eq, decide_eq_true_eq]
 omega
theorem ptof_E (x y : Int) (hx : Bd x) (hy : Bd y) (W : World) : Calls Tryz.prog 61 #[.agg (nodeA x y)] W fun e w' => ∃ u, e = .returned (.agg u) ∧ PtE (dotP x y) u w' ∧ Below W.heap.size W w' := by
 refine (ptof_any x y W hx hy).mono ?_
 rintro e w' ⟨A, c, B, d, E, f, G, h, rfl, ⟨d1, d2, d3, d4⟩, hb⟩
 exact ⟨_, rfl, ⟨A, c, B, d, E, f, G, h, rfl, d1, d2, d3, d4⟩, hb⟩
set_option maxRecDepth 100000 in
theorem refon_any (s : Sg) (p : Pt) (u : Array Value) (w : World) (hs : BdS s) (hne : NeS s) (hp : RtP p) (hu : PtE p u w) :
 Calls Tryz.prog 24 #[.agg (sgA s), .agg u] w fun e w' => e = .returned (.bool (onB s p)) ∧ Below w.heap.size w w' := by
 rw [← on_doc s p hp.1.2.2.1 hp.2.2.2.1 hne]
 have hk : ∀ W, Below w.heap.size w W → PtE p u W := fun W hW => hu.keep u w W hW
 obtain ⟨A, a, B, b, E, f, G, g, rfl, d1, d2, d3, d4⟩ := hu
 exact refon_core s.ax s.ay s.bx s.bY _ _ _ _ _ _ _ _ _ _ _ (PtE (dotP s.ax s.ay)) (PtE (dotP s.bx s.bY)) (fun u X Y h hb => h.keep u X Y hb) (fun u X Y h hb => h.keep u X Y hb) (PtE p _) w hk
  (fun W => ptof_E s.ax s.ay hs.1 hs.2.1 W) (fun u W h1 h2 => pcmp_rt _ _ (rtdot hs.1 hs.2.1) hp _ _ W h1 h2) (fun W => ptof_E s.bx s.bY hs.2.2.1 hs.2.2.2 W) (fun u W h1 h2 => pcmp_rt _ _ hp (rtdot hs.2.2.1 hs.2.2.2) _ _ W h1 h2) (fun W h => refside_any s p _ W hs hp h)
end Go.Proofs.YtdfmmkidknginaaGreatDoor
