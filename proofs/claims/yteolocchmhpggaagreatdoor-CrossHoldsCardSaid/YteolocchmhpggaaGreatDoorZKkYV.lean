import Derived.Test.YteolocchmhpggaaGreatDoorZKkYI
import Derived.Test.YteolocchmhpggaaGreatDoorZKkYT
import Derived.Test.YteolocchmhpggaaGreatDoorZKkSM
import Derived.Test.YteolocchmhpggaaGreatDoorZKkUB
import Derived.Test.YteolocchmhpggaaGreatDoorZKkWE
import Derived.Test.YteolocchmhpggaaGreatDoorZKkWK
import Derived.Test.YteolocchmhpggaaGreatDoorZKkXF
namespace Go.Proofs.YteolocchmhpggaaGreatDoor
open Go.RowKit Go.Sort CrossMath

theorem neqMt (m : Mt) (w : World) : (binOp .neq 36 (.agg (mtA m)) (.agg (mtA m))).run Tryz.prog w = .ok (.bool false) w := by
 rw [run_neq_struct, show (10000 : Nat) = 9994 + 6 from rfl, eqMt, eqM_self]; rfl
def PtE (p : Pt) (u : Array Value) (W : World) : Prop := ∃ A a B b E f G g, u = #[.bool (decide (p.xn < 0)), .slice A (L16 p.xn.natAbs) a, .bool false, .slice B (L16 p.xd.natAbs) b, .bool (decide (p.yn < 0)), .slice E (L16 p.yn.natAbs) f, .bool false, .slice G (L16 p.yd.natAbs) g] ∧ DS W p.xn.natAbs A ∧ DS W p.xd.natAbs B ∧ DS W p.yn.natAbs E ∧ DS W p.yd.natAbs G
theorem PtE.keep {p : Pt} (v : Array Value) (W W' : World) (h : PtE p v W) (hb : Below W.heap.size W W') : PtE p v W' := by
 obtain ⟨A, a, B, b, E, f, G, g, h0, h1, h2, h3, h4⟩ := h
 exact ⟨A, a, B, b, E, f, G, g, h0, h1.below hb, h2.below hb, h3.below hb, h4.below hb⟩
theorem rfrom_rt {n d : Int} (h : RtR n d) (W : World) : Calls Tryz.prog 32 #[.agg (ratA n d)] W (RqPost W (decide (n < 0)) false n.natAbs d.natAbs (L16 n.natAbs) (L16 d.natAbs)) := by
 have := rfrom_any n d W h.T.1 h.T.2
 rw [show decide (d < 0) = false by have := h.2.2.1; simp; omega] at this
 exact this
theorem pfrom_rt (p : Pt) (hp : RtP p) (W : World) : Calls Tryz.prog 11 #[.agg (ptA p)] W fun e w' => ∃ p0 p1 p2 p3 p4 p5 p6 p7, e = .returned (.agg #[p0, p1, p2, p3, p4, p5, p6, p7]) ∧ OneC #[p0, p1, p2, p3, p4, p5, p6, p7] ∧ PtE p #[p0, p1, p2, p3, p4, p5, p6, p7] w' ∧ Below W.heap.size W w' := by
 have hfrom : Calls Tryz.prog 11 #[.agg (ptA p)] W (PqPost W (decide (p.xn < 0)) (decide (p.yn < 0)) p.xn.natAbs p.xd.natAbs p.yn.natAbs p.yd.natAbs (L16 p.xn.natAbs) (L16 p.xd.natAbs) (L16 p.yn.natAbs) (L16 p.yd.natAbs)) :=
  pfrom_core _ _ _ _ _ _ _ _ _ _ _ _ _ _ _ _ _ _ _ _ _ _ _ _ _ _ _ _ _ _ W (fun W => rfrom_rt hp.1 W) (fun W => rfrom_rt hp.2 W)
 refine hfrom.mono ?_
 rintro e w' ⟨A, ka, B, jb, E, ie, G, lg, rfl, _, ⟨d1, d2, d3, d4⟩, hb⟩
 exact ⟨_, _, _, _, _, _, _, _, rfl, by simp [OneC, Value.oneCell'], ⟨A, ka, B, jb, E, ie, G, lg, rfl, d1, d2, d3, d4⟩, hb⟩
theorem rt_mul {n d m e : Int} (h : RtR n d) (g : RtR m e) : (n * e).natAbs < T256 := by
 rw [Int.natAbs_mul]
 exact Nat.lt_of_le_of_lt (Nat.mul_le_mul (Nat.le_of_lt h.1) (Nat.le_of_lt g.2.1)) (by decide)
theorem pcmp_rt (p q : Pt) (hp : RtP p) (hq : RtP q) (u v : Array Value) (W : World) (hu : PtE p u W) (hv : PtE q v W) : Calls Tryz.prog 12 #[.agg u, .agg v] W fun e w' => e = .returned (.int .i64 (cmpQ p q)) ∧ Below W.heap.size W w' := by
 obtain ⟨A1, a1, B1, b1, E1, f1, G1, g1, rfl, x1, x2, x3, x4⟩ := hu
 obtain ⟨A2, a2, B2, b2, E2, f2, G2, g2, rfl, y1, y2, y3, y4⟩ := hv
 exact pcmp_core _ _ _ _ _ _ _ _ _ _ _ _ _ _ _ _ (cmpI (p.xn * q.xd) (q.xn * p.xd)) (cmpI (p.yn * q.yd) (q.yn * p.yd)) W
  (fun W' hW => rcmp_any p.xn p.xd q.xn q.xd A1 B1 A2 B2 a1 b1 a2 b2 W' hp.1.2.2.1 hq.1.2.2.1 hp.1.T.1 hp.1.T.2 hq.1.T.1 hq.1.T.2 (rt_mul hp.1 hq.1) (rt_mul hq.1 hp.1) (x1.below hW) (x2.below hW) (y1.below hW) (y2.below hW))
  (fun W' hW => rcmp_any p.yn p.yd q.yn q.yd E1 G1 E2 G2 f1 g1 f2 g2 W' hp.2.2.2.1 hq.2.2.2.1 hp.2.T.1 hp.2.T.2 hq.2.T.1 hq.2.T.2 (rt_mul hp.2 hq.2) (rt_mul hq.2 hp.2) (x3.below hW) (x4.below hW) (y3.below hW) (y4.below hW))
theorem between_rt (p a b : Pt) (hp : RtP p) (ha : RtP a) (hb : RtP b) (h1 : cmpQ a p ≤ 0) (h2 : cmpQ p b ≤ 0) : Nonempty (Between3 (ptA p) (ptA a) (ptA b)) :=
 ⟨{ Dp := PtE p, Da := PtE a, Db := PtE b, r1 := cmpQ a p, r2 := cmpQ p b, h1 := decide_eq_true h1, h2 := decide_eq_true h2, kp := PtE.keep, ka := PtE.keep, kb := PtE.keep, fp := pfrom_rt p hp, fa := fun W => (pfrom_rt a ha W).mono (by rintro e w' ⟨p0, p1, p2, p3, p4, p5, p6, p7, rfl, _, h, hb⟩; exact ⟨_, rfl, h, hb⟩), fb := fun W => (pfrom_rt b hb W).mono (by rintro e w' ⟨p0, p1, p2, p3, p4, p5, p6, p7, rfl, _, h, hb⟩; exact ⟨_, rfl, h, hb⟩), c1 := fun u v W hu hv => pcmp_rt a p ha hp u v W hu hv, c2 := fun u v W hu hv => pcmp_rt p b hp hb u v W hu hv }⟩
theorem mtA_list (m : Mt) : (mtA m).toList = .int .i64 m.k :: ((ptA m.p).toList ++ (ptA m.q).toList) := by simp [mtA, meetA]
theorem mtA_k (m : Mt) : (mtA m)[0]? = some (.int .i64 m.k) := by rw [← Array.getElem?_toList, mtA_list]; rfl
theorem mtA_k' {m : Mt} {k : Int} (h : m.k = k) : (mtA m)[0]? = some (.int .i64 k) := h ▸ mtA_k m
theorem mtA_p (m : Mt) (j : Nat) (v : Value) (h : (ptA m.p).toList[j]? = some v) : (mtA m).toList[1 + j]? = some v := by
 have hj : j < (ptA m.p).toList.length := (List.getElem?_eq_some_iff.1 h).1
 rw [mtA_list, Nat.add_comm 1 j, List.getElem?_cons_succ, List.getElem?_append_left hj]; exact h
theorem mtA_q (m : Mt) (j : Nat) (v : Value) (h : (ptA m.q).toList[j]? = some v) : (mtA m).toList[21 + j]? = some v := by
 have hl : (ptA m.p).toList.length = 20 := by rw [Array.length_toList]; exact ptA_size _
 rw [mtA_list, show 21 + j = (20 + j) + 1 by omega, List.getElem?_cons_succ, List.getElem?_append_right (by omega), hl, show 20 + j - 20 = j by omega]; exact h
theorem laid_flip {s : Sg} (h : NeS s) : laidS (flipS s) = laidS s := by
 obtain ⟨ax, ay, bx, bY⟩ := s
 unfold NeS at h
 unfold laidS turned flipS
 simp only [Bool.or_eq_true, Bool.and_eq_true, decide_eq_true_eq] at h ⊢
 split <;> split <;> first | rfl | (exfalso; omega)
theorem right_flip (s : Sg) : rightS (flipS s) = rightS s := by
 rw [Bool.eq_iff_iff, rightS_iff, rightS_iff]
 unfold BdS NeS flipS
 simp only
 constructor
 ·rintro ⟨⟨a, b, c, d⟩, h⟩; exact ⟨⟨c, d, a, b⟩, fun e => h ⟨e.1.symm, e.2.symm⟩⟩
 ·rintro ⟨⟨a, b, c, d⟩, h⟩; exact ⟨⟨c, d, a, b⟩, fun e => h ⟨e.1.symm, e.2.symm⟩⟩
theorem ok_pt {a b c d : Option Int} (h : (okB a b && okB c d) = true) : ∃ p : Pt, RtP p ∧ pO a b c d = ptA p := by
 rw [Bool.and_eq_true] at h
 obtain ⟨h1, h2⟩ := h
 have q : ∀ {x y : Option Int}, okB x y = true → ∃ n m, x = some n ∧ y = some m := fun {x y} h => by
  unfold okB riB at h
  cases x <;> cases y <;> simp at h
  exact ⟨_, _, rfl, rfl⟩
 obtain ⟨xn, xd, rfl, rfl⟩ := q h1
 obtain ⟨yn, yd, rfl, rfl⟩ := q h2
 exact ⟨⟨xn, xd, yn, yd⟩, ⟨(okB_iff _ _).1 h1, (okB_iff _ _).1 h2⟩, rfl⟩
theorem RtP.right {p : Pt} (h : RtP p) : RightP p := ⟨h.1.2.2.1, h.1.2.2.2, h.2.2.2.1, h.2.2.2.2⟩
theorem On_pt (s : Sg) (p : Pt) (w : World) (hs : BdS s) (hne : NeS s) (hp : RtP p) (ht : TabTz w) (hw0 : 0 < w.heap.size) {b : Bool} (hb : onB s p = b) :
 Calls Tryz.prog 10 #[.agg (sgA s), .agg (ptA p)] w fun e w' => e = .returned (.tuple #[.bool b, .int .i64 0]) ∧ Below w.heap.size w w' := by
 rw [← hb]; exact On_num s p w hs hne hp ht hw0
set_option maxRecDepth 100000 in
set_option maxHeartbeats 1000000 in
theorem holds_true (s t : Sg) (a b c d : Option Int) (w : World) (ha : oM a < T256) (hb : oM b < T256) (hc : oM c < T256) (hd : oM d < T256) (ht : TabTz w) (hw0 : 0 < w.heap.size) :
 Calls Tryz.prog 3 #[.agg (sgA s), .agg (sgA t), .agg (pO a b c d)] w fun e w' => e = .returned (.bool true) ∧ Below w.heap.size w w' := by
 have hW : ∀ W, Below w.heap.size w W → Calls Tryz.prog 9 #[] W fun e w' => e = .returned (.bool true) ∧ Below W.heap.size W w' :=
  fun W hW => works_true W (ht.below hw0 hW) (Nat.lt_of_lt_of_le hw0 hW.size)
 by_cases hr : (rightS s && rightS t) = true
 ·have hr' := hr
  rw [Bool.and_eq_true] at hr'
  obtain ⟨bs, n1⟩ := rightS_iff.1 hr'.1
  obtain ⟨bt, n2⟩ := rightS_iff.1 hr'.2
  obtain ⟨bf, n3⟩ := rightS_iff.1 ((right_flip s).trans hr'.1)
  obtain ⟨hsym, hon, hmath⟩ := holds_math (s := s) (t := t) n1 n2
  have hgood := meet_good (laid_bd bs) (laid_bd bt)
  have tb : ∀ {W : World}, Below w.heap.size w W → TabTz W := fun h => ht.below hw0 h
  have ps : ∀ {W : World}, Below w.heap.size w W → 0 < W.heap.size := fun h => Nat.lt_of_lt_of_le hw0 h.size
  have hM1 : ∀ W, Below w.heap.size w W → Calls Tryz.prog 7 #[.agg (sgA s), .agg (sgA t)] W fun e w' => e = .returned (.tuple #[.agg (mtA (meetM (laidS s) (laidS t))), .int .i64 0]) ∧ Below W.heap.size W w' :=
   fun W hW => Meet_any s t W bs n1 bt n2 (tb hW) (ps hW)
  have hM2 : ∀ W, Below w.heap.size w W → Calls Tryz.prog 7 #[.agg (sgA t), .agg (sgA s)] W fun e w' => e = .returned (.tuple #[.agg (mtA (meetM (laidS s) (laidS t))), .int .i64 0]) ∧ Below W.heap.size W w' :=
   fun W hW => by
    have := Meet_any t s W bt n2 bs n1 (tb hW) (ps hW)
    rw [hsym] at this; exact this
  have hM3 : ∀ W, Below w.heap.size w W → Calls Tryz.prog 7 #[.agg (sgA (flipS s)), .agg (sgA t)] W fun e w' => e = .returned (.tuple #[.agg (mtA (meetM (laidS s) (laidS t))), .int .i64 0]) ∧ Below W.heap.size W w' :=
   fun W hW => by
    have := Meet_any (flipS s) t W bf n3 bt n2 (tb hW) (ps hW)
    rw [laid_flip n1] at this; exact this
  have hP : ∃ (xs xt : Bool) (es et : Int), (es = 0 ∨ es = 2) ∧ (et = 0 ∨ et = 2) ∧
   (∀ W, Below w.heap.size w W → Calls Tryz.prog 10 #[.agg (sgA s), .agg (pO a b c d)] W fun e w' => e = .returned (.tuple #[.bool xs, .int .i64 es]) ∧ Below W.heap.size W w') ∧
   (∀ W, Below w.heap.size w W → Calls Tryz.prog 10 #[.agg (sgA t), .agg (pO a b c d)] W fun e w' => e = .returned (.tuple #[.bool xt, .int .i64 et]) ∧ Below W.heap.size W w') ∧
   (es = 0 → et = 0 → xs = true → xt = true → ∃ p : Pt, RtP p ∧ pO a b c d = ptA p ∧ onB s p = true ∧ onB t p = true) := by
   cases hok : (okB a b && okB c d) with
   | false => exact ⟨false, false, 2, 2, .inr rfl, .inr rfl, fun W hW => On_nopoint s a b c d W bs n1 ha hb hc hd hok (tb hW) (ps hW), fun W hW => On_nopoint t a b c d W bt n2 ha hb hc hd hok (tb hW) (ps hW), fun h => absurd h (by decide)⟩
   | true =>
     obtain ⟨p, hp, e⟩ := ok_pt hok
     refine ⟨onB s p, onB t p, 0, 0, .inl rfl, .inl rfl, fun W hW => ?_, fun W hW => ?_, fun _ _ h1 h2 => ⟨p, hp, e, h1, h2⟩⟩
     ·rw [e]; exact On_pt s p W bs n1 hp (tb hW) (ps hW) rfl
     ·rw [e]; exact On_pt t p W bt n2 hp (tb hW) (ps hW) rfl
  obtain ⟨xs, xt, es, et, hes, het, hS, hT, hfin⟩ := hP
  generalize meetM (laidS s) (laidS t) = m at *
  have sz : (mtA m).size = 41 := mtA_size m
  have oz : OneC (mtA m) := mtA_one m
  rcases hon with h0 | ⟨hk, o1, o2, o3, o4⟩
  ·subst h0
   refine holds_none (pO a b c d) (mtA noneM) xs xt es et s.ax s.ay s.bx s.bY t.ax t.ay t.bx t.bY w rfl sz oz (fun W => neqMt noneM W) (mtA_k' rfl) hes het ?_ hS hT (fun n W => lawnum_any n W) hW hM1 hM2 hM3
   by_cases e1 : es = 2
   ·exact .inl e1
   ·by_cases e2 : et = 2
    ·exact .inr (.inl e2)
    ·cases xs with
     | false => exact .inr (.inr (.inl rfl))
     | true =>
       cases xt with
       | false => exact .inr (.inr (.inr rfl))
       | true =>
         obtain ⟨p, hp, _, h1, h2⟩ := hfin (hes.resolve_right e1) (het.resolve_right e2) rfl rfl
         rcases hmath p hp.right h1 h2 with h | ⟨h, _⟩
         ·exact absurd (congrArg Mt.k h) (by show ¬ ((0 : Int) = 1); decide)
         ·exact absurd h (by show ¬ ((0 : Int) = 2); decide)
  ·have hg : GoodP m.p ∧ GoodP m.q := by
    rcases hgood with h | ⟨_, h⟩
    ·rw [h] at hk
     exact absurd hk (by show ¬ ((0 : Int) = 1 ∨ (0 : Int) = 2); decide)
    ·exact h
   have r1 := hg.1.rt
   have r2 := hg.2.rt
   rcases hk with hk | hk
   ·refine holds_point (pO a b c d) (mtA m) (ptA m.p) (ptA m.q) xs xt es et s.ax s.ay s.bx s.bY t.ax t.ay t.bx t.bY w rfl sz oz (fun W => neqMt m W) (mtA_k' hk) (ptA_size _) (ptA_size _) (mtA_p m) (mtA_q m) hes het (fun e1 e2 e3 e4 => ?_)
     (fun W hW => On_pt s m.p W bs n1 r1 (tb hW) (ps hW) o1) (fun W hW => On_pt t m.p W bt n2 r1 (tb hW) (ps hW) o2) (fun W hW => On_pt s m.q W bs n1 r2 (tb hW) (ps hW) o3) (fun W hW => On_pt t m.q W bt n2 r2 (tb hW) (ps hW) o4) hS hT (fun n W => lawnum_any n W) hW hM1 hM2 hM3
    obtain ⟨p, hp, ep, h1, h2⟩ := hfin e1 e2 e3 e4
    rcases hmath p hp.right h1 h2 with h | ⟨h, _⟩
    ·rw [ep, h]
     have := eqlPt p p
     simp only [eqP_self] at this
     exact ⟨fun W => this W, fun W => this W⟩
    ·omega
   ·refine holds_piece (pO a b c d) (mtA m) (ptA m.p) (ptA m.q) xs xt es et s.ax s.ay s.bx s.bY t.ax t.ay t.bx t.bY w rfl sz oz (fun W => neqMt m W) (mtA_k' hk) (ptA_size _) (ptA_size _) (mtA_p m) (mtA_q m) hes het (fun e1 e2 e3 e4 => ?_)
     (fun W hW => On_pt s m.p W bs n1 r1 (tb hW) (ps hW) o1) (fun W hW => On_pt t m.p W bt n2 r1 (tb hW) (ps hW) o2) (fun W hW => On_pt s m.q W bs n1 r2 (tb hW) (ps hW) o3) (fun W hW => On_pt t m.q W bt n2 r2 (tb hW) (ps hW) o4) hS hT (fun n W => lawnum_any n W) hW hM1 hM2 hM3
    obtain ⟨p, hp, ep, h1, h2⟩ := hfin e1 e2 e3 e4
    rw [ep]
    rcases hmath p hp.right h1 h2 with h | ⟨_, h3, h4⟩
    ·exact absurd (hk.symm.trans (congrArg Mt.k h)) (by show ¬ ((2 : Int) = 1); decide)
    ·exact between_rt p m.p m.q hp r1 r2 h3 h4
 ·have hr := eq_false_of_ne_true hr
  have hr2 : (rightS t && rightS s) = false := by rw [Bool.and_comm]; exact hr
  have hr3 : (rightS (flipS s) && rightS t) = false := by rw [right_flip]; exact hr
  have ez : ∀ W, (binOp .neq 36 (.agg zero_meet) (.agg zero_meet)).run Tryz.prog W = .ok (.bool false) W := fun W => by
   have := neqMt noneM W
   rw [mtA_zero] at this; exact this
  exact holds_wrong (pO a b c d) zero_meet s.ax s.ay s.bx s.bY t.ax t.ay t.bx t.bY w rfl rfl (by simp [OneC, zero_meet, Value.oneCell']) ez (fun n W => lawnum_any n W) hW (fun W _ => Meet_wrong s t W (wrongB_of hr)) (fun W _ => Meet_wrong t s W (wrongB_of hr2)) (fun W _ => Meet_wrong (flipS s) t W (wrongB_of hr3))
end Go.Proofs.YteolocchmhpggaaGreatDoor
