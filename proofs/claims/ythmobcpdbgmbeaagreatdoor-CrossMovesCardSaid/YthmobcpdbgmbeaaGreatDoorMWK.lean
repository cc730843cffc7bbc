/- CrossMoves is true at every two segments, any way. -/
import Derived.Test.YthmobcpdbgmbeaaGreatDoorMUB
import Derived.Test.YthmobcpdbgmbeaaGreatDoorMWI
import Derived.Test.YthmobcpdbgmbeaaGreatDoorMWJ
namespace Go.Proofs.YthmobcpdbgmbeaaGreatDoor
open Go.RowKit CrossMath

theorem dot_good {x y : Int} (hx : Bd x) (hy : Bd y) : GoodP (dotP x y) := by
  unfold Bd at hx hy
  refine ⟨⟨by show (0 : Int) < 1; decide, by show Int.gcd x 1 = 1; simp, ?_, by show (1 : Int).natAbs < _; decide⟩, ⟨by show (0 : Int) < 1; decide, by show Int.gcd y 1 = 1; simp, ?_, by show (1 : Int).natAbs < _; decide⟩⟩
  · show x.natAbs < _; omega
  · show y.natAbs < _; omega
theorem low_good {n d : Int} (hd : d ≠ 0) (hn : n.natAbs < 1237940039285380274899124224) (hd' : d.natAbs < 1152921504606846976) : GoodR (frN n d) (frD n d) := by
  have hg : Int.gcd n d ≠ 0 := fun h => hd (Int.gcd_eq_zero_iff.1 h).2
  obtain ⟨n', hn'⟩ : ((Int.gcd n d : Nat) : Int) ∣ n := Int.gcd_dvd_left ..
  obtain ⟨d', hd2⟩ : ((Int.gcd n d : Nat) : Int) ∣ d := Int.gcd_dvd_right ..
  have hgp : 0 < Int.gcd n d := by omega
  have hc : Int.gcd n' d' = 1 := by
    have h1 : Int.gcd n d = Int.gcd n d * Int.gcd n' d' := by
      have := Int.gcd_mul_left (Int.gcd n d : Nat) n' d'
      rw [← hn', ← hd2, Int.natAbs_natCast] at this
      exact this
    exact (Nat.eq_of_mul_eq_mul_left hgp (by rw [← h1, Nat.mul_one]))
  have e1 : n.tdiv (Int.gcd n d : Nat) = n' := (congrArg (fun z : Int => z.tdiv (Int.gcd n d : Nat)) hn').trans (Int.mul_tdiv_cancel_left _ (by omega))
  have e2 : ((d.natAbs : Nat) : Int).tdiv (Int.gcd n d : Nat) = d'.natAbs := by
    have : ((d.natAbs : Nat) : Int) = ((Int.gcd n d : Nat) : Int) * (d'.natAbs : Nat) := by
      rw [← Int.natCast_mul]
      congr 1
      have := congrArg Int.natAbs hd2
      rw [Int.natAbs_mul, Int.natAbs_natCast] at this
      exact this
    rw [this]
    exact Int.mul_tdiv_cancel_left _ (by omega)
  have hd0 : d' ≠ 0 := fun h => hd (by rw [hd2, h, Int.mul_zero])
  have hnle : n'.natAbs ≤ n.natAbs := by
    have := congrArg Int.natAbs hn'
    rw [Int.natAbs_mul, Int.natAbs_natCast] at this
    rw [this]; exact Nat.le_mul_of_pos_left _ hgp
  have hdle : d'.natAbs ≤ d.natAbs := by
    have := congrArg Int.natAbs hd2
    rw [Int.natAbs_mul, Int.natAbs_natCast] at this
    rw [this]; exact Nat.le_mul_of_pos_left _ hgp
  have es : (n' * (if d < 0 then -1 else 1)).natAbs = n'.natAbs := by split <;> simp
  unfold frN frD
  rw [e1, e2]
  refine ⟨by omega, ?_, ?_, ?_⟩
  · show Nat.gcd (n' * (if d < 0 then -1 else 1)).natAbs ((d'.natAbs : Nat) : Int).natAbs = 1
    rw [es, Int.natAbs_natCast]; exact hc
  · rw [es]; omega
  · rw [Int.natAbs_natCast]; omega
theorem at_good {oa ob a b : Int} (hne : oa - ob ≠ 0) (ha : OffB oa) (hb : OffB ob) (h1 : Bd a) (h2 : Bd b) : GoodR (CrossMath.atN oa ob a b) (CrossMath.atD oa ob a b) := by
  unfold CrossMath.atN CrossMath.atD
  have p1 := prod_bd ha h2
  have p2 := prod_bd hb h1
  refine low_good hne ?_ ?_
  · have := Int.natAbs_sub_le (oa * b) (ob * a)
    omega
  · unfold OffB at ha hb; omega
theorem part_good {l : Sg} {oa ob : Int} (hne : oa - ob ≠ 0) (hl : BdS l) (ha : OffB oa) (hb : OffB ob) : GoodP (partP l oa ob) :=
  ⟨at_good hne ha hb hl.1 hl.2.2.1, at_good hne ha hb hl.2.1 hl.2.2.2⟩
theorem later_bd {l m : Sg} (hl : BdS l) (hm : BdS m) : Bd (laterX l m).1 ∧ Bd (laterX l m).2 := by
  unfold laterX; split
  · exact ⟨hm.1, hm.2.1⟩
  · exact ⟨hl.1, hl.2.1⟩
theorem earlier_bd {l m : Sg} (hl : BdS l) (hm : BdS m) : Bd (earlierX l m).1 ∧ Bd (earlierX l m).2 := by
  unfold earlierX; split
  · exact ⟨hm.2.2.1, hm.2.2.2⟩
  · exact ⟨hl.2.2.1, hl.2.2.2⟩
theorem meet_good {l m : Sg} (hl : BdS l) (hm : BdS m) : meetM l m = noneM ∨ ((meetM l m).k ≠ 0 ∧ GoodP (meetM l m).p ∧ GoodP (meetM l m).q) := by
  have fa : OffB (offS m l.ax l.ay) := off_B hm.1 hm.2.1 hm.2.2.1 hm.2.2.2 hl.1 hl.2.1
  have fb : OffB (offS m l.bx l.bY) := off_B hm.1 hm.2.1 hm.2.2.1 hm.2.2.2 hl.2.2.1 hl.2.2.2
  have touch : ∀ {p : Pt}, GoodP p → touchM p = noneM ∨ ((touchM p).k ≠ 0 ∧ GoodP (touchM p).p ∧ GoodP (touchM p).q) := fun h => .inr ⟨by show (1 : Int) ≠ 0; decide, h, h⟩
  unfold meetM
  generalize offS m l.ax l.ay = oa at *
  generalize offS m l.bx l.bY = ob at *
  generalize offS l m.ax m.ay = ca
  generalize offS l m.bx m.bY = cb
  unfold meetL
  by_cases h1 : oa = 0 ∧ ob = 0
  · rw [if_pos h1]
    unfold sharedM
    have b1 := later_bd hl hm
    have b2 := earlier_bd hl hm
    generalize laterX l m = p at *
    generalize earlierX l m = q at *
    unfold pieceM
    split
    · exact touch (dot_good b1.1 b1.2)
    · split
      · exact .inr ⟨by show (2 : Int) ≠ 0; decide, dot_good b1.1 b1.2, dot_good b2.1 b2.2⟩
      · exact .inl rfl
  · rw [if_neg h1]
    by_cases h2 : asideB oa ob = true ∨ asideB ca cb = true
    · rw [if_pos h2]; exact .inl rfl
    · rw [if_neg h2]
      by_cases h3 : oa = 0
      · rw [if_pos h3]; exact touch (dot_good hl.1 hl.2.1)
      · rw [if_neg h3]
        by_cases h4 : ob = 0
        · rw [if_pos h4]; exact touch (dot_good hl.2.2.1 hl.2.2.2)
        · rw [if_neg h4]; exact touch (part_good (aside_ne (fun h => h2 (.inl h)) h3 h4) hl fa fb)
theorem moves_true (s t : Sg) (mx my : Int) (w : World) (ht : TabTz w) (hw0 : 0 < w.heap.size) :
    Calls Tryz.prog 5 #[.agg (segA s.ax s.ay s.bx s.bY), .agg (segA t.ax t.ay t.bx t.bY), .int .i64 mx, .int .i64 my] w fun e w' => e = .returned (.bool true) ∧ Below w.heap.size w w' := by
  have hW : ∀ W, Below w.heap.size w W → Calls Tryz.prog 11 #[] W fun e w' => e = .returned (.bool true) ∧ Below W.heap.size W w' :=
    fun W hW => works_true W (ht.below hw0 hW) (Nat.lt_of_lt_of_le hw0 hW.size)
  cases hr : (mvB s mx my && mvB t mx my)
  · exact moves_wrong _ _ _ _ _ _ _ _ mx my _ _ _ _ _ _ _ _ (mvB s mx my) (mvB t mx my) w hr (fun W => smoved_any s mx my W) (fun W => smoved_any t mx my W) hW
  · rw [Bool.and_eq_true] at hr
    obtain ⟨hs, ht'⟩ := hr
    have us := uS_yes hs
    have ut := uS_yes ht'
    have hs2 := hs
    have ht2 := ht'
    unfold mvB at hs2 ht2
    rw [Bool.and_eq_true, Bool.and_eq_true] at hs2 ht2
    have hw := wayB_iff.1 hs2.1
    have r1 := rightS_iff.1 hs2.2.1
    have r2 := rightS_iff.1 ht2.2.1
    have w1 := rightS_iff.1 hs2.2.2
    have w2 := rightS_iff.1 ht2.2.2
    have hU : ∀ W, Calls Tryz.prog 18 #[.agg (sgA s), .int .i64 mx, .int .i64 my] W fun e w' => e = .returned (.tuple #[.agg (sgA (mvS s mx my)), .bool true]) ∧ Below W.heap.size W w' := fun W => by
      have := smoved_any s mx my W
      rw [us, hs] at this
      exact this
    have hV : ∀ W, Calls Tryz.prog 18 #[.agg (sgA t), .int .i64 mx, .int .i64 my] W fun e w' => e = .returned (.tuple #[.agg (sgA (mvS t mx my)), .bool true]) ∧ Below W.heap.size W w' := fun W => by
      have := smoved_any t mx my W
      rw [ut, ht'] at this
      exact this
    obtain ⟨hk, hm⟩ := meet_move s t mx my
    have hc := cross_move s t mx my
    have hgood := meet_good (laid_bd r1.1) (laid_bd r2.1)
    have hC2 : ∀ W, Calls Tryz.prog 8 #[.agg (sgA (mvS s mx my)), .agg (sgA (mvS t mx my))] W fun e w' => e = .returned (.tuple #[.bool (crossM (laidS s) (laidS t)), .int .i64 0]) ∧ Below W.heap.size W w' := fun W => by
      have := Crosses_any (mvS s mx my) (mvS t mx my) W w1.1 w1.2 w2.1 w2.2
      rw [hc] at this
      exact this
    have hM1 : ∀ W, Below w.heap.size w W → Calls Tryz.prog 7 #[.agg (sgA s), .agg (sgA t)] W fun e w' => e = .returned (.tuple #[.agg (mtA (meetM (laidS s) (laidS t))), .int .i64 0]) ∧ Below W.heap.size W w' :=
      fun W hW => Meet_any s t W r1.1 r1.2 r2.1 r2.2 (ht.below hw0 hW) (Nat.lt_of_lt_of_le hw0 hW.size)
    have hM2 : ∀ W, Below w.heap.size w W → Calls Tryz.prog 7 #[.agg (sgA (mvS s mx my)), .agg (sgA (mvS t mx my))] W fun e w' => e = .returned (.tuple #[.agg (mtA (meetM (laidS (mvS s mx my)) (laidS (mvS t mx my)))), .int .i64 0]) ∧ Below W.heap.size W w' :=
      fun W hW => Meet_any (mvS s mx my) (mvS t mx my) W w1.1 w1.2 w2.1 w2.2 (ht.below hw0 hW) (Nat.lt_of_lt_of_le hw0 hW.size)
    generalize meetM (laidS s) (laidS t) = m at *
    generalize meetM (laidS (mvS s mx my)) (laidS (mvS t mx my)) = n at *
    have hM2' : ∀ W, Below w.heap.size w W → Calls Tryz.prog 7 #[.agg (sgA (mvS s mx my)), .agg (sgA (mvS t mx my))] W fun e w' => e = .returned (.tuple #[.agg (meetA m.k (ptA n.p) (ptA n.q)), .int .i64 0]) ∧ Below W.heap.size W w' := fun W hW => by
      have := hM2 W hW
      rw [mtA, hk] at this
      exact this
    rcases hgood with h0 | ⟨h0, g1, g2⟩
    · have hk0 : (m.k == 0) = true := by rw [h0]; decide
      refine moves_none s.ax s.ay s.bx s.bY t.ax t.ay t.bx t.bY mx my (mvS s mx my).ax (mvS s mx my).ay (mvS s mx my).bx (mvS s mx my).bY (mvS t mx my).ax (mvS t mx my).ay (mvS t mx my).bx (mvS t mx my).bY m.k (ptA m.p) (ptA m.q) (ptA n.p) (ptA n.q) (crossM (laidS s) (laidS t)) w ⟨ptA_size _, ptA_size _, ptA_size _, ptA_size _⟩ ⟨ptA_one m.p, ptA_one m.q, ptA_one n.p, ptA_one n.q⟩ hk0 hU hV hW hM1 hM2'
        (fun W => Crosses_any s t W r1.1 r1.2 r2.1 r2.2) hC2
    · rcases hm with hm | ⟨e1, e2⟩
      · exact absurd (by rw [hm]; rfl) h0
      · have hk1 : (m.k == 0) = false := by simpa using h0
        refine moves_some s.ax s.ay s.bx s.bY t.ax t.ay t.bx t.bY mx my (mvS s mx my).ax (mvS s mx my).ay (mvS s mx my).bx (mvS s mx my).bY (mvS t mx my).ax (mvS t mx my).ay (mvS t mx my).bx (mvS t mx my).bY m.k (ptA m.p) (ptA m.q) (ptA n.p) (ptA n.q) (ptA (mvP m.p mx my)) (ptA (mvP m.q mx my)) (crossM (laidS s) (laidS t)) w ⟨ptA_size _, ptA_size _, ptA_size _, ptA_size _⟩ ⟨ptA_one m.p, ptA_one m.q, ptA_one n.p, ptA_one n.q⟩ ⟨ptA_size _, ptA_size _⟩ ⟨ptA_one (mvP m.p mx my), ptA_one (mvP m.q mx my)⟩ hk1 hU hV hW hM1 hM2'
          (fun W => Crosses_any s t W r1.1 r1.2 r2.1 r2.2) hC2 (fun W => pmoved_any m.p mx my W g1 hw.1 hw.2) (fun W => pmoved_any m.q mx my W g2 hw.1 hw.2) ?_ ?_
        · intro W
          have := eqlPt (mvP m.p mx my) n.p W
          rw [e1, eqP_self] at this
          rw [e1]; exact this
        · intro W
          have := eqlPt (mvP m.q mx my) n.q W
          rw [e2, eqP_self] at this
          rw [e2]; exact this
end Go.Proofs.YthmobcpdbgmbeaaGreatDoor
