import Derived.Test.YteolocchmhpggaaGreatDoorZKkUB
import Derived.Test.YteolocchmhpggaaGreatDoorZKkWI
import Derived.Test.YteolocchmhpggaaGreatDoorZKkWJ
namespace Go.Proofs.YteolocchmhpggaaGreatDoor
open Go.RowKit CrossMath

theorem dot_good {x y : Int} (hx : Bd x) (hy : Bd y) : GoodP (dotP x y) := by
 unfold Bd at hx hy
 refine ⟨⟨by show (0 : Int) < 1; decide, by show Int.gcd x 1 = 1; simp, ?_, by show (1 : Int).natAbs < _; decide⟩, ⟨by show (0 : Int) < 1; decide, by show Int.gcd y 1 = 1; simp, ?_, by show (1 : Int).natAbs < _; decide⟩⟩
 ·show x.natAbs < _; omega
 ·show y.natAbs < _; omega
theorem low_good {n d : Int} (hd : d ≠ 0) (hn : n.natAbs < 1237940039285380274899124224) (hd' : d.natAbs < 1152921504606846976) : GoodR (frN n d) (frD n d) := by
 have hg : Int.gcd n d ≠ 0 := fun h => hd (Int.gcd_eq_zero_iff.1 h).2
 obtain ⟨n', hn'⟩ : ((Int.gcd n d : Nat) : Int) ∣ n := Int.gcd_dvd_left ..
 obtain ⟨d', hd2⟩ : ((Int.gcd n d : Nat) : Int) ∣ d := Int.gcd_dvd_right ..
 have hgp : 0 < Int.gcd n d := by omega
 have hc : Int.gcd n' d' = 1 := by
  have h1 : Int.gcd n d = Int.gcd n d * Int.gcd n' d' := by
   have := Int.gcd_mul_left (Int.gcd n d : Nat) n' d'
   rw [← hn', ← hd2, Int.natAbs_natCast] at this
   exact this
  exact (Nat.eq_of_mul_eq_mul_left hgp (by rw [← h1, Nat.mul_one]))
 have e1 : n.tdiv (Int.gcd n d : Nat) = n' := (congrArg (fun z : Int => z.tdiv (Int.gcd n d : Nat)) hn').trans (Int.mul_tdiv_cancel_left _ (by omega))
 have e2 : ((d.natAbs : Nat) : Int).tdiv (Int.gcd n d : Nat) = d'.natAbs := by
  have : ((d.natAbs : Nat) : Int) = ((Int.gcd n d : Nat) : Int) * (d'.natAbs : Nat) := by
   rw [← Int.natCast_mul]
   congr 1
   have := congrArg Int.natAbs hd2
   rw [Int.natAbs_mul, Int.natAbs_natCast] at this
   exact this
  rw [this]
  exact Int.mul_tdiv_cancel_left _ (by omega)
 have hd0 : d' ≠ 0 := fun h => hd (by rw [hd2, h, Int.mul_zero])
 have hnle : n'.natAbs ≤ n.natAbs := by
  have := congrArg Int.natAbs hn'
  rw [Int.natAbs_mul, Int.natAbs_natCast] at this
  rw [this]; exact Nat.le_mul_of_pos_left _ hgp
 have hdle : d'.natAbs ≤ d.natAbs := by
  have := congrArg Int.natAbs hd2
  rw [Int.natAbs_mul, Int.natAbs_natCast] at this
  rw [this]; exact Nat.le_mul_of_pos_left _ hgp
 have es : (n' * (if d < 0 then -1 else 1)).natAbs = n'.natAbs := by split <;> simp
 unfold frN frD
 rw [e1, e2]
 refine ⟨by omega, ?_, ?_, ?_⟩
 ·show Nat.gcd (n' * (if d < 0 then -1 else 1)).natAbs ((d'.natAbs : Nat) : Int).natAbs = 1
  rw [es, Int.natAbs_natCast]; exact hc
 ·rw [es]; omega
 ·rw [Int.natAbs_natCast]; omega
theorem at_good {oa ob a b : Int} (hne : oa - ob ≠ 0) (ha : OffB oa) (hb : OffB ob) (h1 : Bd a) (h2 : Bd b) : GoodR (CrossMath.atN oa ob a b) (CrossMath.atD oa ob a b) := by
 unfold CrossMath.atN CrossMath.atD
 have p1 := prod_bd ha h2
 have p2 := prod_bd hb h1
 refine low_good hne ?_ ?_
 ·have := Int.natAbs_sub_le (oa * b) (ob * a)
  omega
 ·unfold OffB at ha hb; omega
theorem part_good {l : Sg} {oa ob : Int} (hne : oa - ob ≠ 0) (hl : BdS l) (ha : OffB oa) (hb : OffB ob) : GoodP (partP l oa ob) :=
 ⟨at_good hne ha hb hl.1 hl.2.2.1, at_good hne ha hb hl.2.1 hl.2.2.2⟩
theorem later_bd {l m : Sg} (hl : BdS l) (hm : BdS m) : Bd (laterX l m).1 ∧ Bd (laterX l m).2 := by
 unfold laterX; split
 ·exact ⟨hm.1, hm.2.1⟩
 ·exact ⟨hl.1, hl.2.1⟩
theorem earlier_bd {l m : Sg} (hl : BdS l) (hm : BdS m) : Bd (earlierX l m).1 ∧ Bd (earlierX l m).2 := by
 unfold earlierX; split
 ·exact ⟨hm.2.2.1, hm.2.2.2⟩
 ·exact ⟨hl.2.2.1, hl.2.2.2⟩
theorem meet_good {l m : Sg} (hl : BdS l) (hm : BdS m) : meetM l m = noneM ∨ ((meetM l m).k ≠ 0 ∧ GoodP (meetM l m).p ∧ GoodP (meetM l m).q) := by
 have fa : OffB (offS m l.ax l.ay) := off_B hm.1 hm.2.1 hm.2.2.1 hm.2.2.2 hl.1 hl.2.1
 have fb : OffB (offS m l.bx l.bY) := off_B hm.1 hm.2.1 hm.2.2.1 hm.2.2.2 hl.2.2.1 hl.2.2.2
 have touch : ∀ {p : Pt}, GoodP p → touchM p = noneM ∨ ((touchM p).k ≠ 0 ∧ GoodP (touchM p).p ∧ GoodP (touchM p).q) := fun h => .inr ⟨by show (1 : Int) ≠ 0; decide, h, h⟩
 unfold meetM
 generalize offS m l.ax l.ay = oa at *
 generalize offS m l.bx l.bY = ob at *
 generalize offS l m.ax m.ay = ca
 generalize offS l m.bx m.bY = cb
 unfold meetL
 by_cases h1 : oa = 0 ∧ ob = 0
 ·rw [if_pos h1]
  unfold sharedM
  have b1 := later_bd hl hm
  have b2 := earlier_bd hl hm
  generalize laterX l m = p at *
  generalize earlierX l m = q at *
  unfold pieceM
  split
  ·exact touch (dot_good b1.1 b1.2)
  ·split
   ·exact .inr ⟨by show (2 : Int) ≠ 0; decide, dot_good b1.1 b1.2, dot_good b2.1 b2.2⟩
   ·exact .inl rfl
 ·rw [if_neg h1]
  by_cases h2 : asideB oa ob = true ∨ asideB ca cb = true
  ·rw [if_pos h2]; exact .inl rfl
  ·rw [if_neg h2]
   by_cases h3 : oa = 0
   ·rw [if_pos h3]; exact touch (dot_good hl.1 hl.2.1)
   ·rw [if_neg h3]
    by_cases h4 : ob = 0
    ·rw [if_pos h4]; exact touch (dot_good hl.2.2.1 hl.2.2.2)
    ·rw [if_neg h4]; exact touch (part_good (aside_ne (fun h => h2 (.inl h)) h3 h4) hl fa fb)
end Go.Proofs.YteolocchmhpggaaGreatDoor
