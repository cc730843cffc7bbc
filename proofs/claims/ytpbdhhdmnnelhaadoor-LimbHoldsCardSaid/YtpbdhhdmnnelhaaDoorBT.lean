/- Contract of the document's Add by the numbers' values. -/
import Derived.Test.YtpbdhhdmnnelhaaDoorBG
namespace Go.Proofs.YtpbdhhdmnnelhaaDoor
open Go.RowKit

/-- A call's answer is that number, and its digits lie in a block of the call's own. -/
def BigNew (w : World) (z : Int) (e : Ending) (w' : World) : Prop := ∃ A c, e = .returned (bigv z A c) ∧ L16 z.natAbs ≤ c ∧ DS w' z.natAbs A ∧ Below w.heap.size w w' ∧ ∀ p, A = some p → w.heap.size ≤ p.block
theorem L16_add_le {a b n : Nat} (ha : L16 a ≤ n) (hb : L16 b ≤ n) : L16 (a + b) ≤ n + 1 := by
  have h1 := Nat.lt_of_lt_of_le (lt_L16 a) (Nat.pow_le_pow_right (n := 65536) (by decide) ha)
  have h2 := Nat.lt_of_lt_of_le (lt_L16 b) (Nat.pow_le_pow_right (n := 65536) (by decide) hb)
  apply L16_le
  rw [Nat.pow_succ]
  generalize 65536 ^ n = p at *
  omega
/-- The last step of a sum: of, and what it lies in. -/
theorem of_sum (s : Bool) (m : Nat) (A : Option Addr) (c : Nat) (z : Int) (w : World) (hz : z = if s then -(m : Int) else m) (hm : L16 m ≤ 1000000) (hc : L16 m ≤ c) (hd : DS w m A) :
    Calls Tryd.prog 43 #[.bool s, .slice A (L16 m) c] w fun e w' => e = .returned (.agg #[.bool (decide (z < 0)), .slice A (L16 m) c]) ∧ Below w.heap.size w w' := by
  have ha : z.natAbs = m := by rw [hz]; split <;> omega
  refine (of_z s m (L16 m) A c z w hz (Nat.le_refl _) hm hc hd).mono ?_
  rintro e w' ⟨rfl, _, _, hb⟩
  rw [bigv, ha]
  exact ⟨rfl, hb⟩

set_option maxRecDepth 100000 in
set_option maxHeartbeats 1000000 in
theorem add_same (s : Bool) (x y : Int) (A B : Option Addr) (c c' : Nat) (w : World) (hs : decide (x < 0) = s) (ht : decide (y < 0) = s) (ha : DS w x.natAbs A) (hb : DS w y.natAbs B) (la : L16 x.natAbs ≤ 1000) (lb : L16 y.natAbs ≤ 1000) :
    Calls Tryd.prog 48 #[bigv x A c, bigv y B c'] w (BigNew w (x + y)) := by
  have hab : (x + y).natAbs = x.natAbs + y.natAbs := by
    by_cases h1 : x < 0 <;> by_cases h2 : y < 0 <;> simp [h1, h2] at hs ht <;> first | omega | (subst hs; cases ht)
  have HZ := Lib.hid (show x + y = if s then -((x.natAbs + y.natAbs : Nat) : Int) else ((x.natAbs + y.natAbs : Nat) : Int) by
    by_cases h1 : x < 0 <;> by_cases h2 : y < 0 <;> simp [h1, h2] at hs ht <;> first | (subst hs; cases ht; done) | (subst hs; simp; omega))
  have HLL : Hid (L16 (x.natAbs + y.natAbs) ≤ 1000 + 1) := Lib.hid (L16_add_le la lb)
  have HPl := Lib.hid (fun W (hW : Below w.heap.size w W) => plus_z x.natAbs y.natAbs A B c c' W (ha.below hW) (hb.below hW) (by omega) (by omega))
  have HOf := Lib.hid (fun A2 c2 W (h1 : L16 (x.natAbs + y.natAbs) ≤ c2) (h2 : DS W (x.natAbs + y.natAbs) A2) => of_sum s (x.natAbs + y.natAbs) A2 c2 (x + y) W HZ.out (Nat.le_trans HLL.out (by decide)) h1 h2)
  have HP : Hid (∀ A2 c2 W, L16 (x.natAbs + y.natAbs) ≤ c2 → DS W (x.natAbs + y.natAbs) A2 → Below w.heap.size w W → (∀ p, A2 = some p → w.heap.size ≤ p.block) → BigNew w (x + y) (.returned (.agg #[.bool (decide (x + y < 0)), .slice A2 (L16 (x.natAbs + y.natAbs)) c2])) W) :=
    Lib.hid (fun A2 c2 W h1 h2 h3 h4 => ⟨A2, c2, by rw [bigv, hab], by rw [hab]; exact h1, by rw [hab]; exact h2, h3, h4⟩)
  rw [bigv, bigv, hs, ht]
  clear ha hb hs ht hab HZ HLL la lb
  generalize decide (x + y < 0) = g at *
  generalize x.natAbs = a at *
  generalize y.natAbs = b at *
  generalize L16 a = n at *
  generalize L16 b = m at *
  go_enter Tryd.func48, Tryd.ntmps48
  go_wp2_with fail
  generalize hW : World.alloc _ _ = W0
  have hB : Below w.heap.size w W0 := by rw [← hW]; exact (((Below.refl w.heap.size w).alloc (Nat.le_refl _) _).alloc (by simp) _).alloc (by simp; omega) _
  have r1 : Row W0 w.heap.size [.bool s, .slice A n c] := by rw [← hW]; exact ((Row.at rfl _ _).alloc _).alloc _
  have r2 : Row W0 (w.heap.size + 1) [.bool s, .slice B m c'] := by rw [← hW]; exact (Row.at (by simp) _ _).alloc _
  have r3 : Row W0 (w.heap.size + 2) [.bool false, .slice none 0 0] := by rw [← hW]; exact Row.at (by simp) _ _
  clear hW
  have a0 := r1.c 0 rfl
  have a1 := r1.c 1 rfl
  have b0 := r2.c 0 rfl
  have b1 := r2.c 1 rfl
  go_wp2_with fail
  go_region_with ((first
    | (go_at_call 54; (with_reducible refine (HPl.out _ hB.drew).mono ?_); rintro e w1 ⟨A2, c2, rfl, hc2, hd2, hb2, hp2⟩; have q1 := r1.drew.after hb2; have q3 := Lib.hid (r3.drew.after hb2); have HB2 := Lib.hid ((hB.drew).trans (hb2.mono (hB.drew).size)); have HD2 := Lib.hid hd2; have HP2 := Lib.hid hp2; have HC2 := Lib.hid hc2; clear hb2 hd2 hp2 hc2; have q10 := q1.c 0 rfl; clear q1)
    | (go_at_call 43; (with_reducible refine (HOf.out _ _ _ HC2.out HD2.out).mono ?_); rintro e w2 ⟨rfl, hb3⟩; have q4 := q3.out.after hb3; have HB3 := Lib.hid (HB2.out.trans (hb3.mono HB2.out.size)); have HD3 := Lib.hid (HD2.out.below hb3); clear hb3; have t0 := q4.c 0 rfl; have t1 := q4.c 1 rfl; have u0 := q4.f 0 rfl; have u1 := q4.f 1 rfl)))
  all_goals
    clear t0 t1 u0 u1
    have l3 := r3.lt
    have hne : ∀ p, A2 = some p → w.heap.size + 1 + 1 ≠ p.block := fun p hp => by
      have h1 := HP2.out p hp
      have h2 : W0.drew.heap.size = W0.heap.size := rfl
      omega
    have hD5 := (HD3.out.set (q := ⟨w.heap.size + 1 + 1, 0, none⟩) hne (.bool g)).set (q := ⟨w.heap.size + 1 + 1, 1, none⟩) hne (.slice A2 (L16 (a + b)) c2)
    have r5 := (q4.set 0 (by simp) (.bool g)).set 1 (by simp) (.slice A2 (L16 (a + b)) c2)
    rw [show w.heap.size + 2 = w.heap.size + 1 + 1 from rfl] at r5
    have hB5 : Below w.heap.size w ((w2.setCell ⟨w.heap.size + 1 + 1, 0, none⟩ (.bool g)).setCell ⟨w.heap.size + 1 + 1, 1, none⟩ (.slice A2 (L16 (a + b)) c2)) := below_put1 (below_put1 HB3.out (by omega) _ _) (by omega) _ _
    have HQ := Lib.hid (HP.out A2 c2 _ HC2.out hD5 hB5 (fun p hp => Nat.le_trans (Nat.le_trans hB.size (Nat.le_refl _)) (HP2.out p hp)))
    generalize World.setCell _ _ _ = W5 at r5 HQ ⊢
    clear hD5 hB5 q4
    go_wp2_with fail
    exact bodyPost_ret (v := .agg #[.bool g, .slice A2 (L16 (a + b)) c2]) (by simp [results, Tryd.results48, go_sem, r5.c 0 rfl, r5.c 1 rfl]) rfl HQ.out
end Go.Proofs.YtpbdhhdmnnelhaaDoor
