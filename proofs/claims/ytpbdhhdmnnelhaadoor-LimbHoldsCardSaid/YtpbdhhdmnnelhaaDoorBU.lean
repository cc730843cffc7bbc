/- Contract of the document's Add where the signs differ. -/
import Derived.Test.YtpbdhhdmnnelhaaDoorBT
namespace Go.Proofs.YtpbdhhdmnnelhaaDoor
open Go.RowKit

set_option maxRecDepth 100000 in
set_option maxHeartbeats 1000000 in
theorem add_more (s : Bool) (x y : Int) (A B : Option Addr) (c c' : Nat) (w : World) (hs : decide (x < 0) = s) (ht : decide (y < 0) = !s) (hle : y.natAbs ≤ x.natAbs) (ha : DS w x.natAbs A) (hb : DS w y.natAbs B) (la : L16 x.natAbs ≤ 1000) (lb : L16 y.natAbs ≤ 1000) :
    Calls Tryd.prog 48 #[bigv x A c, bigv y B c'] w (BigNew w (x + y)) := by
  have hab : (x + y).natAbs = x.natAbs - y.natAbs := by
    by_cases h1 : x < 0 <;> by_cases h2 : y < 0 <;> simp [h1, h2] at hs ht <;> first | omega | (subst hs; cases ht)
  have HZ := Lib.hid (show x + y = if (s) = true then -((x.natAbs - y.natAbs : Nat) : Int) else ((x.natAbs - y.natAbs : Nat) : Int) by
    by_cases h1 : x < 0 <;> by_cases h2 : y < 0 <;> simp [h1, h2] at hs ht <;> first | (subst hs; cases ht; done) | (subst hs; simp; omega))
  have HLL : Hid (L16 (x.natAbs - y.natAbs) ≤ 1000) := Lib.hid (Nat.le_trans (L16_mono (Nat.sub_le _ _)) (by first | exact la | exact lb))
  have HMg := Lib.hid (fun W (hW : Below w.heap.size w W) => mags_z x.natAbs y.natAbs A B c c' W (ha.below hW) (hb.below hW) (by omega) (by omega))
  have HPl := Lib.hid (fun W (hW : Below w.heap.size w W) => less_z x.natAbs y.natAbs A B c c' W (by omega) (ha.below hW) (hb.below hW) (by omega))
  have HOf := Lib.hid (fun A2 c2 W (h1 : L16 (x.natAbs - y.natAbs) ≤ c2) (h2 : DS W (x.natAbs - y.natAbs) A2) => of_sum (s) (x.natAbs - y.natAbs) A2 c2 (x + y) W HZ.out (Nat.le_trans HLL.out (by decide)) h1 h2)
  have HP : Hid (∀ A2 c2 W, L16 (x.natAbs - y.natAbs) ≤ c2 → DS W (x.natAbs - y.natAbs) A2 → Below w.heap.size w W → (∀ p, A2 = some p → w.heap.size ≤ p.block) → BigNew w (x + y) (.returned (.agg #[.bool (decide (x + y < 0)), .slice A2 (L16 (x.natAbs - y.natAbs)) c2])) W) :=
    Lib.hid (fun A2 c2 W h1 h2 h3 h4 => ⟨A2, c2, by rw [bigv, hab], by rw [hab]; exact h1, by rw [hab]; exact h2, h3, h4⟩)
  have hcm : 0 ≤ cmpN x.natAbs y.natAbs := by unfold cmpN; split <;> (try split) <;> omega
  rw [bigv, bigv, hs, ht]
  clear ha hb hs ht hab HZ HLL la lb hle
  generalize decide (x + y < 0) = g at *
  generalize x.natAbs = a at *
  generalize y.natAbs = b at *
  generalize L16 a = n at *
  generalize L16 b = m at *
  generalize cmpN a b = v at *
  go_enter Tryd.func48, Tryd.ntmps48
  go_wp2_with fail
  generalize hW : World.alloc _ _ = W0
  have hB : Below w.heap.size w W0 := by rw [← hW]; exact (((Below.refl w.heap.size w).alloc (Nat.le_refl _) _).alloc (by simp) _).alloc (by simp; omega) _
  have r1 : Row W0 w.heap.size [.bool s, .slice A n c] := by rw [← hW]; exact ((Row.at rfl _ _).alloc _).alloc _
  have r2 : Row W0 (w.heap.size + 1) [.bool (!s), .slice B m c'] := by rw [← hW]; exact (Row.at (by simp) _ _).alloc _
  have r3 : Row W0 (w.heap.size + 2) [.bool false, .slice none 0 0] := by rw [← hW]; exact Row.at (by simp) _ _
  clear hW
  have a0 := r1.c 0 rfl
  have a1 := r1.c 1 rfl
  have b0 := r2.c 0 rfl
  have b1 := r2.c 1 rfl
  go_wp2_with fail
  refine (HMg.out _ hB).mono ?_
  rintro e w9 ⟨rfl, kd, rfl⟩
  replace hB := below_drewN hB kd
  replace r1 := r1.drewN kd
  replace r2 := r2.drewN kd
  replace r3 := r3.drewN kd
  generalize World.drewN _ _ = W0 at *
  clear a0 a1 b0 b1
  have a0 := r1.c 0 rfl
  have a1 := r1.c 1 rfl
  have b0 := r2.c 0 rfl
  have b1 := r2.c 1 rfl
  go_wp2_with fail
  go_region_with ((first
    | (go_at_call 57; (with_reducible refine (HPl.out _ hB.drew).mono ?_); rintro e w1 ⟨A2, c2, rfl, hc2, hd2, hb2, hp2⟩; have q1 := r1.drew.after hb2; have q3 := Lib.hid (r3.drew.after hb2); have HB2 := Lib.hid ((hB.drew).trans (hb2.mono (hB.drew).size)); have HD2 := Lib.hid hd2; have HP2 := Lib.hid hp2; have HC2 := Lib.hid hc2; clear hb2 hd2 hp2 hc2; have q10 := q1.c 0 rfl; clear q1)
    | (go_at_call 43; (with_reducible refine (HOf.out _ _ _ HC2.out HD2.out).mono ?_); rintro e w2 ⟨rfl, hb3⟩; have q4 := q3.out.after hb3; have HB3 := Lib.hid (HB2.out.trans (hb3.mono HB2.out.size)); have HD3 := Lib.hid (HD2.out.below hb3); clear hb3; have t0 := q4.c 0 rfl; have t1 := q4.c 1 rfl; have u0 := q4.f 0 rfl; have u1 := q4.f 1 rfl)))
  all_goals
    clear t0 t1 u0 u1
    have l3 := r3.lt
    have hne : ∀ p, A2 = some p → w.heap.size + 1 + 1 ≠ p.block := fun p hp => by
      have h1 := HP2.out p hp
      have h2 : W0.drew.heap.size = W0.heap.size := rfl
      omega
    have hD5 := (HD3.out.set (q := ⟨w.heap.size + 1 + 1, 0, none⟩) hne (.bool g)).set (q := ⟨w.heap.size + 1 + 1, 1, none⟩) hne (.slice A2 (L16 (a - b)) c2)
    have r5 := (q4.set 0 (by simp) (.bool g)).set 1 (by simp) (.slice A2 (L16 (a - b)) c2)
    rw [show w.heap.size + 2 = w.heap.size + 1 + 1 from rfl] at r5
    have hB5 : Below w.heap.size w ((w2.setCell ⟨w.heap.size + 1 + 1, 0, none⟩ (.bool g)).setCell ⟨w.heap.size + 1 + 1, 1, none⟩ (.slice A2 (L16 (a - b)) c2)) := below_put1 (below_put1 HB3.out (by omega) _ _) (by omega) _ _
    have HQ := Lib.hid (HP.out A2 c2 _ HC2.out hD5 hB5 (fun p hp => Nat.le_trans (Nat.le_trans hB.size (Nat.le_refl _)) (HP2.out p hp)))
    generalize World.setCell _ _ _ = W5 at r5 HQ ⊢
    clear hD5 hB5 q4
    go_wp2_with fail
    exact bodyPost_ret (v := .agg #[.bool g, .slice A2 (L16 (a - b)) c2]) (by simp [results, Tryd.results48, go_sem, r5.c 0 rfl, r5.c 1 rfl]) rfl HQ.out

set_option maxRecDepth 100000 in
set_option maxHeartbeats 1000000 in
theorem add_less (s : Bool) (x y : Int) (A B : Option Addr) (c c' : Nat) (w : World) (hs : decide (x < 0) = s) (ht : decide (y < 0) = !s) (hle : x.natAbs < y.natAbs) (ha : DS w x.natAbs A) (hb : DS w y.natAbs B) (la : L16 x.natAbs ≤ 1000) (lb : L16 y.natAbs ≤ 1000) :
    Calls Tryd.prog 48 #[bigv x A c, bigv y B c'] w (BigNew w (x + y)) := by
  have hab : (x + y).natAbs = y.natAbs - x.natAbs := by
    by_cases h1 : x < 0 <;> by_cases h2 : y < 0 <;> simp [h1, h2] at hs ht <;> first | omega | (subst hs; cases ht)
  have HZ := Lib.hid (show x + y = if (!s) = true then -((y.natAbs - x.natAbs : Nat) : Int) else ((y.natAbs - x.natAbs : Nat) : Int) by
    by_cases h1 : x < 0 <;> by_cases h2 : y < 0 <;> simp [h1, h2] at hs ht <;> first | (subst hs; cases ht; done) | (subst hs; simp; omega))
  have HLL : Hid (L16 (y.natAbs - x.natAbs) ≤ 1000) := Lib.hid (Nat.le_trans (L16_mono (Nat.sub_le _ _)) (by first | exact la | exact lb))
  have HMg := Lib.hid (fun W (hW : Below w.heap.size w W) => mags_z x.natAbs y.natAbs A B c c' W (ha.below hW) (hb.below hW) (by omega) (by omega))
  have HPl := Lib.hid (fun W (hW : Below w.heap.size w W) => less_z y.natAbs x.natAbs B A c' c W (by omega) (hb.below hW) (ha.below hW) (by omega))
  have HOf := Lib.hid (fun A2 c2 W (h1 : L16 (y.natAbs - x.natAbs) ≤ c2) (h2 : DS W (y.natAbs - x.natAbs) A2) => of_sum (!s) (y.natAbs - x.natAbs) A2 c2 (x + y) W HZ.out (Nat.le_trans HLL.out (by decide)) h1 h2)
  have HP : Hid (∀ A2 c2 W, L16 (y.natAbs - x.natAbs) ≤ c2 → DS W (y.natAbs - x.natAbs) A2 → Below w.heap.size w W → (∀ p, A2 = some p → w.heap.size ≤ p.block) → BigNew w (x + y) (.returned (.agg #[.bool (decide (x + y < 0)), .slice A2 (L16 (y.natAbs - x.natAbs)) c2])) W) :=
    Lib.hid (fun A2 c2 W h1 h2 h3 h4 => ⟨A2, c2, by rw [bigv, hab], by rw [hab]; exact h1, by rw [hab]; exact h2, h3, h4⟩)
  have hcm : cmpN x.natAbs y.natAbs < 0 := by unfold cmpN; rw [if_pos hle]; decide
  rw [bigv, bigv, hs, ht]
  clear ha hb hs ht hab HZ HLL la lb hle
  generalize decide (x + y < 0) = g at *
  generalize x.natAbs = a at *
  generalize y.natAbs = b at *
  generalize L16 a = n at *
  generalize L16 b = m at *
  generalize cmpN a b = v at *
  go_enter Tryd.func48, Tryd.ntmps48
  go_wp2_with fail
  generalize hW : World.alloc _ _ = W0
  have hB : Below w.heap.size w W0 := by rw [← hW]; exact (((Below.refl w.heap.size w).alloc (Nat.le_refl _) _).alloc (by simp) _).alloc (by simp; omega) _
  have r1 : Row W0 w.heap.size [.bool s, .slice A n c] := by rw [← hW]; exact ((Row.at rfl _ _).alloc _).alloc _
  have r2 : Row W0 (w.heap.size + 1) [.bool (!s), .slice B m c'] := by rw [← hW]; exact (Row.at (by simp) _ _).alloc _
  have r3 : Row W0 (w.heap.size + 2) [.bool false, .slice none 0 0] := by rw [← hW]; exact Row.at (by simp) _ _
  clear hW
  have a0 := r1.c 0 rfl
  have a1 := r1.c 1 rfl
  have b0 := r2.c 0 rfl
  have b1 := r2.c 1 rfl
  go_wp2_with fail
  refine (HMg.out _ hB).mono ?_
  rintro e w9 ⟨rfl, kd, rfl⟩
  replace hB := below_drewN hB kd
  replace r1 := r1.drewN kd
  replace r2 := r2.drewN kd
  replace r3 := r3.drewN kd
  generalize World.drewN _ _ = W0 at *
  clear a0 a1 b0 b1
  have a0 := r1.c 0 rfl
  have a1 := r1.c 1 rfl
  have b0 := r2.c 0 rfl
  have b1 := r2.c 1 rfl
  go_wp2_with fail
  go_region_with ((first
    | (go_at_call 57; (with_reducible refine (HPl.out _ hB.drew).mono ?_); rintro e w1 ⟨A2, c2, rfl, hc2, hd2, hb2, hp2⟩; have q1 := r2.drew.after hb2; have q3 := Lib.hid (r3.drew.after hb2); have HB2 := Lib.hid ((hB.drew).trans (hb2.mono (hB.drew).size)); have HD2 := Lib.hid hd2; have HP2 := Lib.hid hp2; have HC2 := Lib.hid hc2; clear hb2 hd2 hp2 hc2; have q10 := q1.c 0 rfl; clear q1)
    | (go_at_call 43; (with_reducible refine (HOf.out _ _ _ HC2.out HD2.out).mono ?_); rintro e w2 ⟨rfl, hb3⟩; have q4 := q3.out.after hb3; have HB3 := Lib.hid (HB2.out.trans (hb3.mono HB2.out.size)); have HD3 := Lib.hid (HD2.out.below hb3); clear hb3; have t0 := q4.c 0 rfl; have t1 := q4.c 1 rfl; have u0 := q4.f 0 rfl; have u1 := q4.f 1 rfl)))
  all_goals
    clear t0 t1 u0 u1
    have l3 := r3.lt
    have hne : ∀ p, A2 = some p → w.heap.size + 1 + 1 ≠ p.block := fun p hp => by
      have h1 := HP2.out p hp
      have h2 : W0.drew.heap.size = W0.heap.size := rfl
      omega
    have hD5 := (HD3.out.set (q := ⟨w.heap.size + 1 + 1, 0, none⟩) hne (.bool g)).set (q := ⟨w.heap.size + 1 + 1, 1, none⟩) hne (.slice A2 (L16 (b - a)) c2)
    have r5 := (q4.set 0 (by simp) (.bool g)).set 1 (by simp) (.slice A2 (L16 (b - a)) c2)
    rw [show w.heap.size + 2 = w.heap.size + 1 + 1 from rfl] at r5
    have hB5 : Below w.heap.size w ((w2.setCell ⟨w.heap.size + 1 + 1, 0, none⟩ (.bool g)).setCell ⟨w.heap.size + 1 + 1, 1, none⟩ (.slice A2 (L16 (b - a)) c2)) := below_put1 (below_put1 HB3.out (by omega) _ _) (by omega) _ _
    have HQ := Lib.hid (HP.out A2 c2 _ HC2.out hD5 hB5 (fun p hp => Nat.le_trans (Nat.le_trans hB.size (Nat.le_refl _)) (HP2.out p hp)))
    generalize World.setCell _ _ _ = W5 at r5 HQ ⊢
    clear hD5 hB5 q4
    go_wp2_with fail
    exact bodyPost_ret (v := .agg #[.bool g, .slice A2 (L16 (b - a)) c2]) (by simp [results, Tryd.results48, go_sem, r5.c 0 rfl, r5.c 1 rfl]) rfl HQ.out
end Go.Proofs.YtpbdhhdmnnelhaaDoor
