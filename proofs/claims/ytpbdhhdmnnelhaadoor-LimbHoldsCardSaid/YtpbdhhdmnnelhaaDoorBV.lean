/- Contracts of the document's Add and Sub by the numbers' values, whatever the signs. -/
import Derived.Test.YtpbdhhdmnnelhaaDoorBU
namespace Go.Proofs.YtpbdhhdmnnelhaaDoor
open Go.RowKit

theorem refadd_z (x y : Int) (A B : Option Addr) (c c' : Nat) (w : World) (ha : DS w x.natAbs A) (hb : DS w y.natAbs B) (la : L16 x.natAbs ≤ 1000) (lb : L16 y.natAbs ≤ 1000) :
    Calls Tryd.prog 48 #[bigv x A c, bigv y B c'] w (BigNew w (x + y)) := by
  by_cases hs : decide (y < 0) = decide (x < 0)
  · exact add_same _ x y A B c c' w rfl hs ha hb la lb
  · have hs' : decide (y < 0) = !decide (x < 0) := by
      cases h1 : decide (x < 0) <;> cases h2 : decide (y < 0) <;> simp [h1, h2] at hs ⊢
    by_cases hle : y.natAbs ≤ x.natAbs
    · exact add_more _ x y A B c c' w rfl hs' hle ha hb la lb
    · exact add_less _ x y A B c c' w rfl hs' (by omega) ha hb la lb

set_option maxRecDepth 100000 in
set_option maxHeartbeats 1000000 in
theorem refsub_z (x y : Int) (A B : Option Addr) (c c' : Nat) (w : World) (ha : DS w x.natAbs A) (hb : DS w y.natAbs B) (la : L16 x.natAbs ≤ 1000) (lb : L16 y.natAbs ≤ 1000) (hc : L16 y.natAbs ≤ c') :
    Calls Tryd.prog 29 #[bigv x A c, bigv y B c'] w (BigNew w (x - y)) := by
  have HNg := Lib.hid (fun W (hW : Below w.heap.size w W) => refneg_z y B c' W (hb.below hW) hc (by omega))
  have HAd := Lib.hid (fun W (hW : Below w.heap.size w W) (h : DS W y.natAbs B) => refadd_z x (-y) A B c c' W (ha.below hW) (by rw [neg_abs]; exact h) la (by rw [neg_abs]; exact lb))
  rw [show x + -y = x - y from rfl] at HAd
  have HP : Hid (∀ A2 c2 W, L16 (x - y).natAbs ≤ c2 → DS W (x - y).natAbs A2 → Below w.heap.size w W → (∀ p, A2 = some p → w.heap.size ≤ p.block) → BigNew w (x - y) (.returned (bigv (x - y) A2 c2)) W) := Lib.hid (fun A2 c2 W h1 h2 h3 h4 => ⟨A2, c2, rfl, h1, h2, h3, h4⟩)
  clear ha hb la lb hc
  unfold BigNew at HAd
  simp only [bigv] at HNg HAd HP ⊢
  generalize decide (-y < 0) = t' at *
  generalize decide (y < 0) = t at *
  generalize decide (x < 0) = s at *
  generalize decide (x - y < 0) = g at *
  generalize (x - y).natAbs = d at *
  generalize x.natAbs = a at *
  rw [neg_abs] at HNg HAd
  generalize y.natAbs = b at *
  generalize L16 a = n at *
  generalize L16 b = m at *
  generalize hk : L16 d = k at *
  have HK := Lib.hid hk
  clear hk
  go_enter Tryd.func29, Tryd.ntmps29
  go_wp2_with fail
  generalize hW : World.alloc _ _ = W0
  have hB : Below w.heap.size w W0 := by rw [← hW]; exact (((Below.refl w.heap.size w).alloc (Nat.le_refl _) _).alloc (by simp) _).alloc (by simp; omega) _
  have r1 : Row W0 w.heap.size [.bool s, .slice A n c] := by rw [← hW]; exact ((Row.at rfl _ _).alloc _).alloc _
  have r2 : Row W0 (w.heap.size + 1) [.bool t, .slice B m c'] := by rw [← hW]; exact (Row.at (by simp) _ _).alloc _
  have r3 : Row W0 (w.heap.size + 2) [.bool false, .slice none 0 0] := by rw [← hW]; exact Row.at (by simp) _ _
  clear hW
  have a0 := r1.c 0 rfl
  have a1 := r1.c 1 rfl
  have b0 := r2.c 0 rfl
  have b1 := r2.c 1 rfl
  go_wp2_with fail
  go_region_with ((first
    | (go_at_call 28; (with_reducible refine (HNg.out _ hB.drew).mono ?_); rintro e w1 ⟨rfl, hd2, hb2⟩; have q1 := r1.drew.after hb2; have q3 := Lib.hid (r3.drew.after hb2); have HB2 := Lib.hid ((hB.drew).trans (hb2.mono (hB.drew).size)); have HD2 := Lib.hid hd2; clear hb2 hd2; have q10 := q1.c 0 rfl; have q11 := q1.c 1 rfl; clear q1)
    | (go_at_call 48; (with_reducible refine (HAd.out _ HB2.out HD2.out).mono ?_); rintro e w2 ⟨A2, c2, rfl, hcc, hds, hb3, hp3⟩; have q4 := q3.out.after hb3; have HB3 := Lib.hid (HB2.out.trans (hb3.mono HB2.out.size)); have HD3 := Lib.hid hds; have HC3 := Lib.hid hcc; have HP3 := Lib.hid hp3; have HL3 := Lib.hid q3.out.lt; clear hb3 hds hcc hp3; have t0 := q4.c 0 rfl; have t1 := q4.c 1 rfl; have u0 := q4.f 0 rfl; have u1 := q4.f 1 rfl)))
  all_goals
    clear t0 t1 u0 u1
    have hne : ∀ p, A2 = some p → w.heap.size + 1 + 1 ≠ p.block := fun p hp => by
      have h1 := HP3.out p hp
      have h2 := HL3.out
      omega
    have hD5 := (HD3.out.set (q := ⟨w.heap.size + 1 + 1, 0, none⟩) hne (.bool g)).set (q := ⟨w.heap.size + 1 + 1, 1, none⟩) hne (.slice A2 k c2)
    have r5 := (q4.set 0 (by simp) (.bool g)).set 1 (by simp) (.slice A2 k c2)
    rw [show w.heap.size + 2 = w.heap.size + 1 + 1 from rfl] at r5
    have hB5 : Below w.heap.size w ((w2.setCell ⟨w.heap.size + 1 + 1, 0, none⟩ (.bool g)).setCell ⟨w.heap.size + 1 + 1, 1, none⟩ (.slice A2 k c2)) := below_put1 (below_put1 HB3.out (by omega) _ _) (by omega) _ _
    have HQ := Lib.hid (HP.out A2 c2 _ HC3.out hD5 hB5 (fun p hp => Nat.le_trans HB2.out.size (HP3.out p hp)))
    generalize World.setCell _ _ _ = W5 at r5 HQ ⊢
    clear hD5 hB5 q4
    go_wp2_with fail
    exact bodyPost_ret (v := .agg #[.bool g, .slice A2 k c2]) (by simp [results, Tryd.results29, go_sem, r5.c 0 rfl, r5.c 1 rfl]) rfl HQ.out
end Go.Proofs.YtpbdhhdmnnelhaaDoor

/- limb.Neg by its argument's words. -/
namespace Go.Proofs.YtpbdhhdmnnelhaaDoor
open Go.RowKit

def negR (n : Bool) (a b c d : Int) : Value := if (n && zeroB a b c d) = true then .tuple #[iv false 0 0 0 0, .int .i64 2] else .tuple #[iv (!n && !zeroB a b c d) a b c d, .int .i64 0]

set_option maxHeartbeats 400000 in
set_option maxRecDepth 100000 in
theorem neg_any (n : Bool) (a b c d : Int) (w : World) :
    Calls Tryd.prog 26 #[iv n a b c d] w fun e w' => e = .returned (negR n a b c d) ∧ Below w.heap.size w w' := by
  have hC := Lib.hid (fun W => check_any n a b c d W)
  have hS := Lib.hid (fun W => signed_any (!n) a b c d W)
  cases hz : (n && zeroB a b c d)
  · have HR := Lib.hid (show negR n a b c d = .tuple #[iv (!n && !zeroB a b c d) a b c d, .int .i64 0] by simp [negR, hz])
    rw [errArg_ok hz] at hC
    clear hz
    generalize (!n && !zeroB a b c d) = s at *
    have HK : ∃ t, Hid ((!n) = t) := ⟨_, Lib.hid rfl⟩
    go_enter Tryd.func26, Tryd.ntmps26
    go_wp2_with fail
    refine (hC.out _).mono ?_
    rintro e w1 ⟨rfl, hb1⟩
    have hB : Below w.heap.size w w1 := (((Below.refl w.heap.size w).alloc (Nat.le_refl _) _).alloc (by simp) _).trans (hb1.mono (by simp; omega))
    have r1 : Row w1 w.heap.size [.bool n, .int .u64 a, .int .u64 b, .int .u64 c, .int .u64 d] := ((Row.at rfl _ _).alloc _).after hb1
    have r2 : Row w1 (w.heap.size + 1) [.bool false, .int .u64 0, .int .u64 0, .int .u64 0, .int .u64 0] := (Row.at (by simp) _ _).after hb1
    clear hb1
    have a0 := r1.c 0 rfl
    have a1 := r1.c 1 rfl
    have a2 := r1.c 2 rfl
    have a3 := r1.c 3 rfl
    have a4 := r1.c 4 rfl
    go_wp2_with fail
    refine (hS.out _).mono ?_
    rintro e w2 ⟨rfl, hb2⟩
    have q2 := r2.after hb2
    have HB2 : Below w.heap.size w w2 := hB.trans (hb2.mono hB.size)
    clear hb2
    have b0 := q2.c 0 rfl
    have b1 := q2.c 1 rfl
    have b2 := q2.c 2 rfl
    have b3 := q2.c 3 rfl
    have b4 := q2.c 4 rfl
    have f0 := q2.f 0 rfl
    have f1 := q2.f 1 rfl
    have f2 := q2.f 2 rfl
    have f3 := q2.f 3 rfl
    have f4 := q2.f 4 rfl
    go_wp2
    clear a0 a1 a2 a3 a4 b0 b1 b2 b3 b4 f0 f1 f2 f3 f4
    generalize hW : World.setCell _ _ _ = W4
    have rR4 : Row W4 (w.heap.size + 1) [.bool s, .int .u64 a, .int .u64 b, .int .u64 c, .int .u64 d] := by rw [← hW]; exact q2.put5 _ _ _ _ _
    have hB4 : Below w.heap.size w W4 := by rw [← hW]; exact below_put5 HB2 (by omega) _ _ _ _ _
    exact bodyPost_ret (v := .tuple #[iv s a b c d, .int .i64 0]) (by simp [results, Tryd.results26, go_sem, rR4.c 0 rfl, rR4.c 1 rfl, rR4.c 2 rfl, rR4.c 3 rfl, rR4.c 4 rfl]) rfl ⟨by rw [HR.out], hB4⟩
  · have HR := Lib.hid (show negR n a b c d = .tuple #[iv false 0 0 0 0, .int .i64 2] by simp [negR, hz])
    have hn : n = true := by cases n <;> simp at hz ⊢
    have hz2 : zeroB a b c d = true := by cases n <;> simp at hz ⊢; exact hz
    subst hn
    rw [errArg_bad hz2] at hC
    clear hz hz2
    go_enter Tryd.func26, Tryd.ntmps26
    go_wp2_with fail
    refine (hC.out _).mono ?_
    rintro e w1 ⟨rfl, hb1⟩
    have hB : Below w.heap.size w w1 := (((Below.refl w.heap.size w).alloc (Nat.le_refl _) _).alloc (by simp) _).trans (hb1.mono (by simp; omega))
    have r2 : Row w1 (w.heap.size + 1) [.bool false, .int .u64 0, .int .u64 0, .int .u64 0, .int .u64 0] := (Row.at (by simp) _ _).after hb1
    clear hb1
    have b0 := r2.c 0 rfl
    have b1 := r2.c 1 rfl
    have b2 := r2.c 2 rfl
    have b3 := r2.c 3 rfl
    have b4 := r2.c 4 rfl
    have f0 := r2.f 0 rfl
    have f1 := r2.f 1 rfl
    have f2 := r2.f 2 rfl
    have f3 := r2.f 3 rfl
    have f4 := r2.f 4 rfl
    go_wp2
    clear b0 b1 b2 b3 b4 f0 f1 f2 f3 f4
    generalize hW : World.setCell _ _ _ = W4
    have rR4 : Row W4 (w.heap.size + 1) [.bool false, .int .u64 0, .int .u64 0, .int .u64 0, .int .u64 0] := by rw [← hW]; exact r2.put5 _ _ _ _ _
    have hB4 : Below w.heap.size w W4 := by rw [← hW]; exact below_put5 hB (by omega) _ _ _ _ _
    exact bodyPost_ret (v := .tuple #[iv false 0 0 0 0, .int .i64 2]) (by simp [results, Tryd.results26, go_sem, rR4.c 0 rfl, rR4.c 1 rfl, rR4.c 2 rfl, rR4.c 3 rfl, rR4.c 4 rfl]) rfl ⟨by rw [HR.out], hB4⟩
end Go.Proofs.YtpbdhhdmnnelhaaDoor
