/- Contracts of the document's mags, Cmp (layer 1). -/
import Derived.Test.YtlbijchbngnmmaaDoorZ
namespace Go.Proofs.YtlbijchbngnmmaaDoor
open Go.RowKit

/-- The order of two rows of n digits, the last ahead. -/
def ordD (x y : Nat → Int) : Nat → Int
  | 0 => 0
  | k + 1 => if x k < y k then -1 else if y k < x k then 1 else ordD x y k
def magsF (x y : Nat → Int) (n m : Nat) : Int := if n = m then ordD x y n else if n < m then -1 else 1

set_option maxHeartbeats 400000 in
theorem mags_any (x y : Nat → Int) (n m b o c b' o' c' : Nat) (w : World) (hn : n ≤ 1000000) (hm : m ≤ 1000000)
    (hx : ∀ i, i < n → w.cell? ⟨b, o + i, none⟩ = some (.int .i64 (x i))) (hy : ∀ i, i < m → w.cell? ⟨b', o' + i, none⟩ = some (.int .i64 (y i))) :
    Calls Tryd.prog 56 #[.slice (some ⟨b, o, none⟩) n c, .slice (some ⟨b', o', none⟩) m c'] w fun e w' => e = .returned (.int .i64 (magsF x y n m)) ∧ ∃ k, w' = w.drewN k := by
  by_cases hnm : n = m
  · subst hnm
    have HM := Lib.hid (show magsF x y n n = ordD x y n by simp [magsF])
    have Hx := Lib.hid hx; clear hx
    have Hy := Lib.hid hy; clear hy
    rw [HM.out]
    clear HM
    go_enter Tryd.func56, Tryd.ntmps56
    go_wp2
    go_loopw [5] (fun i wr => ∃ k r : Nat, k ≤ n ∧ i = .int .i64 ((k : Int) - 1) ∧ Hid (ordD x y n = ordD x y k) ∧ wr = w.drewN r) (fun i _ => (intOf i + 1).toNat)
    case atStart => exact ⟨n, 0, Nat.le_refl _, rfl, Lib.hid rfl, rfl⟩
    case round =>
      obtain ⟨k, r, hk, rfl, HO, rfl⟩ := hrel
      cases k with
      | zero =>
        go_wp2
        go_ret
        exact ⟨by rw [HO.out]; rfl, r, rfl⟩
      | succ k =>
        have hcx := Hx.out k (by omega)
        have hcy := Hy.out k (by omega)
        have e1 : ((k + 1 : Nat) : Int) - 1 = (k : Int) := by omega
        rw [e1]; clear e1
        have hk1 : (k : Int) < n := by omega
        have hk0 : (0 : Int) ≤ k := by omega
        by_cases hc : x k < y k
        · have HO' : Hid (ordD x y n = -1) := by rw [HO.out]; exact Lib.hid (by rw [ordD, if_pos hc])
          clear HO
          go_wp2
          go_quiet (fail)
          go_wp2
          go_ret
          refine ⟨by rw [HO'.out]; rfl, ?_⟩
          rw [World.drewN_drewN]
          exact ⟨_, rfl⟩
        · by_cases hd : y k < x k
          · have HO' : Hid (ordD x y n = 1) := by rw [HO.out]; exact Lib.hid (by rw [ordD, if_neg hc, if_pos hd])
            have hc' : decide (x k < y k) = false := by simpa using hc
            clear HO
            go_wp2
            go_quiet (fail)
            go_wp2
            go_quiet (fail)
            go_wp2
            go_ret
            refine ⟨by rw [HO'.out]; rfl, ?_⟩
            rw [World.drewN_drewN, World.drewN_drewN]
            exact ⟨_, rfl⟩
          · have HO' : Hid (ordD x y n = ordD x y k) := by rw [HO.out]; exact Lib.hid (by rw [ordD, if_neg hc, if_neg hd])
            have hc' : decide (x k < y k) = false := by simpa using hc
            have hd' : decide (y k < x k) = false := by simpa using hd
            clear HO
            go_wp2
            go_quiet (fail)
            go_wp2
            go_quiet (fail)
            go_wp2
            go_roundw
            case rel => exact ⟨k, _, by omega, rfl, HO', rfl⟩
            case measure => simp [intOf]
  · by_cases hl : n < m
    · have HM := Lib.hid (show magsF x y n m = -1 by simp [magsF, hnm, hl])
      have h1 : (n : Int) ≠ m := by omega
      have h2 : (n : Int) < m := by omega
      rw [HM.out]
      clear HM hx hy
      go_enter Tryd.func56, Tryd.ntmps56
      go_wp2
      go_ret
      exact ⟨rfl, 0, rfl⟩
    · have HM := Lib.hid (show magsF x y n m = 1 by simp [magsF, hnm, hl])
      have h1 : (n : Int) ≠ m := by omega
      have h2 : ¬ (n : Int) < m := by omega
      rw [HM.out]
      clear HM hx hy
      go_enter Tryd.func56, Tryd.ntmps56
      go_wp2
      go_ret
      exact ⟨rfl, 0, rfl⟩

/-- What the document's Cmp tells. -/
def bigC (s t : Bool) (x y : Nat → Int) (n m : Nat) : Int :=
  match s, t with
  | true, true => magsF y x m n
  | true, false => -1
  | false, true => 1
  | false, false => magsF x y n m

set_option maxHeartbeats 400000 in
theorem refcmp_any (s t : Bool) (x y : Nat → Int) (n m b c b' c' : Nat) (w : World) (hn : n ≤ 1000000) (hm : m ≤ 1000000) (hb : b < w.heap.size) (hb' : b' < w.heap.size)
    (hx : ∀ i, i < n → w.cell? ⟨b, i, none⟩ = some (.int .i64 (x i))) (hy : ∀ i, i < m → w.cell? ⟨b', i, none⟩ = some (.int .i64 (y i))) :
    Calls Tryd.prog 35 #[.agg #[.bool s, .slice (some ⟨b, 0, none⟩) n c], .agg #[.bool t, .slice (some ⟨b', 0, none⟩) m c']] w fun e w' => e = .returned (.int .i64 (bigC s t x y n m)) ∧ Below w.heap.size w w' := by
  have H1 := Lib.hid (fun W (hW : Below w.heap.size w W) => mags_any x y n m b 0 c b' 0 c' W hn hm (fun i hi => by rw [Nat.zero_add]; exact (hW.cell (p := ⟨b, i, none⟩) hb).trans (hx i hi)) (fun i hi => by rw [Nat.zero_add]; exact (hW.cell (p := ⟨b', i, none⟩) hb').trans (hy i hi)))
  have H2 := Lib.hid (fun W (hW : Below w.heap.size w W) => mags_any y x m n b' 0 c' b 0 c W hm hn (fun i hi => by rw [Nat.zero_add]; exact (hW.cell (p := ⟨b', i, none⟩) hb').trans (hy i hi)) (fun i hi => by rw [Nat.zero_add]; exact (hW.cell (p := ⟨b, i, none⟩) hb).trans (hx i hi)))
  clear hx hy
  cases s <;> cases t
  · go_enter Tryd.func35, Tryd.ntmps35
    go_wp2_with fail
    generalize hW : World.alloc _ _ = W0
    have hB : Below w.heap.size w W0 := by rw [← hW]; exact ((Below.refl w.heap.size w).alloc (Nat.le_refl _) _).alloc (by simp) _
    clear hW
    refine (H1.out _ hB).mono ?_
    rintro e w1 ⟨rfl, kd, rfl⟩
    go_wp2_with fail
    go_ret
    exact ⟨rfl, below_drewN hB kd⟩
  · go_enter Tryd.func35, Tryd.ntmps35
    go_wp2_with fail
    go_ret
    exact ⟨rfl, ((Below.refl w.heap.size w).alloc (Nat.le_refl _) _).alloc (by simp) _⟩
  · go_enter Tryd.func35, Tryd.ntmps35
    go_wp2_with fail
    go_ret
    exact ⟨rfl, ((Below.refl w.heap.size w).alloc (Nat.le_refl _) _).alloc (by simp) _⟩
  · go_enter Tryd.func35, Tryd.ntmps35
    go_wp2_with fail
    generalize hW : World.alloc _ _ = W0
    have hB : Below w.heap.size w W0 := by rw [← hW]; exact ((Below.refl w.heap.size w).alloc (Nat.le_refl _) _).alloc (by simp) _
    clear hW
    refine (H2.out _ hB).mono ?_
    rintro e w1 ⟨rfl, kd, rfl⟩
    go_wp2_with fail
    go_ret
    exact ⟨rfl, below_drewN hB kd⟩
end Go.Proofs.YtlbijchbngnmmaaDoor
