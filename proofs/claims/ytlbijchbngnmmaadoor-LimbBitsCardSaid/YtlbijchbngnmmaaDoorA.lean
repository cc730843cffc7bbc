/- Contracts of the small functions of package limb: Check, Of, Sign, signed, cmp.Compare and order; no condition but that words are words. -/
import Derived.Test.YtlbijchbngnmmaaDoorBase
namespace Go.Proofs.YtlbijchbngnmmaaDoor
open Go.RowKit

def zeroB (a b c d : Int) : Bool := a == 0 && (b == 0 && (c == 0 && d == 0))
def errArg (n : Bool) (a b c d : Int) : Int := if (n && zeroB a b c d) = true then 2 else 0
theorem errArg_bad {a b c d : Int} (h : zeroB a b c d = true) : errArg true a b c d = 2 := by simp [errArg, h]
theorem errArg_ok {n : Bool} {a b c d : Int} (h : (n && zeroB a b c d) = false) : errArg n a b c d = 0 := by simp [errArg, h]
theorem zeroB_iff {a b c d : Int} : zeroB a b c d = true ↔ a = 0 ∧ b = 0 ∧ c = 0 ∧ d = 0 := by simp [zeroB]
set_option maxRecDepth 100000 in
set_option maxHeartbeats 400000 in
theorem check_any (n : Bool) (a b c d : Int) (w : World) :
    Calls Tryd.prog 20 #[iv n a b c d] w fun e w' => e = .returned (.int .i64 (errArg n a b c d)) ∧ Below w.heap.size w w' := by
  have hq : ∀ w, (binOp .eql 23 (wv a b c d) (wv 0 0 0 0)).run Tryd.prog w = .ok (.bool (zeroB a b c d)) w := fun w => eqlArr 23 Tryd.underlying23 a b c d 0 0 0 0 w
  cases n
  · have H := Lib.hid (errArg_ok (n := false) (a := a) (b := b) (c := c) (d := d) rfl)
    go_enter Tryd.func20, Tryd.ntmps20
    go_wp2
    go_ret
    exact ⟨by rw [H.out]; rfl, (Below.refl _ _).alloc (Nat.le_refl _) _⟩
  · cases hz : zeroB a b c d
    · have H := Lib.hid (errArg_ok (n := true) (a := a) (b := b) (c := c) (d := d) (by simp [hz]))
      rw [hz] at hq
      clear hz
      go_enter Tryd.func20, Tryd.ntmps20
      go_wp2
      go_ret
      exact ⟨by rw [H.out]; rfl, (Below.refl _ _).alloc (Nat.le_refl _) _⟩
    · have H := Lib.hid (errArg_bad hz)
      rw [hz] at hq
      clear hz
      go_enter Tryd.func20, Tryd.ntmps20
      go_wp2
      go_ret
      exact ⟨by rw [H.out]; rfl, (Below.refl _ _).alloc (Nat.le_refl _) _⟩

def ofW (n : Int) : Int := if n < 0 then IntKind.u64.wrap (-IntKind.u64.wrap n) else IntKind.u64.wrap n
set_option maxHeartbeats 400000 in
theorem of_any (n : Int) (w : World) :
    Calls Tryd.prog 13 #[.int .i64 n] w fun e w' => e = .returned (iv (decide (n < 0)) (ofW n) 0 0 0) ∧ Below w.heap.size w w' := by
  by_cases h : n < 0
  · have hw : ofW n = IntKind.u64.wrap (-IntKind.u64.wrap n) := by simp [ofW, h]
    have hd : decide (n < 0) = true := by simp [h]
    rw [hw, hd]; clear hw hd
    go_enter Tryd.func13, Tryd.ntmps13
    go_wp2
    exact bodyPost_ret (by simp [results, Tryd.results13, go_sem]) rfl ⟨rfl, (Below.refl _ _).alloc (Nat.le_refl _) _⟩
  · have hw : ofW n = IntKind.u64.wrap n := by simp [ofW, h]
    have hd : decide (n < 0) = false := by simp [h]
    rw [hw, hd]; clear hw
    go_enter Tryd.func13, Tryd.ntmps13
    go_wp2
    exact bodyPost_ret (by simp [results, Tryd.results13, go_sem]) rfl ⟨rfl, (Below.refl _ _).alloc (Nat.le_refl _) _⟩

def sgnB (n : Bool) (a b c d : Int) : Int := if zeroB a b c d = true then 0 else if n = true then -1 else 1
set_option maxHeartbeats 400000 in
set_option maxRecDepth 100000 in
theorem sign_any (n : Bool) (a b c d : Int) (w : World) :
    Calls Tryd.prog 18 #[iv n a b c d] w fun e w' => e = .returned (.int .i64 (sgnB n a b c d)) ∧ Below w.heap.size w w' := by
  have hq : ∀ w, (binOp .eql 23 (wv a b c d) (wv 0 0 0 0)).run Tryd.prog w = .ok (.bool (zeroB a b c d)) w := fun w => eqlArr 23 Tryd.underlying23 a b c d 0 0 0 0 w
  have hq2 : ∀ w, (binOp .eql 79 (wv a b c d) (wv 0 0 0 0)).run Tryd.prog w = .ok (.bool (zeroB a b c d)) w := fun w => eqlArr 79 Tryd.underlying79 a b c d 0 0 0 0 w
  cases hz : zeroB a b c d
  · rw [hz] at hq hq2
    cases n
    · have H := Lib.hid (show sgnB false a b c d = 1 by simp [sgnB, hz])
      clear hz
      go_enter Tryd.func18, Tryd.ntmps18
      go_wp2
      go_ret
      exact ⟨by rw [H.out]; rfl, (Below.refl _ _).alloc (Nat.le_refl _) _⟩
    · have H := Lib.hid (show sgnB true a b c d = -1 by simp [sgnB, hz])
      clear hz
      go_enter Tryd.func18, Tryd.ntmps18
      go_wp2
      go_ret
      exact ⟨by rw [H.out]; rfl, (Below.refl _ _).alloc (Nat.le_refl _) _⟩
  · rw [hz] at hq hq2
    have H := Lib.hid (show sgnB n a b c d = 0 by simp [sgnB, hz])
    clear hz
    go_enter Tryd.func18, Tryd.ntmps18
    go_wp2
    go_ret
    exact ⟨by rw [H.out]; rfl, (Below.refl _ _).alloc (Nat.le_refl _) _⟩

set_option maxHeartbeats 400000 in
set_option maxRecDepth 100000 in
theorem signed_any (n : Bool) (a b c d : Int) (w : World) :
    Calls Tryd.prog 49 #[.bool n, wv a b c d] w fun e w' => e = .returned (iv (n && !zeroB a b c d) a b c d) ∧ Below w.heap.size w w' := by
  have hq2 : ∀ w, (binOp .neq 79 (wv a b c d) (wv 0 0 0 0)).run Tryd.prog w = .ok (.bool (!zeroB a b c d)) w := fun w => neqArr 79 Tryd.underlying79 a b c d 0 0 0 0 w
  generalize zeroB a b c d = z at hq2 ⊢
  cases n
  · rw [show (false && !z) = false from rfl]
    go_enter Tryd.func49, Tryd.ntmps49
    go_wp2
    go_region
    go_wp2
    exact bodyPost_ret (by simp [results, Tryd.results49, go_sem]) rfl ⟨rfl, (((Below.refl _ _).alloc (Nat.le_refl _) _).alloc (by simp) _).drew⟩
  · rw [show (true && !z) = !z from rfl]
    generalize (!z) = y at hq2 ⊢
    go_enter Tryd.func49, Tryd.ntmps49
    go_wp2
    go_region
    go_wp2
    exact bodyPost_ret (by simp [results, Tryd.results49, go_sem]) rfl ⟨rfl, (((Below.refl _ _).alloc (Nat.le_refl _) _).alloc (by simp) _).drew⟩

def cmpI (a b : Int) : Int := if a < b then -1 else if b < a then 1 else 0
set_option maxHeartbeats 400000 in
theorem compare_any (a b : Int) (w : World) :
    Calls Tryd.prog 78 #[.int .u64 a, .int .u64 b] w fun e w' => e = .returned (.int .i64 (cmpI a b)) ∧ w = w' := by
  by_cases h : a < b
  · have H := Lib.hid (show cmpI a b = -1 by simp [cmpI, h])
    go_enter Tryd.func78, Tryd.ntmps78
    go_wp2
    go_ret
    exact ⟨by rw [H.out]; rfl, rfl⟩
  · by_cases h' : b < a
    · have H := Lib.hid (show cmpI a b = 1 by simp [cmpI, h, h'])
      go_enter Tryd.func78, Tryd.ntmps78
      go_wp2
      go_ret
      exact ⟨by rw [H.out]; rfl, rfl⟩
    · have H := Lib.hid (show cmpI a b = 0 by simp [cmpI, h, h'])
      go_enter Tryd.func78, Tryd.ntmps78
      go_wp2
      go_ret
      exact ⟨by rw [H.out]; rfl, rfl⟩

/-- The order of two rows of words of one length: what stands last counts most. -/
def ordF (x y : Nat → Int) : Nat → Int
  | 0 => 0
  | k + 1 => if cmpI (x k) (y k) = 0 then ordF x y k else cmpI (x k) (y k)
set_option maxHeartbeats 400000 in
theorem order_any (x y : Nat → Int) (n : Nat) (b o b' o' c c' : Nat) (w : World) (hn : n ≤ 1000)
    (hx : ∀ i, i < n → w.cell? ⟨b, o + i, none⟩ = some (.int .u64 (x i))) (hy : ∀ i, i < n → w.cell? ⟨b', o' + i, none⟩ = some (.int .u64 (y i))) :
    Calls Tryd.prog 58 #[.slice (some ⟨b, o, none⟩) n c, .slice (some ⟨b', o', none⟩) n c'] w fun e w' => e = .returned (.int .i64 (ordF x y n)) ∧ ∃ k, w' = w.drewN k := by
  go_enter Tryd.func58, Tryd.ntmps58
  have Hx := Lib.hid hx; clear hx
  have Hy := Lib.hid hy; clear hy
  go_wp2
  go_loopw [5] (fun i wr => ∃ k m : Nat, k ≤ n ∧ i = .int .i64 ((k : Int) - 1) ∧ Hid (ordF x y n = ordF x y k) ∧ wr = w.drewN m) (fun i _ => (intOf i + 1).toNat)
  case atStart => exact ⟨n, 0, Nat.le_refl _, rfl, Lib.hid rfl, rfl⟩
  case round =>
    obtain ⟨k, m, hk, rfl, HO, rfl⟩ := hrel
    cases k with
    | zero =>
      go_wp2
      go_ret
      exact ⟨by rw [HO.out]; rfl, m, rfl⟩
    | succ k =>
      have hcx := Hx.out k (by omega)
      have hcy := Hy.out k (by omega)
      have e1 : ((k + 1 : Nat) : Int) - 1 = (k : Int) := by omega
      rw [e1]; clear e1
      have hk1 : (k : Int) < n := by omega
      have hk0 : (0 : Int) ≤ k := by omega
      by_cases hc : cmpI (x k) (y k) = 0
      · have HO' : Hid (ordF x y n = ordF x y k) := by rw [HO.out]; exact Lib.hid (by rw [ordF, if_pos hc])
        have HC := Lib.hid hc; clear hc HO
        go_wp2
        go_quiet ((go_at_call 78; exact calls_cls (compare_any _ _ _) ⟨_, rfl⟩))
        rw [HC.out]
        go_wp2
        go_roundw
        case rel => exact ⟨k, _, by omega, rfl, HO', rfl⟩
        case measure => simp [intOf]
      · have hb : (cmpI (x k) (y k) != 0) = true := by simpa using hc
        have HO' : Hid (ordF x y n = cmpI (x k) (y k)) := by rw [HO.out]; exact Lib.hid (by rw [ordF, if_neg hc])
        clear hc HO
        go_wp2
        go_quiet ((go_at_call 78; exact calls_cls (compare_any _ _ _) ⟨_, rfl⟩))
        go_wp2
        go_ret
        exact ⟨by rw [HO'.out]; rfl, _, rfl⟩
end Go.Proofs.YtlbijchbngnmmaaDoor
