import Derived.Test.YtongeeggaigepaaGreatDoorZKkM
import Derived.Test.YtongeeggaigepaaGreatDoorZKkBM
import Derived.Test.YtongeeggaigepaaGreatDoorZKkBO
import Derived.Test.YtongeeggaigepaaGreatDoorZKkI
import Derived.Test.YtongeeggaigepaaGreatDoorZKkDD
import Derived.Test.YtongeeggaigepaaGreatDoorZKkBG
namespace Go.Proofs.YtongeeggaigepaaGreatDoor
open Go.RowKit
def isDig (c : UInt8) : Bool := decide (48 ≤ c.toNat) && decide (c.toNat ≤ 57)
def isTextB (s : List UInt8) : Bool :=
 let d := Lib.trimPrefix s [45]
 !(d.isEmpty || (d.head? == some 48 && s != [48])) && d.all isDig
theorem isDig_at (x : UInt8) : isDig x = true ↔ ¬ (x.toNat : Int) < 48 ∧ ¬ (57 : Int) < x.toNat := by
 unfold isDig
 rw [Bool.and_eq_true_iff, decide_eq_true_iff, decide_eq_true_iff]
 omega
theorem all_dig {D : ByteArray} : D.data.toList.all isDig = true ↔ ∀ (k : Nat) (h : k < D.size), isDig (D[k]'h) = true := by
 rw [List.all_eq_true]
 constructor
 ·intro h k hk
  exact h _ (List.getElem_mem (by simpa using hk))
 ·intro h x hx
  obtain ⟨k, hk, rfl⟩ := List.mem_iff_getElem.1 hx
  exact h k (by simpa using hk)
theorem trim_len (l p : List UInt8) : (Lib.trimPrefix l p).length ≤ l.length := by
 unfold Lib.trimPrefix
 split
 ·rw [List.length_drop]; omega
 ·exact Nat.le_refl _
set_option maxRecDepth 100000 in
set_option maxHeartbeats 1000000 in
theorem isText_any (s : ByteArray) (w : World) (hs : s.size ≤ 1000) :
 Calls Tryz.prog 223 #[.string s] w fun e w' => e = .returned (.bool (isTextB s.data.toList)) ∧ w = w' := by
 have HT := Lib.hid (fun W => Tryz.strings_TrimPrefix s ⟨#[45]⟩ W)
 obtain ⟨D, HD⟩ : ∃ D : ByteArray, Hid (D = ⟨(Lib.trimPrefix s.data.toList [45]).toArray⟩) := ⟨_, Lib.hid rfl⟩
 rw [show (⟨#[45]⟩ : ByteArray).data.toList = [45] from rfl, ← HD.out] at HT
 have hDl : D.data.toList = Lib.trimPrefix s.data.toList [45] := by rw [HD.out]
 have hDs : D.size ≤ 1000 := by
  have h1 := trim_len s.data.toList [45]
  rw [← hDl] at h1
  have h2 : D.data.toList.length = D.size := Array.length_toList
  have h3 : s.data.toList.length = s.size := Array.length_toList
  omega
 have HB : Hid (isTextB s.data.toList = (!(D.toList.isEmpty || (D.data.toList.head? == some 48 && !(s.toList == [48]))) && D.data.toList.all isDig)) := Lib.hid (by
  rw [isTextB, ← hDl, ByteArray.toList_eq, ByteArray.toList_eq]; rfl)
 clear hDl
 generalize isTextB s.data.toList = R at HB ⊢
 cases he : D.toList.isEmpty
 ·have h0 : 0 < D.size := by
   rw [ByteArray.toList_eq] at he
   apply Nat.pos_of_ne_zero
   intro h
   have h2 : D.data.toList.length = D.size := Array.length_toList
   rw [h] at h2
   rw [List.eq_nil_of_length_eq_zero h2] at he
   cases he
  have hhd : D.data.toList.head? = some (D[0]'h0) := by
   rw [List.head?_eq_getElem?, List.getElem?_eq_getElem (by simpa using h0)]; rfl
  by_cases h48 : ((D[0]'h0).toNat : Int) = 48
  ·have hx : D[0]'h0 = 48 := UInt8.toNat.inj (by show (D[0]'h0).toNat = 48; omega)
   cases hsl : (s.toList == [48])
   ·have HF : Hid (R = false) := Lib.hid (by rw [HB.out, he, hsl, hhd, hx]; rfl)
    clear hhd hx HB
    go_enter Tryz.func223, Tryz.ntmps223
    go_wp2_with fail
    refine (HT.out _).mono ?_
    rintro e w' ⟨rfl, rfl⟩
    go_wp2_with fail
    go_ret
    exact ⟨by show Ending.returned (.bool false) = _; rw [HF.out], rfl⟩
   ·have HA : Hid (R = D.data.toList.all isDig) := Lib.hid (by rw [HB.out, he, hsl, hhd, hx]; rfl)
    clear hhd hx HB
    go_enter Tryz.func223, Tryz.ntmps223
    go_wp2_with fail
    refine (HT.out _).mono ?_
    rintro e w' ⟨rfl, rfl⟩
    go_wp2_with fail
    go_loopw [20] (fun v wr => ∃ k : Nat, k ≤ D.size ∧ v = .int .i64 k ∧ Hid (∀ (i : Nat) (h : i < D.size), i < k → isDig (D[i]'h) = true) ∧ w' = wr) (fun v _ => D.size - (intOf v).toNat)
    case atStart => exact ⟨0, by omega, rfl, Lib.hid (fun _ _ h => by omega), rfl⟩
    case round =>
     obtain ⟨k, hk, rfl, HI, rfl⟩ := hrel
     by_cases hkn : k < D.size
     ·have hk1 : (k : Int) < D.size := by omega
      by_cases hd : isDig (D[k]'hkn) = true
      ·obtain ⟨d1, d2⟩ := (isDig_at _).1 hd
       go_wp2_with fail
       exact ⟨⟨k + 1, by omega, rfl, Lib.hid (fun i h hi => by
        by_cases e : i = k
        ·subst e; exact hd
        ·exact HI.out i h (by omega)), by first | trivial | rfl⟩, by simp [intOf]; omega⟩
      ·have HF : Hid (R = false) := Lib.hid (by
        rw [HA.out]
        cases ha : D.data.toList.all isDig
        ·rfl
        ·exact absurd (all_dig.1 ha k hkn) hd)
       by_cases d1 : ((D[k]'hkn).toNat : Int) < 48
       ·go_wp2_with fail
        go_ret
        exact ⟨by show Ending.returned (.bool false) = _; rw [HF.out], rfl⟩
       ·have d2 : (57 : Int) < (D[k]'hkn).toNat := by
         apply Int.not_le.1
         intro h
         exact hd ((isDig_at _).2 ⟨d1, by omega⟩)
        go_wp2_with fail
        go_ret
        exact ⟨by show Ending.returned (.bool false) = _; rw [HF.out], rfl⟩
     ·obtain rfl : k = D.size := by omega
      have HF : Hid (R = true) := Lib.hid (by rw [HA.out]; exact all_dig.2 (fun i h => HI.out i h h))
      go_wp2_with fail
      go_ret
      exact ⟨by show Ending.returned (.bool true) = _; rw [HF.out], rfl⟩
  ·have hx : (D.data.toList.head? == some 48) = false := by
    rw [hhd]
    cases hq : ((some (D[0]'h0) : Option UInt8) == some 48)
    ·rfl
    ·have h1 : D[0]'h0 = 48 := by simpa using hq
     rw [h1] at h48
     exact absurd rfl h48
   have HA : Hid (R = D.data.toList.all isDig) := Lib.hid (by rw [HB.out, he, hx]; rfl)
   clear hhd hx HB
   go_enter Tryz.func223, Tryz.ntmps223
   go_wp2_with fail
   refine (HT.out _).mono ?_
   rintro e w' ⟨rfl, rfl⟩
   go_wp2_with fail
   go_loopw [20] (fun v wr => ∃ k : Nat, k ≤ D.size ∧ v = .int .i64 k ∧ Hid (∀ (i : Nat) (h : i < D.size), i < k → isDig (D[i]'h) = true) ∧ w' = wr) (fun v _ => D.size - (intOf v).toNat)
   case atStart => exact ⟨0, by omega, rfl, Lib.hid (fun _ _ h => by omega), rfl⟩
   case round =>
    obtain ⟨k, hk, rfl, HI, rfl⟩ := hrel
    by_cases hkn : k < D.size
    ·have hk1 : (k : Int) < D.size := by omega
     by_cases hd : isDig (D[k]'hkn) = true
     ·obtain ⟨d1, d2⟩ := (isDig_at _).1 hd
      go_wp2_with fail
      exact ⟨⟨k + 1, by omega, rfl, Lib.hid (fun i h hi => by
       by_cases e : i = k
       ·subst e; exact hd
       ·exact HI.out i h (by omega)), by first | trivial | rfl⟩, by simp [intOf]; omega⟩
     ·have HF : Hid (R = false) := Lib.hid (by
       rw [HA.out]
       cases ha : D.data.toList.all isDig
       ·rfl
       ·exact absurd (all_dig.1 ha k hkn) hd)
      by_cases d1 : ((D[k]'hkn).toNat : Int) < 48
      ·go_wp2_with fail
       go_ret
       exact ⟨by show Ending.returned (.bool false) = _; rw [HF.out], rfl⟩
      ·have d2 : (57 : Int) < (D[k]'hkn).toNat := by
        apply Int.not_le.1
        intro h
        exact hd ((isDig_at _).2 ⟨d1, by omega⟩)
       go_wp2_with fail
       go_ret
       exact ⟨by show Ending.returned (.bool false) = _; rw [HF.out], rfl⟩
    ·obtain rfl : k = D.size := by omega
     have HF : Hid (R = true) := Lib.hid (by rw [HA.out]; exact all_dig.2 (fun i h => HI.out i h h))
     go_wp2_with fail
     go_ret
     exact ⟨by show Ending.returned (.bool true) = _; rw [HF.out], rfl⟩
 ·have HF : Hid (R = false) := Lib.hid (by rw [HB.out, he]; rfl)
  rw [HF.out]
  go_enter Tryz.func223, Tryz.ntmps223
  go_wp2_with fail
  refine (HT.out _).mono ?_
  rintro e w' ⟨rfl, rfl⟩
  go_wp2_with fail
  go_ret
  exact ⟨rfl, rfl⟩
end Go.Proofs.YtongeeggaigepaaGreatDoor
namespace Go.Proofs.YtongeeggaigepaaGreatDoor
open Go.RowKit
def oneW (d : Nat) (i : Nat) : Nat := if i = 0 then d else 0
theorem digit_step {v d : Nat} (hv : v < T256) :
 (v * 10 + d < T256 → atC (oneW d) (W64 v) 10 4 = 0 ∧ ∀ i, i < 4 → atD (oneW d) (W64 v) 10 i = W64 (v * 10 + d) i) ∧ (¬ v * 10 + d < T256 → atC (oneW d) (W64 v) 10 4 ≠ 0) := by
 have h := at_val (X := oneW d) (Y := W64 v) (v := 10) 4
 have hy : valW (W64 v) 4 = v := by rw [valW_W64, ← T256_w, Nat.mod_eq_of_lt hv]
 have hx : valW (oneW d) 4 = d := by simp [valW, oneW]
 have hb : ∀ i, i < 4 → atD (oneW d) (W64 v) 10 i < 18446744073709551616 := fun i _ => Nat.mod_lt _ (by decide)
 have hl := valW_lt 4 hb
 rw [hy, hx, ← T256_w] at h
 rw [← T256_w] at hl
 constructor
 ·intro hf
  have hc : atC (oneW d) (W64 v) 10 4 = 0 := by
   apply Nat.eq_zero_of_not_pos
   intro h1
   have h2 : 1 * T256 ≤ atC (oneW d) (W64 v) 10 4 * T256 := Nat.mul_le_mul_right _ h1
   omega
  refine ⟨hc, fun i hi => ?_⟩
  rw [hc] at h
  rw [show v * 10 + d = valW (atD (oneW d) (W64 v) 10) 4 by omega, W64_val 4 hb i hi]
 ·intro hf hc
  rw [hc] at h
  omega
def rdN (D : ByteArray) : Nat → Option Nat
 | 0 => some 0
 | k + 1 => match rdN D k with
   | some v => if h : k < D.size then (if v * 10 + ((D[k]'h).toNat - 48) < T256 then some (v * 10 + ((D[k]'h).toNat - 48)) else none) else none
   | none => none
theorem rdN_stop {D : ByteArray} {k n : Nat} (h : rdN D k = none) (hk : k ≤ n) : rdN D n = none := by
 induction n with
 | zero => obtain rfl : k = 0 := by omega
           exact h
 | succ n ih =>
   by_cases e : k = n + 1
   ·subst e; exact h
   ·rw [rdN, ih (by omega)]
def rdR (neg : Bool) (D : ByteArray) : Option (Bool × (Nat → Int)) := match rdN D D.size with
 | some v => some (neg, fun i => ((W64 v i : Nat) : Int))
 | none => none
set_option maxRecDepth 100000 in
set_option maxHeartbeats 2000000 in
theorem read_any (N : Nat) (s D : ByteArray) (w : World) (hD : D = ⟨(Lib.trimPrefix s.data.toList [45]).toArray⟩) (hs : D.size ≤ 1000) (hdig : ∀ (k : Nat) (h : k < D.size), isDig (D[k]'h) = true) (hr : Row w N (numv false (fun _ => 0) 0)) :
 Calls Tryz.prog 225 #[.pointer (some ⟨N, 0, none⟩), .string s] w (NumPost N w (rdR (!(s.toList == D.toList)) D)) := by
 have HT := Lib.hid (fun W => Tryz.strings_TrimPrefix s ⟨#[45]⟩ W)
 rw [show (⟨#[45]⟩ : ByteArray).data.toList = [45] from rfl, ← hD] at HT
 have HDg := Lib.hid hdig
 have HS : Hid (∃ v, rdN D 0 = some v ∧ v < T256 ∧ Row w N (numv false (fun i => ((W64 v i : Nat) : Int)) 0)) := Lib.hid ⟨0, rfl, by decide, by
  have e : numv false (fun i => ((W64 0 i : Nat) : Int)) 0 = numv false (fun _ => 0) 0 := by simp [numv, W64]
  rw [e]; exact hr⟩
 have lN := hr.lt
 clear hD hdig hr
 go_enter Tryz.func225, Tryz.ntmps225
 go_wp2_with fail
 refine (HT.out _).mono ?_
 rintro e w' ⟨rfl, rfl⟩
 go_wp2_with fail
 go_loopw [11] (fun i wr => ∃ k : Nat, k ≤ D.size ∧ i = .int .i64 k ∧ KB w'.heap.size N w' wr ∧ Hid (∃ v, rdN D k = some v ∧ v < T256 ∧ Row wr N (numv false (fun i => ((W64 v i : Nat) : Int)) 0))) (fun i _ => D.size - (intOf i).toNat)
 case atStart => exact ⟨0, by omega, rfl, KB.refl _ _ _, HS⟩
 case round =>
  obtain ⟨k, hk, rfl, hB, HK⟩ := hrel
  clear HS
  obtain ⟨v, hv1, hv2, hr⟩ := HK.out
  clear HK
  have HV1 := Lib.hid hv1
  have HV2 := Lib.hid hv2
  have HRow := Lib.hid hr
  have lN2 := hr.lt
  clear hv1 hv2 hr
  by_cases hkn : k < D.size
  ·have hk1 : (k : Int) < D.size := by omega
   obtain ⟨d1, d2⟩ := (isDig_at _).1 (HDg.out k hkn)
   obtain ⟨d, hd⟩ : ∃ d : Nat, d = (D[k]'hkn).toNat - 48 := ⟨_, rfl⟩
   have ed : IntKind.u8.wrap ((((D[k]'hkn).toNat : Nat) : Int) - 48) = (d : Int) := by
    have : (((D[k]'hkn).toNat : Nat) : Int) - 48 = (d : Int) := by omega
    rw [this]; simp [IntKind.wrap, IntKind.bits, IntKind.signed]; omega
   have hd9 : d < 10 := by omega
   have HNx := Lib.hid (show rdN D (k + 1) = if v * 10 + d < T256 then some (v * 10 + d) else none by rw [rdN, HV1.out]; simp only [hkn, dif_pos, hd])
   have HSt := Lib.hid (digit_step (d := d) HV2.out)
   clear hd
   have hne : N ≠ wr.heap.size := by omega
   have rD : Row ((wr.alloc (.cells #[.int .u64 (d : Nat), .int .u64 0, .int .u64 0, .int .u64 0] 179)).drew) wr.heap.size [.int .u64 (d : Nat), .int .u64 0, .int .u64 0, .int .u64 0] := (Row.at rfl _ _).drew
   have rN : Row ((wr.alloc (.cells #[.int .u64 (d : Nat), .int .u64 0, .int .u64 0, .int .u64 0] 179)).drew) N (numv false (fun i => ((W64 v i : Nat) : Int)) 0) := (HRow.out.alloc _).drew
   have HA := Lib.hid (addTimes_any (oneW d) (W64 v) 10 4 wr.heap.size 0 N 1 4 4 ((wr.alloc (.cells #[.int .u64 (d : Nat), .int .u64 0, .int .u64 0, .int .u64 0] 179)).drew) (by decide) hne
    (fun i hi => by
      match i, hi with
      | 0, _ => exact ⟨rD.c 0 rfl, rD.f 0 rfl⟩
      | 1, _ => exact ⟨rD.c 1 rfl, rD.f 1 rfl⟩
      | 2, _ => exact ⟨rD.c 2 rfl, rD.f 2 rfl⟩
      | 3, _ => exact ⟨rD.c 3 rfl, rD.f 3 rfl⟩)
    (fun i hi => by
      match i, hi with
      | 0, _ => exact rN.c 1 rfl
      | 1, _ => exact rN.c 2 rfl
      | 2, _ => exact rN.c 3 rfl
      | 3, _ => exact rN.c 4 rfl)
    (fun i => by unfold oneW; split <;> omega) (fun i => W64_lt v i) (by decide))
   have HRN := Lib.hid rN
   have HRD := Lib.hid rD
   clear rN rD
   have hB0 : w'.heap.size ≤ wr.heap.size := hB.size
   have HB1 : Hid (KB w'.heap.size N w' ((wr.alloc (.cells #[.int .u64 (d : Nat), .int .u64 0, .int .u64 0, .int .u64 0] 179)).drew)) := Lib.hid (hB.alloc hB0 _).drew
   go_wp2_with fail
   go_region_with ((first
    | (go_at_call 163; refine HA.out.mono ?_; rintro e w2 ⟨rfl, hO, hc, _⟩; have HO := Lib.hid hO; have HC := Lib.hid hc; have r2 := hO.row hne HRN.out; have H2 := Lib.hid r2; clear hO hc; have n5 := r2.c 5 rfl; have m5 := r2.f 5 rfl; clear r2)))
   all_goals
    clear n5 m5
    have r2D : Row w2 wr.heap.size [.int .u64 (atD (oneW d) (W64 v) 10 0 : Nat), .int .u64 (atD (oneW d) (W64 v) 10 1 : Nat), .int .u64 (atD (oneW d) (W64 v) 10 2 : Nat), .int .u64 (atD (oneW d) (W64 v) 10 3 : Nat)] := by
     refine ⟨by rw [HO.out.size]; exact HRD.out.lt, fun i u hu => ⟨?_, ?_⟩⟩
     ·match i, hu with
      | 0, hu => exact (HC.out 0 (by omega)).trans hu
      | 1, hu => exact (HC.out 1 (by omega)).trans hu
      | 2, hu => exact (HC.out 2 (by omega)).trans hu
      | 3, hu => exact (HC.out 3 (by omega)).trans hu
     ·rw [HO.out.frozen]
      match i, hu with
      | 0, _ => exact HRD.out.f 0 rfl
      | 1, _ => exact HRD.out.f 1 rfl
      | 2, _ => exact HRD.out.f 2 rfl
      | 3, _ => exact HRD.out.f 3 rfl
    have HB2 := Lib.hid (HB1.out.on HO.out (Or.inr hB0))
    have HN3 := Lib.hid (H2.out.set 5 (by simp) (.int .u64 (atC (oneW d) (W64 v) 10 4 : Nat)))
    have HD3 := Lib.hid (r2D.other (p := ⟨N, 5, none⟩) hne (.int .u64 (atC (oneW d) (W64 v) 10 4 : Nat)))
    have HB3 := Lib.hid (HB2.out.put1 (Or.inl rfl) 5 (.int .u64 (atC (oneW d) (W64 v) 10 4 : Nat)))
    generalize World.setCell _ _ _ = W3 at HN3 HD3 HB3 ⊢
    clear r2D H2 HB2 HO HC HB1 HRN HRD HA HRow
    by_cases hf : v * 10 + d < T256
    ·obtain ⟨hc0, hcd⟩ := HSt.out.1 hf
     rw [hcd 0 (by omega), hcd 1 (by omega), hcd 2 (by omega), hcd 3 (by omega)] at HD3
     rw [hc0] at HN3 ⊢
     have HNx2 := Lib.hid (HNx.out.trans (if_pos hf))
     have HF := Lib.hid hf
     clear hc0 hcd HSt HNx hf
     generalize hu : v * 10 + d = u at HD3 HNx2 HF
     clear hu
     generalize hu0 : ((W64 u 0 : Nat) : Int) = e0 at HD3
     generalize hu1 : ((W64 u 1 : Nat) : Int) = e1 at HD3
     generalize hu2 : ((W64 u 2 : Nat) : Int) = e2 at HD3
     generalize hu3 : ((W64 u 3 : Nat) : Int) = e3 at HD3
     have HUs := Lib.hid (And.intro hu0 (And.intro hu1 (And.intro hu2 hu3)))
     clear hu0 hu1 hu2 hu3
     have g0 := HD3.out.c 0 rfl
     have g1 := HD3.out.c 1 rfl
     have g2 := HD3.out.c 2 rfl
     have g3 := HD3.out.c 3 rfl
     have n1 := HN3.out.c 1 rfl
     have m1 := HN3.out.f 1 rfl
     have n2 := HN3.out.c 2 rfl
     have m2 := HN3.out.f 2 rfl
     have n3 := HN3.out.c 3 rfl
     have m3 := HN3.out.f 3 rfl
     have n4 := HN3.out.c 4 rfl
     have m4 := HN3.out.f 4 rfl
     go_wp2_with fail
     clear g0 g1 g2 g3 n1 m1 n2 m2 n3 m3 n4 m4
     have HN4 := Lib.hid ((((HN3.out.set 1 (by simp [numv]) (.int .u64 e0)).set 2 (by simp [numv]) (.int .u64 e1)).set 3 (by simp [numv]) (.int .u64 e2)).set 4 (by simp [numv]) (.int .u64 e3))
     have HB4 := Lib.hid ((((HB3.out.put1 (Or.inl rfl) 1 (.int .u64 e0)).put1 (Or.inl rfl) 2 (.int .u64 e1)).put1 (Or.inl rfl) 3 (.int .u64 e2)).put1 (Or.inl rfl) 4 (.int .u64 e3))
     generalize World.setCell _ _ _ = W4 at HN4 HB4 ⊢
     have r4 : Row W4 N [.bool false, .int .u64 e0, .int .u64 e1, .int .u64 e2, .int .u64 e3, .int .u64 0] := HN4.out
     refine (settle_ok N false e0 e1 e2 e3 W4 r4).mono ?_
     rintro e w5 ⟨rfl, rfl⟩
     have HR := Lib.hid (show Row (W4.setCell ⟨N, 0, none⟩ (.bool (false && !zeroB e0 e1 e2 e3))) N (numv false (fun i => ((W64 u i : Nat) : Int)) 0) by
      have h := r4.set 0 (by simp) (.bool (false && !zeroB e0 e1 e2 e3))
      rw [numv, HUs.out.1, HUs.out.2.1, HUs.out.2.2.1, HUs.out.2.2.2]
      exact h)
     have HB5 := Lib.hid (HB4.out.put1 (Or.inl rfl) 0 (.bool (false && !zeroB e0 e1 e2 e3)))
     generalize World.setCell _ _ _ = W5 at HR HB5 ⊢
     clear r4 HN4 HB4 HN3 HB3 HD3
     go_wp2_with fail
     exact ⟨⟨k + 1, by omega, rfl, HB5.out, Lib.hid ⟨u, HNx2.out, HF.out, HR.out⟩⟩, by simp [intOf]; omega⟩
    ·have hc0 := HSt.out.2 hf
     have HNx2 := Lib.hid (rdN_stop (n := D.size) (HNx.out.trans (if_neg hf)) (by omega))
     have HP : Hid (∀ e w1, e = .panicked [{ v := .iface 26 (.int .i64 110), recovered := false }] → KB w'.heap.size N w' w1 → NumPost N w' (rdR (!(s.toList == D.toList)) D) e w1) :=
      Lib.hid (fun e w1 h1 h2 => ⟨h2, by rw [rdR, HNx2.out]; exact h1⟩)
     clear HSt HNx hf HNx2
     generalize ((atD (oneW d) (W64 v) 10 0 : Nat) : Int) = e0 at HD3
     generalize ((atD (oneW d) (W64 v) 10 1 : Nat) : Int) = e1 at HD3
     generalize ((atD (oneW d) (W64 v) 10 2 : Nat) : Int) = e2 at HD3
     generalize ((atD (oneW d) (W64 v) 10 3 : Nat) : Int) = e3 at HD3
     have hc1 : ((atC (oneW d) (W64 v) 10 4 : Nat) : Int) ≠ 0 := by omega
     generalize ((atC (oneW d) (W64 v) 10 4 : Nat) : Int) = cc at *
     have HC1 := Lib.hid hc1
     clear hc0 hc1
     have g0 := HD3.out.c 0 rfl
     have g1 := HD3.out.c 1 rfl
     have g2 := HD3.out.c 2 rfl
     have g3 := HD3.out.c 3 rfl
     have n1 := HN3.out.c 1 rfl
     have m1 := HN3.out.f 1 rfl
     have n2 := HN3.out.c 2 rfl
     have m2 := HN3.out.f 2 rfl
     have n3 := HN3.out.c 3 rfl
     have m3 := HN3.out.f 3 rfl
     have n4 := HN3.out.c 4 rfl
     have m4 := HN3.out.f 4 rfl
     go_wp2_with fail
     clear g0 g1 g2 g3 n1 m1 n2 m2 n3 m3 n4 m4
     have HN4 := Lib.hid ((((HN3.out.set 1 (by simp [numv]) (.int .u64 e0)).set 2 (by simp [numv]) (.int .u64 e1)).set 3 (by simp [numv]) (.int .u64 e2)).set 4 (by simp [numv]) (.int .u64 e3))
     have HB4 := Lib.hid ((((HB3.out.put1 (Or.inl rfl) 1 (.int .u64 e0)).put1 (Or.inl rfl) 2 (.int .u64 e1)).put1 (Or.inl rfl) 3 (.int .u64 e2)).put1 (Or.inl rfl) 4 (.int .u64 e3))
     generalize World.setCell _ _ _ = W4 at HN4 HB4 ⊢
     have r4 : Row W4 N [.bool false, .int .u64 e0, .int .u64 e1, .int .u64 e2, .int .u64 e3, .int .u64 cc] := HN4.out
     refine (settle_over N false e0 e1 e2 e3 cc W4 HC1.out r4).mono ?_
     rintro e w5 ⟨rfl, rfl⟩
     go_wp2
     exact ⟨rfl, HP.out _ _ rfl HB4.out⟩
  ·obtain rfl : k = D.size := by omega
   have HE : Hid (rdR (!(s.toList == D.toList)) D = some (!(s.toList == D.toList), fun i => ((W64 v i : Nat) : Int))) := Lib.hid (by rw [rdR, HV1.out])
   have n0 := HRow.out.c 0 rfl
   have m0 := HRow.out.f 0 rfl
   go_wp2_with fail
   go_end0
   refine ⟨hB.put1 (Or.inl rfl) _ _, ?_⟩
   rw [HE.out]
   exact ⟨rfl, HRow.out.set 0 (by simp [numv]) _⟩
end Go.Proofs.YtongeeggaigepaaGreatDoor
namespace Go.Proofs.YtongeeggaigepaaGreatDoor
open Go.RowKit
set_option maxRecDepth 100000 in
set_option maxHeartbeats 400000 in
theorem parse_run (N B : Nat) (s D : ByteArray) (w : World) (hs0 : w.cell? ⟨B, 0, none⟩ = some (.string s)) (lB : B < w.heap.size) (hD : D = ⟨(Lib.trimPrefix s.data.toList [45]).toArray⟩) (hs : D.size ≤ 1000) (hdig : ∀ (k : Nat) (h : k < D.size), isDig (D[k]'h) = true) :
 Calls Tryz.prog 224 #[.pointer (some ⟨B, 0, none⟩)] w (WorkPost N w (rdR (!(s.toList == D.toList)) D)) := by
 have HR := Lib.hid (fun M W (hr : Row W M (numv false (fun _ => 0) 0)) => read_any M s D W hD hs hdig hr)
 generalize rdR (!(s.toList == D.toList)) D = r at *
 clear hD hdig hs
 go_enter Tryz.func224, Tryz.ntmps224
 have hs1 : ∀ o o2, ((w.alloc o).alloc o2).cell? ⟨B, 0, none⟩ = some (.string s) := fun o o2 => by
  rw [World.cell?_alloc_past o2 B 0 (by simp; omega), World.cell?_alloc_past o B 0 lB]; exact hs0
 clear hs0
 go_wp2_with fail
 generalize hW : World.alloc _ _ = W0
 have rR : Row W0 w.heap.size [.bool false, .int .u64 0, .int .u64 0, .int .u64 0, .int .u64 0] := by rw [← hW]; exact (Row.at rfl _ _).alloc _
 have rN : Row W0 (w.heap.size + 1) (numv false (fun _ => 0) 0) := by rw [← hW]; exact Row.at (by simp) _ _
 have hB : Below w.heap.size w W0 := by rw [← hW]; exact ((Below.refl w.heap.size w).alloc (Nat.le_refl _) _).alloc (by simp) _
 clear hW hs1
 refine (HR.out _ _ rN).mono ?_
 rintro e w1 ⟨hk, h1⟩
 have lN := rN.lt
 replace rR := rR.kb hk (by omega)
 have hB1 : Below w.heap.size w w1 := hB.trans ((hk.toBelow (by omega)).mono (by omega))
 clear hk rN hB
 cases r with
 | none =>
   obtain rfl := h1
   go_wp2
   exact ⟨rfl, (KB.refl _ _ _).below hB1 (Nat.le_refl _), rfl⟩
 | some q =>
   obtain ⟨u, x⟩ := q
   obtain ⟨rfl, h2⟩ := h1
   have n0 := h2.c 0 rfl
   have n1 := h2.c 1 rfl
   have n2 := h2.c 2 rfl
   have n3 := h2.c 3 rfl
   have n4 := h2.c 4 rfl
   have a0 := rR.c 0 rfl
   have a1 := rR.c 1 rfl
   have a2 := rR.c 2 rfl
   have a3 := rR.c 3 rfl
   have a4 := rR.c 4 rfl
   have b0 := rR.f 0 rfl
   have b1 := rR.f 1 rfl
   have b2 := rR.f 2 rfl
   have b3 := rR.f 3 rfl
   have b4 := rR.f 4 rfl
   go_wp2
   clear n0 n1 n2 n3 n4 a0 a1 a2 a3 a4 b0 b1 b2 b3 b4
   generalize hW : World.setCell _ _ _ = W3
   have rR3 : Row W3 w.heap.size [.bool u, .int .u64 (x 0), .int .u64 (x 1), .int .u64 (x 2), .int .u64 (x 3)] := by rw [← hW]; exact rR.put5 _ _ _ _ _
   have hB3 : Below w.heap.size w W3 := by rw [← hW]; exact below_put5 hB1 (Nat.le_refl _) _ _ _ _ _
   clear hW
   exact bodyPost_ret (v := intv u x) (by simp [results, Tryz.results224, go_sem, rR3.c 0 rfl, rR3.c 1 rfl, rR3.c 2 rfl, rR3.c 3 rfl, rR3.c 4 rfl]) rfl ⟨(KB.refl _ _ _).below hB3 (Nat.le_refl _), rfl⟩
def parseV : Option (Bool × (Nat → Int)) → Value
 | some (u, x) => .tuple #[intv u x, .int .i64 0]
 | none => .tuple #[iv false 0 0 0 0, .int .i64 110]
theorem parseV_caught (r : Option (Bool × (Nat → Int))) : parseV r = caughtV r := by cases r <;> rfl
set_option maxRecDepth 100000 in
set_option maxHeartbeats 1000000 in
theorem parse_yes (s D : ByteArray) (w : World) (hD : D = ⟨(Lib.trimPrefix s.data.toList [45]).toArray⟩) (hs : s.size ≤ 1000) (hDs : D.size ≤ 1000) (hit : isTextB s.data.toList = true) (hdig : ∀ (k : Nat) (h : k < D.size), isDig (D[k]'h) = true) :
 Calls Tryz.prog 210 #[.string s] w fun e w' => e = .returned (parseV (rdR (!(s.toList == D.toList)) D)) ∧ Below w.heap.size w w' := by
 have hmf : ∀ (fn : Fn) (first cap : Array Value) (w : World), (Instr.makeFunc fn first cap).run Tryz.prog w = .ok (.func fn first cap) w := fun _ _ _ _ => rfl
 have hnot : ∀ (x : Bool) (w : World), (Op.unary .not (.bool x)).run Tryz.prog w = .ok (.bool (!x)) w := fun _ _ => rfl
 have HI := Lib.hid (fun W => by have h := isText_any s W hs; rw [hit] at h; exact h)
 have HRun := Lib.hid (fun N B W (h1 : W.cell? ⟨B, 0, none⟩ = some (.string s)) (h2 : B < W.heap.size) => parse_run N B s D W h1 h2 hD hDs hdig)
 rw [parseV_caught]
 generalize rdR (!(s.toList == D.toList)) D = r at *
 clear hD hdig hDs hs hit
 obtain ⟨u, x, k, hV⟩ := caughtV_form r
 have HV := Lib.hid hV
 clear hV
 go_enter Tryz.func210, Tryz.ntmps210
 go_wp2_with fail
 refine (HI.out _).mono ?_
 rintro e w0 ⟨rfl, rfl⟩
 go_wp2_with fail
 generalize hW : World.alloc _ _ = W0
 have rS : Row W0 w.heap.size [.string s] := by rw [← hW]; exact (Row.at rfl _ _).alloc _
 have rR : Row W0 (w.heap.size + 1) [.bool false, .int .u64 0, .int .u64 0, .int .u64 0, .int .u64 0] := by rw [← hW]; exact Row.at (by simp) _ _
 have hB : Below w.heap.size w W0 := by rw [← hW]; exact ((Below.refl w.heap.size w).alloc (Nat.le_refl _) _).alloc (by simp) _
 clear hW
 have l1 := rR.lt
 refine (caught_any 224 _ w.heap.size r W0 (by omega) (fun _ _ => Tryz.call224 _ _) (fun W h => HRun.out w.heap.size w.heap.size W ((rS.after h).c 0 rfl) (rS.after h).lt)).mono ?_
 rintro e w1 ⟨hk, rfl⟩
 rw [HV.out]
 have r1 := rR.kb hk (by omega)
 have hB1 : Below w.heap.size w w1 := hB.trans ((hk.toBelow (by omega)).mono (Nat.le_refl _))
 clear hk rS rR hB HRun
 have a0 := r1.c 0 rfl
 have b0 := r1.f 0 rfl
 have a1 := r1.c 1 rfl
 have b1 := r1.f 1 rfl
 have a2 := r1.c 2 rfl
 have b2 := r1.f 2 rfl
 have a3 := r1.c 3 rfl
 have b3 := r1.f 3 rfl
 have a4 := r1.c 4 rfl
 have b4 := r1.f 4 rfl
 go_wp2_with fail
 clear a0 b0 a1 b1 a2 b2 a3 b3 a4 b4
 generalize hW : World.setCell _ _ _ = W3
 have r3 : Row W3 (w.heap.size + 1) [.bool u, .int .u64 (x 0), .int .u64 (x 1), .int .u64 (x 2), .int .u64 (x 3)] := by rw [← hW]; exact r1.put5 _ _ _ _ _
 have hB3 : Below w.heap.size w W3 := by rw [← hW]; exact below_put5 hB1 (by omega) _ _ _ _ _
 clear hW
 exact bodyPost_ret (v := .tuple #[intv u x, .int .i64 k]) (by simp [results, Tryz.results210, go_sem, r3.c 0 rfl, r3.c 1 rfl, r3.c 2 rfl, r3.c 3 rfl, r3.c 4 rfl]) rfl ⟨by rw [HV.out], hB3⟩
end Go.Proofs.YtongeeggaigepaaGreatDoor
namespace Go.Proofs.YtongeeggaigepaaGreatDoor
open Go.RowKit
def dgt (D : ByteArray) (k : Nat) : Nat := if h : k < D.size then (D[k]'h).toNat - 48 else 0
def dv (D : ByteArray) : Nat → Nat
 | 0 => 0
 | k + 1 => dv D k * 10 + dgt D k
theorem dv_mono (D : ByteArray) {k n : Nat} (h : k ≤ n) : dv D k ≤ dv D n := by
 induction n with
 | zero => obtain rfl : k = 0 := by omega
           exact Nat.le_refl _
 | succ n ih =>
   by_cases e : k = n + 1
   ·subst e; exact Nat.le_refl _
   ·have := ih (by omega)
    rw [dv]
    omega
theorem rdN_dv (D : ByteArray) : ∀ k, k ≤ D.size → rdN D k = if dv D k < T256 then some (dv D k) else none
 | 0, _ => by rw [rdN, dv, if_pos (by decide)]
 | k + 1, h => by
   have ih := rdN_dv D k (by omega)
   have hk : k < D.size := by omega
   have hd : dgt D k = (D[k]'hk).toNat - 48 := by rw [dgt, dif_pos hk]
   rw [rdN, ih]
   by_cases hf : dv D k < T256
   ·rw [if_pos hf]
    simp only [hk, dif_pos]
    rw [dv, hd]
   ·rw [if_neg hf, if_neg (fun h1 => hf (Nat.lt_of_le_of_lt (dv_mono D (Nat.le_succ k)) h1))]
def textN (neg : Bool) (D : ByteArray) : Int := if neg = true then -(dv D D.size : Int) else dv D D.size
theorem textN_abs (neg : Bool) (D : ByteArray) : (textN neg D).natAbs = dv D D.size := by unfold textN; split <;> omega
theorem parseV_num {neg : Bool} {D : ByteArray} (h : neg = true → dv D D.size ≠ 0) : parseV (rdR neg D) = outV (textN neg D) := by
 rw [rdR, rdN_dv D _ (Nat.le_refl _), outV, textN_abs]
 by_cases hf : dv D D.size < T256
 ·rw [if_pos hf, if_pos hf]
  have hs : decide (textN neg D < 0) = neg := by
   cases neg
   ·simp [textN]
   ·have := h rfl
    simp [textN]
    omega
  show Value.tuple #[intv neg (fun i => ((W64 (dv D D.size) i : Nat) : Int)), .int .i64 0] = _
  rw [ivz, hs, textN_abs]
 ·rw [if_neg hf, if_neg hf]
  rfl
theorem parse_z (s D : ByteArray) (w : World) (hD : D = ⟨(Lib.trimPrefix s.data.toList [45]).toArray⟩) (hs : s.size ≤ 1000) (hDs : D.size ≤ 1000) (hit : isTextB s.data.toList = true) (hdig : ∀ (k : Nat) (h : k < D.size), isDig (D[k]'h) = true)
 (hn : (!(s.toList == D.toList)) = true → dv D D.size ≠ 0) :
 Calls Tryz.prog 210 #[.string s] w fun e w' => e = .returned (outV (textN (!(s.toList == D.toList)) D)) ∧ Below w.heap.size w w' := by
 have h := parse_yes s D w hD hs hDs hit hdig
 rw [parseV_num hn] at h
 exact h
theorem parse_bad (s : ByteArray) (w : World) (hs : s.size ≤ 1000) (hit : isTextB s.data.toList = false) :
 Calls Tryz.prog 210 #[.string s] w fun e w' => e = .returned (.tuple #[iv false 0 0 0 0, .int .i64 111]) ∧ Below w.heap.size w w' :=
 parse_no s w (fun W => by have h := isText_any s W hs; rw [hit] at h; exact h)
end Go.Proofs.YtongeeggaigepaaGreatDoor
