import Derived.Test.YtdfmmkidknginaaGreatDoorZKkCI
import Derived.Deep.RegionWith
import Derived.Deep.RegionHeld3
import Derived.Deep.CutBlock
import Derived.Test.YtdfmmkidknginaaGreatDoorZKkEN
import Derived.Test.YtdfmmkidknginaaGreatDoorCards
import Derived.Test.YtdfmmkidknginaaGreatDoorTie
import Derived.Test.YtdfmmkidknginaaGreatDoorZKkE
import Derived.Test.YtdfmmkidknginaaGreatDoorZKkT
import Derived.Test.YtdfmmkidknginaaGreatDoorZKkM
import Derived.Test.YtdfmmkidknginaaGreatDoorZKkI
import Derived.Lib.QuietBelow
import Derived.BigQuiet
import Derived.Laws.StructEq
import Derived.Test.YtdfmmkidknginaaGreatDoorZKkBase
import Derived.Test.YtdfmmkidknginaaGreatDoorZKkAD
import Derived.WalkKit
import Derived.ProofKit
import Derived.Deep.DeepHandedRow
import Derived.Lib.LaidTab
import Derived.Test.YtdfmmkidknginaaGreatDoorZKkBX
import Derived.Deep.Slices
import Derived.Test.YtdfmmkidknginaaGreatDoorZKkDG
import Derived.Test.YtdfmmkidknginaaGreatDoorZKkDD
namespace Go.Proofs.YtdfmmkidknginaaGreatDoor
open Go.RowKit
end Go.Proofs.YtdfmmkidknginaaGreatDoor
namespace Go.Proofs.YtdfmmkidknginaaGreatDoor
open Go.RowKit Go.Lib
theorem dig_byte {d : Nat} (h : d < 10) : (UInt8.ofNat (48 + d)).toNat = 48 + d := by
 rw [UInt8.toNat_ofNat']
 omega
theorem dec_ind {P : Nat → List UInt8 → Prop} (h1 : ∀ n, n < 10 → P n [UInt8.ofNat (48 + n)]) (h2 : ∀ n, ¬ n < 10 → P (n / 10) (decDigits (n / 10)) → P n (decDigits (n / 10) ++ [UInt8.ofNat (48 + n % 10)])) (n : Nat) : P n (decDigits n) := by
 induction n using Nat.strongRecOn with
 | ind n ih =>
   by_cases h : n < 10
   ·rw [decDigits_one h]; exact h1 n h
   ·rw [decDigits, dif_neg h]; exact h2 n h (ih (n / 10) (by omega))
theorem isDig_byte {d : Nat} (h : d < 10) : isDig (UInt8.ofNat (48 + d)) = true := by
 unfold isDig
 rw [dig_byte h, Bool.and_eq_true_iff, decide_eq_true_iff, decide_eq_true_iff]
 omega
theorem dec_dig (n : Nat) : (decDigits n).all isDig = true := by
 refine dec_ind (P := fun _ l => l.all isDig = true) (fun n h => ?_) (fun n _ ih => ?_) n
 ·show (isDig (UInt8.ofNat (48 + n)) && true) = true
  rw [isDig_byte h]; rfl
 ·simp only [List.all_append, ih, List.all_cons, List.all_nil, Bool.and_true, Bool.true_and]
  exact isDig_byte (Nat.mod_lt _ (by decide))
theorem dec_head (n : Nat) : ∃ d, d < 10 ∧ (decDigits n).head? = some (UInt8.ofNat (48 + d)) ∧ (0 < n → 0 < d) := by
 refine dec_ind (P := fun n l => ∃ d, d < 10 ∧ l.head? = some (UInt8.ofNat (48 + d)) ∧ (0 < n → 0 < d)) (fun n h => ⟨n, h, rfl, id⟩) (fun n h ih => ?_) n
 obtain ⟨d, hd, hl, hp⟩ := ih
 refine ⟨d, hd, ?_, fun _ => hp (by omega)⟩
 rw [List.head?_append, hl]; rfl
theorem dgt_list (l : List UInt8) (k : Nat) : dgt ⟨l.toArray⟩ k = match l[k]? with | some c => c.toNat - 48 | none => 0 := by
 unfold dgt
 by_cases h : k < l.length
 ·rw [dif_pos (show k < (⟨l.toArray⟩ : ByteArray).size by simpa [ByteArray.size] using h), List.getElem?_eq_getElem h]
  rfl
 ·rw [dif_neg (show ¬ k < (⟨l.toArray⟩ : ByteArray).size by simpa [ByteArray.size] using h), List.getElem?_eq_none (by omega)]
theorem dv_pre (l m : List UInt8) : ∀ k, k ≤ l.length → dv ⟨(l ++ m).toArray⟩ k = dv ⟨l.toArray⟩ k
 | 0, _ => rfl
 | k + 1, h => by
   rw [dv, dv, dv_pre l m k (by omega), dgt_list, dgt_list, List.getElem?_append_left (by omega)]
theorem dv_dec (n : Nat) : dv ⟨(decDigits n).toArray⟩ (decDigits n).length = n := by
 refine dec_ind (P := fun n l => dv ⟨l.toArray⟩ l.length = n) (fun n h => ?_) (fun n _ ih => ?_) n
 ·show dv _ 0 * 10 + dgt _ 0 = n
  rw [dgt_list]
  show 0 * 10 + ((UInt8.ofNat (48 + n)).toNat - 48) = n
  rw [dig_byte h]; omega
 ·rw [List.length_append]
  show dv _ (decDigits (n / 10)).length * 10 + dgt _ (decDigits (n / 10)).length = n
  rw [dv_pre _ _ _ (Nat.le_refl _), ih, dgt_list, List.getElem?_append_right (Nat.le_refl _), Nat.sub_self]
  show n / 10 * 10 + ((UInt8.ofNat (48 + n % 10)).toNat - 48) = n
  rw [dig_byte (Nat.mod_lt _ (by decide))]; omega
theorem trim_neg (l : List UInt8) : Lib.trimPrefix (45 :: l) [45] = l := by
 unfold Lib.trimPrefix
 rw [if_pos (by simp [Lib.hasPrefix])]; rfl
theorem trim_dec (n : Nat) : Lib.trimPrefix (decDigits n) [45] = decDigits n := by
 obtain ⟨d, hd, hl, _⟩ := dec_head n
 cases h : decDigits n with
 | nil => rfl
 | cons c l =>
   rw [h] at hl
   obtain rfl : c = UInt8.ofNat (48 + d) := by simpa using hl
   have hne : UInt8.ofNat (48 + d) ≠ 45 := fun e => by
    have := congrArg UInt8.toNat e
    rw [dig_byte hd] at this
    have h45 : (45 : UInt8).toNat = 45 := rfl
    omega
   unfold Lib.trimPrefix
   rw [if_neg]
   generalize UInt8.ofNat (48 + d) = c at hne
   simp [Lib.hasPrefix, hne.symm]
theorem trim_text (x : Int) : Lib.trimPrefix (textL x) [45] = decDigits x.natAbs := by
 unfold textL
 split
 ·exact trim_neg _
 ·exact trim_dec _
theorem isText_text (x : Int) : isTextB (textL x) = true := by
 unfold isTextB
 simp only [trim_text]
 obtain ⟨d, hd, hl, hp⟩ := dec_head x.natAbs
 have hne : (decDigits x.natAbs).isEmpty = false := by
  cases h : decDigits x.natAbs with
  | nil => rw [h] at hl; cases hl
  | cons _ _ => rfl
 rw [dec_dig, hne, hl, Bool.and_true, Bool.false_or]
 by_cases h0 : x = 0
 ·subst h0
  rw [show textL 0 = [48] from by simp [textL, decDigits]]
  simp
 ·have h48 : (some (UInt8.ofNat (48 + d)) == some (48 : UInt8)) = false := by
   have := hp (by omega)
   have hc : UInt8.ofNat (48 + d) ≠ 48 := fun e => by
    have := congrArg UInt8.toNat e
    rw [dig_byte hd] at this
    have h48 : (48 : UInt8).toNat = 48 := rfl
    omega
   simpa using hc
  rw [h48]; rfl
theorem parse_text (x : Int) (w : World) (hx : x.natAbs < T256) : Calls Tryz.prog 210 #[.string ⟨(textL x).toArray⟩] w fun e w' => e = .returned (.tuple #[ivz x, .int .i64 0]) ∧ Below w.heap.size w w' := by
 have hlen := textL_len hx
 have hdl := dec_len_all hx
 have hneg : (!((⟨(textL x).toArray⟩ : ByteArray).toList == (⟨(decDigits x.natAbs).toArray⟩ : ByteArray).toList)) = decide (x < 0) := by
  rw [ByteArray.toList_eq, ByteArray.toList_eq]
  show (!(textL x == decDigits x.natAbs)) = _
  by_cases h : x < 0
  ·rw [decide_eq_true h, textL, if_pos h]
   have : (45 :: decDigits x.natAbs) ≠ decDigits x.natAbs := fun e => by have := congrArg List.length e; simp at this
   simp [this]
  ·rw [decide_eq_false h, textL, if_neg h]; simp
 have hv : dv ⟨(decDigits x.natAbs).toArray⟩ (⟨(decDigits x.natAbs).toArray⟩ : ByteArray).size = x.natAbs := dv_dec _
 have h := parse_z ⟨(textL x).toArray⟩ ⟨(decDigits x.natAbs).toArray⟩ w (by show _ = (⟨(Lib.trimPrefix (textL x) [45]).toArray⟩ : ByteArray); rw [trim_text]) (by show (textL x).toArray.size ≤ 1000; simp; omega) (by show (decDigits x.natAbs).toArray.size ≤ 1000; simp; omega)
  (isText_text x) (all_dig.1 (dec_dig _)) (by rw [hneg, hv]; intro h; have := of_decide_eq_true h; omega)
 have ht : textN (decide (x < 0)) ⟨(decDigits x.natAbs).toArray⟩ = x := by
  unfold textN
  rw [hv]
  split
  ·rename_i h; have := of_decide_eq_true h; omega
  ·rename_i h; have : ¬ x < 0 := fun h2 => h (decide_eq_true h2); omega
 rw [hneg, ht, outV, if_pos hx] at h
 exact h
end Go.Proofs.YtdfmmkidknginaaGreatDoor
