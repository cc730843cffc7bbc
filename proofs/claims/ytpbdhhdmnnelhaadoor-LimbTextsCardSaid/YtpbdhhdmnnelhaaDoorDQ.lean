/- limb's Parse and the document's, of one text: the same number, the same error. -/
import Derived.Test.YtpbdhhdmnnelhaaDoorDO
import Derived.Test.YtpbdhhdmnnelhaaDoorCD
namespace Go.Proofs.YtpbdhhdmnnelhaaDoor
open Go.RowKit

theorem trim_cons (c : UInt8) (t : List UInt8) : Lib.trimPrefix (c :: t) [45] = if c = 45 then t else c :: t := by
  unfold Lib.trimPrefix Lib.hasPrefix
  by_cases h : c = 45
  · subst h; simp
  · rw [if_neg h, if_neg (by simp [List.isPrefixOf]; exact fun e => h e.symm)]
theorem byte_int (c : UInt8) (k : Nat) (hk : k < 256) : (((c.toNat : Nat) : Int) == (k : Int)) = decide (c = UInt8.ofNat k) := by
  rw [Bool.eq_iff_iff]
  simp only [beq_iff_eq, decide_eq_true_iff]
  constructor
  · intro h
    apply UInt8.toNat.inj
    rw [UInt8.toNat_ofNat']
    omega
  · rintro rfl
    rw [UInt8.toNat_ofNat']
    omega
theorem byte45 (c : UInt8) : (((c.toNat : Nat) : Int) == 45) = decide (c = 45) := byte_int c 45 (by decide)
theorem cons_of (l : List UInt8) (h : 0 < l.length) : l = l[0]'h :: l.drop 1 := by
  cases l with
  | nil => cases h
  | cons c t => rfl
theorem extract_toList (s : ByteArray) : (s.extract 1 s.size).data.toList = s.data.toList.drop 1 := by
  rw [ByteArray.data_extract, Array.toList_extract]
  rw [List.extract_eq_take_drop]
  apply List.take_of_length_le
  rw [List.length_drop, Array.length_toList]
  exact Nat.le_refl _
theorem list_first (s : ByteArray) (h0 : 0 < s.size) : s.data.toList = s[0]'h0 :: s.data.toList.drop 1 := by
  have h1 : 0 < s.data.toList.length := by rw [Array.length_toList]; exact h0
  exact cons_of _ h1
/-- A text's digits, behind the sign. -/
def digT (s : ByteArray) : ByteArray := ⟨(Lib.trimPrefix s.data.toList [45]).toArray⟩
theorem digT_list (s : ByteArray) : (digT s).data.toList = Lib.trimPrefix s.data.toList [45] := rfl
theorem digT_size (s : ByteArray) : (digT s).size ≤ s.size := by
  have h1 := trim_len s.data.toList [45]
  rw [← digT_list, Array.length_toList, Array.length_toList] at h1
  exact h1
theorem digT_doc (s : ByteArray) (h0 : 0 < s.size) : (if (((s[0]'h0).toNat : Int) == 45) = true then s.extract 1 s.size else s) = digT s := by
  apply ByteArray.ext
  apply Array.ext'
  rw [digT_list]
  have hl := list_first s h0
  rw [byte45]
  by_cases hc : s[0]'h0 = 45
  · rw [if_pos (decide_eq_true hc), extract_toList, hl, trim_cons, if_pos hc]; simp
  · rw [if_neg (by simpa using hc)]
    rw [hl, trim_cons, if_neg hc, ← hl]
theorem digT_neg (s : ByteArray) (h0 : 0 < s.size) : (!(s.toList == (digT s).toList)) = (((s[0]'h0).toNat : Int) == 45) := by
  have hl := list_first s h0
  rw [byte45, ByteArray.toList_eq, ByteArray.toList_eq, digT_list]
  by_cases hc : s[0]'h0 = 45
  · rw [decide_eq_true hc, hl, trim_cons, if_pos hc]
    generalize s.data.toList.drop 1 = t
    have : ¬ (s[0]'h0 :: t) = t := fun e => by have := congrArg List.length e; simp at this
    simp [this]
  · rw [decide_eq_false hc, hl, trim_cons, if_neg hc]
    simp
/-- limb's Parse and the document's: the same number, the same error. -/
theorem parse_both (s : ByteArray) (hs : s.size ≤ 1000) : ∃ Z K : Int, Z.natAbs < T256 ∧
    (∀ w, Calls Tryd.prog 37 #[.string s] w fun e w' => e = .returned (.tuple #[ivz Z, .int .i64 K]) ∧ Below w.heap.size w w') ∧
    (∀ w, Calls Tryd.prog 38 #[.string s] w (PPost w Z K)) := by
  have hDs := Nat.le_trans (digT_size s) hs
  cases hit : isTextB s.data.toList
  · refine ⟨0, 111, by decide, fun w => ?_, fun w => ?_⟩
    · rw [← ivz_nought]; exact parse_bad s w hs hit
    · rcases Nat.eq_zero_or_pos s.size with hz | h0
      · exact refparse_empty s w hz
      · refine refparse_no s (digT s) _ w hs h0 rfl (digT_doc s h0) hDs ?_
        rcases Nat.eq_zero_or_pos (digT s).size with hz | hD0
        · exact .inl hz
        · refine .inr ⟨hD0, ?_⟩
          by_cases hall : (digT s).data.toList.all isDig = true
          · left
            have hhd : (digT s).data.toList.head? = some ((digT s)[0]'hD0) := by
              rw [List.head?_eq_getElem?, List.getElem?_eq_getElem (by rw [Array.length_toList]; exact hD0)]; rfl
            have hne : (digT s).data.toList.isEmpty = false := by
              cases h : (digT s).data.toList with
              | nil => rw [h] at hhd; cases hhd
              | cons _ _ => rfl
            unfold isTextB at hit
            simp only [← digT_list, hne, hall, hhd, Bool.false_or, Bool.and_true, Bool.not_eq_false'] at hit
            obtain ⟨h1, h2⟩ := Bool.and_eq_true_iff.1 hit
            have h48 : (digT s)[0]'hD0 = 48 := by simpa using h1
            refine ⟨by rw [h48]; rfl, ?_⟩
            by_cases h3 : 1 < (digT s).size
            · exact .inl h3
            · right
              have hd1 : (digT s).data.toList = [48] := by
                rw [list_first (digT s) hD0, h48]
                congr 1
                apply List.eq_nil_of_length_eq_zero
                rw [List.length_drop, Array.length_toList]
                show (digT s).size - 1 = 0
                omega
              have hl := list_first s h0
              rw [byte45]
              by_cases hc : s[0]'h0 = 45
              · exact decide_eq_true hc
              · exfalso
                rw [digT_list, hl, trim_cons, if_neg hc, ← hl] at hd1
                rw [hd1] at h2
                simp at h2
          · right
            have h4 : ¬ ∀ (k : Nat) (h : k < (digT s).size), isDig ((digT s)[k]'h) = true := fun h => hall (all_dig.2 h)
            apply Classical.byContradiction
            intro h5
            apply h4
            intro k hk
            cases h6 : isDig ((digT s)[k]'hk)
            · exact absurd ⟨k, hk, h6⟩ h5
            · rfl
  · have hit2 := hit
    unfold isTextB at hit2
    simp only [← digT_list] at hit2
    obtain ⟨h1, h2⟩ := Bool.and_eq_true_iff.1 hit2
    have hdig := all_dig.1 h2
    have hne : (digT s).data.toList.isEmpty = false := by
      cases h : (digT s).data.toList.isEmpty
      · rfl
      · rw [h] at h1; simp at h1
    have hD0 : 0 < (digT s).size := by
      apply Nat.pos_of_ne_zero
      intro h
      have h3 : (digT s).data.toList.length = 0 := by rw [Array.length_toList]; exact h
      rw [List.eq_nil_of_length_eq_zero h3] at hne
      cases hne
    have h0 : 0 < s.size := Nat.lt_of_lt_of_le hD0 (digT_size s)
    have hhd : (digT s).data.toList.head? = some ((digT s)[0]'hD0) := by
      rw [List.head?_eq_getElem?, List.getElem?_eq_getElem (by rw [Array.length_toList]; exact hD0)]; rfl
    have hok : (((digT s)[0]'hD0).toNat : Int) = 48 → (digT s).size = 1 ∧ (((s[0]'h0).toNat : Int) == 45) = false := fun h48 => by
      have hx : (digT s)[0]'hD0 = 48 := UInt8.toNat.inj (by show ((digT s)[0]'hD0).toNat = 48; omega)
      rw [hne, hhd, hx] at h1
      have h3 : s.data.toList = [48] := by simpa using h1
      have hl := list_first s h0
      rw [h3] at hl
      have hc : s[0]'h0 = 48 := by
        have := congrArg List.head? hl
        simpa using this.symm
      have hd : (digT s).data.toList = [48] := by rw [digT_list, h3, trim_cons, if_neg (by decide)]
      constructor
      · have := congrArg List.length hd
        rw [Array.length_toList] at this
        exact this
      · rw [hc]; rfl
    have hnn : (!(s.toList == (digT s).toList)) = true → dv (digT s) (digT s).size ≠ 0 := fun hn => by
      rw [digT_neg s h0] at hn
      have h48 : ¬ (((digT s)[0]'hD0).toNat : Int) = 48 := fun h => by rw [(hok h).2] at hn; cases hn
      have h3 := (isDig_at _).1 (hdig 0 hD0)
      have h4 : 1 ≤ dgt (digT s) 0 := by rw [dgt, dif_pos hD0]; omega
      obtain ⟨k, hk⟩ : ∃ k, (digT s).size = k + 1 := ⟨(digT s).size - 1, by omega⟩
      have h5 := dv_long h4 k
      have h6 : 0 < 10 ^ k := Nat.pow_pos (by decide)
      rw [hk]
      omega
    have hp := fun w => parse_z s (digT s) w rfl hs hDs hit hdig hnn
    rw [digT_neg s h0] at hp
    by_cases hf : dv (digT s) (digT s).size < T256
    · refine ⟨textN _ (digT s), 0, by rw [textN_abs]; exact hf, fun w => ?_, fun w => refparse_yes s (digT s) _ _ 0 w hs h0 rfl (digT_doc s h0) hD0 hok hDs hdig ⟨fun _ => ⟨rfl, rfl⟩, fun h => absurd hf h⟩⟩
      have h := hp w
      rw [outV, textN_abs, if_pos hf] at h
      exact h
    · refine ⟨0, 110, by decide, fun w => ?_, fun w => refparse_yes s (digT s) _ _ 110 w hs h0 rfl (digT_doc s h0) hD0 hok hDs hdig ⟨fun h => absurd h hf, fun _ => ⟨rfl, rfl⟩⟩⟩
      have h := hp w
      rw [outV, textN_abs, if_neg hf, ivz_nought] at h
      exact h
end Go.Proofs.YtpbdhhdmnnelhaaDoor
