/- Contracts of slices.IndexFunc and ContainsFunc at numbers, of mayAll. -/
import Derived.Test.YtjhcddlhhfjnaaaGreatDoorTL
namespace Go.Proofs.YtjhcddlhhfjnaaaGreatDoor
open Go.RowKit Go.Sort

/-- Is one of them a number that may not be? -/
def anyOff (l : List Int) : Bool := l.any fun n => !mayN n
def IyPost (w : World) (l : List Int) (e : Ending) (w' : World) : Prop :=
  ∃ k : Int, e = .returned (.int .i64 k) ∧ (decide (0 ≤ k) = anyOff l) ∧ Below w.heap.size w w'
theorem anyOff_take {l : List Int} {k : Nat} {x : Int} (hk : l[k]? = some x) (h : anyOff (l.take k) = false) (hp : mayN x = true) : anyOff (l.take (k + 1)) = false := by
  rw [List.take_add_one, hk]
  unfold anyOff at h ⊢
  rw [List.any_append, h]
  simp [hp]
theorem anyOff_at {l : List Int} {k : Nat} {x : Int} (hk : l[k]? = some x) (hp : mayN x = false) : anyOff l = true := by
  rw [anyOff, List.any_eq_true]
  exact ⟨x, List.mem_of_getElem? hk, by rw [hp]; rfl⟩
theorem anyOff_may {l : List Int} (h : anyOff l = false) : ∀ x ∈ l, mayN x = true := fun x hx => by
  cases hm : mayN x with
  | true => rfl
  | false =>
    have : anyOff l = true := by
      rw [anyOff, List.any_eq_true]
      exact ⟨x, hx, by rw [hm]; rfl⟩
    rw [h] at this
    cases this
theorem off_one (x : Int) (w : World) :
    Calls Tryz.prog 46 #[.int .i64 x] w fun e w' => e = .returned (.bool (!mayN x)) ∧ w = w' := by
  have H := may_any x w
  cases hm : mayN x with
  | true =>
    rw [hm] at H
    have H := Lib.hid H
    clear hm
    go_enter Tryz.func46, Tryz.ntmps46
    go_wp2_with fail
    refine H.out.mono ?_
    rintro e w2 ⟨rfl, rfl⟩
    clear H
    go_wp2
    go_ret
    exact ⟨rfl, rfl⟩
  | false =>
    rw [hm] at H
    have H := Lib.hid H
    clear hm
    go_enter Tryz.func46, Tryz.ntmps46
    go_wp2_with fail
    refine H.out.mono ?_
    rintro e w2 ⟨rfl, rfl⟩
    clear H
    go_wp2
    go_ret
    exact ⟨rfl, rfl⟩
set_option maxHeartbeats 1600000 in
set_option maxRecDepth 100000 in
theorem indexI_any (l : List Int) (A : Option Addr) (n c : Nat) (w : World) (hn : n = l.length) (hb : n ≤ 100000) (hA : CellsS w A (intCs l)) :
    Calls Tryz.prog 62 #[.slice A n c, .func (.func 46) #[] #[]] w (IyPost w l) := by
  have HA := Lib.hid hA; clear hA
  have HN := Lib.hid hn; clear hn
  go_enter Tryz.func62, Tryz.ntmps62
  go_wp2
  go_loopw [8] (fun i wr => ∃ k : Nat, k ≤ n ∧ i = .int .i64 k ∧ Hid (anyOff (l.take k) = false) ∧ Below w.heap.size w wr) (fun i _ => n - (intOf i).toNat)
  case atStart => exact ⟨0, Nat.zero_le _, rfl, Lib.hid rfl, Below.refl _ _⟩
  case round =>
    obtain ⟨k, hk, rfl, HF, hB⟩ := hrel
    by_cases hkn : k < n
    · obtain ⟨x, hpk⟩ : ∃ x, l[k]? = some x := ⟨_, List.getElem?_eq_getElem (by rw [← HN.out]; exact hkn)⟩
      obtain ⟨b, o, rfl, hl⟩ := HA.out (by rw [intCs_len, ← HN.out]; omega)
      have c0 : wr.cell? ⟨b, o + k, none⟩ = some (.int .i64 x) := (hl.after hB).2 k _ (intCs_get hpk)
      have HX := Lib.hid hpk
      have hk1 : (k : Int) < n := by omega
      clear hl hpk
      go_wp2_with fail
      refine (off_one _ _).mono ?_
      rintro e w2 ⟨rfl, rfl⟩
      clear c0
      cases hz : mayN x with
      | false =>
        have HP : Hid (IyPost w l (.returned (.int .i64 (k : Nat))) wr) := Lib.hid ⟨_, rfl, by rw [anyOff_at HX.out hz]; exact decide_eq_true (by omega), hB⟩
        clear hz hB
        go_wp2
        go_ret
        exact HP.out
      | true =>
        have HF2 := Lib.hid (anyOff_take HX.out HF.out hz)
        clear hz HF
        go_wp2
        go_roundw
        case rel => exact ⟨k + 1, by omega, by go_num, HF2, hB⟩
        case measure => simp [intOf]; omega
    · obtain rfl : k = n := by omega
      have HP : Hid (IyPost w l (.returned (.int .i64 (-1))) wr) := Lib.hid ⟨_, rfl, by have h := HF.out; rw [List.take_of_length_le (by rw [← HN.out]; exact Nat.le_refl _)] at h; rw [h]; rfl, hB⟩
      clear hB HF
      go_wp2
      go_ret
      exact HP.out
set_option maxHeartbeats 1600000 in
theorem containsI_any (l : List Int) (A : Option Addr) (n c : Nat) (w : World) (hn : n = l.length) (hb : n ≤ 100000) (hA : CellsS w A (intCs l)) :
    Calls Tryz.prog 45 #[.slice A n c, .func (.func 46) #[] #[]] w fun e w' => e = .returned (.bool (anyOff l)) ∧ Below w.heap.size w w' := by
  have H := Lib.hid (indexI_any l A n c w hn hb hA)
  clear hA hn
  go_enter Tryz.func45, Tryz.ntmps45
  go_wp2_with fail
  refine H.out.mono ?_
  rintro e w1 ⟨k, rfl, hk, hb1⟩
  have HK := Lib.hid hk
  clear hk
  by_cases h0 : 0 ≤ k
  · have HV : Hid (anyOff l = true) := Lib.hid (by rw [← HK.out]; exact decide_eq_true h0)
    go_wp2
    all_goals
      go_ret
      exact ⟨by rw [HV.out]; rfl, hb1⟩
  · have HV : Hid (anyOff l = false) := Lib.hid (by rw [← HK.out]; exact decide_eq_false h0)
    have h1 : decide (0 ≤ k) = false := decide_eq_false h0
    go_wp2
    all_goals
      go_ret
      exact ⟨by rw [HV.out]; rfl, hb1⟩
set_option maxHeartbeats 1600000 in
theorem mayAll_any (l : List Int) (A : Option Addr) (n c : Nat) (w : World) (hn : n = l.length) (hb : n ≤ 100000) (hA : CellsS w A (intCs l)) :
    Calls Tryz.prog 26 #[.slice A n c] w fun e w' => e = .returned (.bool (!anyOff l)) ∧ Below w.heap.size w w' := by
  have H := Lib.hid (containsI_any l A n c w hn hb hA)
  clear hA hn
  generalize anyOff l = m at H ⊢
  go_enter Tryz.func26, Tryz.ntmps26
  go_wp2_with fail
  refine H.out.mono ?_
  rintro e w1 ⟨rfl, hb1⟩
  cases m with
  | true =>
    go_wp2
    go_ret
    exact ⟨rfl, hb1⟩
  | false =>
    go_wp2
    go_ret
    exact ⟨rfl, hb1⟩
end Go.Proofs.YtjhcddlhhfjnaaaGreatDoor
