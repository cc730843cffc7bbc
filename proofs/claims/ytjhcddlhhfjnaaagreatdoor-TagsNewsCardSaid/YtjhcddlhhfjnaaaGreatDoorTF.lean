/- Contracts of together, of slices.IndexFunc and ContainsFunc at counts, of from. -/
import Derived.Test.YtjhcddlhhfjnaaaGreatDoorTE
namespace Go.Proofs.YtjhcddlhhfjnaaaGreatDoor
open Go.RowKit Go.Sort

set_option maxHeartbeats 1600000 in
theorem together_any (xs ys : List (Int × Int)) (A B : Option Addr) (na nb ca cb : Nat) (w : World) (hna : na = xs.length) (hnb : nb = ys.length) (ha : na ≤ 1000) (hb : nb ≤ 1000) (hca : na ≤ ca) (hcb : nb ≤ cb)
    (hA : CellsS w A (cntCs xs)) (hB : CellsS w B (cntCs ys)) (ta : Times xs) (tb : Times ys) :
    Calls Tryz.prog 37 #[.slice A na ca, .slice B nb cb] w (CntPost w (mrg xs ys)) := by
  have H := Lib.hid (merged_any xs ys A B na nb ca cb w hna hnb ha hb hca hcb hA hB ta tb)
  clear hA hB ta tb hna hnb
  go_enter Tryz.func37, Tryz.ntmps37
  go_wp2_with fail
  refine H.out.mono ?_
  rintro e w1 ⟨A1, N1, cap1, rfl, hN, hC, hc, hf, hb1⟩
  have HP : Hid (CntPost w (mrg xs ys) (.returned (.slice A1 N1 cap1)) w1) := Lib.hid ⟨A1, N1, cap1, rfl, hN, hC, hc, hf, hb1⟩
  clear hN hC hc hb1 hf
  go_wp2
  go_ret
  exact HP.out
/-- Is one of them too often there? -/
def anyLong (cs : List (Int × Int)) : Bool := cs.any fun p => decide (255 < p.2)
def IxPost (w : World) (cs : List (Int × Int)) (e : Ending) (w' : World) : Prop :=
  ∃ k : Int, e = .returned (.int .i64 k) ∧ (decide (0 ≤ k) = anyLong cs) ∧ Below w.heap.size w w'
theorem anyLong_take {cs : List (Int × Int)} {k : Nat} {p : Int × Int} (hk : cs[k]? = some p) (h : anyLong (cs.take k) = false) (hp : decide (255 < p.2) = false) : anyLong (cs.take (k + 1)) = false := by
  rw [List.take_add_one, hk]
  simp [anyLong] at h hp ⊢
  exact ⟨h, hp⟩
theorem anyLong_at {cs : List (Int × Int)} {k : Nat} {p : Int × Int} (hk : cs[k]? = some p) (hp : decide (255 < p.2) = true) : anyLong cs = true := by
  rw [anyLong, List.any_eq_true]
  exact ⟨p, List.mem_of_getElem? hk, hp⟩
set_option maxHeartbeats 1600000 in
set_option maxRecDepth 100000 in
theorem index_any (cs : List (Int × Int)) (A : Option Addr) (n c : Nat) (w : World) (hn : n = cs.length) (hb : n ≤ 3000) (hA : CellsS w A (cntCs cs)) :
    Calls Tryz.prog 63 #[.slice A n c, .func (.func 51) #[] #[]] w (IxPost w cs) := by
  have HA := Lib.hid hA; clear hA
  have HN := Lib.hid hn; clear hn
  go_enter Tryz.func63, Tryz.ntmps63
  go_wp2
  go_loopw [8] (fun i wr => ∃ k : Nat, k ≤ n ∧ i = .int .i64 k ∧ Hid (anyLong (cs.take k) = false) ∧ Below w.heap.size w wr) (fun i _ => n - (intOf i).toNat)
  case atStart => exact ⟨0, Nat.zero_le _, rfl, Lib.hid rfl, Below.refl _ _⟩
  case round =>
    obtain ⟨k, hk, rfl, HF, hB⟩ := hrel
    by_cases hkn : k < n
    · obtain ⟨p, hpk⟩ : ∃ p, cs[k]? = some p := ⟨_, List.getElem?_eq_getElem (by rw [← HN.out]; exact hkn)⟩
      obtain ⟨b, o, rfl, hl⟩ := HA.out (by rw [cntCs_len, ← HN.out]; omega)
      have g := cntCs_get cs k p hpk
      have c0 : wr.cell? ⟨b, o + k * 2, none⟩ = some (.int .i64 p.1) := (hl.after hB).2 _ _ g.1
      have c1 : wr.cell? ⟨b, o + k * 2 + 1, none⟩ = some (.int .i64 p.2) := (hl.after hB).2 _ _ g.2
      have HX := Lib.hid hpk
      have hk1 : (k : Int) < n := by omega
      clear g hl hpk
      go_wp2_with fail
      refine (long_one _ _ _).mono ?_
      rintro e w2 ⟨rfl, hb2⟩
      have hB2 := hB.trans (hb2.mono hB.size)
      clear hb2 c0 c1 hB
      cases hz : decide (255 < p.2) with
      | true =>
        have HP : Hid (IxPost w cs (.returned (.int .i64 (k : Nat))) w2) := Lib.hid ⟨_, rfl, by rw [anyLong_at HX.out hz]; exact decide_eq_true (by omega), hB2⟩
        clear hz hB2
        go_wp2
        go_ret
        exact HP.out
      | false =>
        have HF2 := Lib.hid (anyLong_take HX.out HF.out hz)
        clear hz HF
        go_wp2
        go_roundw
        case rel => exact ⟨k + 1, by omega, by go_num, HF2, hB2⟩
        case measure => simp [intOf]; omega
    · obtain rfl : k = n := by omega
      have HP : Hid (IxPost w cs (.returned (.int .i64 (-1))) wr) := Lib.hid ⟨_, rfl, by have h := HF.out; rw [List.take_of_length_le (by rw [← HN.out]; exact Nat.le_refl _)] at h; rw [h]; rfl, hB⟩
      clear hB HF
      go_wp2
      go_ret
      exact HP.out
set_option maxHeartbeats 1600000 in
theorem contains_any (cs : List (Int × Int)) (A : Option Addr) (n c : Nat) (w : World) (hn : n = cs.length) (hb : n ≤ 3000) (hA : CellsS w A (cntCs cs)) :
    Calls Tryz.prog 50 #[.slice A n c, .func (.func 51) #[] #[]] w fun e w' => e = .returned (.bool (anyLong cs)) ∧ Below w.heap.size w w' := by
  have H := Lib.hid (index_any cs A n c w hn hb hA)
  clear hA hn
  go_enter Tryz.func50, Tryz.ntmps50
  go_wp2_with fail
  refine H.out.mono ?_
  rintro e w1 ⟨k, rfl, hk, hb1⟩
  have HK := Lib.hid hk
  clear hk
  by_cases h0 : 0 ≤ k
  · have HV : Hid (anyLong cs = true) := Lib.hid (by rw [← HK.out]; exact decide_eq_true h0)
    go_wp2
    all_goals
      go_ret
      exact ⟨by rw [HV.out]; rfl, hb1⟩
  · have HV : Hid (anyLong cs = false) := Lib.hid (by rw [← HK.out]; exact decide_eq_false h0)
    have h1 : decide (0 ≤ k) = false := decide_eq_false h0
    go_wp2
    all_goals
      go_ret
      exact ⟨by rw [HV.out]; rfl, hb1⟩
/-- Are these too many? -/
def longB (cs : List (Int × Int)) : Bool := decide (64 < cs.length) || anyLong cs
/-- Tags and an error, as an answer. -/
def TagPost (w : World) (B : Nat) (err : Int) (cs : List (Int × Int)) (e : Ending) (w' : World) : Prop :=
  ∃ A N cap, e = .returned (.tuple #[.agg #[.slice A N cap], .int .i64 err]) ∧ N = cs.length ∧ CellsS w' A (cntCs cs) ∧ N ≤ cap ∧ (∀ a, A = some a → B ≤ a.block) ∧ Below w.heap.size w w'
def fromE (cs : List (Int × Int)) : Int := if longB cs then 3 else 0
def fromL (cs : List (Int × Int)) : List (Int × Int) := if longB cs then [] else cs
set_option maxHeartbeats 1600000 in
theorem from_any (cs : List (Int × Int)) (A : Option Addr) (n c B : Nat) (w : World) (hn : n = cs.length) (hb : n ≤ 3000) (hc : n ≤ c) (hf : ∀ a, A = some a → B ≤ a.block) (hA : CellsS w A (cntCs cs)) :
    Calls Tryz.prog 36 #[.slice A n c] w (TagPost w B (fromE cs) (fromL cs)) := by
  have HC := Lib.hid (fun W (hb' : Below w.heap.size w W) => contains_any cs A n c W hn hb (hA.after hb'))
  have HY : Hid (longB cs = true → ∀ W, Below w.heap.size w W → TagPost w B (fromE cs) (fromL cs) (.returned (.tuple #[.agg #[.slice none 0 0], .int .i64 3])) W) :=
    Lib.hid (fun h W hW => ⟨none, 0, 0, by rw [fromE, if_pos h], by rw [fromL, if_pos h]; rfl, by rw [fromL, if_pos h]; exact CellsS.nil _ _, Nat.le_refl _, (fun a ha => by cases ha), hW⟩)
  have HZ : Hid (longB cs = false → ∀ W, Below w.heap.size w W → TagPost w B (fromE cs) (fromL cs) (.returned (.tuple #[.agg #[.slice A n c], .int .i64 0])) W) :=
    Lib.hid (fun h W hW => ⟨A, n, c, by rw [fromE, if_neg (by simp [h])], by rw [fromL, if_neg (by simp [h])]; exact hn, by rw [fromL, if_neg (by simp [h])]; exact hA.after hW, hc, hf, hW⟩)
  by_cases h64 : 64 < n
  · have HP := Lib.hid (HY.out (by simp [longB]; exact .inl (by omega)))
    have h64' : (64 : Int) < (n : Int) := by omega
    clear hA hn hf HY HZ HC
    go_enter Tryz.func36, Tryz.ntmps36
    go_wp2_with fail
    exact bodyPost_ret (v := .tuple #[.agg #[.slice none 0 0], .int .i64 3]) (by simp [results, Tryz.results36, go_sem]) rfl (HP.out _ ((Below.refl _ _).alloc (Nat.le_refl _) _))
  · have h64' : decide ((64 : Int) < (n : Int)) = false := decide_eq_false (by omega)
    cases hz : anyLong cs with
    | true =>
      have HP := Lib.hid (HY.out (by simp [longB, hz]))
      rw [hz] at HC
      clear hA hn hf HY HZ hz
      go_enter Tryz.func36, Tryz.ntmps36
      go_wp2_with (first
        | (go_at_call 50; (with_reducible refine (HC.out _ ((Below.refl _ _).alloc (Nat.le_refl _) _)).mono ?_); rintro e w1 ⟨rfl, hb1⟩; have hw1 := hb1.size; have hc1 := (bcell hb1).1; have hf1 := (bcell hb1).2)
        | fail)
      have hB := ((Below.refl w.heap.size w).alloc (Nat.le_refl _) (.cells #[.slice none 0 0] 26)).trans (hb1.mono (by simp))
      have r2 := ((Row.at (w := w) rfl [.slice none 0 0] 26).after hb1).set 0 (by simp) (.slice none 0 0)
      have cr := r2.c 0 rfl
      clear hc1 hf1 hw1 hb1
      exact bodyPost_ret (v := .tuple #[.agg #[.slice none 0 0], .int .i64 3]) (by simp [results, Tryz.results36, go_sem, cr]) rfl (HP.out _ (below_put1 hB (Nat.le_refl _) 0 _))
    | false =>
      have HP := Lib.hid (HZ.out (by simp [longB, hz]; omega))
      rw [hz] at HC
      clear hA hn hf HY HZ hz
      go_enter Tryz.func36, Tryz.ntmps36
      go_wp2_with (first
        | (go_at_call 50; (with_reducible refine (HC.out _ ((Below.refl _ _).alloc (Nat.le_refl _) _)).mono ?_); rintro e w1 ⟨rfl, hb1⟩; have hw1 := hb1.size; have hc1 := (bcell hb1).1; have hf1 := (bcell hb1).2)
        | fail)
      have hB := ((Below.refl w.heap.size w).alloc (Nat.le_refl _) (.cells #[.slice none 0 0] 26)).trans (hb1.mono (by simp))
      have r2 := ((Row.at (w := w) rfl [.slice none 0 0] 26).after hb1).set 0 (by simp) (.slice A n c)
      have cr := r2.c 0 rfl
      clear hc1 hf1 hw1 hb1
      exact bodyPost_ret (v := .tuple #[.agg #[.slice A n c], .int .i64 0]) (by simp [results, Tryz.results36, go_sem, cr]) rfl (HP.out _ (below_put1 hB (Nat.le_refl _) 0 _))
end Go.Proofs.YtjhcddlhhfjnaaaGreatDoor
