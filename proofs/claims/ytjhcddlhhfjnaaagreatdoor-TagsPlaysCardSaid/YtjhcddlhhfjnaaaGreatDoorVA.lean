/- The document's Same, Many and Kinds over plain lists. -/
import Derived.Test.YtjhcddlhhfjnaaaGreatDoorUE
namespace Go.Proofs.YtjhcddlhhfjnaaaGreatDoor
open Go.RowKit Go.Sort

set_option maxRecDepth 100000 in
set_option maxHeartbeats 3200000 in
theorem rsame_any (xs ys : List Int) (A B : Option Addr) (na nb ca cb : Nat) (w : World) (hna : na = xs.length) (hnb : nb = ys.length) (ha : na ≤ 100000) (hA : CellsS w A (intCs xs)) (hB : CellsS w B (intCs ys)) :
    Calls Tryz.prog 12 #[.slice A na ca, .slice B nb cb] w fun e w' => e = .returned (.bool (decide (xs = ys))) ∧ Below w.heap.size w w' := by
  have HA := Lib.hid hA; clear hA
  have HB := Lib.hid hB; clear hB
  by_cases hn : na = nb
  · subst hn
    have HN := Lib.hid (And.intro hna hnb); clear hna hnb
    go_enter Tryz.func12, Tryz.ntmps12
    go_wp2_with fail
    go_loopw [5] (fun i wr => ∃ k : Nat, k ≤ na ∧ i = .int .i64 k ∧ Hid (xs.take k = ys.take k) ∧ Below w.heap.size w wr) (fun i _ => na - (intOf i).toNat)
    case atStart => exact ⟨0, Nat.zero_le _, rfl, Lib.hid rfl, Below.refl _ _⟩
    case round =>
      obtain ⟨k, hk, rfl, HT, hB⟩ := hrel
      by_cases hkn : k < na
      · obtain ⟨p, hpk⟩ : ∃ p, xs[k]? = some p := ⟨_, List.getElem?_eq_getElem (by rw [← HN.out.1]; exact hkn)⟩
        obtain ⟨q, hqk⟩ : ∃ q, ys[k]? = some q := ⟨_, List.getElem?_eq_getElem (by rw [← HN.out.2]; exact hkn)⟩
        obtain ⟨b, o, rfl, hl⟩ := HA.out (by rw [intCs_len, ← HN.out.1]; omega)
        obtain ⟨b', o', rfl, hl'⟩ := HB.out (by rw [intCs_len, ← HN.out.2]; omega)
        have c0 : wr.cell? ⟨b, o + k, none⟩ = some (.int .i64 p) := (hl.after hB).2 _ _ (intCs_get hpk)
        have d0 : wr.cell? ⟨b', o' + k, none⟩ = some (.int .i64 q) := (hl'.after hB).2 _ _ (intCs_get hqk)
        have hk1 : (k : Int) < na := by omega
        have HX := Lib.hid (And.intro hpk hqk)
        clear hl hl' hpk hqk
        by_cases hpq : p = q
        · subst hpq
          have HT2 : Hid (xs.take (k + 1) = ys.take (k + 1)) := Lib.hid (by rw [List.take_add_one, List.take_add_one, HT.out, HX.out.1, HX.out.2])
          go_wp2_with fail
          go_quiet (fail)
          go_wp2_with fail
          have hB2 := hB.trans ((below_drewN wr nq).mono hB.size)
          go_roundw
          case rel => exact ⟨k + 1, by omega, by go_num, HT2, hB2⟩
          case measure => simp [intOf]; omega
        · have hd : decide (xs = ys) = false := decide_eq_false (fun h => hpq (by have h1 := HX.out.1; rw [h, HX.out.2] at h1; exact (Option.some.inj h1).symm))
          have HD := Lib.hid hd
          clear hd
          go_wp2_with fail
          go_quiet (fail)
          go_wp2_with fail
          rw [HD.out]
          go_ret
          exact ⟨rfl, hB.trans ((below_drewN wr nq).mono hB.size)⟩
      · obtain rfl : k = na := by omega
        have hd : decide (xs = ys) = true := decide_eq_true (by
          have h := HT.out
          rw [List.take_of_length_le (by rw [← HN.out.1]; exact Nat.le_refl _), List.take_of_length_le (by rw [← HN.out.2]; exact Nat.le_refl _)] at h
          exact h)
        have HD := Lib.hid hd
        clear hd
        go_wp2_with fail
        rw [HD.out]
        go_ret
        exact ⟨rfl, hB⟩
  · have hd : decide (xs = ys) = false := decide_eq_false (fun h => hn (by rw [hna, hnb, h]))
    have hn' : ¬ ((na : Int) = nb) := by omega
    rw [hd]
    clear hd hna hnb HA HB
    go_enter Tryz.func12, Tryz.ntmps12
    go_wp2_with fail
    go_ret
    exact ⟨rfl, Below.refl _ _⟩
theorem count_snoc (l : List Int) (n x : Int) : (l ++ [x]).count n = if x = n then l.count n + 1 else l.count n := by
  rw [List.count_append]
  by_cases h : x = n
  · subst h; simp
  · simp [h]
set_option maxRecDepth 100000 in
set_option maxHeartbeats 3200000 in
theorem rmany_any (l : List Int) (n : Int) (A : Option Addr) (N c : Nat) (w : World) (hN : N = l.length) (hb : N ≤ 100000) (hA : CellsS w A (intCs l)) :
    Calls Tryz.prog 32 #[.agg #[.slice A N c], .int .i64 n] w fun e w' => e = .returned (.int .i64 (l.count n : Nat)) ∧ Below w.heap.size w w' := by
  have HA := Lib.hid hA; clear hA
  have HN := Lib.hid hN; clear hN
  go_enter Tryz.func32, Tryz.ntmps32
  go_wp2_with fail
  generalize hW : World.alloc _ _ = W0
  have hR : Row W0 w.heap.size [.slice A N c] := by rw [← hW]; exact Row.at rfl [_] _
  have hB0 : Below w.heap.size w W0 := by rw [← hW]; exact (Below.refl _ _).alloc (Nat.le_refl _) _
  clear hW
  have HR := Lib.hid (And.intro hR hB0)
  clear hR hB0
  go_loopw [5, 6] (fun t i wr => ∃ k m : Nat, k ≤ N ∧ m ≤ k ∧ i = .int .i64 k ∧ t = .int .i64 m ∧ Hid ((l.take k).count n = m) ∧ wr = W0) (fun _ i _ => N - (intOf i).toNat)
  case atStart => exact ⟨0, 0, Nat.zero_le _, Nat.le_refl _, rfl, rfl, Lib.hid rfl, rfl⟩
  case round =>
    obtain ⟨k, m, hk, hmk, rfl, rfl, HC, rfl⟩ := hrel
    have x0 := HR.out.1.c 0 rfl
    by_cases hkn : k < N
    · obtain ⟨p, hpk⟩ : ∃ p, l[k]? = some p := ⟨_, List.getElem?_eq_getElem (by rw [← HN.out]; exact hkn)⟩
      obtain ⟨b, o, rfl, hl⟩ := HA.out (by rw [intCs_len, ← HN.out]; omega)
      have c0 : wr.cell? ⟨b, o + k, none⟩ = some (.int .i64 p) := (hl.after HR.out.2).2 _ _ (intCs_get hpk)
      have HT : Hid (l.take (k + 1) = l.take k ++ [p]) := Lib.hid (by rw [List.take_add_one, hpk]; rfl)
      have hk1 : (k : Int) < N := by omega
      clear hl hpk
      by_cases hpn : p = n
      · subst hpn
        have HC2 : Hid ((l.take (k + 1)).count p = m + 1) := Lib.hid (by rw [HT.out, count_snoc, if_pos rfl, HC.out])
        go_wp2_with fail
        go_roundw
        case rel => exact ⟨k + 1, m + 1, by omega, by omega, by go_num, by go_num, HC2, trivial⟩
        case measure => simp [intOf]; omega
      · have HC2 : Hid ((l.take (k + 1)).count n = m) := Lib.hid (by rw [HT.out, count_snoc, if_neg hpn, HC.out])
        go_wp2_with fail
        go_roundw
        case rel => exact ⟨k + 1, m, by omega, by omega, by go_num, by go_num, HC2, trivial⟩
        case measure => simp [intOf]; omega
    · obtain rfl : k = N := by omega
      have hd : l.count n = m := by have h := HC.out; rw [List.take_of_length_le (by rw [← HN.out]; exact Nat.le_refl _)] at h; exact h
      have HD := Lib.hid hd
      clear hd
      go_wp2_with fail
      rw [HD.out]
      go_ret
      exact ⟨rfl, HR.out.2⟩
end Go.Proofs.YtjhcddlhhfjnaaaGreatDoor
