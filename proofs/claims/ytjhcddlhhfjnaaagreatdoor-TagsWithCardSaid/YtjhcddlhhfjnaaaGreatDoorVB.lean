/- The document's Kinds over plain lists. -/
import Derived.Test.YtjhcddlhhfjnaaaGreatDoorVA
import Derived.Test.YtjhcddlhhfjnaaaGreatDoorTN
namespace Go.Proofs.YtjhcddlhhfjnaaaGreatDoor
open Go.RowKit Go.Sort

theorem kinds_snoc (y x : Int) : ∀ l : List Int, kindsL (l ++ [y, x]) = if y = x then kindsL (l ++ [y]) else kindsL (l ++ [y]) ++ [x]
  | [] => by
    show (if y = x then [x] else [y, x]) = if y = x then [y] else [y, x]
    by_cases h : y = x
    · simp [h]
    · simp [h]
  | z :: l => by
    have ih := kinds_snoc y x l
    cases l with
    | nil =>
      show (if z = y then (if y = x then [x] else [y, x]) else z :: (if y = x then [x] else [y, x])) = if y = x then (if z = y then [y] else [z, y]) else (if z = y then [y] else [z, y]) ++ [x]
      by_cases h : y = x <;> by_cases h' : z = y <;> simp [h, h']
    | cons v r =>
      show (if z = v then kindsL (v :: (r ++ [y, x])) else z :: kindsL (v :: (r ++ [y, x]))) = if y = x then (if z = v then kindsL (v :: (r ++ [y])) else z :: kindsL (v :: (r ++ [y]))) else (if z = v then kindsL (v :: (r ++ [y])) else z :: kindsL (v :: (r ++ [y]))) ++ [x]
      have ih' : kindsL (v :: (r ++ [y, x])) = if y = x then kindsL (v :: (r ++ [y])) else kindsL (v :: (r ++ [y])) ++ [x] := ih
      rw [ih']
      by_cases h : y = x <;> by_cases h' : z = v <;> simp [h, h']
theorem kinds_len : ∀ l : List Int, (kindsL l).length ≤ l.length
  | [] => Nat.le_refl _
  | [_] => Nat.le_refl _
  | x :: y :: r => by
    have ih := kinds_len (y :: r)
    rw [kindsL]
    split
    · simp at ih ⊢; omega
    · simp at ih ⊢; omega
set_option maxRecDepth 100000 in
set_option maxHeartbeats 3200000 in
theorem rkinds_any (l : List Int) (A : Option Addr) (N c : Nat) (w : World) (hN : N = l.length) (hb : N ≤ 100000) (hA : CellsS w A (intCs l)) :
    Calls Tryz.prog 30 #[.agg #[.slice A N c]] w (IntPost w (kindsL l)) := by
  have HA := Lib.hid hA; clear hA
  have HN := Lib.hid hN; clear hN
  go_enter Tryz.func30, Tryz.ntmps30
  go_wp2_with fail
  generalize hW : World.alloc _ _ = W0
  have hR : Row W0 w.heap.size [.slice A N c] := by rw [← hW]; exact Row.at rfl [_] _
  have hB0 : Below w.heap.size w W0 := by rw [← hW]; exact (Below.refl _ _).alloc (Nat.le_refl _) _
  have hz : W0.heap.size = w.heap.size + 1 := by rw [← hW]; simp
  clear hW
  have HR := Lib.hid (And.intro hR (And.intro hB0 hz))
  clear hR hB0 hz
  go_loopw [3, 4] (fun s i wr => ∃ (k m c1 : Nat) (A1 : Option Addr), k ≤ N ∧ i = .int .i64 k ∧ s = .slice A1 m c1 ∧ m ≤ k ∧ Hid (Own 2 1 wr (w.heap.size + 1) A1 m c1 (intCs (kindsL (l.take k)))) ∧ Hid (Below (w.heap.size + 1) W0 wr)) (fun _ i _ => N - (intOf i).toNat)
  case atStart => exact ⟨0, 0, 0, none, Nat.zero_le _, rfl, rfl, Nat.le_refl _, Lib.hid (Own.nil _ _ _ _), Lib.hid (Below.refl _ _)⟩
  case round =>
    obtain ⟨k, m, c1, A1, hk, rfl, rfl, hmk, HO, HB⟩ := hrel
    have x0 := (HR.out.1.below HB.out (Nat.lt_succ_self _)).c 0 rfl
    by_cases hkn : k < N
    · obtain ⟨p, hpk⟩ : ∃ p, l[k]? = some p := ⟨_, List.getElem?_eq_getElem (by rw [← HN.out]; exact hkn)⟩
      obtain ⟨b, o, rfl, hl⟩ := HA.out (by rw [intCs_len, ← HN.out]; omega)
      have HC := Lib.hid (hl.after HR.out.2.1)
      have hc0 : ∀ j v, l[j]? = some v → wr.cell? ⟨b, o + j, none⟩ = some (.int .i64 v) := fun j v hj => by
        have h1 := (HC.out.below HB.out (by have := hl.1; omega)).2 _ _ (intCs_get hj)
        exact h1
      have c0 := hc0 k p hpk
      have HT : Hid (l.take (k + 1) = l.take k ++ [p]) := Lib.hid (by rw [List.take_add_one, hpk]; rfl)
      have hk1 : (k : Int) < N := by omega
      by_cases hk0 : k = 0
      · subst hk0
        have HK : Hid (kindsL (l.take (0 + 1)) = kindsL (l.take 0) ++ [p]) := Lib.hid (by rw [HT.out]; rfl)
        clear hl hpk hc0
        go_wp2_with fail
        go_quiet (fail)
        have hD := below_drewN wr nq
        have HO2 := Lib.hid (HO.out.after hD)
        have HB2 := Lib.hid (HB.out.trans (hD.mono (by rw [← HR.out.2.2]; exact HB.out.size)))
        have y0 : (wr.drewN nq).cell? ⟨w.heap.size, 0, none⟩ = some (.slice (some ⟨b, o, none⟩) N c) := x0
        have y1 : (wr.drewN nq).cell? ⟨b, o, none⟩ = some (.int .i64 p) := c0
        generalize wr.drewN nq = wd at *
        clear hD x0 c0 HO HB
        have hz : w.heap.size + 1 ≤ wd.heap.size := by rw [← HR.out.2.2]; exact HB2.out.size
        go_wp2_with (at_builtin; refine wpList_app rfl (.tmp 28) (.tmp 34) elemI64 rfl (w.heap.size + 1) A1 m c1 (intCs (kindsL (l.take 0))) (some ⟨_, 0, none⟩) 1 1 [.int .i64 p] rfl rfl (HO2.out.alloc _) (cells_row (Row.at rfl [.int .i64 p] _)) rfl (intCs_one [p]) (by omega) (by simp; omega) ?_)
        intro A2 c2 W2 hO2 hg2 hb2
        have HO3 : Hid (Own 2 1 W2 (w.heap.size + 1) A2 (m + 1) c2 (intCs (kindsL (l.take (0 + 1))))) := Lib.hid (by rw [HK.out, intCs_append]; exact hO2)
        have HB3 : Hid (Below (w.heap.size + 1) W0 W2) := Lib.hid ((HB2.out.trans ((Below.refl _ _).alloc (Nat.le_trans hz (Nat.le_refl _)) _)).trans hb2)
        clear hO2 hg2 hb2 y0 y1 HO2 HB2
        go_wp2_with fail
        go_roundw
        case rel => exact ⟨0 + 1, m + 1, c2, A2, by omega, by go_num, rfl, by omega, HO3, HB3⟩
        case measure => simp [intOf]; omega
      · obtain ⟨j, hks⟩ : ∃ j : Nat, (k : Int) - 1 = j := ⟨k - 1, by omega⟩
        have HJ : Hid (k = j + 1) := Lib.hid (by omega)
        have hjn : j < N := by omega
        have hjn1 : (j : Int) < N := by omega
        obtain ⟨q, hqk⟩ : ∃ q, l[j]? = some q := ⟨_, List.getElem?_eq_getElem (by rw [← HN.out]; omega)⟩
        have d0 := hc0 j q hqk
        have HT1 : Hid (l.take k = l.take j ++ [q]) := Lib.hid (by rw [HJ.out, List.take_add_one, hqk]; rfl)
        have hk0' : ((k : Int) == 0) = false := by simpa using hk0
        clear hl hpk hc0 hqk hk0
        by_cases hpq : q = p
        · subst hpq
          have HK : Hid (kindsL (l.take (k + 1)) = kindsL (l.take k)) := Lib.hid (by
            rw [HT.out, HT1.out, List.append_assoc]
            exact (kinds_snoc q q (l.take j)).trans (if_pos rfl))
          go_wp2_with fail
          go_quiet (fail)
          have hD := below_drewN wr nq
          have HO2 : Hid (Own 2 1 (wr.drewN nq) (w.heap.size + 1) A1 m c1 (intCs (kindsL (l.take (k + 1))))) := Lib.hid (by rw [HK.out]; exact HO.out.after hD)
          have HB2 := Lib.hid (HB.out.trans (hD.mono (by rw [← HR.out.2.2]; exact HB.out.size)))
          generalize wr.drewN nq = wd at *
          clear hD x0 c0 HO HB
          go_wp2_with fail
          go_roundw
          case rel => exact ⟨k + 1, m, c1, A1, by omega, by go_num, rfl, by omega, HO2, HB2⟩
          case measure => simp [intOf]; omega
        · have HK : Hid (kindsL (l.take (k + 1)) = kindsL (l.take k) ++ [p]) := Lib.hid (by
            rw [HT.out, HT1.out, List.append_assoc]
            exact (kinds_snoc q p (l.take j)).trans (if_neg hpq))
          have hpq' : (p == q) = false := by simpa using fun h => hpq h.symm
          go_wp2_with fail
          go_quiet (fail)
          have hD := below_drewN wr nq
          have HO2 := Lib.hid (HO.out.after hD)
          have HB2 := Lib.hid (HB.out.trans (hD.mono (by rw [← HR.out.2.2]; exact HB.out.size)))
          have y0 : (wr.drewN nq).cell? ⟨w.heap.size, 0, none⟩ = some (.slice (some ⟨b, o, none⟩) N c) := x0
          have y1 : (wr.drewN nq).cell? ⟨b, o + k, none⟩ = some (.int .i64 p) := c0
          generalize wr.drewN nq = wd at *
          clear hD x0 c0 HO HB
          have hz : w.heap.size + 1 ≤ wd.heap.size := by rw [← HR.out.2.2]; exact HB2.out.size
          go_wp2_with (at_builtin; refine wpList_app rfl (.tmp 28) (.tmp 34) elemI64 rfl (w.heap.size + 1) A1 m c1 (intCs (kindsL (l.take k))) (some ⟨_, 0, none⟩) 1 1 [.int .i64 p] rfl rfl (HO2.out.alloc _) (cells_row (Row.at rfl [.int .i64 p] _)) rfl (intCs_one [p]) (by omega) (by simp; omega) ?_)
          intro A2 c2 W2 hO2 hg2 hb2
          have HO3 : Hid (Own 2 1 W2 (w.heap.size + 1) A2 (m + 1) c2 (intCs (kindsL (l.take (k + 1))))) := Lib.hid (by rw [HK.out, intCs_append]; exact hO2)
          have HB3 : Hid (Below (w.heap.size + 1) W0 W2) := Lib.hid ((HB2.out.trans ((Below.refl _ _).alloc (Nat.le_trans hz (Nat.le_refl _)) _)).trans hb2)
          clear hO2 hg2 hb2 y0 y1 HO2 HB2
          go_wp2_with fail
          go_roundw
          case rel => exact ⟨k + 1, m + 1, c2, A2, by omega, by go_num, rfl, by omega, HO3, HB3⟩
          case measure => simp [intOf]; omega
    · obtain rfl : k = N := by omega
      have hd : kindsL l = kindsL (l.take k) := by rw [List.take_of_length_le (by rw [← HN.out]; exact Nat.le_refl _)]
      have HP : Hid (IntPost w (kindsL l) (.returned (.slice A1 m c1)) wr) := by
        have h := HO.out
        rw [← hd] at h
        have hl := h.len
        rw [intCs_len] at hl
        exact Lib.hid ⟨A1, m, c1, rfl, by omega, h.cells, h.le_cap, fun a ha => Nat.le_trans (Nat.le_succ _) (h.fresh a ha), HR.out.2.1.trans (HB.out.mono (Nat.le_succ _))⟩
      clear hd
      go_wp2_with fail
      exact bodyPost_ret (v := .slice A1 m c1) (by simp [results, Tryz.results30, go_sem]) rfl HP.out
end Go.Proofs.YtjhcddlhhfjnaaaGreatDoor
