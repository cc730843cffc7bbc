/- Contracts of Tags.With and Same. -/
import Derived.Test.YtjhcddlhhfjnaaaGreatDoorTM
import Derived.BigQuiet
import Derived.Deep.QuietTactic
namespace Go.Proofs.YtjhcddlhhfjnaaaGreatDoor
open Go.RowKit Go.Sort

set_option maxRecDepth 100000 in
set_option maxHeartbeats 3200000 in
theorem with_any (xs ys : List (Int × Int)) (A B : Option Addr) (na nb ca cb : Nat) (w : World) (hna : na = xs.length) (hnb : nb = ys.length) (ha : na ≤ 900) (hb : nb ≤ 900) (hca : na ≤ ca) (hcb : nb ≤ cb) (hA : CellsS w A (cntCs xs)) (hB : CellsS w B (cntCs ys)) (ta : Times xs) (tb : Times ys) :
    Calls Tryz.prog 18 #[.agg #[.slice A na ca], .agg #[.slice B nb cb]] w (TagPost w w.heap.size (fromE (mrg xs ys)) (fromL (mrg xs ys))) := by
  have hml := mrg_len xs ys
  have HTg := Lib.hid (fun W (hW : Below w.heap.size w W) => together_any xs ys A B na nb ca cb W hna hnb (by omega) (by omega) hca hcb (hA.after hW) (hB.after hW) ta tb)
  have HFr := Lib.hid (fun W A' N' c' B' (h1 : N' = (mrg xs ys).length) (h2 : N' ≤ c') (h4 : ∀ a, A' = some a → B' ≤ a.block) (h3 : CellsS W A' (cntCs (mrg xs ys))) => from_any (mrg xs ys) A' N' c' B' W h1 (by omega) h2 h4 h3)
  clear hA hB ta tb hml hca hcb hna hnb
  generalize mrg xs ys = zs at HTg HFr ⊢
  go_enter Tryz.func18, Tryz.ntmps18
  go_wp2_with fail
  generalize hW : World.alloc _ _ = W0
  have hR2 : Row W0 (w.heap.size + 1 + 1) [.slice none 0 0] := by rw [← hW]; exact Row.at (by simp) [_] _
  have hB0 : Below w.heap.size w W0 := by rw [← hW]; exact (((Below.refl _ _).alloc (Nat.le_refl _) _).alloc (by simp) _).alloc (by simp; omega) _
  have hz0 : w.heap.size + 3 ≤ W0.heap.size := by rw [← hW]; simp
  clear hW
  refine (HTg.out _ hB0).mono ?_
  rintro e w2 ⟨A2, N2, c2, rfl, hN2, hC2, hc2, hf2, hb2⟩
  have HF := Lib.hid (HFr.out w2 A2 N2 c2 W0.heap.size hN2 hc2 hf2 hC2)
  have r2 := hR2.after hb2
  have hB2 := hB0.trans (hb2.mono hB0.size)
  clear HTg HFr hN2 hC2 hc2 hf2 hb2 hB0 hR2
  go_wp2_with fail
  refine HF.out.mono ?_
  rintro e w3 ⟨A3, N3, c3, rfl, hN3, hC3, hc3, hf3, hb3⟩
  have r3 := r2.after hb3
  have y0 := r3.c 0 rfl
  have f0 := r3.f 0 rfl
  have z0 := (r3.set 0 (by simp) (.slice A3 N3 c3)).c 0 rfl
  have HP : Hid (TagPost w w.heap.size (fromE zs) (fromL zs) (.returned (.tuple #[.agg #[.slice A3 N3 c3], .int .i64 (fromE zs)])) (w3.setCell ⟨w.heap.size + 1 + 1, 0, none⟩ (.slice A3 N3 c3))) :=
    Lib.hid ⟨A3, N3, c3, rfl, hN3, hC3.put (fun _ a ha => by have := hf3 a ha; show a.block ≠ w.heap.size + 1 + 1; omega), hc3, (fun a ha => by have := hf3 a ha; omega), below_put1 (hB2.trans (hb3.mono hB2.size)) (by omega) 0 _⟩
  clear hN3 hC3 hc3 hf3 hb3 r3 r2 hB2 HF
  go_wp2_with fail
  exact bodyPost_ret (v := .tuple #[.agg #[.slice A3 N3 c3], .int .i64 (fromE zs)]) (by simp [results, Tryz.results18, go_sem, z0]) rfl HP.out
theorem neqCnt (a b c d : Int) (W : World) : (binOp .neq 69 (.agg #[.int .i64 a, .int .i64 b]) (.agg #[.int .i64 c, .int .i64 d])).run Tryz.prog W = .ok (.bool (!(a == c && b == d))) W := by
  have u := Tryz.underlying69
  rw [run_neq_struct]
  go_simp
  by_cases h1 : a = c <;> by_cases h2 : b = d <;> simp [h1, h2]
theorem below_drewN (W : World) (n : Nat) : Below W.heap.size W (W.drewN n) := ⟨rfl, rfl, rfl, Nat.le_refl _, fun _ _ => rfl⟩
set_option maxRecDepth 100000 in
set_option maxHeartbeats 3200000 in
/-- slices.Equal at counts. -/
theorem equal_any (xs ys : List (Int × Int)) (A B : Option Addr) (na nb ca cb : Nat) (w : World) (hna : na = xs.length) (hnb : nb = ys.length) (ha : na ≤ 900) (hA : CellsS w A (cntCs xs)) (hB : CellsS w B (cntCs ys)) :
    Calls Tryz.prog 39 #[.slice A na ca, .slice B nb cb] w fun e w' => e = .returned (.bool (decide (xs = ys))) ∧ Below w.heap.size w w' := by
  have HA := Lib.hid hA; clear hA
  have HB := Lib.hid hB; clear hB
  by_cases hn : na = nb
  · subst hn
    have HN := Lib.hid (And.intro hna hnb); clear hna hnb
    go_enter Tryz.func39, Tryz.ntmps39
    go_wp2_with fail
    go_loopw [13] (fun i wr => ∃ k : Nat, k ≤ na ∧ i = .int .i64 k ∧ Hid (xs.take k = ys.take k) ∧ Below w.heap.size w wr) (fun i _ => na - (intOf i).toNat)
    case atStart => exact ⟨0, Nat.zero_le _, rfl, Lib.hid rfl, Below.refl _ _⟩
    case round =>
      obtain ⟨k, hk, rfl, HT, hB⟩ := hrel
      by_cases hkn : k < na
      · obtain ⟨p, hpk⟩ : ∃ p, xs[k]? = some p := ⟨_, List.getElem?_eq_getElem (by rw [← HN.out.1]; exact hkn)⟩
        obtain ⟨q, hqk⟩ : ∃ q, ys[k]? = some q := ⟨_, List.getElem?_eq_getElem (by rw [← HN.out.2]; exact hkn)⟩
        obtain ⟨b, o, rfl, hl⟩ := HA.out (by rw [cntCs_len, ← HN.out.1]; omega)
        obtain ⟨b', o', rfl, hl'⟩ := HB.out (by rw [cntCs_len, ← HN.out.2]; omega)
        have g := cntCs_get xs k p hpk
        have g' := cntCs_get ys k q hqk
        have c0 := (hl.after hB).2 _ _ g.1
        have c1 : wr.cell? ⟨b, o + k * 2 + 1, none⟩ = some (.int .i64 p.2) := (hl.after hB).2 _ _ g.2
        have d0 := (hl'.after hB).2 _ _ g'.1
        have d1 : wr.cell? ⟨b', o' + k * 2 + 1, none⟩ = some (.int .i64 q.2) := (hl'.after hB).2 _ _ g'.2
        have hk1 : (k : Int) < na := by omega
        have HX := Lib.hid (And.intro hpk hqk)
        have n1 := neqCnt p.1 p.2 q.1 q.2
        clear g g' hl hl' hpk hqk
        by_cases hpq : p = q
        · subst hpq
          rw [show (!(p.1 == p.1 && p.2 == p.2)) = false by simp] at n1
          have HT2 : Hid (xs.take (k + 1) = ys.take (k + 1)) := Lib.hid (by rw [List.take_add_one, List.take_add_one, HT.out, HX.out.1, HX.out.2])
          go_wp2_with fail
          go_quiet (fail)
          go_wp2_with fail
          have hB2 := hB.trans ((below_drewN wr nq).mono hB.size)
          go_roundw
          case rel => exact ⟨k + 1, by omega, by go_num, HT2, hB2⟩
          case measure => simp [intOf]; omega
        · have hd : decide (xs = ys) = false := decide_eq_false (fun h => hpq (by have h1 := HX.out.1; rw [h, HX.out.2] at h1; exact (Option.some.inj h1).symm))
          rw [show (!(p.1 == q.1 && p.2 == q.2)) = true by
            obtain ⟨p1, p2⟩ := p
            obtain ⟨q1, q2⟩ := q
            simp only [Prod.mk.injEq, not_and] at hpq
            by_cases h1 : p1 = q1
            · simp [h1, hpq h1]
            · simp [h1]] at n1
          have HD := Lib.hid hd
          clear hd hpq
          go_wp2_with fail
          go_quiet (fail)
          go_wp2_with fail
          rw [HD.out]
          go_ret
          exact ⟨rfl, hB.trans ((below_drewN wr nq).mono hB.size)⟩
      · obtain rfl : k = na := by omega
        have hd : decide (xs = ys) = true := decide_eq_true (by
          have h := HT.out
          rw [List.take_of_length_le (by rw [← HN.out.1]; exact Nat.le_refl _), List.take_of_length_le (by rw [← HN.out.2]; exact Nat.le_refl _)] at h
          exact h)
        have HD := Lib.hid hd
        clear hd
        go_wp2_with fail
        rw [HD.out]
        go_ret
        exact ⟨rfl, hB⟩
  · have hd : decide (xs = ys) = false := decide_eq_false (fun h => hn (by rw [hna, hnb, h]))
    have hn' : ¬ ((na : Int) = nb) := by omega
    rw [hd]
    clear hd hna hnb HA HB
    go_enter Tryz.func39, Tryz.ntmps39
    go_wp2_with fail
    go_ret
    exact ⟨rfl, Below.refl _ _⟩
set_option maxHeartbeats 1600000 in
theorem same_any (xs ys : List (Int × Int)) (A B : Option Addr) (na nb ca cb : Nat) (w : World) (hna : na = xs.length) (hnb : nb = ys.length) (ha : na ≤ 900) (hA : CellsS w A (cntCs xs)) (hB : CellsS w B (cntCs ys)) :
    Calls Tryz.prog 17 #[.agg #[.slice A na ca], .agg #[.slice B nb cb]] w fun e w' => e = .returned (.bool (decide (xs = ys))) ∧ Below w.heap.size w w' := by
  have HE := Lib.hid (fun W (hW : Below w.heap.size w W) => equal_any xs ys A B na nb ca cb W hna hnb ha (hA.after hW) (hB.after hW))
  clear hA hB hna hnb ha
  generalize decide (xs = ys) = d at HE ⊢
  go_enter Tryz.func17, Tryz.ntmps17
  go_wp2_with fail
  generalize hW : World.alloc _ _ = W0
  have hB0 : Below w.heap.size w W0 := by rw [← hW]; exact ((Below.refl _ _).alloc (Nat.le_refl _) _).alloc (by simp) _
  clear hW
  refine (HE.out _ hB0).mono ?_
  rintro e w2 ⟨rfl, hb2⟩
  have hB2 := Lib.hid (hB0.trans (hb2.mono hB0.size))
  clear hb2 hB0 HE
  go_wp2_with fail
  go_ret
  exact ⟨rfl, hB2.out⟩
end Go.Proofs.YtjhcddlhhfjnaaaGreatDoor
