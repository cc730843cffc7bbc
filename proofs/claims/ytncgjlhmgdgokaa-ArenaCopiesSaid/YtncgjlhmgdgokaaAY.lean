/- The document's arena over lists: Give; no condition. -/
import Derived.Test.YtncgjlhmgdgokaaAX
namespace Go.Proofs.Ytncgjlhmgdgokaa
open Go.RowKit Go.Sort ArenaMath Go.Maps

set_option maxRecDepth 100000 in
set_option maxHeartbeats 3200000 in
theorem rgive_any (many x : Int) (L : List Int) (A : Option Addr) (n c : Nat) (w : World) (hn : n = L.length) (hb : n ≤ 100000) (hA : CellsS w A (intCs L)) :
    Calls Try.prog 43 #[rv many A n c, .int .i64 x] w fun e w' => ∃ v,
      (¬ (0 ≤ x ∧ x < many) → e = .returned (.tuple #[v, .int .i64 4]) ∧ RP w A many L v w') ∧
      ((0 ≤ x ∧ x < many) → x ∉ L → e = .returned (.tuple #[v, .int .i64 5]) ∧ RP w A many L v w') ∧
      ((0 ≤ x ∧ x < many) → x ∈ L → e = .returned (.tuple #[v, .int .i64 0]) ∧ RP w A many (delR x L) v w') := by
  obtain ⟨P, HIN⟩ : ∃ P : Prop, Hid ((0 ≤ x ∧ x < many) = P) := ⟨_, Lib.hid rfl⟩
  rw [HIN.out]
  obtain ⟨rl, HQ⟩ : ∃ rl, Hid (delR x L = rl) := ⟨_, Lib.hid rfl⟩
  rw [HQ.out]
  have HA := Lib.hid hA
  have HN := Lib.hid hn
  have HT := Lib.hid (fun W (hW : Below w.heap.size w W) => rtaken_any many x L A n c W hn hb (hA.after hW))
  unfold rv at *
  clear hA hn

  go_enter Try.func43, Try.ntmps43
  go_upto_region 1 with fail
  generalize hW : World.alloc _ _ = W0
  have hR2 : Row W0 w.heap.size [.int .i64 many, .slice A n c] := by rw [← hW]; exact (Row.at rfl [_, _] _).alloc _
  have hR4 : Row W0 (w.heap.size + 1) [.int .i64 0, .slice none 0 0] := by rw [← hW]; exact Row.at (by simp) [_, _] _
  have hB0 : Below w.heap.size w W0 := by rw [← hW]; exact ((Below.refl _ _).alloc (Nat.le_refl _) _).alloc (by simp) _
  clear hW
  by_cases h0 : x < 0
  · have e0 : decide (x < 0) = true := decide_eq_true h0
    have p0 := hR2.c 0 rfl
    have p1 := hR2.c 1 rfl
    have s0 := hR4.f 0 rfl
    have r6 := hR4.set 0 (by simp) (.int .i64 many)
    have s1 := hR4.f 1 rfl
    have s1' := r6.f 1 rfl
    have t0 := hR4.c 0 rfl
    have t1 := hR4.c 1 rfl
    have t1' := r6.c 1 rfl
    have r5 := r6.set 1 (by simp) (.slice A n c)
    have z0 := r5.c 0 rfl
    have z1 := r5.c 1 rfl
    have HF : Hid (RP w A many L (.agg #[.int .i64 many, .slice A n c]) ((W0.setCell ⟨w.heap.size + 1, 0, none⟩ (.int .i64 many)).setCell ⟨w.heap.size + 1, 1, none⟩ (.slice A n c))) := Lib.hid (by
      have hbx := below_put1 (below_put1 hB0 (Nat.le_succ _) 0 (.int .i64 many)) (Nat.le_succ _) 1 (.slice A n c)
      exact ⟨A, n, c, rfl, HN.out, HA.out.after hbx, fun _ h => .inl h, hbx⟩)
    clear r6 r5 hR2 hR4 hB0
    go_wp2_with fail
    refine bodyPost_ret (v := .tuple #[.agg #[.int .i64 many, .slice A n c], .int .i64 4]) (by simp [results, Try.results43, go_sem, z0, z1]) rfl ?_
    exact ⟨_, fun _ => ⟨rfl, HF.out⟩, fun h => absurd (HIN.out.symm ▸ h : 0 ≤ x ∧ x < many) (by omega), fun h => absurd (HIN.out.symm ▸ h : 0 ≤ x ∧ x < many) (by omega)⟩
  by_cases h1 : many ≤ x
  · have e0 : decide (x < 0) = false := decide_eq_false h0
    have e1 : decide (many ≤ x) = true := decide_eq_true h1
    have p0 := hR2.c 0 rfl
    have p1 := hR2.c 1 rfl
    have s0 := hR4.f 0 rfl
    have r6 := hR4.set 0 (by simp) (.int .i64 many)
    have s1 := hR4.f 1 rfl
    have s1' := r6.f 1 rfl
    have t0 := hR4.c 0 rfl
    have t1 := hR4.c 1 rfl
    have t1' := r6.c 1 rfl
    have r5 := r6.set 1 (by simp) (.slice A n c)
    have z0 := r5.c 0 rfl
    have z1 := r5.c 1 rfl
    have HF : Hid (RP w A many L (.agg #[.int .i64 many, .slice A n c]) ((W0.setCell ⟨w.heap.size + 1, 0, none⟩ (.int .i64 many)).setCell ⟨w.heap.size + 1, 1, none⟩ (.slice A n c))) := Lib.hid (by
      have hbx := below_put1 (below_put1 hB0 (Nat.le_succ _) 0 (.int .i64 many)) (Nat.le_succ _) 1 (.slice A n c)
      exact ⟨A, n, c, rfl, HN.out, HA.out.after hbx, fun _ h => .inl h, hbx⟩)
    clear r6 r5 hR2 hR4 hB0
    go_wp2_with fail
    refine bodyPost_ret (v := .tuple #[.agg #[.int .i64 many, .slice A n c], .int .i64 4]) (by simp [results, Try.results43, go_sem, z0, z1]) rfl ?_
    exact ⟨_, fun _ => ⟨rfl, HF.out⟩, fun h => absurd (HIN.out.symm ▸ h : 0 ≤ x ∧ x < many) (by omega), fun h => absurd (HIN.out.symm ▸ h : 0 ≤ x ∧ x < many) (by omega)⟩
  have e0 : decide (x < 0) = false := decide_eq_false h0
  have e1 : decide (many ≤ x) = false := decide_eq_false h1
  have HIP : Hid P := Lib.hid (HIN.out ▸ ⟨by omega, by omega⟩)
  clear h0 h1
  have q0 := hR2.c 0 rfl
  have q1 := hR2.c 1 rfl
  go_wp2_with fail
  refine (HT.out _ hB0).mono ?_
  rintro e WW ⟨rfl, hb1⟩
  replace hR2 := hR2.after hb1
  replace hR4 := hR4.after hb1
  have hB1 := hB0.trans (hb1.mono hB0.size)
  clear hb1 hB0 q0 q1 e0 e1
  by_cases hx : x ∈ L
  case neg =>
    rw [decide_eq_false hx]
    have p0 := hR2.c 0 rfl
    have p1 := hR2.c 1 rfl
    have s0 := hR4.f 0 rfl
    have r6 := hR4.set 0 (by simp) (.int .i64 many)
    have s1 := hR4.f 1 rfl
    have s1' := r6.f 1 rfl
    have t0 := hR4.c 0 rfl
    have t1 := hR4.c 1 rfl
    have t1' := r6.c 1 rfl
    have r5 := r6.set 1 (by simp) (.slice A n c)
    have z0 := r5.c 0 rfl
    have z1 := r5.c 1 rfl
    have HF : Hid (RP w A many L (.agg #[.int .i64 many, .slice A n c]) ((WW.setCell ⟨w.heap.size + 1, 0, none⟩ (.int .i64 many)).setCell ⟨w.heap.size + 1, 1, none⟩ (.slice A n c))) := Lib.hid (by
      have hbx := below_put1 (below_put1 hB1 (Nat.le_succ _) 0 (.int .i64 many)) (Nat.le_succ _) 1 (.slice A n c)
      exact ⟨A, n, c, rfl, HN.out, HA.out.after hbx, fun _ h => .inl h, hbx⟩)
    clear r6 r5 hR2 hR4 hB1
    go_wp2_with fail
    refine bodyPost_ret (v := .tuple #[.agg #[.int .i64 many, .slice A n c], .int .i64 5]) (by simp [results, Try.results43, go_sem, z0, z1]) rfl ?_
    exact ⟨_, fun h => absurd HIP.out h, fun _ _ => ⟨rfl, HF.out⟩, fun _ h => absurd h hx⟩
  case pos =>
    rw [decide_eq_true hx]
    have HX0 := Lib.hid hx
    clear hx
    have hz : w.heap.size + 2 ≤ WW.heap.size := hR4.1
    have HR := Lib.hid (And.intro hR2 (And.intro hR4 (And.intro hB1 hz)))
    clear hR2 hR4 hB1 hz
    go_wp2_with fail
    go_loopw [6, 7] (fun s i wr => ∃ (k m1 c1 : Nat) (A1 : Option Addr) (xs : List Int), k ≤ n ∧ i = .int .i64 k ∧ s = .slice A1 m1 c1 ∧ m1 ≤ k ∧ Hid (Own 3 1 wr (w.heap.size + 2) A1 m1 c1 (intCs xs)) ∧ Hid (rl = xs ++ delR x (L.drop k)) ∧ Hid (Below (w.heap.size + 2) WW wr)) (fun _ i _ => n - (intOf i).toNat)
    case atStart => exact ⟨0, 0, 0, none, [], Nat.zero_le _, rfl, rfl, by omega, Lib.hid (Own.nil _ _ _ _), Lib.hid HQ.out.symm, Lib.hid (Below.refl _ _)⟩
    case round =>
      obtain ⟨k, m1, c1, A1, xs, hk, rfl, rfl, hm1, HO, HI, HB⟩ := hrel
      have hzr : w.heap.size + 2 ≤ wr.heap.size := Nat.le_trans HR.out.2.2.2 HB.out.size
      have x1 := (HR.out.1.below HB.out (by omega)).c 1 rfl
      by_cases hkn : k < n
      · obtain ⟨p, hpk⟩ : ∃ p, L[k]? = some p := ⟨_, List.getElem?_eq_getElem (by rw [← HN.out]; exact hkn)⟩
        obtain ⟨b, o, rfl, hl⟩ := HA.out (by rw [intCs_len, ← HN.out]; omega)
        have hbl := hl.1
        have HC := Lib.hid (hl.after HR.out.2.2.1)
        have c0 : wr.cell? ⟨b, o + k, none⟩ = some (.int .i64 p) := (HC.out.below HB.out (by omega)).2 _ _ (intCs_get hpk)
        have HD : Hid (L.drop k = p :: L.drop (k + 1)) := Lib.hid (by
          obtain ⟨h1, h2⟩ := List.getElem?_eq_some_iff.1 hpk
          rw [List.drop_eq_getElem_cons h1, h2])
        have hk1 : (k : Int) < n := by omega
        clear hl hpk
        by_cases hpx : p = x
        · have HI9 : Hid (rl = xs ++ delR x (L.drop (k + 1))) := Lib.hid (by rw [HI.out, HD.out, hpx]; simp [delR])
          have hpx' : (p == x) = true := by simpa using hpx
          clear hpx HI HD
          go_wp2_with fail
          go_roundw
          case rel => exact ⟨k + 1, m1, c1, A1, xs, by omega, by go_num, rfl, by omega, HO, HI9, HB⟩
          case measure => simp [intOf]; omega
        · have HI9 : Hid (rl = (xs ++ [p]) ++ delR x (L.drop (k + 1))) := Lib.hid (by rw [HI.out, HD.out]; simp [delR, hpx])
          have hpx' : (p == x) = false := by simpa using hpx
          clear hpx HI HD
          go_wp2_with (at_builtin; refine wpList_app rfl (.tmp 36) (.tmp 42) elemInt rfl (w.heap.size + 2) A1 m1 c1 (intCs xs) (some ⟨_, 0, none⟩) 1 1 [.int .i64 p] rfl rfl (HO.out.alloc _) (cells_row (Row.at rfl [.int .i64 p] _)) rfl (intCs_one [p]) (by omega) (by simp; omega) ?_)
          intro A9 c9 W9 hO9 hg9 _
          have hb9 := below_grown hg9 (by simp; omega) HO.out.freshB
          have HO9 : Hid (Own 3 1 W9 (w.heap.size + 2) A9 (m1 + 1) c9 (intCs (xs ++ [p]))) := Lib.hid (by rw [intCs_append]; exact hO9)
          have HB9 : Hid (Below (w.heap.size + 2) WW W9) := Lib.hid ((HB.out.trans ((Below.refl _ _).alloc (by omega) _)).trans hb9)
          clear hO9 hg9 hb9
          go_wp2_with fail
          go_roundw
          case rel => exact ⟨k + 1, m1 + 1, c9, A9, xs ++ [p], by omega, by go_num, rfl, by omega, HO9, HI9, HB9⟩
          case measure => simp [intOf]; omega
      · obtain rfl : k = n := by omega
        have hend : L.drop k = [] := List.drop_of_length_le (by rw [← HN.out]; exact Nat.le_refl _)
        have hI := HI.out
        rw [hend] at hI
        have HX : Hid (rl = xs) := Lib.hid (by rw [hI]; simp [delR])
        clear hend HI hI
        obtain ⟨P2, P4, PB, PZ⟩ := HR.out
        have r2 := P2.below HB.out (by omega)
        have r4 := P4.below HB.out (by omega)
        have hzr9 : w.heap.size + 2 ≤ wr.heap.size := Nat.le_trans PZ HB.out.size
        have q2 := r2.c 1 rfl
        have g2 := r2.f 1 rfl
        have r2' := r2.set 1 (by simp) (.slice A1 m1 c1)
        have r4' := r4.other (p := ⟨w.heap.size, 1, none⟩) (by simp) (.slice A1 m1 c1)
        have HP := Lib.hid (And.intro r2' r4')
        have hbz : Below w.heap.size w wr := PB.trans (HB.out.mono (by omega))
        have HBz := Lib.hid (below_put1 hbz (Nat.le_refl _) 1 (.slice A1 m1 c1))
        have HOz := Lib.hid (HO.out.put (p := ⟨w.heap.size, 1, none⟩) (fun g hg => by have := HO.out.freshB g hg; show g ≠ w.heap.size; omega) (.slice A1 m1 c1))
        clear r2' r4' hbz P2 P4 PB PZ r2 r4 HO HB
        go_upto_region 12 with fail
        generalize hW5 : World.setCell _ _ _ = W5
        rw [hW5] at HP HBz HOz
        have p0 := HP.out.1.c 0 rfl
        have p1 := HP.out.1.c 1 rfl
        have s0 := HP.out.2.f 0 rfl
        have s1 := HP.out.2.f 1 rfl
        have t0 := HP.out.2.c 0 rfl
        have t1 := HP.out.2.c 1 rfl
        have r6 := HP.out.2.set 0 (by simp) (.int .i64 many)
        have t1' := r6.c 1 rfl
        have s1' := r6.f 1 rfl
        have r5 := r6.set 1 (by simp) (.slice A1 m1 c1)
        have z0 := r5.c 0 rfl
        have z1 := r5.c 1 rfl
        have HF : Hid (RP w A many rl (.agg #[.int .i64 many, .slice A1 m1 c1]) ((W5.setCell ⟨w.heap.size + 1, 0, none⟩ (.int .i64 many)).setCell ⟨w.heap.size + 1, 1, none⟩ (.slice A1 m1 c1))) := Lib.hid (by
          have hl := HOz.out.len
          rw [intCs_len] at hl
          have hfr := HOz.out.fresh
          refine ⟨A1, m1, c1, rfl, by rw [HX.out]; omega, ?_, fun a ha => .inr ⟨by have := hfr a ha; omega, by have := HOz.out.ltB a ha; simpa [World.setCell] using this⟩, below_put1 (below_put1 HBz.out (Nat.le_succ _) 0 _) (Nat.le_succ _) 1 _⟩
          rw [HX.out]
          exact (HOz.out.cells.put (p := ⟨w.heap.size + 1, 0, none⟩) (fun _ a ha => by have := hfr a ha; show a.block ≠ w.heap.size + 1; omega)).put (p := ⟨w.heap.size + 1, 1, none⟩) (fun _ a ha => by have := hfr a ha; show a.block ≠ w.heap.size + 1; omega))
        clear r6 r5 HP HBz HOz
        go_wp2_with fail
        refine bodyPost_ret (v := .tuple #[.agg #[.int .i64 many, .slice A1 m1 c1], .int .i64 0]) (by simp [results, Try.results43, go_sem, z0, z1]) rfl ?_
        exact ⟨_, fun h => absurd HIP.out h, fun _ h => absurd HX0.out h, fun _ _ => ⟨rfl, HF.out⟩⟩
end Go.Proofs.Ytncgjlhmgdgokaa
