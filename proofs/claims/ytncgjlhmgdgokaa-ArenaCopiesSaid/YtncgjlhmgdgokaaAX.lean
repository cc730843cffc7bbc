/- The document's arena over lists: Claim, Give; no condition. -/
import Derived.Test.YtncgjlhmgdgokaaAW
namespace Go.Proofs.Ytncgjlhmgdgokaa
open Go.RowKit Go.Sort ArenaMath Go.Maps

set_option maxRecDepth 100000 in
set_option maxHeartbeats 3200000 in
theorem rclaim_any (many x : Int) (L : List Int) (A : Option Addr) (n c : Nat) (w : World) (hn : n = L.length) (hb : n ≤ 100000) (hA : CellsS w A (intCs L)) :
    Calls Try.prog 41 #[rv many A n c, .int .i64 x] w fun e w' => ∃ v,
      (¬ (0 ≤ x ∧ x < many) → e = .returned (.tuple #[v, .int .i64 4]) ∧ RP w A many L v w') ∧
      ((0 ≤ x ∧ x < many) → x ∈ L → e = .returned (.tuple #[v, .int .i64 210]) ∧ RP w A many L v w') ∧
      ((0 ≤ x ∧ x < many) → x ∉ L → e = .returned (.tuple #[v, .int .i64 0]) ∧ RP w A many (insR x L) v w') := by
  obtain ⟨P, HIN⟩ : ∃ P : Prop, Hid ((0 ≤ x ∧ x < many) = P) := ⟨_, Lib.hid rfl⟩
  rw [HIN.out]
  have HA := Lib.hid hA
  have HN := Lib.hid hn
  have HT := Lib.hid (fun W (hW : Below w.heap.size w W) => rtaken_any many x L A n c W hn hb (hA.after hW))
  have HWi := Lib.hid (fun W (hW : Below w.heap.size w W) => rwith_any many x L A n c W hn hb (hA.after hW))
  unfold rv at *
  clear hA hn

  go_enter Try.func41, Try.ntmps41
  go_upto_region 1 with fail
  generalize hW : World.alloc _ _ = W0
  have hR2 : Row W0 w.heap.size [.int .i64 many, .slice A n c] := by rw [← hW]; exact (Row.at rfl [_, _] _).alloc _
  have hR4 : Row W0 (w.heap.size + 1) [.int .i64 0, .slice none 0 0] := by rw [← hW]; exact Row.at (by simp) [_, _] _
  have hB0 : Below w.heap.size w W0 := by rw [← hW]; exact ((Below.refl _ _).alloc (Nat.le_refl _) _).alloc (by simp) _
  clear hW
  by_cases h0 : x < 0
  · have e0 : decide (x < 0) = true := decide_eq_true h0
    have p0' := hR2.c 0 rfl
    have p0 := hR2.c 0 rfl
    have p1 := hR2.c 1 rfl
    have s0 := hR4.f 0 rfl
    have r6 := hR4.set 0 (by simp) (.int .i64 many)
    have s1 := hR4.f 1 rfl
    have s1' := r6.f 1 rfl
    have t0 := hR4.c 0 rfl
    have t1 := hR4.c 1 rfl
    have t1' := r6.c 1 rfl
    have r5 := r6.set 1 (by simp) (.slice A n c)
    have z0 := r5.c 0 rfl
    have z1 := r5.c 1 rfl
    have HF : Hid (RP w A many L (.agg #[.int .i64 many, .slice A n c]) ((W0.setCell ⟨w.heap.size + 1, 0, none⟩ (.int .i64 many)).setCell ⟨w.heap.size + 1, 1, none⟩ (.slice A n c))) := Lib.hid (by
      have hbx := below_put1 (below_put1 hB0 (Nat.le_succ _) 0 (.int .i64 many)) (Nat.le_succ _) 1 (.slice A n c)
      exact ⟨A, n, c, rfl, HN.out, HA.out.after hbx, fun _ h => .inl h, hbx⟩)
    clear r6 r5 hR2 hR4 hB0
    go_wp2_with fail
    refine bodyPost_ret (v := .tuple #[.agg #[.int .i64 many, .slice A n c], .int .i64 4]) (by simp [results, Try.results41, go_sem, z0, z1]) rfl ?_
    exact ⟨_, fun _ => ⟨rfl, HF.out⟩, fun h => absurd (HIN.out.symm ▸ h : 0 ≤ x ∧ x < many) (by omega), fun h => absurd (HIN.out.symm ▸ h : 0 ≤ x ∧ x < many) (by omega)⟩
  by_cases h1 : many ≤ x
  · have e0 : decide (x < 0) = false := decide_eq_false h0
    have e1 : decide (many ≤ x) = true := decide_eq_true h1
    have p0 := hR2.c 0 rfl
    have p1 := hR2.c 1 rfl
    have s0 := hR4.f 0 rfl
    have r6 := hR4.set 0 (by simp) (.int .i64 many)
    have s1 := hR4.f 1 rfl
    have s1' := r6.f 1 rfl
    have t0 := hR4.c 0 rfl
    have t1 := hR4.c 1 rfl
    have t1' := r6.c 1 rfl
    have r5 := r6.set 1 (by simp) (.slice A n c)
    have z0 := r5.c 0 rfl
    have z1 := r5.c 1 rfl
    have HF : Hid (RP w A many L (.agg #[.int .i64 many, .slice A n c]) ((W0.setCell ⟨w.heap.size + 1, 0, none⟩ (.int .i64 many)).setCell ⟨w.heap.size + 1, 1, none⟩ (.slice A n c))) := Lib.hid (by
      have hbx := below_put1 (below_put1 hB0 (Nat.le_succ _) 0 (.int .i64 many)) (Nat.le_succ _) 1 (.slice A n c)
      exact ⟨A, n, c, rfl, HN.out, HA.out.after hbx, fun _ h => .inl h, hbx⟩)
    clear r6 r5 hR2 hR4 hB0
    go_wp2_with fail
    refine bodyPost_ret (v := .tuple #[.agg #[.int .i64 many, .slice A n c], .int .i64 4]) (by simp [results, Try.results41, go_sem, z0, z1]) rfl ?_
    exact ⟨_, fun _ => ⟨rfl, HF.out⟩, fun h => absurd (HIN.out.symm ▸ h : 0 ≤ x ∧ x < many) (by omega), fun h => absurd (HIN.out.symm ▸ h : 0 ≤ x ∧ x < many) (by omega)⟩
  have e0 : decide (x < 0) = false := decide_eq_false h0
  have e1 : decide (many ≤ x) = false := decide_eq_false h1
  have HIP : Hid P := Lib.hid (HIN.out ▸ ⟨by omega, by omega⟩)
  clear h0 h1
  have q0 := hR2.c 0 rfl
  have q1 := hR2.c 1 rfl
  go_wp2_with fail
  refine (HT.out _ hB0).mono ?_
  rintro e W1 ⟨rfl, hb1⟩
  replace hR2 := hR2.after hb1
  replace hR4 := hR4.after hb1
  have hB1 := hB0.trans (hb1.mono hB0.size)
  clear hb1 hB0 q0 q1
  by_cases hx : x ∈ L
  · rw [decide_eq_true hx]
    have p0 := hR2.c 0 rfl
    have p1 := hR2.c 1 rfl
    have s0 := hR4.f 0 rfl
    have r6 := hR4.set 0 (by simp) (.int .i64 many)
    have s1 := hR4.f 1 rfl
    have s1' := r6.f 1 rfl
    have t0 := hR4.c 0 rfl
    have t1 := hR4.c 1 rfl
    have t1' := r6.c 1 rfl
    have r5 := r6.set 1 (by simp) (.slice A n c)
    have z0 := r5.c 0 rfl
    have z1 := r5.c 1 rfl
    have HF : Hid (RP w A many L (.agg #[.int .i64 many, .slice A n c]) ((W1.setCell ⟨w.heap.size + 1, 0, none⟩ (.int .i64 many)).setCell ⟨w.heap.size + 1, 1, none⟩ (.slice A n c))) := Lib.hid (by
      have hbx := below_put1 (below_put1 hB1 (Nat.le_succ _) 0 (.int .i64 many)) (Nat.le_succ _) 1 (.slice A n c)
      exact ⟨A, n, c, rfl, HN.out, HA.out.after hbx, fun _ h => .inl h, hbx⟩)
    clear r6 r5 hR2 hR4 hB1
    go_wp2_with fail
    refine bodyPost_ret (v := .tuple #[.agg #[.int .i64 many, .slice A n c], .int .i64 210]) (by simp [results, Try.results41, go_sem, z0, z1]) rfl ?_
    exact ⟨_, fun h => absurd HIP.out h, fun _ _ => ⟨rfl, HF.out⟩, fun _ h => absurd hx h⟩
  · rw [decide_eq_false hx]
    have q0 := hR2.c 0 rfl
    have q1 := hR2.c 1 rfl
    go_wp2_with fail
    refine (HWi.out _ hB1).mono ?_
    rintro e W2 ⟨v, rfl, A', n', c', rfl, hn', hA', hfr, hb2⟩
    have hfr0 : ∀ a, A' = some a → w.heap.size ≤ a.block ∧ a.block < W2.heap.size := fun a ha => by have h1 := hfr a ha; have h2 := hR4.lt; omega
    replace hfr : ∀ a, A' = some a → a.block ≠ w.heap.size + 1 := fun a ha => by have h1 := hfr a ha; have h2 := hR4.lt; omega
    unfold rv
    replace hR4 := hR4.after hb2
    have hB2 := hB1.trans (hb2.mono hB1.size)
    have s0 := hR4.f 0 rfl
    have r6 := hR4.set 0 (by simp) (.int .i64 many)
    have s1 := hR4.f 1 rfl
    have s1' := r6.f 1 rfl
    have t0 := hR4.c 0 rfl
    have t1 := hR4.c 1 rfl
    have t1' := r6.c 1 rfl
    have r5 := r6.set 1 (by simp) (.slice A' n' c')
    have z0 := r5.c 0 rfl
    have z1 := r5.c 1 rfl
    have HZ := Lib.hid (And.intro hn' (And.intro hA' (And.intro hB2 (And.intro hfr hfr0))))
    clear hn' hA' hfr hfr0 hB2 hB1 hb2 hR2 hR4 r6 r5 q0 q1
    have HF : Hid (RP w A many (insR x L) (.agg #[.int .i64 many, .slice A' n' c']) ((W2.setCell ⟨w.heap.size + 1, 0, none⟩ (.int .i64 many)).setCell ⟨w.heap.size + 1, 1, none⟩ (.slice A' n' c'))) := Lib.hid (by
      obtain ⟨hn', hA', hB2, hfr, hfr0⟩ := HZ.out
      exact ⟨A', n', c', rfl, hn', (hA'.put (p := ⟨w.heap.size + 1, 0, none⟩) (fun _ a ha => hfr a ha)).put (p := ⟨w.heap.size + 1, 1, none⟩) (fun _ a ha => hfr a ha), (fun a ha => .inr ⟨(hfr0 a ha).1, by have := (hfr0 a ha).2; simpa [World.setCell] using this⟩), below_put1 (below_put1 hB2 (Nat.le_succ _) 0 (.int .i64 many)) (Nat.le_succ _) 1 (.slice A' n' c')⟩)
    go_wp2_with fail
    refine bodyPost_ret (v := .tuple #[.agg #[.int .i64 many, .slice A' n' c'], .int .i64 0]) (by simp [results, Try.results41, go_sem, z0, z1]) rfl ?_
    exact ⟨_, fun h => absurd HIP.out h, fun _ h => absurd h hx, fun _ _ => ⟨rfl, HF.out⟩⟩
end Go.Proofs.Ytncgjlhmgdgokaa
