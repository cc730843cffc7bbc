/- Contract of the document's Next of some ways. -/
import Derived.Test.YtfdofajknnocfaaNX
namespace Go.Proofs.Ytfdofajknnocfaa
open Go.RowKit Go.Sort

/-- The best one so far. -/
def bestR (cond : Nat → Nat → Bool) : Nat → Nat
  | 0 => 0
  | 1 => 0
  | k + 2 => if cond (k + 1) (bestR cond (k + 1)) then k + 1 else bestR cond (k + 1)
theorem bestR_lt (cond : Nat → Nat → Bool) : ∀ k, 0 < k → bestR cond k < k
  | 0, h => absurd h (by omega)
  | 1, _ => by unfold bestR; omega
  | k + 2, _ => by
    have := bestR_lt cond (k + 1) (by omega)
    rw [bestR]
    split <;> omega
/-- Is the first one better than the second? -/
def condR (w p q : Int × Int) : Bool :=
  decide (refC p.1 p.2 q.1 q.2 ≠ 0) && (decide (refC q.1 q.2 w.1 w.2 = 0) || (decide (refC p.1 p.2 w.1 w.2 ≠ 0) && betI (refC w.1 w.2 p.1 p.2) (refC p.1 p.2 q.1 q.2) (refC w.1 w.2 q.1 q.2)))
def atW (ws : List (Int × Int)) (i : Nat) : Int × Int := ws[i]?.getD (0, 0)
set_option maxHeartbeats 6400000 in
set_option maxRecDepth 100000 in
theorem refnext_any (x y : Int) (ws : List (Int × Int)) (b o c : Nat) (w : World) (hn : ws.length ≤ 1000) (h0 : 0 < ws.length) (hx : WaysL w b o ws) :
    Calls Try.prog 23 #[wayV x y, .slice (some ⟨b, o, none⟩) ws.length c] w fun e w' => e = .returned (.int .i64 (bestR (fun i j => condR (x, y) (atW ws i) (atW ws j)) ws.length)) ∧ Below w.heap.size w w' := by
  have HG : ∀ i, i < ws.length → ws[i]? = some (atW ws i) := fun i hi => by rw [atW, List.getElem?_eq_getElem hi]; rfl
  have HGh := Lib.hid HG
  clear HG
  have Hx := Lib.hid hx; clear hx
  generalize hN : ws.length = n at hn h0 HGh ⊢
  clear hN
  go_enter Try.func23, Try.ntmps23
  go_wp2_with fail
  have hR := Row.at (w := w) rfl (wayL x y) 23
  have hB0 : Below w.heap.size w (w.alloc (.cells #[.int .i64 x, .int .i64 y] 23)) := (Below.refl _ _).alloc (Nat.le_refl _) _
  generalize World.alloc _ _ = W0 at hR hB0 ⊢
  have HR := Lib.hid hR
  clear hR
  go_loopw [5, 6] (fun a i wr => ∃ k m : Nat, 1 ≤ k ∧ k ≤ n ∧ m < k ∧ i = .int .i64 k ∧ a = .int .i64 m ∧ Hid (bestR (fun i j => condR (x, y) (atW ws i) (atW ws j)) k = m) ∧ Below W0.heap.size W0 wr) (fun _ i _ => n - (intOf i).toNat)
  case atStart => exact ⟨1, 0, Nat.le_refl _, h0, by omega, rfl, rfl, Lib.hid rfl, Below.refl _ _⟩
  case round =>
    obtain ⟨k, m, hk1, hk, hmk, rfl, rfl, HF, hB⟩ := hrel
    by_cases hkn : k < n
    · have hW := Lib.hid ((Hx.out.below hB0).below hB)
      obtain ⟨c0, c1⟩ := hW.out.2 k _ (HGh.out k hkn)
      obtain ⟨c2, c3⟩ := hW.out.2 m _ (HGh.out m (by omega))
      have hr := HR.out.after hB
      have c4 := hr.c 0 rfl
      have c5 := hr.c 1 rfl
      clear hr
      have hkc : (k : Int) < n := by omega
      have hmc : (m : Int) < n := by omega
      obtain ⟨p, hp⟩ : ∃ p, atW ws k = p := ⟨_, rfl⟩
      obtain ⟨q, hq⟩ : ∃ q, atW ws m = q := ⟨_, rfl⟩
      rw [hp] at c0 c1
      rw [hq] at c2 c3
      have HS : Hid (bestR (fun i j => condR (x, y) (atW ws i) (atW ws j)) (k + 1) = if condR (x, y) p q then k else m) := Lib.hid (by
        obtain ⟨k', rfl⟩ : ∃ k', k = k' + 1 := ⟨k - 1, by omega⟩
        rw [bestR, HF.out, hp, hq])
      clear hp hq
      have K1 := Lib.hid (fun W => refcmp_any p.1 p.2 q.1 q.2 W)
      have K2 := Lib.hid (fun W => refcmp_any q.1 q.2 x y W)
      have K3 := Lib.hid (fun W => refcmp_any p.1 p.2 x y W)
      have K4 := Lib.hid (fun W => refbet_any x y q.1 q.2 p.1 p.2 W)
      obtain ⟨z, hz⟩ : ∃ z, condR (x, y) p q = z := ⟨_, rfl⟩
      rw [hz] at HS
      unfold condR at hz
      generalize betI (refC x y p.1 p.2) (refC p.1 p.2 q.1 q.2) (refC x y q.1 q.2) = bt at K4 hz
      generalize refC p.1 p.2 q.1 q.2 = r1 at K1 hz
      generalize refC q.1 q.2 x y = r2 at K2 hz
      generalize refC p.1 p.2 x y = r3 at K3 hz
      have C1 := Lib.hid (fun d os => Calls.regrown_of (K1.out (grow (redrawn wr d) os)))
      have C2 := Lib.hid (fun d os => Calls.regrown_of (K2.out (grow (redrawn wr d) os)))
      have C3 := Lib.hid (fun d os => Calls.regrown_of (K3.out (grow (redrawn wr d) os)))
      have C4 := Lib.hid (fun d os => Calls.regrown_of (K4.out (grow (redrawn wr d) os)))
      have f0 := cell_regrown c0
      have f1 := cell_regrown c1
      have f2 := cell_regrown c2
      have f3 := cell_regrown c3
      have f4 := cell_regrown c4
      have f5 := cell_regrown c5
      clear K1 K2 K3 K4 c0 c1 c2 c3 c4 c5 HF
      have e1 := neB r1
      have e2 := eqB r2
      have e3 := neB r3
      have HE : Hid ((z = true ∧ Hid (z = true)) ∨ (z = false ∧ Hid (z = false))) := Lib.hid (by cases z; exact Or.inr ⟨rfl, Lib.hid rfl⟩; exact Or.inl ⟨rfl, Lib.hid rfl⟩)
      by_cases h1 : r1 = 0
      · have hzz : z = false := by rw [← hz]; simp [h1]
        rw [decide_eq_false (by simpa using h1)] at e1
        clear h1 hz e2 e3
        have HZ := Lib.hid hzz
        clear hzz
        go_wp2_with fail
        refine wp_region_quiet_below (by kernel_rfl) (by kernel_rfl) ?_
        repeat (first | go_big_quiet_step ((first | with_reducible exact C1.out _ _ | with_reducible exact C2.out _ _ | with_reducible exact C3.out _ _ | with_reducible exact C4.out _ _)) | quiet_step ((first | with_reducible exact C1.out _ _ | with_reducible exact C2.out _ _ | with_reducible exact C3.out _ _ | with_reducible exact C4.out _ _)))
        refine wpQuiet_nil ?_
        intro _ hw'
        obtain ⟨⟨dq, osq⟩, hw''⟩ := hw'
        subst hw''
        have hB1 := hB.trans ((below_regrown wr dq osq).mono hB.size)
        clear f0 f1 f2 f3 f4 f5 C1 C2 C3 C4 hB hW
        generalize grow (redrawn wr dq) osq = W1 at hB1 ⊢
        have HS1 := HS.out
        rw [HZ.out] at HS1
        clear HS HZ HE
        first
          | (rw [if_pos rfl] at HS1
             have HS2 := Lib.hid HS1
             clear HS1
             go_wp2
             go_roundw
             case rel => exact ⟨k + 1, k, by omega, by omega, by omega, by go_num, rfl, HS2, hB1⟩
             case measure => simp [intOf]; omega)
          | (rw [if_neg (by decide)] at HS1
             have HS2 := Lib.hid HS1
             clear HS1
             go_wp2
             go_roundw
             case rel => exact ⟨k + 1, m, by omega, by omega, by omega, by go_num, rfl, HS2, hB1⟩
             case measure => simp [intOf]; omega)
      · rw [decide_eq_true h1] at e1
        by_cases h2 : r2 = 0
        · have hzz : z = true := by rw [← hz]; simp [h1, h2]
          rw [decide_eq_true h2] at e2
          clear h1 h2 hz e3
          have HZ := Lib.hid hzz
          clear hzz
          go_wp2_with fail
          refine wp_region_quiet_below (by kernel_rfl) (by kernel_rfl) ?_
          repeat (first | go_big_quiet_step ((first | with_reducible exact C1.out _ _ | with_reducible exact C2.out _ _ | with_reducible exact C3.out _ _ | with_reducible exact C4.out _ _)) | quiet_step ((first | with_reducible exact C1.out _ _ | with_reducible exact C2.out _ _ | with_reducible exact C3.out _ _ | with_reducible exact C4.out _ _)))
          refine wpQuiet_nil ?_
          intro _ hw'
          obtain ⟨⟨dq, osq⟩, hw''⟩ := hw'
          subst hw''
          have hB1 := hB.trans ((below_regrown wr dq osq).mono hB.size)
          clear f0 f1 f2 f3 f4 f5 C1 C2 C3 C4 hB hW
          generalize grow (redrawn wr dq) osq = W1 at hB1 ⊢
          have HS1 := HS.out
          rw [HZ.out] at HS1
          clear HS HZ HE
          first
            | (rw [if_pos rfl] at HS1
               have HS2 := Lib.hid HS1
               clear HS1
               go_wp2
               go_roundw
               case rel => exact ⟨k + 1, k, by omega, by omega, by omega, by go_num, rfl, HS2, hB1⟩
               case measure => simp [intOf]; omega)
            | (rw [if_neg (by decide)] at HS1
               have HS2 := Lib.hid HS1
               clear HS1
               go_wp2
               go_roundw
               case rel => exact ⟨k + 1, m, by omega, by omega, by omega, by go_num, rfl, HS2, hB1⟩
               case measure => simp [intOf]; omega)
        · rw [decide_eq_false h2] at e2
          by_cases h3 : r3 = 0
          · have hzz : z = false := by rw [← hz]; simp [h2, h3]
            rw [decide_eq_false (by simpa using h3)] at e3
            clear h1 h2 h3 hz
            have HZ := Lib.hid hzz
            clear hzz
            go_wp2_with fail
            refine wp_region_quiet_below (by kernel_rfl) (by kernel_rfl) ?_
            repeat (first | go_big_quiet_step ((first | with_reducible exact C1.out _ _ | with_reducible exact C2.out _ _ | with_reducible exact C3.out _ _ | with_reducible exact C4.out _ _)) | quiet_step ((first | with_reducible exact C1.out _ _ | with_reducible exact C2.out _ _ | with_reducible exact C3.out _ _ | with_reducible exact C4.out _ _)))
            refine wpQuiet_nil ?_
            intro _ hw'
            obtain ⟨⟨dq, osq⟩, hw''⟩ := hw'
            subst hw''
            have hB1 := hB.trans ((below_regrown wr dq osq).mono hB.size)
            clear f0 f1 f2 f3 f4 f5 C1 C2 C3 C4 hB hW
            generalize grow (redrawn wr dq) osq = W1 at hB1 ⊢
            have HS1 := HS.out
            rw [HZ.out] at HS1
            clear HS HZ HE
            first
              | (rw [if_pos rfl] at HS1
                 have HS2 := Lib.hid HS1
                 clear HS1
                 go_wp2
                 go_roundw
                 case rel => exact ⟨k + 1, k, by omega, by omega, by omega, by go_num, rfl, HS2, hB1⟩
                 case measure => simp [intOf]; omega)
              | (rw [if_neg (by decide)] at HS1
                 have HS2 := Lib.hid HS1
                 clear HS1
                 go_wp2
                 go_roundw
                 case rel => exact ⟨k + 1, m, by omega, by omega, by omega, by go_num, rfl, HS2, hB1⟩
                 case measure => simp [intOf]; omega)
          · have hzz : z = bt := by rw [← hz]; simp [h1, h2, h3]
            rw [decide_eq_true h3] at e3
            clear h1 h2 h3 hz
            cases bt
            · have HZ := Lib.hid hzz
              clear hzz
              go_wp2_with fail
              refine wp_region_quiet_below (by kernel_rfl) (by kernel_rfl) ?_
              repeat (first | go_big_quiet_step ((first | with_reducible exact C1.out _ _ | with_reducible exact C2.out _ _ | with_reducible exact C3.out _ _ | with_reducible exact C4.out _ _)) | quiet_step ((first | with_reducible exact C1.out _ _ | with_reducible exact C2.out _ _ | with_reducible exact C3.out _ _ | with_reducible exact C4.out _ _)))
              refine wpQuiet_nil ?_
              intro _ hw'
              obtain ⟨⟨dq, osq⟩, hw''⟩ := hw'
              subst hw''
              have hB1 := hB.trans ((below_regrown wr dq osq).mono hB.size)
              clear f0 f1 f2 f3 f4 f5 C1 C2 C3 C4 hB hW
              generalize grow (redrawn wr dq) osq = W1 at hB1 ⊢
              have HS1 := HS.out
              rw [HZ.out] at HS1
              clear HS HZ HE
              first
                | (rw [if_pos rfl] at HS1
                   have HS2 := Lib.hid HS1
                   clear HS1
                   go_wp2
                   go_roundw
                   case rel => exact ⟨k + 1, k, by omega, by omega, by omega, by go_num, rfl, HS2, hB1⟩
                   case measure => simp [intOf]; omega)
                | (rw [if_neg (by decide)] at HS1
                   have HS2 := Lib.hid HS1
                   clear HS1
                   go_wp2
                   go_roundw
                   case rel => exact ⟨k + 1, m, by omega, by omega, by omega, by go_num, rfl, HS2, hB1⟩
                   case measure => simp [intOf]; omega)
            · have HZ := Lib.hid hzz
              clear hzz
              go_wp2_with fail
              refine wp_region_quiet_below (by kernel_rfl) (by kernel_rfl) ?_
              repeat (first | go_big_quiet_step ((first | with_reducible exact C1.out _ _ | with_reducible exact C2.out _ _ | with_reducible exact C3.out _ _ | with_reducible exact C4.out _ _)) | quiet_step ((first | with_reducible exact C1.out _ _ | with_reducible exact C2.out _ _ | with_reducible exact C3.out _ _ | with_reducible exact C4.out _ _)))
              refine wpQuiet_nil ?_
              intro _ hw'
              obtain ⟨⟨dq, osq⟩, hw''⟩ := hw'
              subst hw''
              have hB1 := hB.trans ((below_regrown wr dq osq).mono hB.size)
              clear f0 f1 f2 f3 f4 f5 C1 C2 C3 C4 hB hW
              generalize grow (redrawn wr dq) osq = W1 at hB1 ⊢
              have HS1 := HS.out
              rw [HZ.out] at HS1
              clear HS HZ HE
              first
                | (rw [if_pos rfl] at HS1
                   have HS2 := Lib.hid HS1
                   clear HS1
                   go_wp2
                   go_roundw
                   case rel => exact ⟨k + 1, k, by omega, by omega, by omega, by go_num, rfl, HS2, hB1⟩
                   case measure => simp [intOf]; omega)
                | (rw [if_neg (by decide)] at HS1
                   have HS2 := Lib.hid HS1
                   clear HS1
                   go_wp2
                   go_roundw
                   case rel => exact ⟨k + 1, m, by omega, by omega, by omega, by go_num, rfl, HS2, hB1⟩
                   case measure => simp [intOf]; omega)
    · obtain rfl : k = n := by omega
      have hBB := hB0.trans (hB.mono hB0.size)
      clear hB0 hB
      go_wp2
      go_ret
      exact ⟨by rw [HF.out]; rfl, hBB⟩
end Go.Proofs.Ytfdofajknnocfaa
