/- law01.works: the chapter's rows, walked. -/
import Derived.Test.YtpbdhhdmnnelhaaDoorE
import Derived.Test.YtpbdhhdmnnelhaaDoorT
import Derived.Test.YtpbdhhdmnnelhaaDoorM
import Derived.Test.YtpbdhhdmnnelhaaDoorJ
import Derived.Lib.QuietBelow
import Derived.BigQuiet
import Derived.Laws.StructEq
import Derived.Test.YtpbdhhdmnnelhaaDoorEqi
namespace Go.Proofs.YtpbdhhdmnnelhaaDoor
open Go.RowKit Go.Sort

theorem num_any (k : Int) (w : World) : Calls Tryd.prog 19 #[.int .i64 k] w fun e w' => e = .returned (.int .i64 k) ∧ Below w.heap.size w w' := by
  go_enter Tryd.func19, Tryd.ntmps19
  go_wp2
  exact bodyPost_ret (v := .int .i64 k) (by simp [results, Tryd.results19, go_sem]) rfl ⟨rfl, Below.refl _ _⟩

theorem of_m7 (w : World) : Calls Tryd.prog 13 #[.int .i64 (-7)] w fun e w' => e = .returned (iv true 7 0 0 0) ∧ Below w.heap.size w w' := of_any (-7) w
theorem of_p2 (w : World) : Calls Tryd.prog 13 #[.int .i64 (2)] w fun e w' => e = .returned (iv false 2 0 0 0) ∧ Below w.heap.size w w' := of_any (2) w
theorem of_m12 (w : World) : Calls Tryd.prog 13 #[.int .i64 (-12)] w fun e w' => e = .returned (iv true 12 0 0 0) ∧ Below w.heap.size w w' := of_any (-12) w
theorem of_p18 (w : World) : Calls Tryd.prog 13 #[.int .i64 (18)] w fun e w' => e = .returned (iv false 18 0 0 0) ∧ Below w.heap.size w w' := of_any (18) w
theorem of_m120 (w : World) : Calls Tryd.prog 13 #[.int .i64 (-120)] w fun e w' => e = .returned (iv true 120 0 0 0) ∧ Below w.heap.size w w' := of_any (-120) w
theorem of_m3 (w : World) : Calls Tryd.prog 13 #[.int .i64 (-3)] w fun e w' => e = .returned (iv true 3 0 0 0) ∧ Below w.heap.size w w' := of_any (-3) w
theorem of_m1 (w : World) : Calls Tryd.prog 13 #[.int .i64 (-1)] w fun e w' => e = .returned (iv true 1 0 0 0) ∧ Below w.heap.size w w' := of_any (-1) w
theorem of_p6 (w : World) : Calls Tryd.prog 13 #[.int .i64 (6)] w fun e w' => e = .returned (iv false 6 0 0 0) ∧ Below w.heap.size w w' := of_any (6) w

theorem quo_7_2 (w : World) : Calls Tryd.prog 30 #[iv true 7 0 0 0, iv false 2 0 0 0] w fun e w' => e = .returned (.tuple #[iv true 3 0 0 0, iv true 1 0 0 0, .int .i64 0]) ∧ Below w.heap.size w w' :=
  quo_of true false 7 0 0 0 2 0 0 0 3 0 0 0 1 0 0 0 w rfl rfl rfl (fun w => parted_one 7 2 w (by decide) (by decide) (by decide))
theorem gcd_12_18 (w : World) (ht : TabTz w) (hw0 : 0 < w.heap.size) (hn : 0 < w.heap.size) : Calls Tryd.prog 31 #[iv true 12 0 0 0, iv false 18 0 0 0] w fun e w' => e = .returned (.tuple #[iv false 6 0 0 0, .int .i64 0]) ∧ Below w.heap.size w w' :=
  gcd_of true false 12 0 0 0 18 0 0 0 6 0 0 0 w rfl rfl (fun W hb => shared_12_18 W (ht.below hn hb) (Nat.lt_of_lt_of_le hw0 hb.size))
theorem quo_1_0 (w : World) : Calls Tryd.prog 30 #[iv false 1 0 0 0, iv false 0 0 0 0] w fun e w' => e = .returned (.tuple #[iv false 0 0 0 0, iv false 0 0 0 0, .int .i64 2]) ∧ Below w.heap.size w w' :=
  quo_zero false 1 0 0 0 w rfl
theorem text_120 (w : World) (ht : Tab10 w) : Calls Tryd.prog 36 #[iv true 120 0 0 0] w fun e w' => e = .returned (.tuple #[.string ⟨#[45, 49, 50, 48]⟩, .int .i64 0]) ∧ Below w.heap.size w w' := by
  have h := text_neg_one 120 w (by decide) (by decide) ht
  rw [show textNeg 120 = ⟨#[45, 49, 50, 48]⟩ by simp [textNeg, Lib.decDigits]] at h
  exact h

theorem add_over (b c : Nat) (w : World) (hr : Row w b [.bool false, .int .u64 18446744073709551615, .int .u64 18446744073709551615, .int .u64 18446744073709551615, .int .u64 18446744073709551615, .bool false, .int .u64 1, .int .u64 0, .int .u64 0, .int .u64 0]) :
    Calls Tryd.prog 22 #[.slice (some ⟨b, 0, none⟩) 2 c] w fun e w' => e = .returned (.tuple #[iv false 0 0 0 0, .int .i64 110]) ∧ Below w.heap.size w w' := by
  have hm : ∀ k, BdF ((fun i => if i = 0 then row4 18446744073709551615 18446744073709551615 18446744073709551615 18446744073709551615 else row4 1 0 0 0) k) := by
    intro k i
    by_cases hk : k = 0
    · simp only [hk, if_true]
      match i with
      | 0 | 1 | 2 | 3 => exact ⟨by decide, by decide⟩
      | n + 4 => exact ⟨by simp [row4], by simp [row4, B64]⟩
    · simp only [if_neg hk]
      match i with
      | 0 | 1 | 2 | 3 => exact ⟨by decide, by decide⟩
      | n + 4 => exact ⟨by simp [row4], by simp [row4, B64]⟩
  have h := add_any b 0 2 c _ _ w (by decide) hr.lt (two_ints hr) hm
  rw [show afterR plusR (fun i => if i = 0 then false else false) (fun i => if i = 0 then row4 18446744073709551615 18446744073709551615 18446744073709551615 18446744073709551615 else row4 1 0 0 0) false (fun _ => 0) 2 = .tuple #[iv false 0 0 0 0, .int .i64 110] by kernel_rfl] at h
  exact h

set_option maxRecDepth 2048 in
set_option maxHeartbeats 1000000 in
theorem works_true (w : World) (ht : Tab10 w) (hz : TabTz w) (hw0 : 0 < w.heap.size) :
    Calls Tryd.prog 21 #[] w fun e w' => e = .returned (.bool true) ∧ Below w.heap.size w w' := by
  go_enter Tryd.func21, Tryd.ntmps21
  go_wp2_with fail
  refine (of_m7 _).mono ?_
  rintro e w1 ⟨rfl, hb1⟩
  go_wp2_with fail
  refine (of_p2 _).mono ?_
  rintro e w2 ⟨rfl, hb2⟩
  replace hb1 := hb1.trans (hb2.mono hb1.size)
  clear hb2
  go_wp2_with fail
  refine (quo_7_2 _).mono ?_
  rintro e w3 ⟨rfl, hb2⟩
  replace hb1 := hb1.trans (hb2.mono hb1.size)
  clear hb2
  go_wp2_with fail
  generalize hW : World.alloc _ _ = W4
  have rQ : Row W4 w3.heap.size [.bool true, .int .u64 3, .int .u64 0, .int .u64 0, .int .u64 0] := by rw [← hW]; exact (Row.at rfl _ _).alloc _
  have rR : Row W4 (w3.heap.size + 1) [.bool true, .int .u64 1, .int .u64 0, .int .u64 0, .int .u64 0] := by rw [← hW]; exact Row.at (by simp) _ _
  replace hb1 : Below w.heap.size w W4 := by rw [← hW]; exact (hb1.alloc hb1.size _).alloc (by have := hb1.size; simp; omega) _
  clear hW
  generalize w3.heap.size + 1 = bR at rR ⊢
  generalize w3.heap.size = bQ at rQ ⊢
  have hg : 0 < w.heap.size := block_lt_of_cell (hz 0 (by decide))
  go_wp2_with fail
  refine (of_m12 _).mono ?_
  rintro e w4 ⟨rfl, hb2⟩
  replace hb1 := hb1.trans (hb2.mono hb1.size)
  replace rQ := rQ.after hb2
  replace rR := rR.after hb2
  clear hb2
  go_wp2_with fail
  refine (of_p18 _).mono ?_
  rintro e w5 ⟨rfl, hb2⟩
  replace hb1 := hb1.trans (hb2.mono hb1.size)
  replace rQ := rQ.after hb2
  replace rR := rR.after hb2
  clear hb2
  go_wp2_with fail
  refine (gcd_12_18 _ (hz.below hg hb1) (Nat.lt_of_lt_of_le hw0 hb1.size) (Nat.lt_of_lt_of_le hg hb1.size)).mono ?_
  rintro e w6 ⟨rfl, hb2⟩
  replace hb1 := hb1.trans (hb2.mono hb1.size)
  replace rQ := rQ.after hb2
  replace rR := rR.after hb2
  clear hb2
  go_wp2_with fail
  generalize hW : World.alloc _ _ = W7
  have rG : Row W7 w6.heap.size [.bool false, .int .u64 6, .int .u64 0, .int .u64 0, .int .u64 0] := by rw [← hW]; exact Row.at rfl _ _
  replace rQ : Row W7 bQ [.bool true, .int .u64 3, .int .u64 0, .int .u64 0, .int .u64 0] := by rw [← hW]; exact rQ.alloc _
  replace rR : Row W7 bR [.bool true, .int .u64 1, .int .u64 0, .int .u64 0, .int .u64 0] := by rw [← hW]; exact rR.alloc _
  replace hb1 : Below w.heap.size w W7 := by rw [← hW]; exact hb1.alloc hb1.size _
  clear hW
  generalize w6.heap.size = bG at rG ⊢
  refine (of_m120 _).mono ?_
  rintro e w7 ⟨rfl, hb2⟩
  replace hb1 := hb1.trans (hb2.mono hb1.size)
  replace rQ := rQ.after hb2
  replace rR := rR.after hb2
  replace rG := rG.after hb2
  clear hb2
  go_wp2_with fail
  refine (text_120 _ (ht.below hb1)).mono ?_
  rintro e w8 ⟨rfl, hb2⟩
  replace hb1 := hb1.trans (hb2.mono hb1.size)
  replace rQ := rQ.after hb2
  replace rR := rR.after hb2
  replace rG := rG.after hb2
  clear hb2
  go_wp2_with fail
  refine (of_one _).mono ?_
  rintro e w9 ⟨rfl, hb2⟩
  replace hb1 := hb1.trans (hb2.mono hb1.size)
  replace rQ := rQ.after hb2
  replace rR := rR.after hb2
  replace rG := rG.after hb2
  clear hb2
  go_wp2_with fail
  refine (of_zero _).mono ?_
  rintro e w10 ⟨rfl, hb2⟩
  replace hb1 := hb1.trans (hb2.mono hb1.size)
  replace rQ := rQ.after hb2
  replace rR := rR.after hb2
  replace rG := rG.after hb2
  clear hb2
  go_wp2_with fail
  refine (quo_1_0 _).mono ?_
  rintro e w11 ⟨rfl, hb2⟩
  replace hb1 := hb1.trans (hb2.mono hb1.size)
  replace rQ := rQ.after hb2
  replace rR := rR.after hb2
  replace rG := rG.after hb2
  clear hb2
  go_wp2_with fail
  generalize hW : World.alloc _ _ = W12
  replace rQ : Row W12 bQ [.bool true, .int .u64 3, .int .u64 0, .int .u64 0, .int .u64 0] := by rw [← hW]; exact (rQ.alloc _).alloc _
  replace rR : Row W12 bR [.bool true, .int .u64 1, .int .u64 0, .int .u64 0, .int .u64 0] := by rw [← hW]; exact (rR.alloc _).alloc _
  replace rG : Row W12 bG [.bool false, .int .u64 6, .int .u64 0, .int .u64 0, .int .u64 0] := by rw [← hW]; exact (rG.alloc _).alloc _
  replace hb1 : Below w.heap.size w W12 := by rw [← hW]; exact (hb1.alloc hb1.size _).alloc (by have := hb1.size; simp; omega) _
  clear hW
  refine (of_one _).mono ?_
  rintro e w12 ⟨rfl, hb2⟩
  replace hb1 := hb1.trans (hb2.mono hb1.size)
  replace rQ := rQ.after hb2
  replace rR := rR.after hb2
  replace rG := rG.after hb2
  clear hb2
  go_wp2_with fail
  generalize hW : World.alloc _ _ = W13
  have rA : Row W13 w12.heap.size [.bool false, .int .u64 18446744073709551615, .int .u64 18446744073709551615, .int .u64 18446744073709551615, .int .u64 18446744073709551615, .bool false, .int .u64 1, .int .u64 0, .int .u64 0, .int .u64 0] := by rw [← hW]; exact Row.at rfl _ _
  replace rQ : Row W13 bQ [.bool true, .int .u64 3, .int .u64 0, .int .u64 0, .int .u64 0] := by rw [← hW]; exact rQ.alloc _
  replace rR : Row W13 bR [.bool true, .int .u64 1, .int .u64 0, .int .u64 0, .int .u64 0] := by rw [← hW]; exact rR.alloc _
  replace rG : Row W13 bG [.bool false, .int .u64 6, .int .u64 0, .int .u64 0, .int .u64 0] := by rw [← hW]; exact rG.alloc _
  replace hb1 : Below w.heap.size w W13 := by rw [← hW]; exact hb1.alloc hb1.size _
  clear hW
  refine (add_over _ _ _ rA).mono ?_
  rintro e w13 ⟨rfl, hb2⟩
  clear rA
  replace hb1 := hb1.trans (hb2.mono hb1.size)
  replace rQ := rQ.after hb2
  replace rR := rR.after hb2
  replace rG := rG.after hb2
  clear hb2
  go_wp2_with fail
  generalize hW : World.alloc _ _ = W14
  replace rQ : Row W14 bQ [.bool true, .int .u64 3, .int .u64 0, .int .u64 0, .int .u64 0] := by rw [← hW]; exact rQ.alloc _
  replace rR : Row W14 bR [.bool true, .int .u64 1, .int .u64 0, .int .u64 0, .int .u64 0] := by rw [← hW]; exact rR.alloc _
  replace rG : Row W14 bG [.bool false, .int .u64 6, .int .u64 0, .int .u64 0, .int .u64 0] := by rw [← hW]; exact rG.alloc _
  replace hb1 : Below w.heap.size w W14 := by rw [← hW]; exact hb1.alloc hb1.size _
  clear hW
  refine (parse_no _ _ isText_minus0).mono ?_
  rintro e w14 ⟨rfl, hb2⟩
  replace hb1 := hb1.trans (hb2.mono hb1.size)
  replace rQ := rQ.after hb2
  replace rR := rR.after hb2
  replace rG := rG.after hb2
  clear hb2
  go_wp2_with fail
  generalize hW : World.alloc _ _ = W15
  replace rQ : Row W15 bQ [.bool true, .int .u64 3, .int .u64 0, .int .u64 0, .int .u64 0] := by rw [← hW]; exact rQ.alloc _
  replace rR : Row W15 bR [.bool true, .int .u64 1, .int .u64 0, .int .u64 0, .int .u64 0] := by rw [← hW]; exact rR.alloc _
  replace rG : Row W15 bG [.bool false, .int .u64 6, .int .u64 0, .int .u64 0, .int .u64 0] := by rw [← hW]; exact rG.alloc _
  replace hb1 : Below w.heap.size w W15 := by rw [← hW]; exact hb1.alloc hb1.size _
  clear hW
  refine (parse_no _ _ isText_007).mono ?_
  rintro e w15 ⟨rfl, hb2⟩
  replace hb1 := hb1.trans (hb2.mono hb1.size)
  replace rQ := rQ.after hb2
  replace rR := rR.after hb2
  replace rG := rG.after hb2
  clear hb2
  go_wp2_with fail
  generalize hW : World.alloc _ _ = W16
  replace rQ : Row W16 bQ [.bool true, .int .u64 3, .int .u64 0, .int .u64 0, .int .u64 0] := by rw [← hW]; exact rQ.alloc _
  replace rR : Row W16 bR [.bool true, .int .u64 1, .int .u64 0, .int .u64 0, .int .u64 0] := by rw [← hW]; exact rR.alloc _
  replace rG : Row W16 bG [.bool false, .int .u64 6, .int .u64 0, .int .u64 0, .int .u64 0] := by rw [← hW]; exact rG.alloc _
  replace hb1 : Below w.heap.size w W16 := by rw [← hW]; exact hb1.alloc hb1.size _
  clear hW
  have e1 : ∀ w, (binOp .eql 25 (iv true 3 0 0 0) (iv true 3 0 0 0)).run Tryd.prog w = .ok (.bool true) w := fun w => eqlInt _ _ _ _ _ _ _ _ _ _ w
  have e2 : ∀ w, (binOp .eql 25 (iv true 1 0 0 0) (iv true 1 0 0 0)).run Tryd.prog w = .ok (.bool true) w := fun w => eqlInt _ _ _ _ _ _ _ _ _ _ w
  have e3 : ∀ w, (binOp .neq 25 (iv true 3 0 0 0) (iv true 1 0 0 0)).run Tryd.prog w = .ok (.bool true) w := fun w => neqInt _ _ _ _ _ _ _ _ _ _ w
  have e4 : ∀ w, (binOp .eql 25 (iv false 6 0 0 0) (iv false 6 0 0 0)).run Tryd.prog w = .ok (.bool true) w := fun w => eqlInt _ _ _ _ _ _ _ _ _ _ w
  have q0 := cell_regrown (rQ.c 0 rfl)
  have q1 := cell_regrown (rQ.c 1 rfl)
  have q2 := cell_regrown (rQ.c 2 rfl)
  have q3 := cell_regrown (rQ.c 3 rfl)
  have q4 := cell_regrown (rQ.c 4 rfl)
  have r0 := cell_regrown (rR.c 0 rfl)
  have r1 := cell_regrown (rR.c 1 rfl)
  have r2 := cell_regrown (rR.c 2 rfl)
  have r3 := cell_regrown (rR.c 3 rfl)
  have r4 := cell_regrown (rR.c 4 rfl)
  have g0 := cell_regrown (rG.c 0 rfl)
  have g1 := cell_regrown (rG.c 1 rfl)
  have g2 := cell_regrown (rG.c 2 rfl)
  have g3 := cell_regrown (rG.c 3 rfl)
  have g4 := cell_regrown (rG.c 4 rfl)
  have C1 := Lib.hid (fun d os => Calls.regrown_of (of_m3 (grow (redrawn W16 d) os)))
  have C2 := Lib.hid (fun d os => Calls.regrown_of (of_m1 (grow (redrawn W16 d) os)))
  have C3 := Lib.hid (fun d os => Calls.regrown_of (of_p6 (grow (redrawn W16 d) os)))
  have C4 := Lib.hid (fun k d os => Calls.regrown_of (num_any k (grow (redrawn W16 d) os)))
  replace hb1 := Lib.hid hb1
  clear rQ rR rG ht hz hg hw0
  refine wp_region_quiet_below (by kernel_rfl) (by kernel_rfl) ?_
  repeat (first | go_big_quiet_step ((first | with_reducible exact C1.out _ _ | with_reducible exact C2.out _ _ | with_reducible exact C3.out _ _ | with_reducible exact C4.out _ _ _)) | quiet_step ((first | with_reducible exact C1.out _ _ | with_reducible exact C2.out _ _ | with_reducible exact C3.out _ _ | with_reducible exact C4.out _ _ _)))
  refine wpQuiet_nil ?_
  intro _ hw'
  obtain ⟨⟨dq, osq⟩, hw''⟩ := hw'
  subst hw''
  go_wp2
  go_ret
  exact ⟨rfl, hb1.out.trans ((below_regrown W16 dq osq).mono hb1.out.size)⟩
end Go.Proofs.YtpbdhhdmnnelhaaDoor
