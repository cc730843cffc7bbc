/- Contracts of package limb's down, up and sharedOdd at the numbers of the chapter's row. -/
import Derived.Test.YtlbijchbngnmmaaDoorR
namespace Go.Proofs.YtlbijchbngnmmaaDoor
open Go.RowKit

theorem bor_3 : bits BinOp.or IntKind.u64 3 0 = 3 := by kernel_rfl
theorem bor_9 : bits BinOp.or IntKind.u64 9 0 = 9 := by kernel_rfl
theorem bor_0 : bits BinOp.or IntKind.u64 0 0 = 0 := by kernel_rfl


set_option maxRecDepth 100000 in
set_option maxHeartbeats 1600000 in
theorem down_12 (w : World) : Calls Tryd.prog 75 #[wv 12 0 0 0, .int .i64 2] w fun e w' => e = .returned (wv 3 0 0 0) ∧ Below w.heap.size w w' := by
  go_enter Tryd.func75, Tryd.ntmps75
  go_wp2
  refine wp_loop_rounds 5 ?_
  iterate 3 (rw [rounds_succ]; go_wp2; go_region; go_wp2)
  iterate 2 (rw [rounds_succ]; go_wp2)
  exact bodyPost_ret (v := wv 3 0 0 0) (by simp [results, Tryd.results75, go_sem, bor_3, bor_0]) rfl ⟨rfl, (((((Below.refl w.heap.size w).alloc (Nat.le_refl _) _).alloc (by simp) _).drew).drew).drew⟩

set_option maxRecDepth 100000 in
set_option maxHeartbeats 1600000 in
theorem down_18 (w : World) : Calls Tryd.prog 75 #[wv 18 0 0 0, .int .i64 1] w fun e w' => e = .returned (wv 9 0 0 0) ∧ Below w.heap.size w w' := by
  go_enter Tryd.func75, Tryd.ntmps75
  go_wp2
  refine wp_loop_rounds 5 ?_
  iterate 3 (rw [rounds_succ]; go_wp2; go_region; go_wp2)
  iterate 2 (rw [rounds_succ]; go_wp2)
  exact bodyPost_ret (v := wv 9 0 0 0) (by simp [results, Tryd.results75, go_sem, bor_9, bor_0]) rfl ⟨rfl, (((((Below.refl w.heap.size w).alloc (Nat.le_refl _) _).alloc (by simp) _).drew).drew).drew⟩

set_option maxRecDepth 100000 in
set_option maxHeartbeats 1600000 in
theorem up_3 (w : World) : Calls Tryd.prog 77 #[wv 3 0 0 0, .int .i64 1] w fun e w' => e = .returned (wv 6 0 0 0) ∧ Below w.heap.size w w' := by
  go_enter Tryd.func77, Tryd.ntmps77
  go_wp2
  refine wp_loop_rounds 5 ?_
  rw [rounds_succ]
  go_wp2
  iterate 3 (rw [rounds_succ]; go_wp2; go_region; go_wp2)
  rw [rounds_succ]
  go_wp2
  exact bodyPost_ret (v := wv 6 0 0 0) (by simp [results, Tryd.results77, go_sem, bor_0]) rfl ⟨rfl, (((((Below.refl w.heap.size w).alloc (Nat.le_refl _) _).alloc (by simp) _).drew).drew).drew⟩

set_option maxRecDepth 100000 in
set_option maxHeartbeats 1600000 in
theorem odd_3_9 (w : World) (ht : TabTz w) : Calls Tryd.prog 76 #[.int .u64 3, .int .u64 9] w fun e w' => e = .returned (.int .u64 3) ∧ w = w' := by
  have htz : ∀ w, TabTz w → Calls Tryd.prog 86 #[.int .u64 6] w fun e w' => e = .returned (.int .i64 1) ∧ w = w' := fun w h =>
    (Tryd.bits_TrailingZeros64 6 (by decide) w (fun _ => h)).mono fun _ _ ⟨he, hw⟩ => ⟨he, hw.symm⟩
  have Htz := Lib.hid htz; clear htz
  have Ht := Lib.hid ht; clear ht
  go_enter Tryd.func76, Tryd.ntmps76
  go_wp2_with fail
  refine wp_loop_rounds 2 ?_
  rw [rounds_succ]
  go_wp2_with fail
  refine (Htz.out _ Ht.out).mono ?_
  rintro e w' ⟨rfl, rfl⟩
  go_wp2_with fail
  rw [rounds_succ]
  go_wp2
  go_ret
  exact ⟨rfl, rfl⟩
end Go.Proofs.YtlbijchbngnmmaaDoor
