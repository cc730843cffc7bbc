import Derived.Test.YtcabndpmfkimgaaGreatDoorKkBase
import Derived.Defers
import Derived.Recover
import Derived.Laws.Pointers
namespace Go.Proofs.YtcabndpmfkimgaaGreatDoor
open Go.RowKit
theorem assert_errno (c : Int) (w : World) : (Instr.typeAssert (.iface 37 (.int .i64 c)) 20 37 true).run Tryz.prog w = .ok (.tuple #[.int .i64 c, .bool true]) w := by kernel_rfl
set_option maxRecDepth 100000 in
theorem catch_panicking (p : Addr) (x c : Int) (older : List PanicEntry) (w : World) (hc : w.cell? p = some (.int .i64 x)) (hz : w.frozen? p = false) :
 CallsD Tryz.prog 143 #[.pointer (some p)] (.panicking ({ v := .iface 37 (.int .i64 c), recovered := false } :: older)) w fun e u' w' =>
  e = .returned (.tuple #[]) ∧ u' = .panicking ({ v := .iface 37 (.int .i64 c), recovered := true } :: older) ∧ w' = w.setCell p (.int .i64 c) := by
 refine callsD_of_wpS Tryz.func143 rfl fun c₀ cs hu => ?_
 apply wpS_seq
 apply wpS_region
 simp [wpOpsS, go_sem, recoverD, hu, Tryz.ntmps143, Exit.thenS]
 change Code.wpS _ _ _ { tmps := #[.pointer (some p), .iface 37 (.int .i64 c), undef, undef, .iface 37 (.int .i64 c), undef, undef, undef, undef, undef, undef, undef, undef, undef, undef, undef], defers := [] } _ _
 have hta : ∀ w, (Instr.typeAssert (.iface 37 (.int .i64 c)) 20 37 true).run Tryz.prog w = .ok (.tuple #[.int .i64 c, .bool true]) w := assert_errno c
 have hnot : ∀ (x : Bool) (w : World), (Op.unary .not (.bool x)).run Tryz.prog w = .ok (.bool (!x)) w := fun _ _ => rfl
 refine wpS_of_wp ?_
 go_wp2
 simp [bodyPostS, results, Tryz.results143]
theorem catch_idle (p : Addr) (w : World) :
 CallsD Tryz.prog 143 #[.pointer (some p)] .returning w fun e u' w' => e = .returned (.tuple #[]) ∧ u' = .returning ∧ w' = w := by
 refine callsD_of_wpS Tryz.func143 rfl fun c₀ cs hu => ?_
 apply wpS_seq
 apply wpS_region
 simp [wpOpsS, go_sem, recoverD, hu, Tryz.ntmps143, Exit.thenS]
 change Code.wpS _ _ _ { tmps := #[.pointer (some p), .nilIface, undef, undef, .nilIface, undef, undef, undef, undef, undef, undef, undef, undef, undef, undef, undef], defers := [] } _ _
 refine wpS_of_wp ?_
 go_wp2
 cases c₀
 simp_all [bodyPostS, results, Tryz.results143]
theorem for_gives (c : Int) (w : World) (hc : c ≠ 0) :
 Calls Tryz.prog 70 #[.int .i64 c] w fun e w' => e = .panicked [{ v := .iface 37 (.int .i64 c), recovered := false }] ∧ w = w' := by
 have hc' : (c != 0) = true := by simpa using hc
 clear hc
 go_enter Tryz.func70, Tryz.ntmps70
 go_wp2
 exact ⟨rfl, rfl, rfl⟩
set_option maxHeartbeats 400000 in
theorem settle_over (N : Nat) (s : Bool) (m0 m1 m2 m3 o : Int) (w : World) (ho : o ≠ 0) (hr : Row w N [.bool s, .int .u64 m0, .int .u64 m1, .int .u64 m2, .int .u64 m3, .int .u64 o]) :
 Calls Tryz.prog 132 #[.pointer (some ⟨N, 0, none⟩)] w fun e w' => e = .panicked [{ v := .iface 37 (.int .i64 110), recovered := false }] ∧ w = w' := by
 have h5 := hr.c 5 rfl
 have ho' : (o != 0) = true := by simpa using ho
 clear ho hr
 go_enter Tryz.func132, Tryz.ntmps132
 go_wp2_with fail
 refine (for_gives 110 w (by decide)).mono ?_
 rintro e w1 ⟨rfl, rfl⟩
 go_wp2
 exact ⟨rfl, rfl, rfl⟩
set_option maxHeartbeats 400000 in
theorem settle_ok (N : Nat) (s : Bool) (m0 m1 m2 m3 : Int) (w : World) (hr : Row w N [.bool s, .int .u64 m0, .int .u64 m1, .int .u64 m2, .int .u64 m3, .int .u64 0]) :
 Calls Tryz.prog 132 #[.pointer (some ⟨N, 0, none⟩)] w fun e w' => e = .returned (.tuple #[]) ∧ w' = w.setCell ⟨N, 0, none⟩ (.bool (s && !zeroB m0 m1 m2 m3)) := by
 have hq2 : ∀ w, (binOp .neq 28 (wv m0 m1 m2 m3) (wv 0 0 0 0)).run Tryz.prog w = .ok (.bool (!zeroB m0 m1 m2 m3)) w := fun w => neqArr 28 Tryz.underlying28 m0 m1 m2 m3 0 0 0 0 w
 have h0 := hr.c 0 rfl
 have h1 := hr.c 1 rfl
 have h2 := hr.c 2 rfl
 have h3 := hr.c 3 rfl
 have h4 := hr.c 4 rfl
 have h5 := hr.c 5 rfl
 have f0 := hr.f 0 rfl
 cases s
 ·rw [show (false && !zeroB m0 m1 m2 m3) = false from rfl]
  go_enter Tryz.func132, Tryz.ntmps132
  go_wp2
  go_end0
  exact ⟨rfl, rfl⟩
 ·rw [show (true && !zeroB m0 m1 m2 m3) = !zeroB m0 m1 m2 m3 from rfl]
  generalize (!zeroB m0 m1 m2 m3) = y at hq2 ⊢
  go_enter Tryz.func132, Tryz.ntmps132
  go_wp2
  go_end0
  exact ⟨rfl, rfl⟩
end Go.Proofs.YtcabndpmfkimgaaGreatDoor
