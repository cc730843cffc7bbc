/- Contracts of the document's Add and Sub by the numbers' values, whatever the signs. -/
import Derived.Test.YthmobcpdbgmbeaaGreatDoorBG
namespace Go.Proofs.YthmobcpdbgmbeaaGreatDoor
open Go.RowKit
end Go.Proofs.YthmobcpdbgmbeaaGreatDoor
namespace Go.Proofs.YthmobcpdbgmbeaaGreatDoor
open Go.RowKit
def negR (n : Bool) (a b c d : Int) : Value := if (n && zeroB a b c d) = true then .tuple #[iv false 0 0 0 0, .int .i64 2] else .tuple #[iv (!n && !zeroB a b c d) a b c d, .int .i64 0]
set_option maxHeartbeats 400000 in
set_option maxRecDepth 100000 in
theorem neg_any (n : Bool) (a b c d : Int) (w : World) :
    Calls Tryz.prog 122 #[iv n a b c d] w fun e w' => e = .returned (negR n a b c d) ∧ Below w.heap.size w w' := by
  have hC := Lib.hid (fun W => check_any n a b c d W)
  have hS := Lib.hid (fun W => signed_any (!n) a b c d W)
  cases hz : (n && zeroB a b c d)
  · have HR := Lib.hid (show negR n a b c d = .tuple #[iv (!n && !zeroB a b c d) a b c d, .int .i64 0] by simp [negR, hz])
    rw [errArg_ok hz] at hC
    clear hz
    generalize (!n && !zeroB a b c d) = s at *
    have HK : ∃ t, Hid ((!n) = t) := ⟨_, Lib.hid rfl⟩
    go_enter Tryz.func122, Tryz.ntmps122
    go_wp2_with fail
    refine (hC.out _).mono ?_
    rintro e w1 ⟨rfl, hb1⟩
    have hB : Below w.heap.size w w1 := (((Below.refl w.heap.size w).alloc (Nat.le_refl _) _).alloc (by simp) _).trans (hb1.mono (by simp; omega))
    have r1 : Row w1 w.heap.size [.bool n, .int .u64 a, .int .u64 b, .int .u64 c, .int .u64 d] := ((Row.at rfl _ _).alloc _).after hb1
    have r2 : Row w1 (w.heap.size + 1) [.bool false, .int .u64 0, .int .u64 0, .int .u64 0, .int .u64 0] := (Row.at (by simp) _ _).after hb1
    clear hb1
    have a0 := r1.c 0 rfl
    have a1 := r1.c 1 rfl
    have a2 := r1.c 2 rfl
    have a3 := r1.c 3 rfl
    have a4 := r1.c 4 rfl
    go_wp2_with fail
    refine (hS.out _).mono ?_
    rintro e w2 ⟨rfl, hb2⟩
    have q2 := r2.after hb2
    have HB2 : Below w.heap.size w w2 := hB.trans (hb2.mono hB.size)
    clear hb2
    have b0 := q2.c 0 rfl
    have b1 := q2.c 1 rfl
    have b2 := q2.c 2 rfl
    have b3 := q2.c 3 rfl
    have b4 := q2.c 4 rfl
    have f0 := q2.f 0 rfl
    have f1 := q2.f 1 rfl
    have f2 := q2.f 2 rfl
    have f3 := q2.f 3 rfl
    have f4 := q2.f 4 rfl
    go_wp2
    clear a0 a1 a2 a3 a4 b0 b1 b2 b3 b4 f0 f1 f2 f3 f4
    generalize hW : World.setCell _ _ _ = W4
    have rR4 : Row W4 (w.heap.size + 1) [.bool s, .int .u64 a, .int .u64 b, .int .u64 c, .int .u64 d] := by rw [← hW]; exact q2.put5 _ _ _ _ _
    have hB4 : Below w.heap.size w W4 := by rw [← hW]; exact below_put5 HB2 (by omega) _ _ _ _ _
    exact bodyPost_ret (v := .tuple #[iv s a b c d, .int .i64 0]) (by simp [results, Tryz.results122, go_sem, rR4.c 0 rfl, rR4.c 1 rfl, rR4.c 2 rfl, rR4.c 3 rfl, rR4.c 4 rfl]) rfl ⟨by rw [HR.out], hB4⟩
  · have HR := Lib.hid (show negR n a b c d = .tuple #[iv false 0 0 0 0, .int .i64 2] by simp [negR, hz])
    have hn : n = true := by cases n <;> simp at hz ⊢
    have hz2 : zeroB a b c d = true := by cases n <;> simp at hz ⊢; exact hz
    subst hn
    rw [errArg_bad hz2] at hC
    clear hz hz2
    go_enter Tryz.func122, Tryz.ntmps122
    go_wp2_with fail
    refine (hC.out _).mono ?_
    rintro e w1 ⟨rfl, hb1⟩
    have hB : Below w.heap.size w w1 := (((Below.refl w.heap.size w).alloc (Nat.le_refl _) _).alloc (by simp) _).trans (hb1.mono (by simp; omega))
    have r2 : Row w1 (w.heap.size + 1) [.bool false, .int .u64 0, .int .u64 0, .int .u64 0, .int .u64 0] := (Row.at (by simp) _ _).after hb1
    clear hb1
    have b0 := r2.c 0 rfl
    have b1 := r2.c 1 rfl
    have b2 := r2.c 2 rfl
    have b3 := r2.c 3 rfl
    have b4 := r2.c 4 rfl
    have f0 := r2.f 0 rfl
    have f1 := r2.f 1 rfl
    have f2 := r2.f 2 rfl
    have f3 := r2.f 3 rfl
    have f4 := r2.f 4 rfl
    go_wp2
    clear b0 b1 b2 b3 b4 f0 f1 f2 f3 f4
    generalize hW : World.setCell _ _ _ = W4
    have rR4 : Row W4 (w.heap.size + 1) [.bool false, .int .u64 0, .int .u64 0, .int .u64 0, .int .u64 0] := by rw [← hW]; exact r2.put5 _ _ _ _ _
    have hB4 : Below w.heap.size w W4 := by rw [← hW]; exact below_put5 hB (by omega) _ _ _ _ _
    exact bodyPost_ret (v := .tuple #[iv false 0 0 0 0, .int .i64 2]) (by simp [results, Tryz.results122, go_sem, rR4.c 0 rfl, rR4.c 1 rfl, rR4.c 2 rfl, rR4.c 3 rfl, rR4.c 4 rfl]) rfl ⟨by rw [HR.out], hB4⟩
end Go.Proofs.YthmobcpdbgmbeaaGreatDoor
