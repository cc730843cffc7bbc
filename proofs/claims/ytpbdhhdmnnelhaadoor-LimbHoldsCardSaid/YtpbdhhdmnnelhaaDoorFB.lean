/- LimbMirrors' and LimbHolds' helpers: sure, rows known together. -/
import Derived.Test.YtpbdhhdmnnelhaaDoorET
import Derived.Deep.RegionWith
namespace Go.Proofs.YtpbdhhdmnnelhaaDoor
open Go.RowKit

section
variable {w W W1 : World} {L L0 M : List (Nat × List Value)}
theorem SL.shuts (h : RS w L0 W) : ∃ L, Hid (SL w L W) ∧ Hid (L = L0) := ⟨L0, Lib.hid h, Lib.hid rfl⟩
theorem SL.opens (hL : L = L0) (h : SL w L W) : RS w L0 W := by subst hL; exact h
theorem SL.again (hL : L = L0) (h : RS w L0 W) : Hid (SL w L W) := by subst hL; exact Lib.hid h
theorem RS.pre (h : RS w (L ++ M) W) : RS w L W := ⟨fun p hp => h.1 p (List.mem_append_left _ hp), h.2⟩
end
set_option maxHeartbeats 800000 in
theorem sure_any (s : Bool) (a0 a1 a2 a3 k : Int) (w : World) :
    Calls Tryd.prog 42 #[iv s a0 a1 a2 a3, .int .i64 k] w fun e w' => e = .returned (.tuple #[iv s a0 a1 a2 a3, .bool (k == 0)]) ∧ Below w.heap.size w w' := by
  go_enter Tryd.func42, Tryd.ntmps42
  go_wp2_with fail
  have hS : RS w [(w.heap.size, [.bool s, .int .u64 a0, .int .u64 a1, .int .u64 a2, .int .u64 a3]), (w.heap.size + 1, [.bool false, .int .u64 0, .int .u64 0, .int .u64 0, .int .u64 0])] _ :=
    ((RS.nil w).new (B := w.heap.size) rfl [.bool s, .int .u64 a0, .int .u64 a1, .int .u64 a2, .int .u64 a3] 25).new (B := w.heap.size + 1) (by simp) [.bool false, .int .u64 0, .int .u64 0, .int .u64 0, .int .u64 0] 25
  generalize World.alloc _ _ = W0 at hS ⊢
  have hD := hS.drew
  clear hS
  have i0 := hD.c 0 rfl 0 rfl
  have i1 := hD.c 0 rfl 1 rfl
  have i2 := hD.c 0 rfl 2 rfl
  have i3 := hD.c 0 rfl 3 rfl
  have i4 := hD.c 0 rfl 4 rfl
  go_region_with ((go_at_call 19; refine (num_any _ _).mono ?_; rintro e w1 ⟨rfl, hb1⟩; have hE := hD.after hb1; have rE := hE.row 1 rfl; have j0 := hE.c 0 rfl 0 rfl; have j1 := hE.c 0 rfl 1 rfl; have j2 := hE.c 0 rfl 2 rfl; have j3 := hE.c 0 rfl 3 rfl; have j4 := hE.c 0 rfl 4 rfl; have c0 := rE.c 0 rfl; have c1 := rE.c 1 rfl; have c2 := rE.c 2 rfl; have c3 := rE.c 3 rfl; have c4 := rE.c 4 rfl; have f0 := rE.f 0 rfl; have f1 := rE.f 1 rfl; have f2 := rE.f 2 rfl; have f3 := rE.f 3 rfl; have f4 := rE.f 4 rfl; have hB := hE.2))
  all_goals
    go_wp2_with fail
    clear i0 i1 i2 i3 i4 j0 j1 j2 j3 j4 c0 c1 c2 c3 c4 f0 f1 f2 f3 f4
    generalize hW : World.setCell _ _ _ = W3
    have r3 : Row W3 (w.heap.size + 1) [.bool s, .int .u64 a0, .int .u64 a1, .int .u64 a2, .int .u64 a3] := by rw [← hW]; exact rE.put5 _ _ _ _ _
    have hB3 : Below w.heap.size w W3 := by rw [← hW]; exact below_put5 hB (by omega) _ _ _ _ _
    clear hW
    exact bodyPost_ret (v := .tuple #[iv s a0 a1 a2 a3, .bool (k == 0)]) (by simp [results, Tryd.results42, go_sem, r3.c 0 rfl, r3.c 1 rfl, r3.c 2 rfl, r3.c 3 rfl, r3.c 4 rfl]) rfl ⟨rfl, hB3⟩
end Go.Proofs.YtpbdhhdmnnelhaaDoor
