/- Contracts of bits.Div64 with a high word of 0 and of package limb's partedByWord and parted of a single word; the divisor is not 0. -/
import Derived.Test.YtlbijchbngnmmaaDoorB
namespace Go.Proofs.YtlbijchbngnmmaaDoor
open Go.RowKit

set_option maxHeartbeats 400000 in
theorem div64_small (a y : Int) (w : World) (ha : 0 ≤ a) (hb : a < 18446744073709551616) (hy : 1 ≤ y) (hy2 : y < 18446744073709551616) :
    Calls Tryd.prog 89 #[.int .u64 0, .int .u64 a, .int .u64 y] w fun e w' => e = .returned (.tuple #[.int .u64 (a / y), .int .u64 (a % y)]) ∧ ∃ k, w' = w.drewN k := by
  go_enter Tryd.func89, Tryd.ntmps89
  go_wp2
  go_quiet (fail)
  go_wp2
  go_ret2
  exact ⟨rfl, _, rfl⟩
set_option maxHeartbeats 400000 in
theorem partedByWord_one (a y : Int) (w : World) (ha : 0 < a) (hb : a < 18446744073709551616) (hy : 1 ≤ y) (hy2 : y < 18446744073709551616) :
    Calls Tryd.prog 72 #[wv a 0 0 0, .int .u64 y] w fun e w' => e = .returned (.tuple #[wv (a / y) 0 0 0, .int .u64 (a % y)]) ∧ Below w.heap.size w w' := by
  go_enter Tryd.func72, Tryd.ntmps72
  have hs : sizeF a 0 0 0 = 1 := by simp [sizeF]; omega
  have H := Lib.hid hs; clear hs
  go_wp2_with (go_at_call 71; refine (size_any _ _ _ _ _).mono ?_; rintro e w1 ⟨rfl, hb1⟩; rw [H.out])
  have hc0 : w1.cell? ⟨w.heap.size, 0, none⟩ = some (.int .u64 a) := by rw [(bcell hb1).1 _ _ (by simp; omega)]; go_simp
  have hc1 : ∀ i, i < 4 → w1.cell? ⟨w.heap.size + 1, i, none⟩ = some (.int .u64 0) := fun i hi => by
    rw [(bcell hb1).1 _ _ (by simp)]
    match i, hi with
    | 0, _ => go_simp
    | 1, _ => go_simp
    | 2, _ => go_simp
    | 3, _ => go_simp
  have d0 := hc1 0 (by omega)
  have d1 := hc1 1 (by omega)
  have d2 := hc1 2 (by omega)
  have d3 := hc1 3 (by omega)
  clear hc1
  have f0 : w1.frozen? ⟨w.heap.size + 1, 0, none⟩ = false := by rw [(bcell hb1).2 _ _ (by simp)]; go_simp
  have f1 : w1.frozen? ⟨w.heap.size + 1, 1, none⟩ = false := by rw [(bcell hb1).2 _ _ (by simp)]; go_simp
  have f2 : w1.frozen? ⟨w.heap.size + 1, 2, none⟩ = false := by rw [(bcell hb1).2 _ _ (by simp)]; go_simp
  have f3 : w1.frozen? ⟨w.heap.size + 1, 3, none⟩ = false := by rw [(bcell hb1).2 _ _ (by simp)]; go_simp
  refine wp_loop_rounds 2 ?_
  rw [rounds_succ]
  go_wp2_with (go_at_call 89; refine (div64_small _ _ _ (by omega) (by omega) (by omega) (by omega)).mono ?_; rintro e w2 ⟨rfl, k, rfl⟩)
  rw [rounds_succ]
  go_wp2
  have hB : Below w.heap.size w w1 := (((Below.refl _ _).alloc (Nat.le_refl _) _).alloc (by simp) _).trans (hb1.mono (by simp; omega))
  refine bodyPost_ret (v := .tuple #[wv (a / y) 0 0 0, .int .u64 (a % y)]) (by simp [results, Tryd.results72, go_sem, d0, d1, d2, d3]) rfl ⟨rfl, ?_⟩
  repeat (first | exact hB | refine Below.setCell ?_ (by simp) _ | refine below_drewN ?_ _ | refine Below.drew ?_)

end Go.Proofs.YtlbijchbngnmmaaDoor
