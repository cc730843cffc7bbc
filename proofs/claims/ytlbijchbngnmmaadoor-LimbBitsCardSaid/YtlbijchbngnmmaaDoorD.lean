/- Contracts of package limb's parted of single words and of Quo of small Ints; the divisor is not 0. -/
import Derived.Test.YtlbijchbngnmmaaDoorC
namespace Go.Proofs.YtlbijchbngnmmaaDoor
open Go.RowKit

/-- The order of two magnitudes of four words. -/
def ordW (a b c d a' b' c' d' : Int) : Int := if cmpI d d' = 0 then (if cmpI c c' = 0 then (if cmpI b b' = 0 then cmpI a a' else cmpI b b') else cmpI c c') else cmpI d d'
def row4 (a b c d : Int) : Nat → Int
  | 0 => a
  | 1 => b
  | 2 => c
  | _ => d
theorem ordF_row4 (a b c d a' b' c' d' : Int) : ordF (row4 a b c d) (row4 a' b' c' d') 4 = ordW a b c d a' b' c' d' := by
  simp only [ordF, row4, ordW]
  by_cases h : cmpI a a' = 0 <;> simp [h]
theorem order_words (a b c d a' b' c' d' : Int) (p q k k' : Nat) (w : World)
    (h0 : w.cell? ⟨p, 0, none⟩ = some (.int .u64 a)) (h1 : w.cell? ⟨p, 1, none⟩ = some (.int .u64 b)) (h2 : w.cell? ⟨p, 2, none⟩ = some (.int .u64 c)) (h3 : w.cell? ⟨p, 3, none⟩ = some (.int .u64 d))
    (g0 : w.cell? ⟨q, 0, none⟩ = some (.int .u64 a')) (g1 : w.cell? ⟨q, 1, none⟩ = some (.int .u64 b')) (g2 : w.cell? ⟨q, 2, none⟩ = some (.int .u64 c')) (g3 : w.cell? ⟨q, 3, none⟩ = some (.int .u64 d')) :
    Calls Tryd.prog 58 #[.slice (some ⟨p, 0, none⟩) 4 k, .slice (some ⟨q, 0, none⟩) 4 k'] w fun e w' => e = .returned (.int .i64 (ordW a b c d a' b' c' d')) ∧ ∃ k, w' = w.drewN k := by
  rw [← ordF_row4]
  refine order_any _ _ 4 p 0 q 0 k k' w (by omega) (fun i hi => ?_) (fun i hi => ?_)
  · match i, hi with
    | 0, _ => exact h0
    | 1, _ => exact h1
    | 2, _ => exact h2
    | 3, _ => exact h3
  · match i, hi with
    | 0, _ => exact g0
    | 1, _ => exact g1
    | 2, _ => exact g2
    | 3, _ => exact g3

theorem ordW_one {a y : Int} (h : y ≤ a) : 0 ≤ ordW a 0 0 0 y 0 0 0 := by
  have e : ordW a 0 0 0 y 0 0 0 = cmpI a y := rfl
  rw [e, cmpI]; split <;> try split
  all_goals omega
set_option maxHeartbeats 800000 in
theorem parted_one (a y : Int) (w : World) (hb : a < 18446744073709551616) (hy : 1 ≤ y) (hy2 : y ≤ a) :
    Calls Tryd.prog 51 #[wv a 0 0 0, wv y 0 0 0] w fun e w' => e = .returned (.tuple #[wv (a / y) 0 0 0, wv (a % y) 0 0 0]) ∧ Below w.heap.size w w' := by
  have HS := Lib.hid (show sizeF y 0 0 0 = 1 by simp [sizeF]; omega)
  have ho := ordW_one hy2
  go_enter Tryd.func51, Tryd.ntmps51
  go_wp2_with fail
  go_quiet ((go_at_call 58; refine Calls.quiet_of (order_words a 0 0 0 y 0 0 0 _ _ _ _ _ ?_ ?_ ?_ ?_ ?_ ?_ ?_ ?_) <;> go_simp))
  have hB0 : Below w.heap.size w _ := below_drewN (((((Below.refl w.heap.size w).alloc (Nat.le_refl _) (.cells #[.int .u64 a, .int .u64 0, .int .u64 0, .int .u64 0] 79)).alloc (by simp) (.cells #[.int .u64 y, .int .u64 0, .int .u64 0, .int .u64 0] 79)).alloc (by simp; omega) (.cells #[.int .u64 0, .int .u64 0, .int .u64 0, .int .u64 0] 79)).alloc (by simp; omega) (.cells #[.int .u64 0, .int .u64 0, .int .u64 0, .int .u64 0] 79)) nq
  have r0 : Row _ w.heap.size [.int .u64 a, .int .u64 0, .int .u64 0, .int .u64 0] := ((((Row.new w _ 79).alloc (.cells #[.int .u64 y, .int .u64 0, .int .u64 0, .int .u64 0] 79)).alloc (.cells #[.int .u64 0, .int .u64 0, .int .u64 0, .int .u64 0] 79)).alloc (.cells #[.int .u64 0, .int .u64 0, .int .u64 0, .int .u64 0] 79)).drewN nq
  have r1 : Row _ (w.heap.size + 1) [.int .u64 y, .int .u64 0, .int .u64 0, .int .u64 0] := (((Row.at (w := w.alloc (.cells #[.int .u64 a, .int .u64 0, .int .u64 0, .int .u64 0] 79)) (by simp) _ 79).alloc (.cells #[.int .u64 0, .int .u64 0, .int .u64 0, .int .u64 0] 79)).alloc (.cells #[.int .u64 0, .int .u64 0, .int .u64 0, .int .u64 0] 79)).drewN nq
  have r2 : Row _ (w.heap.size + 1 + 1) [.int .u64 0, .int .u64 0, .int .u64 0, .int .u64 0] := ((Row.at (w := (w.alloc (.cells #[.int .u64 a, .int .u64 0, .int .u64 0, .int .u64 0] 79)).alloc (.cells #[.int .u64 y, .int .u64 0, .int .u64 0, .int .u64 0] 79)) (by simp) _ 79).alloc (.cells #[.int .u64 0, .int .u64 0, .int .u64 0, .int .u64 0] 79)).drewN nq
  have r3 : Row _ (w.heap.size + 1 + 1 + 1) [.int .u64 0, .int .u64 0, .int .u64 0, .int .u64 0] := (Row.at (w := ((w.alloc (.cells #[.int .u64 a, .int .u64 0, .int .u64 0, .int .u64 0] 79)).alloc (.cells #[.int .u64 y, .int .u64 0, .int .u64 0, .int .u64 0] 79)).alloc (.cells #[.int .u64 0, .int .u64 0, .int .u64 0, .int .u64 0] 79)) (by simp) _ 79).drewN nq
  go_wp2_with fail
  refine (size_any _ _ _ _ _).mono ?_
  rintro e w1 ⟨rfl, hb1⟩
  rw [HS.out]
  replace hB0 := hB0.trans (hb1.mono hB0.size)
  replace r0 := r0.after hb1
  replace r1 := r1.after hb1
  replace r2 := r2.after hb1
  replace r3 := r3.after hb1
  clear hb1
  have d0 := r0.c 0 rfl
  have d1 := r0.c 1 rfl
  have d2 := r0.c 2 rfl
  have d3 := r0.c 3 rfl
  have e0 := r1.c 0 rfl
  go_wp2_with fail
  refine (partedByWord_one a y _ (by omega) hb hy (by omega)).mono ?_
  rintro e w2 ⟨rfl, hb2⟩
  replace hB0 := hB0.trans (hb2.mono hB0.size)
  replace r2 := r2.after hb2
  replace r3 := r3.after hb2
  clear hb2 d0 d1 d2 d3 e0 r0 r1
  have s0 := r2.c 0 rfl
  have s1 := r2.c 1 rfl
  have s2 := r2.c 2 rfl
  have s3 := r2.c 3 rfl
  have t0 := r3.c 0 rfl
  have s0f := r2.f 0 rfl
  have s1f := r2.f 1 rfl
  have s2f := r2.f 2 rfl
  have s3f := r2.f 3 rfl
  have t0f := r3.f 0 rfl
  go_wp2
  clear s0 s1 s2 s3 t0 s0f s1f s2f s3f t0f
  generalize hW : World.setCell _ _ _ = W3
  have R2 : Row W3 (w.heap.size + 1 + 1) [.int .u64 (a / y), .int .u64 0, .int .u64 0, .int .u64 0] := by
    rw [← hW]; exact (r2.put4 _ _ _ _).other (by simp) _
  have R3 : Row W3 (w.heap.size + 1 + 1 + 1) [.int .u64 (a % y), .int .u64 0, .int .u64 0, .int .u64 0] := by
    rw [← hW]; exact (r3.other4 (by simp) _ _ _ _).set 0 (by simp) _
  replace hB0 : Below w.heap.size w W3 := by
    rw [← hW]; exact below_put1 (below_put4 hB0 (by omega) _ _ _ _) (by omega) _ _
  clear hW r2 r3
  have s0 := R2.c 0 rfl
  have s1 := R2.c 1 rfl
  have s2 := R2.c 2 rfl
  have s3 := R2.c 3 rfl
  have t0 := R3.c 0 rfl
  have t1 := R3.c 1 rfl
  have t2 := R3.c 2 rfl
  have t3 := R3.c 3 rfl
  have s0f := R2.f 0 rfl
  have s1f := R2.f 1 rfl
  have s2f := R2.f 2 rfl
  have s3f := R2.f 3 rfl
  have t0f := R3.f 0 rfl
  have t1f := R3.f 1 rfl
  have t2f := R3.f 2 rfl
  have t3f := R3.f 3 rfl
  go_region
  go_wp2
  clear s0 s1 s2 s3 t0 t1 t2 t3 s0f s1f s2f s3f t0f t1f t2f t3f
  generalize hW : World.drew _ = W4
  have Q2 : Row W4 (w.heap.size + 1 + 1) [.int .u64 (a / y), .int .u64 0, .int .u64 0, .int .u64 0] := by
    rw [← hW]; exact ((R2.put4 _ _ _ _).other4 (by simp) _ _ _ _).drew
  have Q3 : Row W4 (w.heap.size + 1 + 1 + 1) [.int .u64 (a % y), .int .u64 0, .int .u64 0, .int .u64 0] := by
    rw [← hW]; exact ((R3.other4 (by simp) _ _ _ _).put4 _ _ _ _).drew
  replace hB0 : Below w.heap.size w W4 := by
    rw [← hW]; exact (below_put4 (below_put4 hB0 (by omega) _ _ _ _) (by omega) _ _ _ _).drew
  clear hW
  exact bodyPost_ret (v := .tuple #[wv (a / y) 0 0 0, wv (a % y) 0 0 0]) (by simp [results, Tryd.results51, go_sem, Q2.c 0 rfl, Q2.c 1 rfl, Q2.c 2 rfl, Q2.c 3 rfl, Q3.c 0 rfl, Q3.c 1 rfl, Q3.c 2 rfl, Q3.c 3 rfl]) rfl ⟨rfl, hB0⟩
end Go.Proofs.YtlbijchbngnmmaaDoor
