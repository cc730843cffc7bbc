/- Contract of package limb's twos of one magnitude that is not 0; the table of the lowest bits reads as it was laid. -/
import Derived.Test.YtlbijchbngnmmaaDoorP
namespace Go.Proofs.YtlbijchbngnmmaaDoor
open Go.RowKit Go.Shelf
attribute [local go_sem] Oper.semAt_some

set_option maxRecDepth 100000 in
set_option maxHeartbeats 2000000 in
theorem twos_one (b c x0 : Nat) (rest : List Nat) (m : Nat → Nat) (hm : ∀ i, m i < 18446744073709551616) (hbits : bitsTo m 4 = x0 :: rest) (hx0 : x0 < 256) (w : World)
    (hr : Row w b [.int .u64 (m 0), .int .u64 (m 1), .int .u64 (m 2), .int .u64 (m 3)]) (ht : TabTz w) (hw0 : 0 < w.heap.size) :
    Calls Tryd.prog 74 #[.slice (some ⟨b, 0, none⟩) 1 c] w fun e w' => e = .returned (.int .i64 x0) ∧ Below w.heap.size w w' := by
  refine (callsIn_wide (n := 9)).1 ?_
  have HB := Lib.hid hbits; clear hbits
  have Hm := Lib.hid hm; clear hm
  have Ht := Lib.hid ht; clear ht
  have lb := hr.lt
  have d0 := hr.c 0 rfl
  have d1 := hr.c 1 rfl
  have d2 := hr.c 2 rfl
  have d3 := hr.c 3 rfl
  refine callsIn_of_wp_marks Tryd.func74 rfl trivial ?_ rfl
  simp only [Tryd.ntmps74, List.size_toArray, List.length_cons, List.length_nil, Nat.reduceAdd, Nat.reduceSub, Array.replicate_succ, Array.replicate_zero, List.push_toArray, List.append_toArray, List.nil_append, List.cons_append]
  refine wpIn_wide.2 ?_
  go_wp2_with fail
  go_step3
  go_wp2_with fail
  go_step3
  go_wp2_with fail
  refine wp_loop_rounds 2 ?_
  rw [rounds_succ]
  go_wp2_with fail
  refine callsIn_wide.1 ((places_in m _).mono ?_)
  rintro e w1 ⟨rfl, rfl⟩
  go_wp2_with fail
  generalize hW : World.alloc _ _ = W0
  have rL : Row W0 w.heap.size [.int .i64 256] := by rw [← hW]; exact ((Row.at rfl _ _).alloc _).alloc _
  have rX : Row W0 (w.heap.size + 1 + 1) [.int .u64 (m 0), .int .u64 (m 1), .int .u64 (m 2), .int .u64 (m 3)] := by rw [← hW]; exact Row.at (by simp) _ _
  have hB0 : Below w.heap.size w W0 := by rw [← hW]; exact (((Below.refl w.heap.size w).alloc (Nat.le_refl _) _).alloc (by simp) _).alloc (by simp; omega) _
  clear hW d0 d1 d2 d3 hr
  have hsz := hB0.size
  refine (wpIn_wide (n := 7)).1 ?_
  refine wpIn_rangeFunc_ownF (α := Nat) rfl (by omega) (gf := 85) (lb := #[.pointer (some ⟨w.heap.size + 1 + 1, 0, none⟩)]) rfl trivial (enters_of Tryd.func85 (by kernel_rfl) rfl)
    (places_stops (w.heap.size + 1 + 1) w.heap.size m Hm.out hw0 W0 hsz rX (Ht.out.below hw0 hB0)) belowK_t (belowK_b (by omega)) (Below.refl _ _) (fun _ => rfl)
    (fun pre W => pre = [] ∧ W.cell? ⟨w.heap.size, 0, none⟩ = some (.int .i64 256) ∧ W.frozen? ⟨w.heap.size, 0, none⟩ = false ∧ Below w.heap.size w W)
    (fun c pre W => c = .exit 1 ∧ (∃ x : Nat, pre = [x] ∧ (x < 256 → W.cell? ⟨w.heap.size, 0, none⟩ = some (.int .i64 x))) ∧ (W.cell? ⟨w.heap.size, 0, none⟩).isSome = true ∧ Below w.heap.size w W)
    (fun s A B row hs hg hr => ⟨hs.1, cell_kept hs.2.1 hg (fun r e => (hr r e).2), (frozen_kept hs.2.1 hg (fun r e => (hr r e).2)).trans hs.2.2.1, hs.2.2.2.grown hg hs.2.2.2.size (fun k e => Nat.le_trans hsz (hr k e).1)⟩)
    (fun c s A B row hs hg hr => ⟨hs.1, hs.2.1.elim (fun x hx => ⟨x, hx.1, fun hl => cell_kept (hx.2 hl) hg (fun r e => (hr r e).2)⟩), by
      obtain ⟨v, hv⟩ := Option.isSome_iff_exists.1 hs.2.2.1
      rw [cell_kept hv hg (fun r e => (hr r e).2)]; rfl, hs.2.2.2.grown hg hs.2.2.2.size (fun k e => Nat.le_trans hsz (hr k e).1)⟩)
    ⟨rfl, rL.c 0 rfl, rL.f 0 rfl, hB0⟩
    (fun x => { tmps := #[.slice (some ⟨b, 0, none⟩) 1 c, undef, .int .i64 0, .pointer (some ⟨w.heap.size, 0, none⟩), undef, .pointer (some ⟨w.heap.size + 1, 0, none⟩), .int .i64 (x : Nat), .slice (some ⟨b, 0, none⟩) 1 c, .int .i64 1, .int .i64 0, .bool true, .pointer (some ⟨b, 0, none⟩),
      .agg #[.int .u64 (m 0), .int .u64 (m 1), .int .u64 (m 2), .int .u64 (m 3)], .agg #[.int .u64 (m 0), .int .u64 (m 1), .int .u64 (m 2), .int .u64 (m 3)], .func (.func 85) #[] #[.pointer (some ⟨w.heap.size + 1 + 1, 0, none⟩)], .int .i64 (x : Nat), undef, undef, undef, undef, undef], defers := [] }) ?assign ?body ?done ?stop
  case assign =>
    intro l x W K hK
    gi_wp2
    exact hK
  case body =>
    rintro l pre x W ⟨rfl, hc, hf, hB⟩ _
    have hS : (W.cell? ⟨w.heap.size, 0, none⟩).isSome = true := by rw [hc]; rfl
    gi_wp2
    · exact ⟨KeepsOthers.setCell _ _ _, rfl, ⟨x, rfl, fun _ => World.cell?_setCell_same' _ _ _ hS⟩, by rw [World.cell?_setCell_same' _ _ _ hS]; rfl, hB.setCell (p := ⟨w.heap.size, 0, none⟩) (Nat.le_refl _) _⟩
    · exact ⟨KeepsOthers.setCell _ _ _, rfl, ⟨x, rfl, fun hl => by omega⟩, by rw [World.cell?_setCell_same' _ _ _ hS]; rfl, hB.setCell (p := ⟨w.heap.size, 0, none⟩) (Nat.le_refl _) _⟩
  case done =>
    rintro D ys W hD rfl ⟨hn, _⟩ hK
    rw [HB.out] at hn
    cases hn
  case stop =>
    rintro D c pre W hD hp ⟨rfl, ⟨x, rfl, hc⟩, hs, hB⟩ hK
    rw [HB.out] at hp
    obtain rfl : x = x0 := by
      obtain ⟨t, ht⟩ := hp
      simp at ht; exact ht.1
    have hc' := hc hx0
    refine wpIn_wide.2 ?_
    go_wp2_with fail
    rw [rounds_succ]
    go_wp2_with fail
    rw [Exit.noGoto_ret]
    refine ⟨by simp, .inl ⟨_, _, rfl, run_takeDeferred hK, ?_⟩⟩
    exact ⟨_, results_tmp rfl _ _ _, rfl, hB.trans (belowK_b (w := w) (Nat.le_refl _) W D _ _ (by omega) hK rfl rfl)⟩
end Go.Proofs.YtlbijchbngnmmaaDoor
