/- Contract of limb's twos of two magnitudes, of which the first is not 0. -/
import Derived.Test.YthmobcpdbgmbeaaGreatDoorP
import Derived.Test.YthmobcpdbgmbeaaGreatDoorBJ
namespace Go.Proofs.YthmobcpdbgmbeaaGreatDoor
open Go.RowKit Go.Shelf
attribute [local go_sem] Oper.semAt_some
/-- The less of a place and the first of a list of places, if there is one. -/
def least (x : Nat) : List Nat → Nat
  | [] => x
  | y :: _ => min x y
set_option maxRecDepth 100000 in
set_option maxHeartbeats 2000000 in
theorem twos_two_any (b c x0 : Nat) (rest rest' : List Nat) (m k : Nat → Nat) (hm : ∀ i, m i < 18446744073709551616) (hkk : ∀ i, k i < 18446744073709551616) (hbits : bitsTo m 4 = x0 :: rest) (hbits' : bitsTo k 4 = rest') (hx0 : x0 < 256) (w : World)
    (hr : Row w b [.int .u64 (m 0), .int .u64 (m 1), .int .u64 (m 2), .int .u64 (m 3), .int .u64 (k 0), .int .u64 (k 1), .int .u64 (k 2), .int .u64 (k 3)]) (ht : TabTz w) (hw0 : 0 < w.heap.size) :
    Calls Tryz.prog 153 #[.slice (some ⟨b, 0, none⟩) 2 c] w fun e w' => e = .returned (.int .i64 (least x0 rest' : Nat)) ∧ Below w.heap.size w w' := by
  refine (callsIn_wide (n := 9)).1 ?_
  have HB := Lib.hid hbits; clear hbits
  have HB' := Lib.hid hbits'; clear hbits'
  have Hk := Lib.hid hkk; clear hkk
  have Hm := Lib.hid hm; clear hm
  have Ht := Lib.hid ht; clear ht
  have lb := hr.lt
  have d0 := hr.c 0 rfl
  have d1 := hr.c 1 rfl
  have d2 := hr.c 2 rfl
  have d3 := hr.c 3 rfl
  refine callsIn_of_wp_marks Tryz.func153 rfl trivial ?_ rfl
  simp only [Tryz.ntmps153, List.size_toArray, List.length_cons, List.length_nil, Nat.reduceAdd, Nat.reduceSub, Array.replicate_succ, Array.replicate_zero, List.push_toArray, List.append_toArray, List.nil_append, List.cons_append]
  refine wpIn_wide.2 ?_
  go_wp2_with fail
  go_step3
  go_wp2_with fail
  go_step3
  go_wp2_with fail
  refine wp_loop_rounds 3 ?_
  rw [rounds_succ]
  go_wp2_with fail
  refine callsIn_wide.1 ((places_in m _).mono ?_)
  rintro e w1 ⟨rfl, rfl⟩
  go_wp2_with fail
  generalize hW : World.alloc _ _ = W0
  have rL : Row W0 w.heap.size [.int .i64 256] := by rw [← hW]; exact ((Row.at rfl _ _).alloc _).alloc _
  have rX : Row W0 (w.heap.size + 1 + 1) [.int .u64 (m 0), .int .u64 (m 1), .int .u64 (m 2), .int .u64 (m 3)] := by rw [← hW]; exact Row.at (by simp) _ _
  have hB0 : Below w.heap.size w W0 := by rw [← hW]; exact (((Below.refl w.heap.size w).alloc (Nat.le_refl _) _).alloc (by simp) _).alloc (by simp; omega) _
  clear hW d0 d1 d2 d3
  have hsz := hB0.size
  have lW0 := rL.lt
  refine (wpIn_wide (n := 7)).1 ?_
  refine wpIn_rangeFunc_ownF (α := Nat) rfl (by omega) (gf := 168) (lb := #[.pointer (some ⟨w.heap.size + 1 + 1, 0, none⟩)]) rfl trivial (enters_of Tryz.func168 (by kernel_rfl) rfl)
    (places_stops (w.heap.size + 1 + 1) w.heap.size m Hm.out hw0 W0 hsz rX (Ht.out.below hw0 hB0)) belowK_t (belowK_b (by omega)) (Below.refl _ _) (fun _ => rfl)
    (fun pre W => pre = [] ∧ W.cell? ⟨w.heap.size, 0, none⟩ = some (.int .i64 256) ∧ W.frozen? ⟨w.heap.size, 0, none⟩ = false ∧ Below w.heap.size w W)
    (fun c pre W => c = .exit 1 ∧ (∃ x : Nat, pre = [x] ∧ (x < 256 → W.cell? ⟨w.heap.size, 0, none⟩ = some (.int .i64 x))) ∧ ((W.cell? ⟨w.heap.size, 0, none⟩).isSome = true ∧ W.frozen? ⟨w.heap.size, 0, none⟩ = false) ∧ Below w.heap.size w W)
    (fun s A B row hs hg hr => ⟨hs.1, cell_kept hs.2.1 hg (fun r e => (hr r e).2), (frozen_kept hs.2.1 hg (fun r e => (hr r e).2)).trans hs.2.2.1, hs.2.2.2.grown hg hs.2.2.2.size (fun k e => Nat.le_trans hsz (hr k e).1)⟩)
    (fun c s A B row hs hg hr => ⟨hs.1, hs.2.1.elim (fun x hx => ⟨x, hx.1, fun hl => cell_kept (hx.2 hl) hg (fun r e => (hr r e).2)⟩), by
      obtain ⟨v, hv⟩ := Option.isSome_iff_exists.1 hs.2.2.1.1
      exact ⟨by rw [cell_kept hv hg (fun r e => (hr r e).2)]; rfl, (frozen_kept hv hg (fun r e => (hr r e).2)).trans hs.2.2.1.2⟩, hs.2.2.2.grown hg hs.2.2.2.size (fun k e => Nat.le_trans hsz (hr k e).1)⟩)
    ⟨rfl, rL.c 0 rfl, rL.f 0 rfl, hB0⟩
    (fun x => { tmps := #[.slice (some ⟨b, 0, none⟩) 2 c, undef, .int .i64 0, .pointer (some ⟨w.heap.size, 0, none⟩), undef, .pointer (some ⟨w.heap.size + 1, 0, none⟩), .int .i64 (x : Nat), .slice (some ⟨b, 0, none⟩) 2 c, .int .i64 2, .int .i64 0, .bool true, .pointer (some ⟨b, 0, none⟩),
      .agg #[.int .u64 (m 0), .int .u64 (m 1), .int .u64 (m 2), .int .u64 (m 3)], .agg #[.int .u64 (m 0), .int .u64 (m 1), .int .u64 (m 2), .int .u64 (m 3)], .func (.func 168) #[] #[.pointer (some ⟨w.heap.size + 1 + 1, 0, none⟩)], .int .i64 (x : Nat), undef, undef, undef, undef, undef], defers := [] }) ?assign ?body ?done ?stop
  case assign =>
    intro l x W K hK
    gi_wp2
    exact hK
  case body =>
    rintro l pre x W ⟨rfl, hc, hf, hB⟩ _
    have hS : (W.cell? ⟨w.heap.size, 0, none⟩).isSome = true := by rw [hc]; rfl
    gi_wp2
    · exact ⟨KeepsOthers.setCell _ _ _, rfl, ⟨x, rfl, fun _ => World.cell?_setCell_same' _ _ _ hS⟩, ⟨by rw [World.cell?_setCell_same' _ _ _ hS]; rfl, by rw [World.frozen?_setCell]; exact hf⟩, hB.setCell (p := ⟨w.heap.size, 0, none⟩) (Nat.le_refl _) _⟩
    · exact ⟨KeepsOthers.setCell _ _ _, rfl, ⟨x, rfl, fun hl => by omega⟩, ⟨by rw [World.cell?_setCell_same' _ _ _ hS]; rfl, by rw [World.frozen?_setCell]; exact hf⟩, hB.setCell (p := ⟨w.heap.size, 0, none⟩) (Nat.le_refl _) _⟩
  case done =>
    rintro D ys W hD rfl ⟨hn, _⟩ hK
    rw [HB.out] at hn
    cases hn
  case stop =>
    rintro D c' pre W hD hp ⟨rfl, ⟨x, rfl, hc⟩, ⟨hs, hfz⟩, hB⟩ hK
    rw [HB.out] at hp
    obtain rfl : x = x0 := by
      obtain ⟨t, ht⟩ := hp
      simp at ht; exact ht.1
    have hc' := hc hx0
    have e0 : W.cell? ⟨b, 0 + 1 * 4, none⟩ = some (.int .u64 (k 0)) := (hB.cell (p := ⟨b, 4, none⟩) lb).trans (hr.c 4 rfl)
    have e1 : W.cell? ⟨b, 0 + 1 * 4 + 1, none⟩ = some (.int .u64 (k 1)) := (hB.cell (p := ⟨b, 5, none⟩) lb).trans (hr.c 5 rfl)
    have e2 : W.cell? ⟨b, 0 + 1 * 4 + 2, none⟩ = some (.int .u64 (k 2)) := (hB.cell (p := ⟨b, 6, none⟩) lb).trans (hr.c 6 rfl)
    have e3 : W.cell? ⟨b, 0 + 1 * 4 + 3, none⟩ = some (.int .u64 (k 3)) := (hB.cell (p := ⟨b, 7, none⟩) lb).trans (hr.c 7 rfl)
    refine wpIn_wide.2 ?_
    go_wp2_with fail
    rw [rounds_succ]
    go_wp2_with fail
    refine callsIn_wide.1 ((places_in k _).mono ?_)
    rintro e w1 ⟨rfl, rfl⟩
    clear e0 e1 e2 e3
    go_wp2_with fail
    have lD : D < W.heap.size := (Array.getElem?_eq_some_iff.1 hK).1
    have lL : w.heap.size < W.heap.size := block_lt_of_cell hc'
    have rLW : Row W w.heap.size [.int .i64 x] := ⟨lL, fun i v hv => by
      match i, hv with
      | 0, hv => exact ⟨hc'.trans hv, hfz⟩⟩
    generalize hW2 : World.alloc _ _ = W2
    have rL2 : Row W2 w.heap.size [.int .i64 x] := by rw [← hW2]; exact (rLW.alloc _).alloc _
    have rX2 : Row W2 (W.heap.size + 1) [.int .u64 (k 0), .int .u64 (k 1), .int .u64 (k 2), .int .u64 (k 3)] := by rw [← hW2]; exact Row.at (by simp) _ _
    have hB2 : Below w.heap.size w W2 := by rw [← hW2]; exact (hB.alloc hB.size _).alloc (by have := hB.size; simp; omega) _
    have hK2 : W2.heap[D]? = some (.deferred (some [])) := by
      rw [← hW2, Below.heap_alloc _ _ _ (by simp; omega), Below.heap_alloc _ _ _ lD]; exact hK
    have lD2 : D < W2.heap.size := (Array.getElem?_eq_some_iff.1 hK2).1
    clear hW2 rLW hK hc hc' hs hfz
    have hsz2 := hB2.size
    refine (wpIn_wide (n := 7)).1 ?_
    refine wpIn_rangeFunc_ownF (α := Nat) rfl (by omega) (gf := 168) (lb := #[.pointer (some ⟨W.heap.size + 1, 0, none⟩)]) rfl trivial (enters_of Tryz.func168 (by kernel_rfl) rfl)
      (places_stops (W.heap.size + 1) w.heap.size k Hk.out hw0 W2 hsz2 rX2 (Ht.out.below hw0 hB2)) belowK_t (belowK_b (by omega)) (Below.refl _ _) (fun _ => rfl)
      (fun pre V => pre = [] ∧ V.cell? ⟨w.heap.size, 0, none⟩ = some (.int .i64 x) ∧ V.frozen? ⟨w.heap.size, 0, none⟩ = false ∧ (D < V.heap.size ∧ V.heap[D]? = some (.deferred (some []))) ∧ Below w.heap.size w V)
      (fun c pre V => c = .exit 1 ∧ (∃ y : Nat, pre = [y] ∧ V.cell? ⟨w.heap.size, 0, none⟩ = some (.int .i64 (min x y : Nat))) ∧ (V.cell? ⟨w.heap.size, 0, none⟩).isSome = true ∧ (D < V.heap.size ∧ V.heap[D]? = some (.deferred (some []))) ∧ Below w.heap.size w V)
      (fun s A B row hs hg hr => ⟨hs.1, cell_kept hs.2.1 hg (fun r e => (hr r e).2), (frozen_kept hs.2.1 hg (fun r e => (hr r e).2)).trans hs.2.2.1,
        ⟨Nat.lt_of_lt_of_le hs.2.2.2.1.1 hg.size, (hg.block D hs.2.2.2.1.1 (fun e => by have := (hr D e.symm).1; omega)).trans hs.2.2.2.1.2⟩, hs.2.2.2.2.grown hg hs.2.2.2.2.size (fun k e => Nat.le_trans hsz2 (hr k e).1)⟩)
      (fun c s A B row hs hg hr => ⟨hs.1, hs.2.1.elim (fun x hx => ⟨x, hx.1, cell_kept hx.2 hg (fun r e => (hr r e).2)⟩), by
        obtain ⟨v, hv⟩ := Option.isSome_iff_exists.1 hs.2.2.1
        rw [cell_kept hv hg (fun r e => (hr r e).2)]; rfl,
        ⟨Nat.lt_of_lt_of_le hs.2.2.2.1.1 hg.size, (hg.block D hs.2.2.2.1.1 (fun e => by have := (hr D e.symm).1; omega)).trans hs.2.2.2.1.2⟩, hs.2.2.2.2.grown hg hs.2.2.2.2.size (fun k e => Nat.le_trans hsz2 (hr k e).1)⟩)
      ⟨rfl, rL2.c 0 rfl, rL2.f 0 rfl, ⟨lD2, hK2⟩, hB2⟩
      (fun y => { tmps := #[.slice (some ⟨b, 0, none⟩) 2 c, undef, .int .i64 0, .pointer (some ⟨w.heap.size, 0, none⟩), undef, .pointer (some ⟨W.heap.size, 0, none⟩), .int .i64 (y : Nat), .slice (some ⟨b, 0, none⟩) 2 c, .int .i64 2, .int .i64 1, .bool true, .pointer (some ⟨b, 4, none⟩),
        .agg #[.int .u64 (k 0), .int .u64 (k 1), .int .u64 (k 2), .int .u64 (k 3)], .agg #[.int .u64 (k 0), .int .u64 (k 1), .int .u64 (k 2), .int .u64 (k 3)], .func (.func 168) #[] #[.pointer (some ⟨W.heap.size + 1, 0, none⟩)], .int .i64 (y : Nat), undef, undef, undef, .int .i64 1, undef], defers := [] }) ?assign ?body ?done ?stop
    case assign =>
      intro l x W K hK
      gi_wp2
      exact hK
    case body =>
      rintro l pre y V ⟨rfl, hc, hf, ⟨lDV, hKV⟩, hBV⟩ _
      have hS : (V.cell? ⟨w.heap.size, 0, none⟩).isSome = true := by rw [hc]; rfl
      have hKS : ∀ v, (V.setCell ⟨w.heap.size, 0, none⟩ v).heap[D]? = some (.deferred (some [])) := fun v => by
        rw [Below.heap_setCell _ _ _ _ (show D ≠ w.heap.size by omega)]; exact hKV
      gi_wp2
      · exact ⟨KeepsOthers.setCell _ _ _, rfl, ⟨y, rfl, by rw [World.cell?_setCell_same' _ _ _ hS, show ((min x y : Nat) : Int) = (y : Int) by omega]⟩, by rw [World.cell?_setCell_same' _ _ _ hS]; rfl, ⟨by simpa [World.setCell] using lDV, hKS _⟩, hBV.setCell (p := ⟨w.heap.size, 0, none⟩) (Nat.le_refl _) _⟩
      · exact ⟨KeepsOthers.setCell _ _ _, rfl, ⟨y, rfl, by rw [World.cell?_setCell_same' _ _ _ hS, show ((min x y : Nat) : Int) = (x : Int) by omega]⟩, by rw [World.cell?_setCell_same' _ _ _ hS]; rfl, ⟨by simpa [World.setCell] using lDV, hKS _⟩, hBV.setCell (p := ⟨w.heap.size, 0, none⟩) (Nat.le_refl _) _⟩
    case done =>
      rintro D2 ys V hD2 rfl ⟨hn, hc', _, ⟨lDV, hKV⟩, hBV⟩ hKD2
      rw [HB'.out] at hn
      subst hn
      go_wp2_with fail
      rw [rounds_succ]
      go_wp2_with fail
      rw [Exit.noGoto_ret]
      refine ⟨by simp, .inl ⟨_, _, rfl, run_takeDeferred hKD2, ?_⟩⟩
      have hKV2 : (V.putObj D2 (.deferred none)).heap[D]? = some (.deferred (some [])) := ((grownBy_putObj' V D2 (.deferred none)).block D lDV (fun e => by cases e; omega)).trans hKV
      refine ⟨by simp, .inl ⟨_, _, rfl, run_takeDeferred hKV2, ?_⟩⟩
      exact ⟨_, results_tmp rfl _ _ _, rfl, (hBV.trans (belowK_b (w := w) (Nat.le_refl _) V D2 _ _ (by omega) hKD2 rfl rfl)).trans (belowK_b (w := w) (Nat.le_refl _) _ D _ _ (by omega) hKV2 rfl rfl)⟩
    case stop =>
      rintro D2 c' pre V hD2 hp2 ⟨rfl, ⟨y, rfl, hc⟩, hs, ⟨lDV, hKV⟩, hBV⟩ hKD2
      rw [HB'.out] at hp2
      obtain ⟨t2, rfl⟩ : ∃ t2, rest' = y :: t2 := by
        obtain ⟨t, ht⟩ := hp2
        exact ⟨t, by simpa using ht.symm⟩
      have hc' := hc
      refine wpIn_wide.2 ?_
      go_wp2_with fail
      rw [rounds_succ]
      go_wp2_with fail
      rw [Exit.noGoto_ret]
      refine ⟨by simp, .inl ⟨_, _, rfl, run_takeDeferred hKD2, ?_⟩⟩
      have hKV2 : (V.putObj D2 (.deferred none)).heap[D]? = some (.deferred (some [])) := ((grownBy_putObj' V D2 (.deferred none)).block D lDV (fun e => by cases e; omega)).trans hKV
      refine ⟨by simp, .inl ⟨_, _, rfl, run_takeDeferred hKV2, ?_⟩⟩
      exact ⟨_, results_tmp rfl _ _ _, rfl, (hBV.trans (belowK_b (w := w) (Nat.le_refl _) V D2 _ _ (by omega) hKD2 rfl rfl)).trans (belowK_b (w := w) (Nat.le_refl _) _ D _ _ (by omega) hKV2 rfl rfl)⟩
end Go.Proofs.YthmobcpdbgmbeaaGreatDoor
