import Derived.Test.YteolocchmhpggaaGreatDoorZKkSH
import Derived.Test.YteolocchmhpggaaGreatDoorZKkSM
namespace Go.Proofs.YteolocchmhpggaaGreatDoor
open Go.RowKit CrossMath

abbrev gapA (a b : Int) : Array Value := #[.int .i64 a, .int .i64 b]
abbrev segA (ax ay bx bY : Int) : Array Value := #[.int .i64 ax, .int .i64 ay, .int .i64 bx, .int .i64 bY]
theorem KT.put2 {w W : World} {L : List (Nat × Array Value)} {M : List (Nat × Nat)} {b n : Nat} (h : KT w L M W) (hm : (b, n) ∈ M) (y0 y1 : Value) : KT w L M ((W.setCell ⟨b, 0, none⟩ y0).setCell ⟨b, 1, none⟩ y1) := h.put hm [y0, y1]
theorem ret_bool {a b : Bool} (h : a = b) : Ending.returned (.bool a) = .returned (.bool b) := by rw [h]
theorem segA_one (ax ay bx bY : Int) : OneC (segA ax ay bx bY) := by simp [OneC, Value.oneCell']
theorem agg_gaps : AggTy Tryz.prog 102 2 := .of _ Tryz.underlying102 rfl (by kernel_rfl)
theorem agg_line : AggTy Tryz.prog 72 4 := .of _ Tryz.underlying72 rfl (by kernel_rfl)
theorem agg_seg : AggTy Tryz.prog 25 4 := .of _ Tryz.underlying25 rfl (by kernel_rfl)
theorem agg_node : AggTy Tryz.prog 23 2 := .of _ Tryz.underlying23 rfl (by kernel_rfl)
set_option maxRecDepth 100000 in
set_option maxHeartbeats 3200000 in
theorem aside_any (a b : Int) (w : World) : Calls Tryz.prog 53 #[.agg (gapA a b)] w fun e w' => e = .returned (.bool (asideB a b)) ∧ Below w.heap.size w w' := by
 have HB := Lib.hid (fun o => (Below.refl w.heap.size w).alloc (Nat.le_refl _) o)
 obtain ⟨r, hr⟩ : ∃ r, asideB a b = r := ⟨_, rfl⟩
 rw [hr]
 rcases Int.lt_trichotomy a 0 with h1 | h1 | h1 <;> rcases Int.lt_trichotomy b 0 with h2 | h2 | h2 <;> rcases Int.lt_or_le b a with h3 | h3
 all_goals first | (exfalso; omega) | skip
 all_goals
  have H := Lib.hid (show r = asideB a b from hr.symm)
  clear hr
  have H1 := Lib.hid h1
  have H2 := Lib.hid h2
  first | (subst h1) | skip
  first | (subst h2) | skip
  go_enter Tryz.func53, Tryz.ntmps53
  go_wp2
  all_goals first | (exfalso; omega) | skip
  all_goals
   go_ret
   refine ⟨ret_bool ?_, HB.out _⟩
   have q1 := H1.out
   have q2 := H2.out
   rw [H.out]
   first
    | rfl
    | (unfold asideB
       (try simp only [Int.min_def]); (try simp only [Int.max_def])
       (repeat' split) <;> first | rfl | (rw [Bool.eq_iff_iff]; simp; done) | (rw [Bool.eq_iff_iff]; simp; omega) | (simp; done) | (simp; omega) | omega)
set_option maxRecDepth 100000 in
set_option maxHeartbeats 3200000 in
theorem across_any (a b : Int) (w : World) : Calls Tryz.prog 75 #[.agg (gapA a b)] w fun e w' => e = .returned (.bool (acrossB a b)) ∧ Below w.heap.size w w' := by
 have HB := Lib.hid (fun o => (Below.refl w.heap.size w).alloc (Nat.le_refl _) o)
 obtain ⟨r, hr⟩ : ∃ r, acrossB a b = r := ⟨_, rfl⟩
 rw [hr]
 rcases Int.lt_trichotomy a 0 with h1 | h1 | h1 <;> rcases Int.lt_trichotomy b 0 with h2 | h2 | h2 <;> rcases Int.lt_or_le b a with h3 | h3
 all_goals first | (exfalso; omega) | skip
 all_goals
  have H := Lib.hid (show r = acrossB a b from hr.symm)
  clear hr
  have H1 := Lib.hid h1
  have H2 := Lib.hid h2
  first | (subst h1) | skip
  first | (subst h2) | skip
  go_enter Tryz.func75, Tryz.ntmps75
  go_wp2
  all_goals first | (exfalso; omega) | skip
  all_goals
   go_ret
   refine ⟨ret_bool ?_, HB.out _⟩
   have q1 := H1.out
   have q2 := H2.out
   rw [H.out]
   first
    | rfl
    | (unfold acrossB
       (try simp only [Int.min_def]); (try simp only [Int.max_def])
       (repeat' split) <;> first | rfl | (rw [Bool.eq_iff_iff]; simp; done) | (rw [Bool.eq_iff_iff]; simp; omega) | (simp; done) | (simp; omega) | omega)
set_option maxRecDepth 100000 in
set_option maxHeartbeats 3200000 in
theorem gaps_any (ax ay bx bY cx cy dx dY : Int) (w : World) (h1 : Bd ax) (h2 : Bd ay) (h3 : Bd bx) (h4 : Bd bY) (h5 : Bd cx) (h6 : Bd cy) (h7 : Bd dx) (h8 : Bd dY) :
 Calls Tryz.prog 51 #[.agg (segA ax ay bx bY), .agg (segA cx cy dx dY)] w fun e w' => e = .returned (.agg (gapA (CrossMath.offN cx cy dx dY ax ay) (CrossMath.offN cx cy dx dY bx bY))) ∧ Below w.heap.size w w' := by
 have H1 : Hid (∀ W, Calls Tryz.prog 87 #[.agg (segA cx cy dx dY), .agg (nodeA ax ay)] W fun e w' => e = .returned (.int .i64 (CrossMath.offN cx cy dx dY ax ay)) ∧ Below W.heap.size W w') := Lib.hid (fun W => off_any cx cy dx dY ax ay W h5 h6 h7 h8 h1 h2)
 have H2 : Hid (∀ W, Calls Tryz.prog 87 #[.agg (segA cx cy dx dY), .agg (nodeA bx bY)] W fun e w' => e = .returned (.int .i64 (CrossMath.offN cx cy dx dY bx bY)) ∧ Below W.heap.size W w') := Lib.hid (fun W => off_any cx cy dx dY bx bY W h5 h6 h7 h8 h3 h4)
 clear h1 h2 h3 h4 h5 h6 h7 h8
 generalize CrossMath.offN cx cy dx dY ax ay = u at H1 ⊢
 generalize CrossMath.offN cx cy dx dY bx bY = v at H2 ⊢
 go_enter Tryz.func51, Tryz.ntmps51
 go_wp2_with fail
 generalize hW : World.alloc _ _ = W0
 have hK : KT w ([] ++ [(w.heap.size, segA ax ay bx bY)] ++ [(w.heap.size + 1, segA cx cy dx dY)]) ([] ++ [(w.heap.size + 1 + 1, 2)]) W0 := by rw [← hW]; exact (KT.of (((KS.nil w).boxed rfl _ _).boxed (by simp) _ _)).made (by simp) (gapA 0 0) _ rfl
 clear hW
 generalize hL : [] ++ [(w.heap.size, segA ax ay bx bY)] ++ [(w.heap.size + 1, segA cx cy dx dY)] = L at hK
 generalize hM : [] ++ [(w.heap.size + 1 + 1, 2)] = M at hK
 have HL := Lib.hid hL; clear hL
 have HM := Lib.hid (show (w.heap.size + 1 + 1, 2) ∈ M by rw [← hM]; simp); clear hM
 have l0 : ∀ W, KT w L M W → W.cell? ⟨w.heap.size, 0, none⟩ = some (.int .i64 ax) := fun W h => h.c 0 (by rw [← HL.out]; rfl) 0 rfl
 have l1 : ∀ W, KT w L M W → W.cell? ⟨w.heap.size, 1, none⟩ = some (.int .i64 ay) := fun W h => h.c 0 (by rw [← HL.out]; rfl) 1 rfl
 have l2 : ∀ W, KT w L M W → W.cell? ⟨w.heap.size, 2, none⟩ = some (.int .i64 bx) := fun W h => h.c 0 (by rw [← HL.out]; rfl) 2 rfl
 have l3 : ∀ W, KT w L M W → W.cell? ⟨w.heap.size, 3, none⟩ = some (.int .i64 bY) := fun W h => h.c 0 (by rw [← HL.out]; rfl) 3 rfl
 have m0 : ∀ W, KT w L M W → W.cell? ⟨w.heap.size + 1, 0, none⟩ = some (.int .i64 cx) := fun W h => h.c 1 (by rw [← HL.out]; rfl) 0 rfl
 have m1 : ∀ W, KT w L M W → W.cell? ⟨w.heap.size + 1, 1, none⟩ = some (.int .i64 cy) := fun W h => h.c 1 (by rw [← HL.out]; rfl) 1 rfl
 have m2 : ∀ W, KT w L M W → W.cell? ⟨w.heap.size + 1, 2, none⟩ = some (.int .i64 dx) := fun W h => h.c 1 (by rw [← HL.out]; rfl) 2 rfl
 have m3 : ∀ W, KT w L M W → W.cell? ⟨w.heap.size + 1, 3, none⟩ = some (.int .i64 dY) := fun W h => h.c 1 (by rw [← HL.out]; rfl) 3 rfl
 have qc0 : ∀ W, KT w L M W → W.cell? ⟨w.heap.size + 1 + 1, 0, none⟩ = some (cellAt W (w.heap.size + 1 + 1) 0) := fun W h => h.here HM.out 0 (by decide)
 have qf0 : ∀ W, KT w L M W → W.frozen? ⟨w.heap.size + 1 + 1, 0, none⟩ = false := fun W h => h.free HM.out 0 (by decide)
 have qc1 : ∀ W, KT w L M W → W.cell? ⟨w.heap.size + 1 + 1, 1, none⟩ = some (cellAt W (w.heap.size + 1 + 1) 1) := fun W h => h.here HM.out 1 (by decide)
 have qf1 : ∀ W, KT w L M W → W.frozen? ⟨w.heap.size + 1 + 1, 1, none⟩ = false := fun W h => h.free HM.out 1 (by decide)
 go_region_held3 (fun w' : World => KT w L M w')
  (first
    | (with_reducible refine KT.drew ?_; with_reducible assumption)
    | (with_reducible refine KT.put2 ?_ HM.out _ _; with_reducible assumption)
    | (with_reducible refine KT.alloc ?_ _; with_reducible assumption)
    | (with_reducible refine KT.after ?_ hb; with_reducible assumption))
  (first
    | (go_at_call 87; (with_reducible refine (H1.out _).mono ?_); rintro e w' ⟨rfl, hb⟩)
    | (go_at_call 87; (with_reducible refine (H2.out _).mono ?_); rintro e w' ⟨rfl, hb⟩))
 all_goals
  have hq := ‹KT w L M _›
  have hr := hq.put_row (cs := [_, _]) HM.out rfl
  clear l0 l1 l2 l3 m0 m1 m2 m3 qc0 qc1 qf0 qf1
  go_wp2
  exact bodyPost_ret (results_R1 (cs := gapA u v) rfl rfl hr agg_gaps) rfl ⟨rfl, hq.1.2⟩
theorem first_any (A : FuncId) (eA : ∀ (args : Array Value) (w : World), (callFunc A args).run Tryz.prog w = .ok (.enter A args) w) (ax ay bx bY : Int) (r : Bool) (w : World)
 (hA : ∀ W, Calls Tryz.prog A #[.agg (nodeA bx bY), .agg (nodeA ax ay)] W fun e w' => e = .returned (.bool r) ∧ Below W.heap.size W w') :
 Calls Tryz.prog 88 #[.agg (nodeA ax ay), .agg (nodeA bx bY), .func (.func A) #[] #[]] w fun e w' => e = .returned (.agg (if r = true then nodeA bx bY else nodeA ax ay)) ∧ Below w.heap.size w w' := by
 have HA := Lib.hid hA; clear hA
 have r0 := (((Row.at (w := w) rfl (nodeA ax ay).toList 23).alloc (.cells (nodeA bx bY) 23)).alloc (.cells (nodeA 0 0) 23))
 have r1 := ((Row.at (w := w.alloc (.cells (nodeA ax ay) 23)) (n := w.heap.size + 1) (by simp) (nodeA bx bY).toList 23).alloc (.cells (nodeA 0 0) 23))
 have rZ := (Row.at (w := (w.alloc (.cells (nodeA ax ay) 23)).alloc (.cells (nodeA bx bY) 23)) (n := w.heap.size + 1 + 1) (by simp) (nodeA 0 0).toList 23)
 have hB := (((Below.refl w.heap.size w).alloc (Nat.le_refl _) (.cells (nodeA ax ay) 23)).alloc (by simp) (.cells (nodeA bx bY) 23)).alloc (by simp; omega) (.cells (nodeA 0 0) 23)
 go_enter Tryz.func88, Tryz.ntmps88
 go_wp2_with fail
 refine (HA.out _).mono ?_
 rintro e w1 ⟨rfl, hb⟩
 replace r0 := r0.after hb
 replace r1 := r1.after hb
 replace rZ := rZ.after hb
 replace hB := hB.trans (hb.mono hB.size)
 clear hb
 have a0 := r0.c 0 rfl
 have a1 := r0.c 1 rfl
 have b0 := r1.c 0 rfl
 have b1 := r1.c 1 rfl
 have z0 := rZ.c 0 rfl
 have z1 := rZ.c 1 rfl
 have f0 := rZ.f 0 rfl
 have f1 := rZ.f 1 rfl
 cases r
 ·go_wp2
  exact bodyPost_ret (results_R1 (cs := nodeA ax ay) rfl rfl (rZ.putAll [_, _] rfl) agg_node) rfl ⟨rfl, below_put1 (below_put1 hB (by omega) _ _) (by omega) _ _⟩
 ·go_wp2
  exact bodyPost_ret (results_R1 (cs := nodeA bx bY) rfl rfl (rZ.putAll [_, _] rfl) agg_node) rfl ⟨rfl, below_put1 (below_put1 hB (by omega) _ _) (by omega) _ _⟩
theorem behind_any (ax ay bx bY : Int) (w : World) : Calls Tryz.prog 89 #[.agg (nodeA ax ay), .agg (nodeA bx bY)] w fun e w' => e = .returned (.bool (CrossMath.aheadB bx bY ax ay)) ∧ Below w.heap.size w w' := by
 have H : Hid (∀ W, Calls Tryz.prog 90 #[.agg (nodeA bx bY), .agg (nodeA ax ay)] W fun e w' => e = .returned (.bool (CrossMath.aheadB bx bY ax ay)) ∧ Below W.heap.size W w') := Lib.hid (fun W => ahead_any bx bY ax ay W)
 generalize CrossMath.aheadB bx bY ax ay = r at H ⊢
 have hB := ((Below.refl w.heap.size w).alloc (Nat.le_refl _) (.cells (nodeA ax ay) 23)).alloc (by simp) (.cells (nodeA bx bY) 23)
 go_enter Tryz.func89, Tryz.ntmps89
 go_wp2_with fail
 refine (H.out _).mono ?_
 rintro e w1 ⟨rfl, hb⟩
 go_wp2_with fail
 go_ret
 exact ⟨rfl, hB.trans (hb.mono hB.size)⟩
end Go.Proofs.YteolocchmhpggaaGreatDoor
