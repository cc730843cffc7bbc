import Derived.Test.YtcabndpmfkimgaaGreatDoorZKkSD
import Derived.Test.YtcabndpmfkimgaaGreatDoorKkEqi
namespace Go.Proofs.YtcabndpmfkimgaaGreatDoor
open Go.RowKit Go.Sort

theorem intA_1 : intA 1 = #[.bool false, .int .u64 1, .int .u64 0, .int .u64 0, .int .u64 0] := by simp [W64]
theorem Row.rat_n {w : World} {b : Nat} {n d : Int} (h : Row w b (ratA n d).toList) : w.rangeAt b 0 (intA n).toList := fun j v hv => by
 rw [Nat.zero_add]
 match j, hv with
 | 0, hv => exact h.c 0 hv
 | 1, hv => exact h.c 1 hv
 | 2, hv => exact h.c 2 hv
 | 3, hv => exact h.c 3 hv
 | 4, hv => exact h.c 4 hv
 | _ + 5, hv => simp at hv
theorem Row.rat_d {w : World} {b : Nat} {n d : Int} (h : Row w b (ratA n d).toList) : w.rangeAt b 5 (intA d).toList := fun j v hv => by
 match j, hv with
 | 0, hv => exact h.c 5 hv
 | 1, hv => exact h.c 6 hv
 | 2, hv => exact h.c 7 hv
 | 3, hv => exact h.c 8 hv
 | 4, hv => exact h.c 9 hv
 | _ + 5, hv => simp at hv
theorem one_num2 (w : World) : Calls Tryz.prog 78 #[.int .i64 1] w fun e w' => e = .returned (iv false 1 0 0 0) ∧ Below w.heap.size w w' := of_any 1 w
set_option maxRecDepth 100000 in
set_option maxHeartbeats 1600000 in
theorem check_ok (n d : Int) (w : World) (hn : n.natAbs < T256) (hd : d.natAbs < T256) (h0 : 0 < d) (hg : Int.gcd n d = 1) (ht : TabTz w) (hw0 : 0 < w.heap.size) :
 Calls Tryz.prog 110 #[.agg (ratA n d)] w fun e w' => e = .returned (.int .i64 0) ∧ Below w.heap.size w w' := by
 have HG : Hid (∀ W, Below w.heap.size w W → Calls Tryz.prog 127 #[.agg (intA n), .agg (intA d)] W fun e w' => e = .returned (.tuple #[iv false 1 0 0 0, .int .i64 0]) ∧ Below W.heap.size W w') := Lib.hid (fun W hb => by
  have h := gcd_num n d W hn hd (ht.below hw0 hb) (Nat.lt_of_lt_of_le hw0 hb.size)
  rw [hg] at h
  rw [show iv false 1 0 0 0 = .agg (intA 1) by rw [intA_1]]
  exact h)
 have HS : Hid (∀ W, Calls Tryz.prog 128 #[.agg (intA d)] W fun e w' => e = .returned (.int .i64 1) ∧ Below W.heap.size W w') := Lib.hid (fun W => by
  have h := sign_num d W hd
  rw [sgnZ, if_neg (by omega), if_neg (by omega)] at h
  exact h)
 clear hn hd h0 hg ht hw0
 have rA := fun t => Row.at (w := w) rfl (ratA n d).toList t
 go_enter Tryz.func110, Tryz.ntmps110
 go_wp2_with (first | (refine wpList_load_M rfl _ _ rfl _ 0 rfl (intA n) (rA _).rat_n agg_int ?_) | (refine wpList_load_M rfl _ _ rfl _ 5 rfl (intA d) (rA _).rat_d agg_int ?_))
 refine (HG.out _ ((Below.refl _ _).alloc (Nat.le_refl _) _)).mono ?_
 rintro e w1 ⟨rfl, hb⟩
 have r1 := (rA 32).after hb
 have hB := ((Below.refl w.heap.size w).alloc (Nat.le_refl _) (.cells (ratA n d) 32)).trans (hb.mono (by simp))
 have hlt : w.heap.size < w1.heap.size := by have := hb.size; simp at this; omega
 clear hb rA
 go_wp2_with fail
 generalize hW : World.alloc _ _ = W2
 have rS : Row W2 w1.heap.size [.bool false, .int .u64 1, .int .u64 0, .int .u64 0, .int .u64 0] := by rw [← hW]; exact Row.at rfl _ _
 have r2 : Row W2 w.heap.size (ratA n d).toList := by rw [← hW]; exact r1.alloc _
 replace hB : Below w.heap.size w W2 := by rw [← hW]; exact hB.alloc (by omega) _
 clear hW r1
 have d0 := cell_regrown (r2.rat_d 0 _ rfl)
 have d1 := cell_regrown (r2.rat_d 1 _ rfl)
 have d2 := cell_regrown (r2.rat_d 2 _ rfl)
 have d3 := cell_regrown (r2.rat_d 3 _ rfl)
 have d4 := cell_regrown (r2.rat_d 4 _ rfl)
 have s0 := cell_regrown (rS.c 0 rfl)
 have s1 := cell_regrown (rS.c 1 rfl)
 have s2 := cell_regrown (rS.c 2 rfl)
 have s3 := cell_regrown (rS.c 3 rfl)
 have s4 := cell_regrown (rS.c 4 rfl)
 have e3 : ∀ w, (binOp .neq 30 (iv false 1 0 0 0) (iv false 1 0 0 0)).run Tryz.prog w = .ok (.bool false) w := fun w => neqInt _ _ _ _ _ _ _ _ _ _ w
 have C1 := Lib.hid (fun d os => Calls.regrown_of (one_num2 (grow (redrawn W2 d) os)))
 have C2 := Lib.hid (fun d os => Calls.regrown_of (HS.out (grow (redrawn W2 d) os)))
 clear rS r2 HS HG
 refine wp_region_quiet_below (by kernel_rfl) (by kernel_rfl) ?_
 repeat (first | go_big_quiet_step ((first | with_reducible exact C1.out _ _ | with_reducible exact C2.out _ _)) | quiet_step ((first | with_reducible exact C1.out _ _ | with_reducible exact C2.out _ _)))
 refine wpQuiet_nil ?_
 intro _ hw'
 obtain ⟨⟨dq, osq⟩, hw''⟩ := hw'
 subst hw''
 go_wp2
 go_ret
 exact ⟨rfl, hB.trans ((below_regrown W2 dq osq).mono hB.size)⟩
theorem Row.fst {w : World} {b : Nat} {x y : Array Value} (h : Row w b (x ++ y).toList) : w.rangeAt b 0 x.toList := h.range 0 _ (fun j v hv => by
 rw [Nat.zero_add, Array.toList_append, List.getElem?_append_left (List.getElem?_eq_some_iff.1 hv).1]; exact hv)
theorem Row.snd {w : World} {b : Nat} {x y : Array Value} (k : Nat) (hk : x.size = k) (h : Row w b (x ++ y).toList) : w.rangeAt b k y.toList := h.range k _ (fun j v hv => by
 have hl : x.toList.length = k := by simpa using hk
 rw [Array.toList_append, List.getElem?_append_right (by omega), hl, show k + j - k = j by omega]; exact hv)
set_option maxRecDepth 100000 in
set_option maxHeartbeats 3200000 in
theorem checkAll_two (n d m e : Int) (b c : Nat) (w : World) (hn : n.natAbs < T256) (hd : d.natAbs < T256) (h0 : 0 < d) (hg : Int.gcd n d = 1) (hm : m.natAbs < T256) (he : e.natAbs < T256) (h1 : 0 < e) (hq : Int.gcd m e = 1) (ht : TabTz w) (hw0 : 0 < w.heap.size)
 (hr : Row w b (ratA n d ++ ratA m e).toList) : Calls Tryz.prog 147 #[.slice (some ⟨b, 0, none⟩) 2 c] w fun e w' => e = .returned (.int .i64 0) ∧ Below w.heap.size w w' := by
 have H1 : Hid (∀ W, Below w.heap.size w W → Calls Tryz.prog 110 #[.agg (ratA n d)] W fun e w' => e = .returned (.int .i64 0) ∧ Below W.heap.size W w') := Lib.hid (fun W hb => check_ok n d W hn hd h0 hg (ht.below hw0 hb) (Nat.lt_of_lt_of_le hw0 hb.size))
 have H2 : Hid (∀ W, Below w.heap.size w W → Calls Tryz.prog 110 #[.agg (ratA m e)] W fun e w' => e = .returned (.int .i64 0) ∧ Below W.heap.size W w') := Lib.hid (fun W hb => check_ok m e W hm he h1 hq (ht.below hw0 hb) (Nat.lt_of_lt_of_le hw0 hb.size))
 clear hn hd h0 hg hm he h1 hq ht hw0
 have Hr := Lib.hid hr
 have hs1 := ratA_size n d
 have hs2 := ratA_size m e
 go_enter Tryz.func147, Tryz.ntmps147
 go_wp2_with fail
 refine wp_loop_rounds 3 ?_
 rw [rounds_succ]
 go_wp2_with (first
  | (refine wpList_load_M rfl _ _ rfl b 0 rfl (ratA n d) hr.fst agg_rat ?_)
  | (refine wpList_store_R rfl _ _ _ rfl _ (ratA n d) rfl rfl _ (Row.at rfl zero_rat.toList _) rfl agg_rat (ratA_one n d) ?_; intro w1 r1 o1)
  | (refine wpList_load_R rfl _ _ rfl _ rfl (ratA n d) r1 agg_rat ?_))
 have hB1 : Below w.heap.size w w1 := below_on ((Below.refl _ w).alloc (Nat.le_refl _) _) o1 (Nat.le_refl _)
 replace hr := (hr.alloc (.cells zero_rat 32))
 replace hr := o1.row (Nat.ne_of_lt Hr.out.lt) hr
 refine (H1.out _ hB1).mono ?_
 rintro e w2 ⟨rfl, hb⟩
 replace hr := hr.after hb
 replace hB1 := hB1.trans (hb.mono hB1.size)
 clear hb r1 o1
 go_wp2_with fail
 rw [rounds_succ]
 go_wp2_with (first
  | (refine wpList_load_M rfl _ _ rfl b 10 rfl (ratA m e) (hr.snd 10 rfl) agg_rat ?_)
  | (refine wpList_store_R rfl _ _ _ rfl _ (ratA m e) rfl rfl _ (Row.at rfl zero_rat.toList _) rfl agg_rat (ratA_one m e) ?_; intro w3 r3 o3)
  | (refine wpList_load_R rfl _ _ rfl _ rfl (ratA m e) r3 agg_rat ?_))
 have hB3 : Below w.heap.size w w3 := below_on (hB1.alloc hB1.size _) o3 hB1.size
 refine (H2.out _ hB3).mono ?_
 rintro e w4 ⟨rfl, hb⟩
 replace hB3 := hB3.trans (hb.mono hB3.size)
 clear hb r3 o3
 go_wp2_with fail
 rw [rounds_succ]
 go_wp2_with fail
 go_ret
 exact ⟨rfl, hB3⟩
end Go.Proofs.YtcabndpmfkimgaaGreatDoor
