import Derived.Test.YtongeeggaigepaaGreatDoorZKkYI
import Derived.Test.YtongeeggaigepaaGreatDoorZKkZD
namespace Go.Proofs.YtongeeggaigepaaGreatDoor
open Go.RowKit Go.Sort CrossMath

set_option maxRecDepth 100000 in
set_option maxHeartbeats 3200000 in
theorem rtext_core (s t : Bool) (n0 n1 n2 n3 d0 d1 d2 d3 : Int) (T : ByteArray) (w : World)
 (HC : Hid (∀ W, Below w.heap.size w W → Calls Tryz.prog 121 #[.agg #[.bool s, .int .u64 n0, .int .u64 n1, .int .u64 n2, .int .u64 n3, .bool t, .int .u64 d0, .int .u64 d1, .int .u64 d2, .int .u64 d3]] W fun e w' => e = .returned (.int .i64 0) ∧ Below W.heap.size W w'))
 (HT : Hid (∀ W, Below w.heap.size w W → Calls Tryz.prog 167 #[iv s n0 n1 n2 n3] W fun e w' => e = .returned (.tuple #[.string T, .int .i64 0]) ∧ Below W.heap.size W w'))
 (e3 : ∀ w, (binOp .eql 42 (iv t d0 d1 d2 d3) (iv false 1 0 0 0)).run Tryz.prog w = .ok (.bool true) w) :
 Calls Tryz.prog 150 #[.agg #[.bool s, .int .u64 n0, .int .u64 n1, .int .u64 n2, .int .u64 n3, .bool t, .int .u64 d0, .int .u64 d1, .int .u64 d2, .int .u64 d3]] w fun e w' => e = .returned (.tuple #[.string T, .int .i64 0]) ∧ Below w.heap.size w w' := by
 go_enter Tryz.func150, Tryz.ntmps150
 go_upto_region 1 with fail
 generalize hW : World.alloc _ _ = W0
 have hR : Row W0 w.heap.size [.bool s, .int .u64 n0, .int .u64 n1, .int .u64 n2, .int .u64 n3, .bool t, .int .u64 d0, .int .u64 d1, .int .u64 d2, .int .u64 d3] := by rw [← hW]; exact Row.at rfl _ _
 have hB : Below w.heap.size w W0 := by rw [← hW]; exact (Below.refl _ _).alloc (Nat.le_refl _) _
 clear hW
 have x0 := hR.c 0 rfl
 have x1 := hR.c 1 rfl
 have x2 := hR.c 2 rfl
 have x3 := hR.c 3 rfl
 have x4 := hR.c 4 rfl
 have x5 := hR.c 5 rfl
 have x6 := hR.c 6 rfl
 have x7 := hR.c 7 rfl
 have x8 := hR.c 8 rfl
 have x9 := hR.c 9 rfl
 go_wp2_with fail
 refine (HC.out _ hB).mono ?_
 rintro e w1 ⟨rfl, hb⟩
 replace hR := hR.after hb
 replace hB := hB.trans (hb.mono hB.size)
 clear hb x0 x1 x2 x3 x4 x5 x6 x7 x8 x9
 have x0 := hR.c 0 rfl
 have x1 := hR.c 1 rfl
 have x2 := hR.c 2 rfl
 have x3 := hR.c 3 rfl
 have x4 := hR.c 4 rfl
 go_wp2_with fail
 refine (HT.out _ hB).mono ?_
 rintro e w2 ⟨rfl, hb⟩
 replace hR := hR.after hb
 replace hB := hB.trans (hb.mono hB.size)
 clear hb x0 x1 x2 x3 x4
 go_upto_region 5 with fail
 have d0' := cell_regrown (hR.c 5 rfl)
 have d1' := cell_regrown (hR.c 6 rfl)
 have d2' := cell_regrown (hR.c 7 rfl)
 have d3' := cell_regrown (hR.c 8 rfl)
 have d4' := cell_regrown (hR.c 9 rfl)
 have C1 := Lib.hid (fun d os => Calls.regrown_of (one_num2 (grow (redrawn w2 d) os)))
 clear hR HT HC
 refine wp_region_quiet_below (by kernel_rfl) (by kernel_rfl) ?_
 repeat (first | go_big_quiet_step (with_reducible exact C1.out _ _) | quiet_step (with_reducible exact C1.out _ _))
 refine wpQuiet_nil ?_
 intro _ hw'
 obtain ⟨⟨dq, osq⟩, hw''⟩ := hw'
 subst hw''
 go_wp2
 go_ret2
 exact ⟨rfl, hB.trans ((below_regrown w2 dq osq).mono hB.size)⟩
theorem check_one (z : Int) (w : World) (hz : z.natAbs < T256) (ht : TabTz w) (hw0 : 3 < w.heap.size) : Calls Tryz.prog 121 #[.agg (ratA z 1)] w fun e w' => e = .returned (.int .i64 0) ∧ Below w.heap.size w w' := by
 have h := check_O (some z) (some 1) hz (by decide) w ht hw0
 rw [show riB (some z) (some 1) = true by simp [riB]] at h
 exact h
theorem rtext_whole (z : Int) (w : World) (hz : z.natAbs < T256) (htab : Tab10 w) (ht : TabTz w) (hw0 : 3 < w.heap.size) :
 Calls Tryz.prog 150 #[.agg (ratA z 1)] w fun e w' => e = .returned (.tuple #[.string (tx z), .int .i64 0]) ∧ Below w.heap.size w w' := by
 refine rtext_core _ _ _ _ _ _ _ _ _ _ (tx z) w (Lib.hid (fun W hW => check_one z W hz (ht.below hw0 hW) (Nat.lt_of_lt_of_le hw0 hW.size))) (Lib.hid (fun W hW => text_z z W hz (htab.below hW))) (fun w => ?_)
 rw [eqlInt]
 rfl
set_option maxRecDepth 100000 in
set_option maxHeartbeats 3200000 in
theorem ptext_core (P X Y : Array Value) (T U : ByteArray) (w : World) (hT : T.size ≤ 1000) (hU : U.size ≤ 1000) (hsP : P.size = 20) (hsX : X.size = 10) (hsY : Y.size = 10) (hX : ∀ j v, X.toList[j]? = some v → P.toList[0 + j]? = some v) (hY : ∀ j v, Y.toList[j]? = some v → P.toList[10 + j]? = some v)
 (HC : Hid (∀ W, Below w.heap.size w W → Calls Tryz.prog 86 #[.agg P] W fun e w' => e = .returned (.int .i64 0) ∧ Below W.heap.size W w'))
 (HT : Hid (∀ W, Below w.heap.size w W → Calls Tryz.prog 150 #[.agg X] W fun e w' => e = .returned (.tuple #[.string T, .int .i64 0]) ∧ Below W.heap.size W w'))
 (HU : Hid (∀ W, Below w.heap.size w W → Calls Tryz.prog 150 #[.agg Y] W fun e w' => e = .returned (.tuple #[.string U, .int .i64 0]) ∧ Below W.heap.size W w')) :
 Calls Tryz.prog 132 #[.agg P] w fun e w' => e = .returned (.tuple #[.string (T ++ ⟨#[32]⟩ ++ U), .int .i64 0]) ∧ Below w.heap.size w w' := by
 have g1 : AggTy Tryz.prog 46 P.size := by rw [hsP]; exact agg_point
 have gX : AggTy Tryz.prog 44 X.size := by rw [hsX]; exact agg_rat
 have gY : AggTy Tryz.prog 44 Y.size := by rw [hsY]; exact agg_rat
 have HX := Lib.hid hX; clear hX
 have HY := Lib.hid hY; clear hY
 clear hsP hsX hsY
 go_enter Tryz.func132, Tryz.ntmps132
 go_upto_region 1 with fail
 generalize hW : World.alloc _ _ = W0
 have hR : Row W0 w.heap.size P.toList := by rw [← hW]; exact Row.at rfl _ _
 have hB : Below w.heap.size w W0 := by rw [← hW]; exact (Below.refl _ _).alloc (Nat.le_refl _) _
 clear hW
 go_wp2_with (refine wpList_load_R rfl _ _ rfl w.heap.size rfl P hR g1 ?_)
 refine (HC.out _ hB).mono ?_
 rintro e w1 ⟨rfl, hb⟩
 replace hR := hR.after hb
 replace hB := hB.trans (hb.mono hB.size)
 clear hb
 have hx := hR.range 0 X.toList HX.out
 go_wp2_with (refine wpList_load_M rfl _ _ rfl w.heap.size 0 rfl X hx gX ?_)
 refine (HT.out _ hB).mono ?_
 rintro e w2 ⟨rfl, hb⟩
 replace hR := hR.after hb
 replace hB := hB.trans (hb.mono hB.size)
 clear hb hx
 have hy := hR.range 10 Y.toList HY.out
 go_wp2_with (refine wpList_load_M rfl _ _ rfl w.heap.size 10 rfl Y hy gY ?_)
 refine (HU.out _ hB).mono ?_
 rintro e w3 ⟨rfl, hb⟩
 replace hB := hB.trans (hb.mono hB.size)
 clear hb hy hR
 have s1 : (T ++ (⟨#[32]⟩ : ByteArray)).size = T.size + 1 := by simp [ByteArray.size_append]; rfl
 go_wp2_with fail
 all_goals first | (exfalso; omega) | skip
 go_ret2
 exact ⟨rfl, hB⟩
theorem dotA_x (x y : Int) (j : Nat) (v : Value) (h : (ratA x 1).toList[j]? = some v) : (dotA x y).toList[0 + j]? = some v := by
 have hj : j < (ratA x 1).toList.length := (List.getElem?_eq_some_iff.1 h).1
 rw [dotA, Array.toList_append, Nat.zero_add, List.getElem?_append_left hj]; exact h
theorem dotA_y (x y : Int) (j : Nat) (v : Value) (h : (ratA y 1).toList[j]? = some v) : (dotA x y).toList[10 + j]? = some v := by
 have hl : (ratA x 1).toList.length = 10 := rfl
 rw [dotA, Array.toList_append, List.getElem?_append_right (by omega), hl, show 10 + j - 10 = j by omega]; exact h
theorem bd_T {x : Int} (h : Bd x) : x.natAbs < T256 := Nat.lt_of_lt_of_le (show x.natAbs < 67108865 by unfold Bd at h; omega) (by decide)
theorem ptext_dot (x y : Int) (w : World) (hx : Bd x) (hy : Bd y) (htab : Tab10 w) (ht : TabTz w) (hw0 : 3 < w.heap.size) :
 Calls Tryz.prog 132 #[.agg (dotA x y)] w fun e w' => e = .returned (.tuple #[.string (ntx x y), .int .i64 0]) ∧ Below w.heap.size w w' :=
 ptext_core (dotA x y) (ratA x 1) (ratA y 1) (tx x) (tx y) w (Nat.le_trans (tx_size (bd_T hx)) (by decide)) (Nat.le_trans (tx_size (bd_T hy)) (by decide)) rfl rfl rfl (dotA_x x y) (dotA_y x y)
  (Lib.hid (fun W hW => pright_num (dotP x y) W (rtdot hx hy) (ht.below hw0 hW) (Nat.lt_of_lt_of_le hw0 hW.size)))
  (Lib.hid (fun W hW => rtext_whole x W (bd_T hx) (htab.below hW) (ht.below hw0 hW) (Nat.lt_of_lt_of_le hw0 hW.size)))
  (Lib.hid (fun W hW => rtext_whole y W (bd_T hy) (htab.below hW) (ht.below hw0 hW) (Nat.lt_of_lt_of_le hw0 hW.size)))
theorem must_string (x : ByteArray) (w : World) : Calls Tryz.prog 131 #[.string x, .int .i64 0] w fun e w' => e = .returned (.string x) ∧ Below w.heap.size w w' := by
 go_enter Tryz.func131, Tryz.ntmps131
 go_wp2_with fail
 refine (for_okS _).mono ?_
 rintro e w1 ⟨rfl, rfl⟩
 go_wp2_with fail
 go_ret
 exact ⟨rfl, Below.refl _ _⟩
set_option maxRecDepth 100000 in
set_option maxHeartbeats 3200000 in
theorem nodetext_any (x y : Int) (w : World) (hx : Bd x) (hy : Bd y) (htab : Tab10 w) (ht : TabTz w) (hw0 : 3 < w.heap.size) :
 Calls Tryz.prog 102 #[.agg (nodeA x y)] w fun e w' => e = .returned (.string (ntx x y)) ∧ Below w.heap.size w w' := by
 have H1 := Lib.hid (fun W => pointof_num x y W hx hy)
 have H2 := Lib.hid (fun W => must_point (dotA x y) rfl (by rw [dotA_lit]; simp [OneC, Value.oneCell']) W)
 have H3 := Lib.hid (fun W (hW : Below w.heap.size w W) => ptext_dot x y W hx hy (htab.below hW) (ht.below hw0 hW) (Nat.lt_of_lt_of_le hw0 hW.size))
 clear hx hy htab ht hw0
 generalize dotA x y = D at *
 generalize ntx x y = T at *
 unfold nodeV at H1
 go_enter Tryz.func102, Tryz.ntmps102
 go_upto_region 1 with fail
 generalize hW : World.alloc _ _ = W0
 have hR : Row W0 w.heap.size (nodeA x y).toList := by rw [← hW]; exact Row.at rfl _ _
 have hB : Below w.heap.size w W0 := by rw [← hW]; exact (Below.refl _ _).alloc (Nat.le_refl _) _
 clear hW
 have x0 := hR.c 0 rfl
 have x1 := hR.c 1 rfl
 go_wp2_with fail
 refine (H1.out _).mono ?_
 rintro e w1 ⟨rfl, hb⟩
 replace hB := hB.trans (hb.mono hB.size)
 clear hb x0 x1 hR
 go_wp2_with fail
 refine (H2.out _).mono ?_
 rintro e w2 ⟨rfl, hb⟩
 replace hB := hB.trans (hb.mono hB.size)
 clear hb
 go_wp2_with fail
 refine (H3.out _ hB).mono ?_
 rintro e w3 ⟨rfl, hb⟩
 replace hB := hB.trans (hb.mono hB.size)
 clear hb
 go_wp2_with fail
 refine (must_string _ _).mono ?_
 rintro e w4 ⟨rfl, hb⟩
 replace hB := hB.trans (hb.mono hB.size)
 clear hb
 go_wp2_with fail
 go_ret
 exact ⟨rfl, hB⟩
end Go.Proofs.YtongeeggaigepaaGreatDoor

namespace Go.Proofs.YtongeeggaigepaaGreatDoor
open Go.RowKit Go.Sort CrossMath

theorem ntx_list (x y : Int) : (ntx x y).data.toList = textL x ++ 32 :: textL y := by simp [ntx, tx]
theorem run_cat (a b : ByteArray) (w : World) (h : a.size + b.size ≤ 100000) : (binOp .add 9 (.string a) (.string b)).run Tryz.prog w = .ok (.string (a ++ b)) w := by
 have u := Tryz.underlying9
 have h1 : a.size + b.size ≤ 9223372036854775807 := by omega
 simp [binOp, go_sem, h1]
theorem size_list (s : ByteArray) : s.size = s.data.toList.length := by rw [Array.length_toList]; rfl
theorem ntx_size {x y : Int} (hx : x.natAbs < T256) (hy : y.natAbs < T256) : (ntx x y).size ≤ 159 := by
 rw [size_list, ntx_list]
 have h1 := textL_len hx
 have h2 := textL_len hy
 simp only [List.length_append, List.length_cons]; omega
theorem act_tmpC (a : Act) (s : Nat) : a.eval (.tmp s) = a.tmps[s]?.getD undef := by simp [Act.eval]
theorem wp_cat {P : Program} {op : Oper} {a : Act} {w : World} {K : Act → World → Prop} {Q : Exit → Act → World → Prop} (ty ty2 : TypeId) (x y : Operand) (ho : op.op = .binOp .add ty x y ty2) (u v r : ByteArray) (hx : a.eval x = .string u) (hy : a.eval y = .string v) (h : (binOp .add ty (.string u) (.string v)).run P w = .ok (.string r) w)
 (k : K (a.put op.dst (.string r)) w) : op.wp P a w K Q := by
 have hq : (eqGuard .add ty x y (.string u) (.string v)).run P w = .ok () w := by simp [eqGuard, go_sem]
 unfold Oper.wp execOp
 simp only [ho, hx, hy, Sem.run_bind, Sem.run_pure, Result.andThen_ok, hq, h]
 exact k
set_option maxRecDepth 100000 in
set_option maxHeartbeats 3200000 in
theorem linetext_core (ax ay bx bY r u : Int) (T U : ByteArray) (w : World) (hT : T.size ≤ 1000) (hU : U.size ≤ 1000)
 (H1 : ∀ W, Below w.heap.size w W → Calls Tryz.prog 102 #[.agg (nodeA ax ay)] W fun e w' => e = .returned (.string T) ∧ Below W.heap.size W w')
 (H2 : ∀ W, Below w.heap.size w W → Calls Tryz.prog 102 #[.agg (nodeA bx bY)] W fun e w' => e = .returned (.string U) ∧ Below W.heap.size W w') :
 Calls Tryz.prog 63 #[.agg (lineA ax ay bx bY r u)] w fun e w' => e = .returned (.string (T ++ ⟨#[44]⟩ ++ U)) ∧ Below w.heap.size w w' := by
 have H1 := Lib.hid H1
 have H2 := Lib.hid H2
 have s1 : (T ++ (⟨#[44]⟩ : ByteArray)).size = T.size + 1 := by rw [ByteArray.size_append]; rfl
 have K1 := Lib.hid (fun w => run_cat T ⟨#[44]⟩ w (by show T.size + 1 ≤ _; omega))
 have K2 := Lib.hid (fun w => run_cat (T ++ (⟨#[44]⟩ : ByteArray)) U w (by omega))
 clear s1 hT hU
 go_enter Tryz.func63, Tryz.ntmps63
 go_upto_region 1 with fail
 generalize hW : World.alloc _ _ = W0
 have HR : Hid (Row W0 w.heap.size (lineA ax ay bx bY r u).toList) := Lib.hid (by rw [← hW]; exact Row.at rfl (lineA ax ay bx bY r u).toList _)
 have HB : Hid (Below w.heap.size w W0) := Lib.hid (by rw [← hW]; exact (Below.refl _ _).alloc (Nat.le_refl _) _)
 clear hW
 refine wp_region_fct (by kernel_rfl) [] (fun ix => match ix with
  | 0 => some (Value.pointer (some ⟨w.heap.size, 0, none⟩))
  | 1 => some (Value.pointer (some ⟨w.heap.size, 0, none⟩))
  | 2 => some (Value.agg #[.int .i64 ax, .int .i64 ay])
  | 3 => some (Value.string T)
  | 4 => some (Value.string (T ++ ⟨#[44]⟩))
  | 5 => some (Value.pointer (some ⟨w.heap.size, 0, none⟩))
  | 6 => some (Value.pointer (some ⟨w.heap.size, 2, none⟩))
  | 7 => some (Value.agg #[.int .i64 bx, .int .i64 bY])
  | 8 => some (Value.string U)
  | 9 => some (Value.string (T ++ ⟨#[44]⟩ ++ U))
  | 10 => some (Value.string (T ++ ⟨#[44]⟩ ++ U))
  | _ => none) (by intro j hj; cases hj) 11 [] (fun _ _ => False) (by kernel_rfl) (by kernel_rfl) (by rfl) ?_ ?_
 ·intro listed a W ix o hI ho hdep hB hF K hK hKf
  have hi : ix < 11 := (Array.getElem?_eq_some_iff.1 ho).1
  have hcase : ix = 0 ∨ ix = 1 ∨ ix = 2 ∨ ix = 3 ∨ ix = 4 ∨ ix = 5 ∨ ix = 6 ∨ ix = 7 ∨ ix = 8 ∨ ix = 9 ∨ ix = 10 := by omega
  clear hi
  rcases hcase with rfl | rfl | rfl | rfl | rfl | rfl | rfl | rfl | rfl | rfl | rfl
  ·obtain rfl := oI ho
   have q1 : a.tmps[1]?.getD undef = Value.pointer (some ⟨w.heap.size, 0, none⟩) := hI.old 1 (noDst_spec (by kernel_rfl))
   clear hdep hI ho hF
   go_simp
   exact hK (by decide) (Value.pointer (some ⟨w.heap.size, 0, none⟩)) _ (fun u hu => oV hu) (Below.refl _ _) (fct_none rfl)
  ·obtain rfl := oI ho
   have d0 : listed.getD 0 false = true := hdep ⟨0, .data⟩ (by simp) rfl
   have q3 : a.tmps[3]?.getD undef = Value.pointer (some ⟨w.heap.size, 0, none⟩) := hI.val 0 _ 3 _ rfl rfl rfl d0
   clear hdep hI ho hF
   go_simp
   exact hK (by decide) (Value.pointer (some ⟨w.heap.size, 0, none⟩)) _ (fun u hu => oV hu) (Below.refl _ _) (fct_none rfl)
  ·obtain rfl := oI ho
   have d1 : listed.getD 1 false = true := hdep ⟨1, .data⟩ (by simp) rfl
   have q4 : a.tmps[4]?.getD undef = Value.pointer (some ⟨w.heap.size, 0, none⟩) := hI.val 1 _ 4 _ rfl rfl rfl d1
   have x0 := (HR.out.after hB).c 0 rfl
   have x1 := (HR.out.after hB).c 1 rfl
   clear hdep hI ho hF
   go_simp
   exact hK (by decide) (Value.agg #[.int .i64 ax, .int .i64 ay]) _ (fun u hu => oV hu) (Below.refl _ _) (fct_none rfl)
  ·obtain rfl := oI ho
   have d2 : listed.getD 2 false = true := hdep ⟨2, .data⟩ (by simp) rfl
   have q5 : a.tmps[5]?.getD undef = Value.agg #[.int .i64 ax, .int .i64 ay] := hI.val 2 _ 5 _ rfl rfl rfl d2
   clear hdep hI ho hF
   go_simp
   refine (H1.out _ (HB.out.trans (hB.mono HB.out.size))).mono ?_
   rintro e W2 ⟨rfl, hb⟩
   exact hK (by decide) (Value.string T) _ (fun u hu => oV hu) hb (fct_none rfl)
  ·obtain rfl := oI ho
   have d3 : listed.getD 3 false = true := hdep ⟨3, .data⟩ (by simp) rfl
   have q6 : a.tmps[6]?.getD undef = Value.string T := hI.val 3 _ 6 _ rfl rfl rfl d3
   clear hdep hI ho hF
   refine wp_cat _ _ _ _ rfl (T) (⟨#[44]⟩) (T ++ ⟨#[44]⟩) ((act_tmpC a 6).trans q6) rfl (K1.out W) ?_
   exact hK (by decide) (Value.string (T ++ ⟨#[44]⟩)) _ (fun u hu => oV hu) (Below.refl _ _) (fct_none rfl)
  ·obtain rfl := oI ho
   have q1 : a.tmps[1]?.getD undef = Value.pointer (some ⟨w.heap.size, 0, none⟩) := hI.old 1 (noDst_spec (by kernel_rfl))
   clear hdep hI ho hF
   go_simp
   exact hK (by decide) (Value.pointer (some ⟨w.heap.size, 0, none⟩)) _ (fun u hu => oV hu) (Below.refl _ _) (fct_none rfl)
  ·obtain rfl := oI ho
   have d5 : listed.getD 5 false = true := hdep ⟨5, .data⟩ (by simp) rfl
   have q8 : a.tmps[8]?.getD undef = Value.pointer (some ⟨w.heap.size, 0, none⟩) := hI.val 5 _ 8 _ rfl rfl rfl d5
   clear hdep hI ho hF
   go_simp
   exact hK (by decide) (Value.pointer (some ⟨w.heap.size, 2, none⟩)) _ (fun u hu => oV hu) (Below.refl _ _) (fct_none rfl)
  ·obtain rfl := oI ho
   have d6 : listed.getD 6 false = true := hdep ⟨6, .data⟩ (by simp) rfl
   have q9 : a.tmps[9]?.getD undef = Value.pointer (some ⟨w.heap.size, 2, none⟩) := hI.val 6 _ 9 _ rfl rfl rfl d6
   have x2 := (HR.out.after hB).c 2 rfl
   have x3 := (HR.out.after hB).c 3 rfl
   clear hdep hI ho hF
   go_simp
   exact hK (by decide) (Value.agg #[.int .i64 bx, .int .i64 bY]) _ (fun u hu => oV hu) (Below.refl _ _) (fct_none rfl)
  ·obtain rfl := oI ho
   have d7 : listed.getD 7 false = true := hdep ⟨7, .data⟩ (by simp) rfl
   have q10 : a.tmps[10]?.getD undef = Value.agg #[.int .i64 bx, .int .i64 bY] := hI.val 7 _ 10 _ rfl rfl rfl d7
   clear hdep hI ho hF
   go_simp
   refine (H2.out _ (HB.out.trans (hB.mono HB.out.size))).mono ?_
   rintro e W2 ⟨rfl, hb⟩
   exact hK (by decide) (Value.string U) _ (fun u hu => oV hu) hb (fct_none rfl)
  ·obtain rfl := oI ho
   have d4 : listed.getD 4 false = true := hdep ⟨4, .data⟩ (by simp) rfl
   have d8 : listed.getD 8 false = true := hdep ⟨8, .data⟩ (by simp) rfl
   have q7 : a.tmps[7]?.getD undef = Value.string (T ++ ⟨#[44]⟩) := hI.val 4 _ 7 _ rfl rfl rfl d4
   have q11 : a.tmps[11]?.getD undef = Value.string U := hI.val 8 _ 11 _ rfl rfl rfl d8
   clear hdep hI ho hF
   refine wp_cat _ _ _ _ rfl (T ++ ⟨#[44]⟩) (U) (T ++ ⟨#[44]⟩ ++ U) ((act_tmpC a 7).trans q7) ((act_tmpC a 11).trans q11) (K2.out W) ?_
   exact hK (by decide) (Value.string (T ++ ⟨#[44]⟩ ++ U)) _ (fun u hu => oV hu) (Below.refl _ _) (fct_none rfl)
  ·obtain rfl := oI ho
   have d9 : listed.getD 9 false = true := hdep ⟨9, .data⟩ (by simp) rfl
   have q12 : a.tmps[12]?.getD undef = Value.string (T ++ ⟨#[44]⟩ ++ U) := hI.val 9 _ 12 _ rfl rfl rfl d9
   clear hdep hI ho hF
   go_simp
   exact hK (by decide) (Value.string (T ++ ⟨#[44]⟩ ++ U)) _ (fun u hu => oV hu) (Below.refl _ _) (fct_none rfl)
 ·intro listed a W hI hall hfin hend
  obtain ⟨hBW, _⟩ := hend rfl
  have q2 : a.tmps[2]?.getD undef = Value.string (T ++ ⟨#[44]⟩ ++ U) := hI.val 10 _ 2 _ rfl rfl rfl (hall 10 (by decide))
  have hdf : a.defers = [] := hI.defers
  have HE := Lib.hid (HB.out.trans (hBW.mono HB.out.size))
  clear hBW hall hfin hend hI
  obtain ⟨tm, df⟩ := a
  simp only at hdf q2
  subst hdf
  go_wp2_with fail
  exact bodyPost_ret (v := .string (T ++ ⟨#[44]⟩ ++ U)) (by simp [results, Tryz.results63, go_sem, q2]) rfl ⟨rfl, HE.out⟩

set_option maxRecDepth 100000 in
set_option maxHeartbeats 3200000 in
theorem Text_core (ax ay bx bY : Int) (got : ByteArray) (k : Int) (w : World)
 (H1 : ∀ W, Below w.heap.size w W →
   Calls Tryz.prog 62 #[.agg (segA ax ay bx bY), .func (.func 63) #[] #[]] W fun e w' => e = .returned (.tuple #[.string got, .int .i64 k]) ∧ Below W.heap.size W w') :
 Calls Tryz.prog 25 #[.agg (segA ax ay bx bY)] w fun e w' => e = .returned (.tuple #[.string got, .int .i64 k]) ∧ Below w.heap.size w w' := by
 have H1 := Lib.hid H1
 go_enter Tryz.func25, Tryz.ntmps25
 go_upto_region 1 with fail
 generalize hW : World.alloc _ _ = W0
 have rS : Row W0 w.heap.size (segA ax ay bx bY).toList := by rw [← hW]; exact Row.at rfl (segA ax ay bx bY).toList _
 have hB : Below w.heap.size w W0 := by rw [← hW]; exact (Below.refl _ _).alloc (Nat.le_refl _) _
 clear hW
 have n0 := rS.c 0 rfl
 have n1 := rS.c 1 rfl
 have n2 := rS.c 2 rfl
 have n3 := rS.c 3 rfl
 go_wp2_with fail
 refine (H1.out W0 hB).mono ?_
 rintro e w1 ⟨rfl, hb⟩
 replace hB := hB.trans (hb.mono hB.size)
 clear rS hb
 go_wp2_with fail
 go_ret2
 exact ⟨rfl, hB⟩
theorem Text_num (s : Sg) (w : World) (hs : BdS s) (hne : NeS s) (htab : Tab10 w) (ht : TabTz w) (hw0 : 3 < w.heap.size) :
 Calls Tryz.prog 25 #[.agg (sgA s)] w fun e w' => e = .returned (.tuple #[.string (stx s.ax s.ay s.bx s.bY), .int .i64 0]) ∧ Below w.heap.size w w' := by
 obtain ⟨h1, h2, h3, h4⟩ := hs
 have up : ∀ {V W : World}, Below w.heap.size w V → Below V.heap.size V W → Below w.heap.size w W := fun a b => a.trans (b.mono a.size)
 have pos : ∀ {V : World}, Below w.heap.size w V → 3 < V.heap.size := fun a => Nat.lt_of_lt_of_le hw0 a.size
 refine Text_core s.ax s.ay s.bx s.bY _ 0 w (fun W hW => ?_)
 refine tolds_core s.ax s.ay s.bx s.bY _ 0 W (fun W1 S A hW1 hS hA caps hc => ?_)
 subst hc
 have hB1 := up hW hW1
 refine caught_string 101 _ _ W1 (fun args w => Tryz.call101 args w) (fun W2 hW2 => ?_)
 have hB2 := up hB1 hW2
 refine tolds1_core S A s.ax s.ay s.bx s.bY _ W2 h1 h2 h3 h4 hne (hS.after hW2) (hA.after hW2) (fun W3 hW3 => ?_)
 have hB3 := up hB2 hW3
 exact linetext_core s.ax s.ay s.bx s.bY _ _ (ntx s.ax s.ay) (ntx s.bx s.bY) W3 (Nat.le_trans (ntx_size (bd_T h1) (bd_T h2)) (by decide)) (Nat.le_trans (ntx_size (bd_T h3) (bd_T h4)) (by decide))
  (fun W4 hW4 => nodetext_any s.ax s.ay W4 h1 h2 (htab.below (up hB3 hW4)) (ht.below hw0 (up hB3 hW4)) (pos (up hB3 hW4)))
  (fun W4 hW4 => nodetext_any s.bx s.bY W4 h3 h4 (htab.below (up hB3 hW4)) (ht.below hw0 (up hB3 hW4)) (pos (up hB3 hW4)))
theorem Text_noseg (ax ay bx bY : Int) (w : World) (hc : ckI ax ay bx bY = 2) :
 Calls Tryz.prog 25 #[.agg (segA ax ay bx bY)] w fun e w' => e = .returned (.tuple #[.string ⟨#[]⟩, .int .i64 2]) ∧ Below w.heap.size w w' := by
 refine Text_core ax ay bx bY _ 2 w (fun W hW => ?_)
 refine tolds_core ax ay bx bY _ 2 W (fun W1 S A hW1 hS hA caps hcaps => ?_)
 subst hcaps
 exact caught_string_gave 101 _ 2 W1 (fun args w => Tryz.call101 args w) (fun W2 hW2 => tolds1_noseg S A ax ay bx bY W2 hc (hS.after hW2))
end Go.Proofs.YtongeeggaigepaaGreatDoor
