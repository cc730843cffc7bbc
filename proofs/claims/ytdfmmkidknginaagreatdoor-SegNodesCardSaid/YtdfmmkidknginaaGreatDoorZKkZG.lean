import Derived.Test.YtdfmmkidknginaaGreatDoorZKkZF
import Derived.Test.YtdfmmkidknginaaGreatDoorZKkYI
import Derived.Test.YtdfmmkidknginaaGreatDoorZKkWE
namespace Go.Proofs.YtdfmmkidknginaaGreatDoor
open Go.RowKit Go.Sort CrossMath

theorem TabTz.kb {w W : World} {X : Nat} (h : TabTz w) (hk : KB w.heap.size X w W) (hw0 : 3 < w.heap.size) (hX : 3 ≠ X) : TabTz W := fun j hj => by
 rw [hk.cell (p := ⟨3, j, none⟩) hw0 hX]; exact h j hj
theorem CutOk.kb {w W : World} {X : Nat} (h : CutOk w) (hk : KB w.heap.size X w W) (hX : 0 ≠ X) : CutOk W := by
 obtain ⟨m, hm⟩ := h
 exact ⟨m, (hk.cell (p := ⟨0, 0, none⟩) (block_lt_of_cell hm) hX).trans hm⟩
theorem rread_whole (X : Nat) (z : Int) (w : World) (hz : z.natAbs < T256) (hX : Row w X (ratA 0 1).toList) (hgX : 3 ≠ X) (hc : CutOk w) (ht : TabTz w) (hw0 : 3 < w.heap.size) :
 Calls Tryz.prog 198 #[.pointer (some ⟨X, 0, none⟩), .string (tx z)] w fun e w' => e = .returned (.tuple #[]) ∧ Row w' X (ratA z 1).toList ∧ KB w.heap.size X w w' :=
 rread_core X (tx z) (decide ((0 : Int) < 0)) (decide (z < 0)) (decide ((1 : Int) < 0)) _ _ _ _ (W64 z.natAbs 0 : Nat) (W64 z.natAbs 1 : Nat) (W64 z.natAbs 2 : Nat) (W64 z.natAbs 3 : Nat) (W64 (1 : Int).natAbs 0 : Nat) (W64 (1 : Int).natAbs 1 : Nat) (W64 (1 : Int).natAbs 2 : Nat) (W64 (1 : Int).natAbs 3 : Nat) w hX
  (by have := tx_size hz; omega) (textL_no (by decide) (by decide)) hc (Lib.hid (fun W => parse_text z W hz))
  (Lib.hid (fun W hk => check_one z W hz (ht.kb hk hw0 hgX) (Nat.lt_of_lt_of_le hw0 hk.size)))
set_option maxRecDepth 100000 in
set_option maxHeartbeats 3200000 in
theorem ratparse_whole (z : Int) (w : World) (hz : z.natAbs < T256) (hc : CutOk w) (ht : TabTz w) (hw0 : 3 < w.heap.size) :
 Calls Tryz.prog 176 #[.string (tx z)] w fun e w' => e = .returned (.tuple #[.agg (ratA z 1), .int .i64 0]) ∧ Below w.heap.size w w' := by
 have hmf : ∀ (fn : Fn) (first cap : Array Value) (w : World), (Instr.makeFunc fn first cap).run Tryz.prog w = .ok (.func fn first cap) w := fun _ _ _ _ => rfl
 have HO := Lib.hid (fun W => ratof_num 0 (by decide) (by decide) W)
 have HD := Lib.hid (fun W (hW : Below w.heap.size w W) X B (hwX : w.heap.size ≤ X) (hB : W.cell? ⟨B, 0, none⟩ = some (.string (tx z))) (hX : Row W X (ratA 0 1).toList) => rdone_core X B (ratA z 1) W (ratA_size _ _) (ratA_one _ _) hX.lt
  (Lib.hid (fun V hV => rparse1_core X B (tx z) (ratA z 1).toList V ((hV.cell (p := ⟨B, 0, none⟩) (block_lt_of_cell hB)).trans hB) (Lib.hid (fun U hU => by
    have hwU : Below w.heap.size w U := hW.trans ((hV.trans (hU.mono hV.size)).mono hW.size)
    exact rread_whole X z U hz ((hX.after hV).after hU) (by omega) (hc.below hwU) (ht.below hw0 hwU) (Nat.lt_of_lt_of_le hw0 hwU.size))))))
 have hT : AggTy Tryz.prog 44 (ratA z 1).size := agg_rat
 have HF := Lib.hid (ratA_one z 1)
 have HS := Lib.hid (ratA_size z 1)
 clear hz hc ht hw0
 generalize tx z = s at *
 generalize ratA z 1 = fr at *
 have e0 : ratA 0 1 = #[.bool (decide ((0 : Int) < 0)), .int .u64 (W64 (0 : Int).natAbs 0 : Nat), .int .u64 (W64 (0 : Int).natAbs 1 : Nat), .int .u64 (W64 (0 : Int).natAbs 2 : Nat), .int .u64 (W64 (0 : Int).natAbs 3 : Nat), .bool (decide ((1 : Int) < 0)), .int .u64 (W64 (1 : Int).natAbs 0 : Nat), .int .u64 (W64 (1 : Int).natAbs 1 : Nat), .int .u64 (W64 (1 : Int).natAbs 2 : Nat), .int .u64 (W64 (1 : Int).natAbs 3 : Nat)] := rfl
 rw [e0] at HO HD
 clear e0
 generalize decide ((0 : Int) < 0) = ab at *
 generalize decide ((1 : Int) < 0) = bb at *
 generalize ((W64 (0 : Int).natAbs 0 : Nat) : Int) = a0 at *
 generalize ((W64 (0 : Int).natAbs 1 : Nat) : Int) = a1 at *
 generalize ((W64 (0 : Int).natAbs 2 : Nat) : Int) = a2 at *
 generalize ((W64 (0 : Int).natAbs 3 : Nat) : Int) = a3 at *
 generalize ((W64 (1 : Int).natAbs 0 : Nat) : Int) = b0 at *
 generalize ((W64 (1 : Int).natAbs 1 : Nat) : Int) = b1 at *
 generalize ((W64 (1 : Int).natAbs 2 : Nat) : Int) = b2 at *
 generalize ((W64 (1 : Int).natAbs 3 : Nat) : Int) = b3 at *
 go_enter Tryz.func176, Tryz.ntmps176
 go_upto_region 1 with fail
 generalize hW : World.alloc _ _ = W0
 have rB : Row W0 w.heap.size [.string s] := by rw [← hW]; exact (Row.at rfl [.string s] _).alloc _
 have rZ : Row W0 (w.heap.size + 1) zero_ratP.toList := by rw [← hW]; exact Row.at (by simp) _ _
 have hB : Below w.heap.size w W0 := by rw [← hW]; exact ((Below.refl _ _).alloc (Nat.le_refl _) _).alloc (by simp) _
 clear hW
 go_wp2_with fail
 refine (HO.out _).mono ?_
 rintro e w1 ⟨rfl, hb⟩
 replace rB := rB.after hb
 replace rZ := rZ.after hb
 replace hB := hB.trans (hb.mono hB.size)
 clear hb
 go_upto_region 2 with fail
 generalize hW : World.alloc _ _ = W2
 have hX : Row W2 w1.heap.size [.bool ab, .int .u64 a0, .int .u64 a1, .int .u64 a2, .int .u64 a3, .bool bb, .int .u64 b0, .int .u64 b1, .int .u64 b2, .int .u64 b3] := by rw [← hW]; exact Row.at rfl _ _
 replace rB : Row W2 w.heap.size [.string s] := by rw [← hW]; exact rB.alloc _
 have lZ := rZ.lt
 replace rZ : Row W2 (w.heap.size + 1) zero_ratP.toList := by rw [← hW]; exact rZ.alloc _
 have hs1 := hB.size
 replace hB : Below w.heap.size w W2 := by rw [← hW]; exact hB.alloc hB.size _
 clear hW
 go_wp2_with fail
 refine (HD.out W2 hB w1.heap.size w.heap.size hs1 (rB.c 0 rfl) hX).mono ?_
 rintro e w3 ⟨rfl, hk⟩
 replace rZ := rZ.kb hk (by omega)
 have hB3 : Below w.heap.size w w3 := (((KB.refl w.heap.size w1.heap.size w).below hB (Nat.le_refl _)).trans hk hB.size).toBelow' hs1
 clear hk rB hX HD HO
 go_wp2_with (first | (refine wpList_store_R rfl _ _ _ rfl _ fr rfl rfl _ rZ (by rw [HS.out]; rfl) hT HF.out ?_; intro w4 q2 o2))
 exact bodyPost_ret (results_R2 (cs := fr) rfl rfl q2 hT) rfl ⟨rfl, below_on hB3 o2 (by omega)⟩
end Go.Proofs.YtdfmmkidknginaaGreatDoor

namespace Go.Proofs.YtdfmmkidknginaaGreatDoor
open Go.RowKit Go.Sort CrossMath

theorem sread_node (X : Nat) (x y : Int) (w : World) (hx : Bd x) (hy : Bd y) (hX : Row w X zero_point.toList) (hgX : 3 ≠ X) (hmX : 0 ≠ X) (hc : CutOk w) (ht : TabTz w) (hw0 : 3 < w.heap.size) :
 Calls Tryz.prog 154 #[.pointer (some ⟨X, 0, none⟩), .string (ntx x y)] w fun e w' => e = .returned (.tuple #[]) ∧ Row w' X (dotA x y).toList ∧ KB w.heap.size X w w' := by
 have h := sread_core X (ntx x y) (tx x) (tx y) false false false false (decide (x < 0)) (decide ((1 : Int) < 0)) (decide (y < 0)) (decide ((1 : Int) < 0)) 0 0 0 0 0 0 0 0 0 0 0 0 0 0 0 0
  (W64 x.natAbs 0 : Nat) (W64 x.natAbs 1 : Nat) (W64 x.natAbs 2 : Nat) (W64 x.natAbs 3 : Nat) (W64 (1 : Int).natAbs 0 : Nat) (W64 (1 : Int).natAbs 1 : Nat) (W64 (1 : Int).natAbs 2 : Nat) (W64 (1 : Int).natAbs 3 : Nat)
  (W64 y.natAbs 0 : Nat) (W64 y.natAbs 1 : Nat) (W64 y.natAbs 2 : Nat) (W64 y.natAbs 3 : Nat) (W64 (1 : Int).natAbs 0 : Nat) (W64 (1 : Int).natAbs 1 : Nat) (W64 (1 : Int).natAbs 2 : Nat) (W64 (1 : Int).natAbs 3 : Nat) w hX
  (by have := ntx_size (bd_T hx) (bd_T hy); omega) (by rw [ntx_list]; exact Lib.cut_some (textL_no (by decide) (by decide))) hc
  (Lib.hid (fun W hk => ratparse_whole x W (bd_T hx) (hc.kb hk hmX) (ht.kb hk hw0 hgX) (Nat.lt_of_lt_of_le hw0 hk.size)))
  (Lib.hid (fun W hk => ratparse_whole y W (bd_T hy) (hc.kb hk hmX) (ht.kb hk hw0 hgX) (Nat.lt_of_lt_of_le hw0 hk.size)))
 rw [dotA_lit]
 exact h
theorem settle_node (X : Nat) (x y : Int) (w : World) (hx : Bd x) (hy : Bd y) (hX : Row w X (dotA x y).toList) :
 Calls Tryz.prog 174 #[.pointer (some ⟨X, 0, none⟩)] w fun e w' => e = .returned (.tuple #[]) ∧ Below w.heap.size w w' := by
 rw [dotA_lit] at hX
 have q : ∀ {z : Int}, Bd z → grB (some z) (some 1) = false := fun {z} h => by
  unfold grB oM
  unfold Bd at h
  simp only [Bool.or_eq_false_iff, decide_eq_false_iff_not]
  omega
 refine settle_core X _ _ _ _ _ _ _ _ _ _ _ _ _ _ _ _ _ _ _ _ w hX (Lib.hid (fun W => ?_)) (Lib.hid (fun W => ?_))
 ·have := great_O (some x) (some 1) (bd_T hx) (by decide) W
  rw [q hx] at this
  exact this
 ·have := great_O (some y) (some 1) (bd_T hy) (by decide) W
  rw [q hy] at this
  exact this
theorem dotA_oneP (x y : Int) : OneC (dotA x y) := by rw [dotA_lit]; simp [OneC, Value.oneCell']
theorem pparse_node (x y : Int) (w : World) (hx : Bd x) (hy : Bd y) (hc : CutOk w) (ht : TabTz w) (hw0 : 3 < w.heap.size) :
 Calls Tryz.prog 134 #[.string (ntx x y)] w fun e w' => e = .returned (.tuple #[.agg (dotA x y), .int .i64 0]) ∧ Below w.heap.size w w' := by
 have hm0 : 0 < w.heap.size := by obtain ⟨m, hm⟩ := hc; exact block_lt_of_cell hm
 refine pparse_core (ntx x y) (dotA x y) w (dotA_size _ _) (dotA_oneP _ _) (Lib.hid (fun W hW X B hX hB hR => ?_))
 refine pdone_core X B (dotA x y) W (dotA_size _ _) (dotA_oneP _ _) hR.lt (Lib.hid (fun V hV => ?_)) (Lib.hid (fun V hr => settle_node X x y V hx hy hr))
 refine pparse1_core X B (ntx x y) (dotA x y).toList V ((hV.cell (p := ⟨B, 0, none⟩) (block_lt_of_cell hB)).trans hB) (Lib.hid (fun U hU => ?_))
 have hwU : Below w.heap.size w U := hW.trans ((hV.trans (hU.mono hV.size)).mono hW.size)
 exact sread_node X x y U hx hy ((hR.after hV).after hU) (by omega) (by omega) (hc.below hwU) (ht.below hw0 hwU) (Nat.lt_of_lt_of_le hw0 hwU.size)
theorem snode_any (x y : Int) (w : World) (hx : Bd x) (hy : Bd y) (hc : CutOk w) (ht : TabTz w) (hw0 : 3 < w.heap.size) :
 Calls Tryz.prog 106 #[.string (ntx x y)] w fun e w' => e = .returned (.agg #[.int .i64 x, .int .i64 y]) ∧ Below w.heap.size w w' := by
 refine node_core (ntx x y) (dotA x y) x y w (dotA_size _ _) (dotA_oneP _ _) (Lib.hid (fun W hW => pparse_node x y W hx hy (hc.below hW) (ht.below hw0 hW) (Nat.lt_of_lt_of_le hw0 hW.size))) (Lib.hid (fun W => ?_))
 have h := grid_O (some x) (some 1) (some y) (some 1) (bd_T hx) (by decide) (bd_T hy) (by decide) W
 have hg : gridB (some x) (some 1) (some y) (some 1) = true := by
  show (inB x && inB y && decide ((1 : Int) = 1) && decide ((1 : Int) = 1)) = true
  rw [(inB_iff x).2 hx, (inB_iff y).2 hy]; rfl
 rw [hg] at h
 simp only [if_true] at h
 rw [sm_in ((inB_iff x).2 hx), sm_in ((inB_iff y).2 hy)] at h
 exact h
def segG (ax ay bx bY : Int) : Got := if ax = bx ∧ ay = bY then .gave 140 else .val (segA ax ay bx bY)
theorem segread_any (ax ay bx bY : Int) (w : World) (h1 : Bd ax) (h2 : Bd ay) (h3 : Bd bx) (h4 : Bd bY) (hc : CutOk w) (ht : TabTz w) (hw0 : 3 < w.heap.size) :
 Calls Tryz.prog 66 #[.string (stx ax ay bx bY)] w fun e w' => e = (segG ax ay bx bY).end ∧ Below w.heap.size w w' := by
 have z1 := stx_size (bd_T h1) (bd_T h2) (bd_T h3) (bd_T h4)
 have z2 := ntx_size (bd_T h3) (bd_T h4)
 refine read_core (stx ax ay bx bY) (ntx ax ay) (ntx bx bY) (ntx bx bY) ⟨#[]⟩ ax ay bx bY (ckI ax ay bx bY) (segG ax ay bx bY) w ?_
  (Lib.hid (fun W L M hW hL hM hLM => read1_core L M _ _ _ _ _ W hL hM hLM (Lib.hid (fun V hV => strcut_any _ _ _ _ _ V (hc.below (hW.trans (hV.mono hW.size))) (by omega) (by rw [stx_list, ntx_list, ntx_list]; exact Lib.cut_some (by rw [← ntx_list]; exact ntx_no))))))
  (Lib.hid (fun W L M hW hL hM hLM => read1_core L M _ _ _ _ _ W hL hM hLM (Lib.hid (fun V hV => strcut_any _ _ _ _ _ V (hc.below (hW.trans (hV.mono hW.size))) (by omega) (Lib.cut_none ntx_no)))))
  (Lib.hid (fun W hW => snode_any ax ay W h1 h2 (hc.below hW) (ht.below hw0 hW) (Nat.lt_of_lt_of_le hw0 hW.size)))
  (Lib.hid (fun W hW => snode_any bx bY W h3 h4 (hc.below hW) (ht.below hw0 hW) (Nat.lt_of_lt_of_le hw0 hW.size)))
  (Lib.hid (fun W => check_any4 ax ay bx bY W))
 have n1 : ndB (ax, ay) = true := by unfold ndB; simp only []; rw [(inB_iff _).2 h1, (inB_iff _).2 h2]; rfl
 have n2 : ndB (bx, bY) = true := by unfold ndB; simp only []; rw [(inB_iff _).2 h3, (inB_iff _).2 h4]; rfl
 unfold segG ckI
 rw [n1, n2]
 by_cases he : ax = bx ∧ ay = bY
 ·right
  rw [if_pos he]
  obtain ⟨rfl, rfl⟩ := he
  exact ⟨by simp, rfl⟩
 ·left
  rw [if_neg he]
  refine ⟨?_, rfl⟩
  rw [if_pos]
  simp only [Bool.true_and, Bool.not_eq_true', Bool.and_eq_false_iff, beq_eq_false_iff_ne]
  by_cases e1 : ax = bx
  ·exact .inr fun e2 => he ⟨e1, e2⟩
  ·exact .inl e1
theorem Parse_node (ax ay bx bY : Int) (w : World) (h1 : Bd ax) (h2 : Bd ay) (h3 : Bd bx) (h4 : Bd bY) (hc : CutOk w) (ht : TabTz w) (hw0 : 3 < w.heap.size) :
 Calls Tryz.prog 26 #[.string (stx ax ay bx bY)] w fun e w' => e = .returned ((segG ax ay bx bY).ans zero_seg) ∧ Below w.heap.size w w' := by
 refine segparse_core (stx ax ay bx bY) (segG ax ay bx bY) w ?_ (Lib.hid (fun W hW => segread_any ax ay bx bY W h1 h2 h3 h4 (hc.below hW) (ht.below hw0 hW) (Nat.lt_of_lt_of_le hw0 hW.size)))
 unfold segG
 split
 ·show (140 : Int) ≠ 0; decide
 ·exact ⟨rfl, segA_one _ _ _ _⟩
end Go.Proofs.YtdfmmkidknginaaGreatDoor

namespace Go.Proofs.YtdfmmkidknginaaGreatDoor
open Go.RowKit Go.Sort CrossMath
theorem num4_any (n : Int) (w : World) : Calls Tryz.prog 13 #[.int .i64 n] w fun e w' => e = .returned (.int .i64 n) ∧ Below w.heap.size w w' := by
 have hb := Below.refl w.heap.size w
 go_enter Tryz.func13, Tryz.ntmps13
 go_wp2
 go_ret
 exact ⟨rfl, hb⟩
set_option maxRecDepth 100000 in
theorem of4_any (a b c d : Int) (w : World) : Calls Tryz.prog 46 #[.int .i64 a, .int .i64 b, .int .i64 c, .int .i64 d] w fun e w' => e = .returned (.agg (segA a b c d)) ∧ Below w.heap.size w w' := by
 have hb := Lib.hid ((Below.refl w.heap.size w).alloc (Nat.le_refl _) (.cells zero_seg 25))
 have oS : OneC (segA a b c d) := by simp [OneC, Value.oneCell']
 go_enter Tryz.func46, Tryz.ntmps46
 go_wp2_with (refine wpList_store_R rfl _ _ _ rfl _ (segA a b c d) rfl rfl _ (Row.at rfl zero_seg.toList _) (by rfl) agg_seg oS ?_; intro w3 r3 o3)
 exact bodyPost_ret (results_R1 (cs := segA a b c d) rfl rfl r3 agg_seg) rfl ⟨rfl, below_on hb.out o3 (Nat.le_refl _)⟩
theorem small4_L {m k : Nat} (h : m < 65536 ^ k) : L16 m ≤ k := L16_le h
theorem rout4_any (n : Int) (A B : Option Addr) (c d : Nat) (w : World) (hn : n.natAbs < T256) (hd : DS w n.natAbs A) (hd1 : DS w 1 B) :
 Calls Tryz.prog 43 #[.agg #[.bool (decide (n < 0)), .slice A (L16 n.natAbs) c, .bool false, .slice B (L16 1) d]] w fun e w' => e = .returned (.tuple #[.agg (ratA n 1), .int .i64 0]) ∧ Below w.heap.size w w' := by
 refine rout_core _ _ _ _ _ _ _ _ _ _ _ _ A B _ c _ d w (fun W hW => ?_) (fun W hW => ?_)
 ·have := out_z n A c W (hd.below hW)
  rw [outV, if_pos hn] at this
  exact this
 ·have := out_z 1 B d W (hd1.below hW)
  rw [outV, if_pos (by decide)] at this
  exact this
theorem ptout4_any (x y : Int) (A B E G : Option Addr) (c d f h : Nat) (w : World) (hx : Bd x) (hy : Bd y) (hA : DS w x.natAbs A) (hB : DS w 1 B) (hE : DS w y.natAbs E) (hG : DS w 1 G) :
 Calls Tryz.prog 71 #[.agg #[.bool (decide (x < 0)), .slice A (L16 x.natAbs) c, .bool false, .slice B (L16 1) d, .bool (decide (y < 0)), .slice E (L16 y.natAbs) f, .bool false, .slice G (L16 1) h]] w fun e w' => e = .returned (.tuple #[.agg (dotA x y), .int .i64 0]) ∧ Below w.heap.size w w' := by
 have bx : x.natAbs < 65536 ^ 2 := by unfold Bd at hx; omega
 have by' : y.natAbs < 65536 ^ 2 := by unfold Bd at hy; omega
 have h1 : L16 1 ≤ 4 := small4_L (by decide)
 have kx : L16 x.natAbs ≤ 6 := Nat.le_trans (small4_L bx) (by decide)
 have ky : L16 y.natAbs ≤ 6 := Nat.le_trans (small4_L by') (by decide)
 have tx : x.natAbs < T256 := Nat.lt_trans bx (by decide)
 have ty : y.natAbs < T256 := Nat.lt_trans by' (by decide)
 exact ptout_core _ _ _ _ A B E G _ c _ d _ f _ h (ratA x 1) (ratA y 1) rfl rfl (ratA_one _ _) (ratA_one _ _) w (fun W hW => rout4_any x A B c d W tx (hA.below hW) (hB.below hW)) (fun W hW => rout4_any y E G f h W ty (hE.below hW) (hG.below hW))
  (fun W => fits_any _ _ A B _ c _ d W kx h1) (fun W => fits_any _ _ E G _ f _ h W ky h1)
set_option maxRecDepth 100000 in
set_option maxHeartbeats 3200000 in
theorem at4_any (x y : Int) (w : World) (hx : Bd x) (hy : Bd y) : Calls Tryz.prog 31 #[.int .i64 x, .int .i64 y] w fun e w' => e = .returned (.agg (dotA x y)) ∧ Below w.heap.size w w' := by
 have H1 : Hid (∀ W, Calls Tryz.prog 61 #[.agg (nodeA x y)] W (PtPost W (decide (x < 0)) (decide (y < 0)) x.natAbs y.natAbs (L16 x.natAbs) (L16 y.natAbs) (L16 1))) := Lib.hid (fun W => ptof_any x y W hx hy)
 have H2 := Lib.hid (fun A B E G c d f h W hA hB hE hG => ptout4_any x y A B E G c d f h W hx hy hA hB hE hG)
 have hD : (dotA x y).size = 20 := rfl
 have oD := Lib.hid (dotA_one x y)
 have tD : AggTy Tryz.prog 46 (dotA x y).size := by rw [hD]; exact agg_point
 have HD := Lib.hid hD
 clear hx hy
 generalize dotA x y = D at *
 generalize decide (x < 0) = s at *
 generalize decide (y < 0) = t at *
 generalize L16 x.natAbs = k at *
 generalize L16 y.natAbs = i at *
 generalize L16 1 = j at *
 generalize x.natAbs = m at *
 generalize y.natAbs = n at *
 go_enter Tryz.func31, Tryz.ntmps31
 go_upto_region 1 with fail
 generalize hW : World.alloc _ _ = W0
 have rZ : Row W0 w.heap.size zero_point.toList := by rw [← hW]; exact Row.at rfl _ _
 have hB : Below w.heap.size w W0 := by rw [← hW]; exact (Below.refl w.heap.size w).alloc (Nat.le_refl _) _
 clear hW
 go_wp2_with fail
 refine (H1.out _).mono ?_
 rintro e w1 ⟨A, c, B, d, E, f, G, h, rfl, ⟨d1, d2, d3, d4⟩, hb⟩
 replace rZ := rZ.after hb
 replace hB := hB.trans (hb.mono hB.size)
 clear hb
 have HDS := Lib.hid (And.intro d1 (And.intro d2 (And.intro d3 d4)))
 clear d1 d2 d3 d4
 go_wp2_with fail
 refine (H2.out A B E G c d f h _ HDS.out.1 HDS.out.2.1 HDS.out.2.2.1 HDS.out.2.2.2).mono ?_
 rintro e w2 ⟨rfl, hb⟩
 replace rZ := rZ.after hb
 replace hB := hB.trans (hb.mono hB.size)
 clear hb HDS
 go_upto_region 2 with (refine wpList_store_R rfl _ _ _ rfl _ D rfl rfl _ (Row.at rfl zero_point.toList _) (by rw [HD.out]; rfl) tD oD.out ?_; intro w3 r3 o3)
 have l1 : w.heap.size < w2.heap.size := rZ.lt
 replace rZ := o3.row (by omega) (rZ.alloc _)
 replace hB := below_on (hB.alloc hB.size _) o3 hB.size
 clear o3 l1
 generalize w2.heap.size = C at *
 have HB := Lib.hid hB
 clear hB
 go_wp2_with (first
  | (refine wpList_load_R rfl _ _ rfl C rfl D r3 tD ?_)
  | (refine wpList_store_R rfl _ _ _ rfl _ D rfl rfl _ rZ (by rw [HD.out]; rfl) tD oD.out ?_; intro w4 r4 o4))
 exact bodyPost_ret (results_R1 (cs := D) rfl rfl r4 tD) rfl ⟨rfl, below_on HB.out o4 (Nat.le_refl _)⟩
theorem at_nd0 (ax ay bx bY cx cy : Int) (W : World) : (Instr.index 86 (.agg #[.int .i64 ax, .int .i64 ay, .int .i64 bx, .int .i64 bY, .int .i64 cx, .int .i64 cy]) (.int .i64 0)).run Tryz.prog W = .ok (.agg #[.int .i64 ax, .int .i64 ay]) W := by kernel_rfl
theorem at_nd1 (ax ay bx bY cx cy : Int) (W : World) : (Instr.index 86 (.agg #[.int .i64 ax, .int .i64 ay, .int .i64 bx, .int .i64 bY, .int .i64 cx, .int .i64 cy]) (.int .i64 1)).run Tryz.prog W = .ok (.agg #[.int .i64 bx, .int .i64 bY]) W := by kernel_rfl
theorem at_nd2 (ax ay bx bY cx cy : Int) (W : World) : (Instr.index 86 (.agg #[.int .i64 ax, .int .i64 ay, .int .i64 bx, .int .i64 bY, .int .i64 cx, .int .i64 cy]) (.int .i64 2)).run Tryz.prog W = .ok (.agg #[.int .i64 cx, .int .i64 cy]) W := by kernel_rfl
set_option maxRecDepth 100000 in
set_option maxHeartbeats 3200000 in
theorem Turn_ok (ax ay bx bY cx cy r u v : Int) (w : World)
 (H1 : Hid (∀ W, Calls Tryz.prog 37 #[.agg #[.int .i64 ax, .int .i64 ay]] W fun e w' => e = .returned (.int .i64 0) ∧ Below W.heap.size W w'))
 (H2 : Hid (∀ W, Calls Tryz.prog 37 #[.agg #[.int .i64 bx, .int .i64 bY]] W fun e w' => e = .returned (.int .i64 0) ∧ Below W.heap.size W w'))
 (H3 : Hid (∀ W, Calls Tryz.prog 37 #[.agg #[.int .i64 cx, .int .i64 cy]] W fun e w' => e = .returned (.int .i64 0) ∧ Below W.heap.size W w'))
 (HF : Hid (∀ W, Calls Tryz.prog 38 #[.agg (segA ax ay bx bY)] W fun e w' => e = .returned (.agg (lineA ax ay bx bY r u)) ∧ Below W.heap.size W w'))
 (HT : Hid (∀ W, Calls Tryz.prog 39 #[.agg (lineA ax ay bx bY r u), .agg #[.int .i64 cx, .int .i64 cy]] W fun e w' => e = .returned (.int .i64 v) ∧ Below W.heap.size W w')) :
 Calls Tryz.prog 10 #[.agg (nodeA ax ay), .agg (nodeA bx bY), .agg (nodeA cx cy)] w fun e w' => e = .returned (.tuple #[.int .i64 v, .int .i64 0]) ∧ Below w.heap.size w w' := by
 have ix0 := at_nd0 ax ay bx bY cx cy
 have ix1 := at_nd1 ax ay bx bY cx cy
 have ix2 := at_nd2 ax ay bx bY cx cy
 go_enter Tryz.func10, Tryz.ntmps10
 go_upto_region 1 with fail
 generalize hW : World.alloc _ _ = W0
 have rA : Row W0 w.heap.size (nodeA ax ay).toList := by rw [← hW]; exact ((Row.at rfl (nodeA ax ay).toList _).alloc _).alloc _
 have rB : Row W0 (w.heap.size + 1) (nodeA bx bY).toList := by rw [← hW]; exact (Row.at (by simp) (nodeA bx bY).toList _).alloc _
 have rC : Row W0 (w.heap.size + 1 + 1) (nodeA cx cy).toList := by rw [← hW]; exact Row.at (by simp) _ _
 have hB : Below w.heap.size w W0 := by rw [← hW]; exact (((Below.refl _ _).alloc (Nat.le_refl _) _).alloc (by simp) _).alloc (by simp; omega) _
 clear hW
 have x0 := rA.c 0 rfl
 have x1 := rA.c 1 rfl
 have y0 := rB.c 0 rfl
 have y1 := rB.c 1 rfl
 have z0 := rC.c 0 rfl
 have z1 := rC.c 1 rfl
 go_wp2_with fail
 refine wp_loop_rounds 4 ?_
 rw [rounds_succ]
 go_wp2_with fail
 refine (H1.out _).mono ?_
 rintro e w1 ⟨rfl, hb⟩
 replace hb := ((Below.refl _ _).alloc (Nat.le_refl _) _).trans (hb.mono (by simp))
 replace rA := rA.after hb
 replace rB := rB.after hb
 replace rC := rC.after hb
 replace hB := hB.trans (hb.mono hB.size)
 clear hb x0 x1 y0 y1 z0 z1
 go_wp2_with fail
 rw [rounds_succ]
 go_wp2_with fail
 refine (H2.out _).mono ?_
 rintro e w2 ⟨rfl, hb⟩
 replace hb := ((Below.refl _ _).alloc (Nat.le_refl _) _).trans (hb.mono (by simp))
 replace rA := rA.after hb
 replace rB := rB.after hb
 replace rC := rC.after hb
 replace hB := hB.trans (hb.mono hB.size)
 clear hb
 go_wp2_with fail
 rw [rounds_succ]
 go_wp2_with fail
 refine (H3.out _).mono ?_
 rintro e w3 ⟨rfl, hb⟩
 replace hb := ((Below.refl _ _).alloc (Nat.le_refl _) _).trans (hb.mono (by simp))
 replace rA := rA.after hb
 replace rB := rB.after hb
 replace rC := rC.after hb
 replace hB := hB.trans (hb.mono hB.size)
 clear hb
 go_wp2_with fail
 rw [rounds_succ]
 go_upto_region 8 with fail
 have n0 := cell_regrown (rA.c 0 rfl)
 have n1 := cell_regrown (rA.c 1 rfl)
 have n2 := cell_regrown (rB.c 0 rfl)
 have n3 := cell_regrown (rB.c 1 rfl)
 have n4 := cell_regrown (rC.c 0 rfl)
 have n5 := cell_regrown (rC.c 1 rfl)
 have C1 := Lib.hid (fun d os => Calls.regrown_of (HF.out (grow (redrawn w3 d) os)))
 have C2 := Lib.hid (fun d os => Calls.regrown_of (HT.out (grow (redrawn w3 d) os)))
 clear rA rB rC H1 H2 H3 HF HT
 refine wp_region_quiet_below (by kernel_rfl) (by kernel_rfl) ?_
 repeat (quiet_step ((first | with_reducible exact C1.out _ _ | with_reducible exact C2.out _ _)))
 refine wpQuiet_nil ?_
 intro _ hw'
 obtain ⟨⟨dq, osq⟩, hw''⟩ := hw'
 subst hw''
 go_wp2
 go_ret2
 exact ⟨rfl, hB.trans ((below_regrown w3 dq osq).mono hB.size)⟩
set_option maxRecDepth 100000 in
set_option maxHeartbeats 3200000 in
theorem Turn_no1 (ax ay bx bY cx cy : Int) (w : World)
 (H1 : Hid (∀ W, Calls Tryz.prog 37 #[.agg #[.int .i64 ax, .int .i64 ay]] W fun e w' => e = .returned (.int .i64 2) ∧ Below W.heap.size W w')) :
 Calls Tryz.prog 10 #[.agg (nodeA ax ay), .agg (nodeA bx bY), .agg (nodeA cx cy)] w fun e w' => e = .returned (.tuple #[.int .i64 0, .int .i64 2]) ∧ Below w.heap.size w w' := by
 have ix0 := at_nd0 ax ay bx bY cx cy
 have ix1 := at_nd1 ax ay bx bY cx cy
 have ix2 := at_nd2 ax ay bx bY cx cy
 go_enter Tryz.func10, Tryz.ntmps10
 go_upto_region 1 with fail
 generalize hW : World.alloc _ _ = W0
 have rA : Row W0 w.heap.size (nodeA ax ay).toList := by rw [← hW]; exact ((Row.at rfl (nodeA ax ay).toList _).alloc _).alloc _
 have rB : Row W0 (w.heap.size + 1) (nodeA bx bY).toList := by rw [← hW]; exact (Row.at (by simp) (nodeA bx bY).toList _).alloc _
 have rC : Row W0 (w.heap.size + 1 + 1) (nodeA cx cy).toList := by rw [← hW]; exact Row.at (by simp) _ _
 have hB : Below w.heap.size w W0 := by rw [← hW]; exact (((Below.refl _ _).alloc (Nat.le_refl _) _).alloc (by simp) _).alloc (by simp; omega) _
 clear hW
 have x0 := rA.c 0 rfl
 have x1 := rA.c 1 rfl
 have y0 := rB.c 0 rfl
 have y1 := rB.c 1 rfl
 have z0 := rC.c 0 rfl
 have z1 := rC.c 1 rfl
 go_wp2_with fail
 refine wp_loop_rounds 4 ?_
 rw [rounds_succ]
 go_wp2_with fail
 refine (H1.out _).mono ?_
 rintro e w1 ⟨rfl, hb⟩
 replace hb := ((Below.refl _ _).alloc (Nat.le_refl _) _).trans (hb.mono (by simp))
 replace rA := rA.after hb
 replace rB := rB.after hb
 replace rC := rC.after hb
 replace hB := hB.trans (hb.mono hB.size)
 clear hb x0 x1 y0 y1 z0 z1
 go_wp2_with fail
 go_ret2
 exact ⟨rfl, hB⟩
set_option maxRecDepth 100000 in
set_option maxHeartbeats 3200000 in
theorem Turn_no2 (ax ay bx bY cx cy : Int) (w : World)
 (H1 : Hid (∀ W, Calls Tryz.prog 37 #[.agg #[.int .i64 ax, .int .i64 ay]] W fun e w' => e = .returned (.int .i64 0) ∧ Below W.heap.size W w'))
 (H2 : Hid (∀ W, Calls Tryz.prog 37 #[.agg #[.int .i64 bx, .int .i64 bY]] W fun e w' => e = .returned (.int .i64 2) ∧ Below W.heap.size W w')) :
 Calls Tryz.prog 10 #[.agg (nodeA ax ay), .agg (nodeA bx bY), .agg (nodeA cx cy)] w fun e w' => e = .returned (.tuple #[.int .i64 0, .int .i64 2]) ∧ Below w.heap.size w w' := by
 have ix0 := at_nd0 ax ay bx bY cx cy
 have ix1 := at_nd1 ax ay bx bY cx cy
 have ix2 := at_nd2 ax ay bx bY cx cy
 go_enter Tryz.func10, Tryz.ntmps10
 go_upto_region 1 with fail
 generalize hW : World.alloc _ _ = W0
 have rA : Row W0 w.heap.size (nodeA ax ay).toList := by rw [← hW]; exact ((Row.at rfl (nodeA ax ay).toList _).alloc _).alloc _
 have rB : Row W0 (w.heap.size + 1) (nodeA bx bY).toList := by rw [← hW]; exact (Row.at (by simp) (nodeA bx bY).toList _).alloc _
 have rC : Row W0 (w.heap.size + 1 + 1) (nodeA cx cy).toList := by rw [← hW]; exact Row.at (by simp) _ _
 have hB : Below w.heap.size w W0 := by rw [← hW]; exact (((Below.refl _ _).alloc (Nat.le_refl _) _).alloc (by simp) _).alloc (by simp; omega) _
 clear hW
 have x0 := rA.c 0 rfl
 have x1 := rA.c 1 rfl
 have y0 := rB.c 0 rfl
 have y1 := rB.c 1 rfl
 have z0 := rC.c 0 rfl
 have z1 := rC.c 1 rfl
 go_wp2_with fail
 refine wp_loop_rounds 4 ?_
 rw [rounds_succ]
 go_wp2_with fail
 refine (H1.out _).mono ?_
 rintro e w1 ⟨rfl, hb⟩
 replace hb := ((Below.refl _ _).alloc (Nat.le_refl _) _).trans (hb.mono (by simp))
 replace rA := rA.after hb
 replace rB := rB.after hb
 replace rC := rC.after hb
 replace hB := hB.trans (hb.mono hB.size)
 clear hb x0 x1 y0 y1 z0 z1
 go_wp2_with fail
 rw [rounds_succ]
 go_wp2_with fail
 refine (H2.out _).mono ?_
 rintro e w2 ⟨rfl, hb⟩
 replace hb := ((Below.refl _ _).alloc (Nat.le_refl _) _).trans (hb.mono (by simp))
 replace rA := rA.after hb
 replace rB := rB.after hb
 replace rC := rC.after hb
 replace hB := hB.trans (hb.mono hB.size)
 clear hb
 go_wp2_with fail
 go_ret2
 exact ⟨rfl, hB⟩
set_option maxRecDepth 100000 in
set_option maxHeartbeats 3200000 in
theorem Turn_no3 (ax ay bx bY cx cy : Int) (w : World)
 (H1 : Hid (∀ W, Calls Tryz.prog 37 #[.agg #[.int .i64 ax, .int .i64 ay]] W fun e w' => e = .returned (.int .i64 0) ∧ Below W.heap.size W w'))
 (H2 : Hid (∀ W, Calls Tryz.prog 37 #[.agg #[.int .i64 bx, .int .i64 bY]] W fun e w' => e = .returned (.int .i64 0) ∧ Below W.heap.size W w'))
 (H3 : Hid (∀ W, Calls Tryz.prog 37 #[.agg #[.int .i64 cx, .int .i64 cy]] W fun e w' => e = .returned (.int .i64 2) ∧ Below W.heap.size W w')) :
 Calls Tryz.prog 10 #[.agg (nodeA ax ay), .agg (nodeA bx bY), .agg (nodeA cx cy)] w fun e w' => e = .returned (.tuple #[.int .i64 0, .int .i64 2]) ∧ Below w.heap.size w w' := by
 have ix0 := at_nd0 ax ay bx bY cx cy
 have ix1 := at_nd1 ax ay bx bY cx cy
 have ix2 := at_nd2 ax ay bx bY cx cy
 go_enter Tryz.func10, Tryz.ntmps10
 go_upto_region 1 with fail
 generalize hW : World.alloc _ _ = W0
 have rA : Row W0 w.heap.size (nodeA ax ay).toList := by rw [← hW]; exact ((Row.at rfl (nodeA ax ay).toList _).alloc _).alloc _
 have rB : Row W0 (w.heap.size + 1) (nodeA bx bY).toList := by rw [← hW]; exact (Row.at (by simp) (nodeA bx bY).toList _).alloc _
 have rC : Row W0 (w.heap.size + 1 + 1) (nodeA cx cy).toList := by rw [← hW]; exact Row.at (by simp) _ _
 have hB : Below w.heap.size w W0 := by rw [← hW]; exact (((Below.refl _ _).alloc (Nat.le_refl _) _).alloc (by simp) _).alloc (by simp; omega) _
 clear hW
 have x0 := rA.c 0 rfl
 have x1 := rA.c 1 rfl
 have y0 := rB.c 0 rfl
 have y1 := rB.c 1 rfl
 have z0 := rC.c 0 rfl
 have z1 := rC.c 1 rfl
 go_wp2_with fail
 refine wp_loop_rounds 4 ?_
 rw [rounds_succ]
 go_wp2_with fail
 refine (H1.out _).mono ?_
 rintro e w1 ⟨rfl, hb⟩
 replace hb := ((Below.refl _ _).alloc (Nat.le_refl _) _).trans (hb.mono (by simp))
 replace rA := rA.after hb
 replace rB := rB.after hb
 replace rC := rC.after hb
 replace hB := hB.trans (hb.mono hB.size)
 clear hb x0 x1 y0 y1 z0 z1
 go_wp2_with fail
 rw [rounds_succ]
 go_wp2_with fail
 refine (H2.out _).mono ?_
 rintro e w2 ⟨rfl, hb⟩
 replace hb := ((Below.refl _ _).alloc (Nat.le_refl _) _).trans (hb.mono (by simp))
 replace rA := rA.after hb
 replace rB := rB.after hb
 replace rC := rC.after hb
 replace hB := hB.trans (hb.mono hB.size)
 clear hb
 go_wp2_with fail
 rw [rounds_succ]
 go_wp2_with fail
 refine (H3.out _).mono ?_
 rintro e w3 ⟨rfl, hb⟩
 replace hb := ((Below.refl _ _).alloc (Nat.le_refl _) _).trans (hb.mono (by simp))
 replace rA := rA.after hb
 replace rB := rB.after hb
 replace rC := rC.after hb
 replace hB := hB.trans (hb.mono hB.size)
 clear hb
 go_wp2_with fail
 go_ret2
 exact ⟨rfl, hB⟩
def turnV (ax ay bx bY cx cy : Int) : Int := if (ndB (ax, ay) && (ndB (bx, bY) && ndB (cx, cy))) = true then cmpI ((bx - ax) * (cy - ay)) ((bY - ay) * (cx - ax)) else 0
def turnE (ax ay bx bY cx cy : Int) : Int := if (ndB (ax, ay) && (ndB (bx, bY) && ndB (cx, cy))) = true then 0 else 2
theorem Turn_any (ax ay bx bY cx cy : Int) (w : World) :
 Calls Tryz.prog 10 #[.agg (nodeA ax ay), .agg (nodeA bx bY), .agg (nodeA cx cy)] w fun e w' => e = .returned (.tuple #[.int .i64 (turnV ax ay bx bY cx cy), .int .i64 (turnE ax ay bx bY cx cy)]) ∧ Below w.heap.size w w' := by
 have q : ∀ {x y : Int}, ndB (x, y) = true → Bd x ∧ Bd y := fun {x y} h => by
  unfold ndB at h
  simp only [] at h
  rw [Bool.and_eq_true] at h
  exact ⟨(inB_iff x).1 h.1, (inB_iff y).1 h.2⟩
 have N : ∀ (x y : Int) W, Calls Tryz.prog 37 #[.agg #[.int .i64 x, .int .i64 y]] W fun e w' => e = .returned (.int .i64 (if ndB (x, y) = true then 0 else 2)) ∧ Below W.heap.size W w' := fun x y W => nodes_any x y W
 have N1 := N ax ay
 have N2 := N bx bY
 have N3 := N cx cy
 unfold turnV turnE
 cases h1 : ndB (ax, ay) with
 | false =>
   rw [h1] at N1
   exact Turn_no1 ax ay bx bY cx cy w (Lib.hid N1)
 | true =>
   rw [h1] at N1
   cases h2 : ndB (bx, bY) with
   | false =>
     rw [h2] at N2
     exact Turn_no2 ax ay bx bY cx cy w (Lib.hid N1) (Lib.hid N2)
   | true =>
     rw [h2] at N2
     cases h3 : ndB (cx, cy) with
     | false =>
       rw [h3] at N3
       exact Turn_no3 ax ay bx bY cx cy w (Lib.hid N1) (Lib.hid N2) (Lib.hid N3)
     | true =>
       rw [h3] at N3
       obtain ⟨a1, a2⟩ := q h1
       obtain ⟨b1, b2⟩ := q h2
       obtain ⟨c1, c2⟩ := q h3
       exact Turn_ok ax ay bx bY cx cy _ _ _ w (Lib.hid N1) (Lib.hid N2) (Lib.hid N3) (Lib.hid (fun W => segfrom_any ax ay bx bY W a1 a2 b1 b2)) (Lib.hid (fun W => turn_any ax ay bx bY cx cy W a1 a2 b1 b2 c1 c2))
end Go.Proofs.YtdfmmkidknginaaGreatDoor

namespace Go.Proofs.YtdfmmkidknginaaGreatDoor
open Go.RowKit Go.Sort CrossMath

theorem rsgn_any (n : Int) (w : World) : Calls Tryz.prog 47 #[.int .i64 n] w fun e w' => e = .returned (.int .i64 (cmpI n 0)) ∧ Below w.heap.size w w' := by
 have hb := Below.refl w.heap.size w
 unfold cmpI
 by_cases h1 : n < 0
 ·simp only [h1, if_true]
  go_enter Tryz.func47, Tryz.ntmps47
  go_wp2
  go_ret
  exact ⟨rfl, hb⟩
 ·by_cases h2 : 0 < n
  ·simp only [h1, h2, if_true, if_false]
   go_enter Tryz.func47, Tryz.ntmps47
   go_wp2
   go_ret
   exact ⟨rfl, hb⟩
  ·simp only [h1, h2, if_false]
   go_enter Tryz.func47, Tryz.ntmps47
   go_wp2
   go_ret
   exact ⟨rfl, hb⟩
theorem refturn_any (ax ay bx bY cx cy : Int) (w : World) (h1 : Bd ax) (h2 : Bd ay) (h3 : Bd bx) (h4 : Bd bY) (h5 : Bd cx) (h6 : Bd cy) :
 Calls Tryz.prog 18 #[.agg (nodeA ax ay), .agg (nodeA bx bY), .agg (nodeA cx cy)] w fun e w' => e = .returned (.int .i64 (cmpI ((bx - ax) * (cy - ay)) ((bY - ay) * (cx - ax)))) ∧ Below w.heap.size w w' := by
 have b1 := mul_bd (a := bx - ax) (b := cy - ay) (by unfold Bd at *; omega) (by unfold Bd at *; omega)
 have b2 := mul_bd (a := bY - ay) (b := cx - ax) (by unfold Bd at *; omega) (by unfold Bd at *; omega)
 have w1 : IntKind.i64.wrap (cy - ay) = cy - ay := by rw [IntKind.wrap_i64]; unfold Bd at *; omega
 have w2 : IntKind.i64.wrap (cx - ax) = cx - ax := by rw [IntKind.wrap_i64]; unfold Bd at *; omega
 have w3 : IntKind.i64.wrap (bx - ax) = bx - ax := by rw [IntKind.wrap_i64]; unfold Bd at *; omega
 have w4 : IntKind.i64.wrap (bY - ay) = bY - ay := by rw [IntKind.wrap_i64]; unfold Bd at *; omega
 have w5 : IntKind.i64.wrap ((bx - ax) * (cy - ay)) = (bx - ax) * (cy - ay) := by rw [IntKind.wrap_i64]; omega
 have w6 : IntKind.i64.wrap ((bY - ay) * (cx - ax)) = (bY - ay) * (cx - ax) := by rw [IntKind.wrap_i64]; omega
 have w7 : IntKind.i64.wrap ((bx - ax) * (cy - ay) - (bY - ay) * (cx - ax)) = (bx - ax) * (cy - ay) - (bY - ay) * (cx - ax) := by rw [IntKind.wrap_i64]; omega
 have hs : cmpI ((bx - ax) * (cy - ay) - (bY - ay) * (cx - ax)) 0 = cmpI ((bx - ax) * (cy - ay)) ((bY - ay) * (cx - ax)) := by
  generalize (bx - ax) * (cy - ay) = p
  generalize (bY - ay) * (cx - ax) = q
  unfold cmpI
  split <;> split <;> (try split) <;> (try split) <;> first | rfl | omega
 have HS := Lib.hid (fun W => rsgn_any ((bx - ax) * (cy - ay) - (bY - ay) * (cx - ax)) W)
 rw [hs] at HS
 clear h1 h2 h3 h4 h5 h6 b1 b2 hs
 generalize hr : cmpI ((bx - ax) * (cy - ay)) ((bY - ay) * (cx - ax)) = r at *
 clear hr
 go_enter Tryz.func18, Tryz.ntmps18
 go_wp2_with fail
 refine (HS.out _).mono ?_
 rintro e W1 ⟨rfl, hb⟩
 go_wp2_with fail
 go_ret
 exact ⟨rfl, (((((Below.refl w.heap.size w).alloc (Nat.le_refl _) (.cells #[.int .i64 ax, .int .i64 ay] 23)).alloc (by simp) (.cells #[.int .i64 bx, .int .i64 bY] 23)).alloc (by simp; omega) (.cells #[.int .i64 cx, .int .i64 cy] 23))).trans (hb.mono (by simp; omega))⟩
end Go.Proofs.YtdfmmkidknginaaGreatDoor

namespace Go.Proofs.YtdfmmkidknginaaGreatDoor
open Go.RowKit Go.Sort CrossMath

def RatPostC (w : World) (s : Bool) (m k j : Nat) (e : Ending) (w' : World) : Prop := ∃ A c B d, e = .returned (.agg #[.bool s, .slice A k c, .bool false, .slice B j d]) ∧ k ≤ c ∧ DS w' m A ∧ DS w' 1 B ∧ Below w.heap.size w w'
theorem one_zC (w : World) : Calls Tryz.prog 80 #[.int .i64 1] w fun e w' => ∃ A c, e = .returned (.agg #[.bool false, .slice A (L16 1) c]) ∧ DS w' 1 A ∧ Below w.heap.size w w' := by
 refine (num_z 1 w (by decide) (by decide)).mono ?_
 rintro e w' ⟨A, c, rfl, _, hd, hb⟩
 exact ⟨A, c, rfl, hd, hb⟩
set_option maxRecDepth 100000 in
set_option maxHeartbeats 1600000 in
theorem rnumC_any (n : Int) (w : World) (h1 : -9223372036854775808 ≤ n) (h2 : n ≤ 9223372036854775807) :
 Calls Tryz.prog 45 #[.int .i64 n] w (RatPostC w (decide (n < 0)) n.natAbs (L16 n.natAbs) (L16 1)) := by
 have H1 : Hid (∀ W, Calls Tryz.prog 80 #[.int .i64 n] W fun e w' => ∃ A c, e = .returned (.agg #[.bool (decide (n < 0)), .slice A (L16 n.natAbs) c]) ∧ L16 n.natAbs ≤ c ∧ DS w' n.natAbs A ∧ Below W.heap.size W w') := Lib.hid (fun W => by
  refine (num_z n W h1 h2).mono ?_
  rintro e w' ⟨A, c, rfl, hc, hd, hb⟩
  exact ⟨A, c, rfl, hc, hd, hb⟩)
 have H2 := Lib.hid one_zC
 clear h1 h2
 generalize decide (n < 0) = s at *
 generalize n.natAbs = m at *
 generalize L16 m = k at *
 generalize L16 1 = j at *
 go_enter Tryz.func45, Tryz.ntmps45
 go_wp2_with fail
 generalize hW : World.alloc _ _ = W0
 have r0 : Row W0 w.heap.size [.bool false, .slice none 0 0, .bool false, .slice none 0 0] := by rw [← hW]; exact Row.at rfl _ _
 have hB : Below w.heap.size w W0 := by rw [← hW]; exact (Below.refl w.heap.size w).alloc (Nat.le_refl _) _
 clear hW
 refine (H1.out _).mono ?_
 rintro e w1 ⟨A, c, rfl, hc1, hd, hb⟩
 replace r0 := r0.after hb
 replace hB := hB.trans (hb.mono hB.size)
 clear hb
 have hd1 := Lib.hid hd
 clear hd
 go_wp2_with fail
 refine (H2.out _).mono ?_
 rintro e w2 ⟨B, d, rfl, hd2, hb⟩
 replace r0 := r0.after hb
 replace hB := hB.trans (hb.mono hB.size)
 have HD := Lib.hid (And.intro (hd1.out.below hb) hd2)
 clear hb hd1 hd2
 have hX := Lib.hid (r0.c 0 rfl)
 have HB := Lib.hid hB
 clear hB
 go_wp2_with (refine wpList_store_R rfl _ _ _ rfl _ #[.bool s, .slice A k c, .bool false, .slice B j d] rfl rfl _ r0 (by rfl) agg_rrat (by simp [OneC, Value.oneCell']) ?_; intro w3 r3 o3)
 exact bodyPost_ret (results_R1 (cs := #[.bool s, .slice A k c, .bool false, .slice B j d]) rfl rfl r3 agg_rrat) rfl ⟨A, c, B, d, rfl, hc1, HD.out.1.on o3 hX.out, HD.out.2.on o3 hX.out, below_on HB.out o3 (Nat.le_refl _)⟩
theorem field_rn (s u : Bool) (A B : Option Addr) (k c j d : Nat) (W : World) : (Instr.field 55 (.agg #[.bool s, .slice A k c, .bool u, .slice B j d]) 0).run Tryz.prog W = .ok (.agg #[.bool s, .slice A k c]) W := by kernel_rfl
theorem eqg_seg (x y : Operand) (u v : Array Value) (w : World) : (eqGuard .eql 25 x y (.agg u) (.agg v)).run Tryz.prog w = .ok () w := by
 have h : Tryz.prog.eqGuardType Tryz.prog.depth 25 = false := by kernel_rfl
 simp [eqGuard, go_sem, h]
theorem eql_seg (W : World) : (binOp .eql 25 (.agg #[.int .i64 1, .int .i64 5, .int .i64 2, .int .i64 0]) (.agg #[.int .i64 1, .int .i64 5, .int .i64 2, .int .i64 0])).run Tryz.prog W = .ok (.bool true) W := by kernel_rfl
theorem Row.mid {w : World} {b o : Nat} {xs ys zs : List Value} (h : Row w b (xs ++ ys)) (ho : o = xs.length) (hl : zs.length = ys.length) : Row (w.setCells b o zs) b (xs ++ zs) := by
 subst ho
 have ht := h.there xs.length zs.length (by simp [hl])
 refine ⟨by rw [(On.setCells w b zs xs.length w (On.refl w b)).size]; exact h.lt, fun i v hv => ⟨?_, ?_⟩⟩
 ·rcases Nat.lt_or_ge i xs.length with hi | hi
  ·rw [World.cell?_setCells_out b zs xs.length w _ (fun _ _ => Or.inl hi)]
   rw [List.getElem?_append_left hi] at hv
   exact h.c i (by rw [List.getElem?_append_left hi]; exact hv)
  ·rw [List.getElem?_append_right hi] at hv
   have hj := (List.getElem?_eq_some_iff.1 hv).1
   have := World.cell?_setCells_in b zs xs.length w (fun j hj => (ht j hj).1) (i - xs.length) hj
   rw [show xs.length + (i - xs.length) = i by omega] at this
   rw [this, ← hv, List.getElem?_eq_getElem hj]
 ·rw [World.frozen?_setCells]
  have hi : i < (xs ++ ys).length := by have := (List.getElem?_eq_some_iff.1 hv).1; simp at this ⊢; omega
  exact h.f i (List.getElem?_eq_getElem hi)
set_option maxRecDepth 100000 in
set_option maxHeartbeats 12800000 in
theorem works4_core (D0 D1 D2 D3 PZ : Array Value) (PX PY : List Value) (h0 : D0.toList = PX ++ PY) (h2 : D2.toList = PX ++ PZ.toList) (hx : PX.length = 10) (hy : PY.length = 10) (hz : PZ.size = 10) (o0 : OneC D0) (oZ : OneC PZ) (s1 s2 s3 : Bool) (k1 k2 k3 j1 j3 : Nat) (E1 E2 : Option Addr → Nat → World → Prop) (E3 : Option Addr → Nat → Option Addr → Nat → World → Prop) (w : World)
 (HTu : Hid (∀ W, Calls Tryz.prog 10 #[.agg #[.int .i64 0, .int .i64 0], .agg #[.int .i64 2, .int .i64 0], .agg #[.int .i64 1, .int .i64 1]] W fun e w' => e = .returned (.tuple #[.int .i64 1, .int .i64 0]) ∧ Below W.heap.size W w'))
 (HA1 : Hid (∀ W, Calls Tryz.prog 31 #[.int .i64 1, .int .i64 0] W fun e w' => e = .returned (.agg D0) ∧ Below W.heap.size W w'))
 (HA2 : Hid (∀ W, Calls Tryz.prog 31 #[.int .i64 1, .int .i64 1] W fun e w' => e = .returned (.agg D1) ∧ Below W.heap.size W w'))
 (HA3 : Hid (∀ W, Calls Tryz.prog 31 #[.int .i64 3, .int .i64 3] W fun e w' => e = .returned (.agg D3) ∧ Below W.heap.size W w'))
 (HN1 : Hid (∀ W, Calls Tryz.prog 45 #[.int .i64 (-1)] W fun e w' => ∃ A c B d, e = .returned (.agg #[.bool s1, .slice A k1 c, .bool false, .slice B j1 d]) ∧ E1 A c w' ∧ Below W.heap.size W w'))
 (HN2 : Hid (∀ W, Calls Tryz.prog 45 #[.int .i64 2] W fun e w' => ∃ A c B d, e = .returned (.agg #[.bool s2, .slice A k2 c, .bool false, .slice B j1 d]) ∧ E2 A c w' ∧ Below W.heap.size W w'))
 (HK1 : Hid (∀ A c W W', E1 A c W → Below W.heap.size W W' → E1 A c W'))
 (HMk : Hid (∀ A c B d W, E1 A c W → E2 B d W → Calls Tryz.prog 44 #[.agg #[.bool s1, .slice A k1 c], .agg #[.bool s2, .slice B k2 d]] W fun e w' => ∃ A c B d, e = .returned (.agg #[.bool s3, .slice A k3 c, .bool false, .slice B j3 d]) ∧ E3 A c B d w' ∧ Below W.heap.size W w'))
 (HOu : Hid (∀ A c B d W, E3 A c B d W → Calls Tryz.prog 43 #[.agg #[.bool s3, .slice A k3 c, .bool false, .slice B j3 d]] W fun e w' => e = .returned (.tuple #[.agg PZ, .int .i64 0]) ∧ Below W.heap.size W w'))
 (HSi : Hid (∀ W, Below w.heap.size w W → Calls Tryz.prog 19 #[.agg #[.int .i64 0, .int .i64 0, .int .i64 2, .int .i64 0], .agg D2] W fun e w' => e = .returned (.tuple #[.int .i64 (-1), .int .i64 0]) ∧ Below W.heap.size W w'))
 (HO1 : Hid (∀ W, Below w.heap.size w W → Calls Tryz.prog 20 #[.agg #[.int .i64 0, .int .i64 0, .int .i64 2, .int .i64 2], .agg D1] W fun e w' => e = .returned (.tuple #[.bool true, .int .i64 0]) ∧ Below W.heap.size W w'))
 (HO3 : Hid (∀ W, Below w.heap.size w W → Calls Tryz.prog 20 #[.agg #[.int .i64 0, .int .i64 0, .int .i64 2, .int .i64 2], .agg D3] W fun e w' => e = .returned (.tuple #[.bool false, .int .i64 0]) ∧ Below W.heap.size W w'))
 (HTx : Hid (∀ W, Below w.heap.size w W → Calls Tryz.prog 25 #[.agg #[.int .i64 0, .int .i64 0, .int .i64 1, .int .i64 (-2)]] W fun e w' => e = .returned (.tuple #[.string ⟨#[48, 32, 48, 44, 49, 32, 45, 50]⟩, .int .i64 0]) ∧ Below W.heap.size W w'))
 (HPa : Hid (∀ W, Below w.heap.size w W → Calls Tryz.prog 26 #[.string ⟨#[48, 32, 48, 44, 48, 32, 48]⟩] W fun e w' => e = .returned (.tuple #[.agg #[.int .i64 0, .int .i64 0, .int .i64 0, .int .i64 0], .int .i64 140]) ∧ Below W.heap.size W w'))
 (HLa : Hid (∀ W, Calls Tryz.prog 11 #[.agg #[.int .i64 2, .int .i64 0, .int .i64 1, .int .i64 5]] W fun e w' => e = .returned (.tuple #[.agg #[.int .i64 1, .int .i64 5, .int .i64 2, .int .i64 0], .int .i64 0]) ∧ Below W.heap.size W w')) :
 Calls Tryz.prog 17 #[] w fun e w' => e = .returned (.bool true) ∧ Below w.heap.size w w' := by
 have O0 := Lib.hid (fun W => of4_any 0 0 2 0 W)
 have O1 := Lib.hid (fun W => of4_any 0 0 2 2 W)
 have O2 := Lib.hid (fun W => of4_any 0 0 1 (-2) W)
 have O3 := Lib.hid (fun W => of4_any 2 0 1 5 W)
 have O4 := Lib.hid (fun W => of4_any 1 5 2 0 W)
 have hB : Below w.heap.size w w := Below.refl _ _
 have fd := field_rn
 have s0 : D0.size = 20 := by rw [← Array.length_toList, h0]; simp [hx, hy]
 have s2' : D2.size = 20 := by rw [← Array.length_toList, h2]; simp [hx, hz]
 have l0 : zero_point.toList.length = D0.size := by rw [s0]; rfl
 have g0 : AggTy Tryz.prog 46 D0.size := by rw [s0]; exact agg_point
 have g2 : AggTy Tryz.prog 46 D2.size := by rw [s2']; exact agg_point
 have gz : (Tryz.prog.info? 44).map (·.size) = some PZ.size := by rw [hz]; exact agg_rat.2
 go_enter Tryz.func17, Tryz.ntmps17
 go_wp2_with fail
 refine (HTu.out _).mono ?_
 rintro e w1 ⟨rfl, hb⟩
 replace hB := hB.trans (hb.mono hB.size)
 clear hb
 go_wp2_with fail
 refine (HA1.out _).mono ?_
 rintro e w1 ⟨rfl, hb⟩
 replace hB := hB.trans (hb.mono hB.size)
 clear hb
 have lw := hB.size
 go_upto_region 3 with (first | (refine wpList_store_R rfl _ _ _ rfl _ D0 rfl rfl _ (Row.at rfl zero_point.toList _) l0 g0 o0 ?_; intro W2 rL oL))
 replace hB : Below w.heap.size w W2 := below_on (hB.alloc hB.size _) oL lw
 clear oL
 generalize w1.heap.size = bL at *
 go_wp2_with fail
 refine (HN1.out _).mono ?_
 rintro e w2 ⟨A1, c1, B1, d1, rfl, hE1, hb⟩
 replace rL := rL.after hb
 replace hB := hB.trans (hb.mono hB.size)
 clear hb
 go_wp2_with fail
 refine (HN2.out _).mono ?_
 rintro e w3 ⟨A2, c2, B2, d2, rfl, hE2, hb⟩
 replace rL := rL.after hb
 replace hB := hB.trans (hb.mono hB.size)
 replace hE1 := HK1.out _ _ _ _ hE1 hb
 clear hb
 go_wp2_with fail
 refine (HMk.out _ _ _ _ _ hE1 hE2).mono ?_
 rintro e w4 ⟨A3, c3, B3, d3, rfl, hE3, hb⟩
 replace rL := rL.after hb
 replace hB := hB.trans (hb.mono hB.size)
 clear hb hE1 hE2
 go_wp2_with fail
 refine (HOu.out _ _ _ _ _ hE3).mono ?_
 rintro e w5 ⟨rfl, hb⟩
 replace rL := rL.after hb
 replace hB := hB.trans (hb.mono hB.size)
 clear hb hE3
 go_upto_region 4 with (first | (refine wpList_store_mid rfl _ _ _ rfl bL 10 PZ rfl rfl (rL.there 10 PZ.size (by rw [h0, List.length_append]; omega)) gz oZ ?_))
 generalize hW : World.setCells _ _ _ _ = W6
 have rM : Row W6 bL D2.toList := by rw [← hW, h2]; exact Row.mid (h0 ▸ rL) (by omega) (by rw [Array.length_toList]; omega)
 have hBM : Below w.heap.size w W6 := by rw [← hW]; exact below_on hB (On.setCells w5 bL _ 10 w5 (On.refl w5 bL)) lw
 clear hW rL hB HTu HA1 HN1 HN2 HK1 HMk HOu
 have RA : Hid (∀ W, (∃ p : Regrown, W = grow (redrawn W6 p.d) p.os) → W.rangeAt bL 0 D2.toList) := Lib.hid (fun W ⟨p, hp⟩ => by rw [hp]; exact (rM.after (below_regrown W6 p.d p.os)).whole)
 have hg : ∀ d os, Below w.heap.size w (grow (redrawn W6 d) os) := fun d os => hBM.trans ((below_regrown W6 d os).mono hBM.size)
 have C1 := Lib.hid (fun d os => Calls.regrown_of (O0.out (grow (redrawn W6 d) os)))
 have C2 := Lib.hid (fun d os => Calls.regrown_of (HSi.out (grow (redrawn W6 d) os) (hg d os)))
 clear rM hg
 refine wp_region_quiet_below (by kernel_rfl) (by kernel_rfl) ?_
 quiet_step ((first | with_reducible exact C1.out _ _ | with_reducible exact C2.out _ _))
 refine wpQuiet_load_R rfl _ _ rfl bL rfl D2 RA.out g2 ?_
 repeat (quiet_step ((first | with_reducible exact C1.out _ _ | with_reducible exact C2.out _ _)))
 refine wpQuiet_nil ?_
 intro _ hw'
 obtain ⟨⟨dq, osq⟩, hw''⟩ := hw'
 subst hw''
 replace hBM := hBM.trans ((below_regrown W6 dq osq).mono hBM.size)
 generalize grow (redrawn W6 dq) osq = W7 at *
 clear RA C1 C2 O0 HSi
 go_wp2_with fail
 refine (O1.out _ ).mono ?_
 rintro e w8 ⟨rfl, hb⟩
 replace hBM := hBM.trans (hb.mono hBM.size)
 clear hb
 go_wp2_with fail
 refine (HA2.out _ ).mono ?_
 rintro e w8 ⟨rfl, hb⟩
 replace hBM := hBM.trans (hb.mono hBM.size)
 clear hb
 go_wp2_with fail
 refine (HO1.out _ hBM).mono ?_
 rintro e w8 ⟨rfl, hb⟩
 replace hBM := hBM.trans (hb.mono hBM.size)
 clear hb
 go_wp2_with fail
 refine (O1.out _ ).mono ?_
 rintro e w8 ⟨rfl, hb⟩
 replace hBM := hBM.trans (hb.mono hBM.size)
 clear hb
 go_wp2_with fail
 refine (HA3.out _ ).mono ?_
 rintro e w8 ⟨rfl, hb⟩
 replace hBM := hBM.trans (hb.mono hBM.size)
 clear hb
 go_wp2_with fail
 refine (HO3.out _ hBM).mono ?_
 rintro e w8 ⟨rfl, hb⟩
 replace hBM := hBM.trans (hb.mono hBM.size)
 clear hb
 go_wp2_with fail
 refine (O2.out _ ).mono ?_
 rintro e w8 ⟨rfl, hb⟩
 replace hBM := hBM.trans (hb.mono hBM.size)
 clear hb
 go_wp2_with fail
 refine (HTx.out _ hBM).mono ?_
 rintro e w8 ⟨rfl, hb⟩
 replace hBM := hBM.trans (hb.mono hBM.size)
 clear hb
 go_wp2_with fail
 refine (HPa.out _ hBM).mono ?_
 rintro e w8 ⟨rfl, hb⟩
 replace hBM := hBM.trans (hb.mono hBM.size)
 clear hb
 go_wp2_with fail
 refine (O3.out _).mono ?_
 rintro e w9 ⟨rfl, hb⟩
 replace hBM := (hBM.alloc hBM.size _).trans (hb.mono (by have := hBM.size; simp; omega))
 clear hb
 go_wp2_with fail
 refine (HLa.out _).mono ?_
 rintro e w10 ⟨rfl, hb⟩
 replace hBM := hBM.trans (hb.mono hBM.size)
 clear hb O1 HA2 HO1 HA3 HO3 O2 HTx HPa O3 HLa
 go_upto_region 10 with fail
 generalize hW : World.alloc _ _ = w11
 have HRl : Hid (Row w11 w10.heap.size (segA 1 5 2 0).toList) := Lib.hid (by rw [← hW]; exact Row.at rfl _ _)
 have HB : Hid (Below w.heap.size w w11) := Lib.hid (by rw [← hW]; exact hBM.alloc hBM.size _)
 clear hW
 generalize w10.heap.size = bl at *
 clear hBM O4
 refine wp_region_fct (by kernel_rfl) [2, 6, 9, 13, 33, 37, 42] (fun ix => match ix with
  | 0 => some (Value.int .i64 1)
  | 1 => some (Value.bool true)
  | 2 => some (Value.bool true)
  | 3 => some (Value.int .i64 (-1))
  | 4 => some (Value.bool true)
  | 5 => some (Value.bool true)
  | 6 => some (Value.bool true)
  | 7 => some (Value.bool true)
  | 8 => some (Value.bool true)
  | 9 => some (Value.bool true)
  | 10 => some (Value.bool false)
  | 11 => some (Value.bool true)
  | 12 => some (Value.bool true)
  | 13 => some (Value.bool true)
  | 14 => some (Value.int .i64 0)
  | 15 => some (Value.int .i64 0)
  | 16 => some (Value.int .i64 0)
  | 17 => some (Value.int .i64 0)
  | 18 => some (Value.int .i64 0)
  | 19 => some (Value.int .i64 0)
  | 20 => some (Value.int .i64 0)
  | 21 => some (Value.int .i64 0)
  | 22 => some (Value.int .i64 0)
  | 23 => some (Value.int .i64 0)
  | 24 => some (Value.int .i64 0)
  | 25 => some (Value.int .i64 0)
  | 26 => some (Value.int .i64 0)
  | 27 => some (Value.int .i64 0)
  | 28 => some (Value.int .i64 0)
  | 29 => some (Value.int .i64 0)
  | 30 => some (Value.int .i64 0)
  | 31 => some (Value.bool true)
  | 32 => some (Value.bool true)
  | 33 => some (Value.bool true)
  | 34 => some (Value.string ⟨#[48, 32, 48, 44, 49, 32, 45, 50]⟩)
  | 35 => some (Value.bool true)
  | 36 => some (Value.bool true)
  | 37 => some (Value.bool true)
  | 38 => some (Value.int .i64 140)
  | 39 => some (Value.int .i64 140)
  | 40 => some (Value.bool true)
  | 41 => some (Value.bool true)
  | 42 => some (Value.bool true)
  | 43 => some (Value.agg #[.int .i64 1, .int .i64 5, .int .i64 2, .int .i64 0])
  | 44 => some (Value.agg #[.int .i64 1, .int .i64 5, .int .i64 2, .int .i64 0])
  | 45 => some (Value.bool true)
  | 46 => some (Value.bool true)
  | 47 => some (Value.bool true)
  | _ => none) (by intro j hj; simp only [List.mem_cons, List.not_mem_nil, or_false] at hj; rcases hj with rfl | rfl | rfl | rfl | rfl | rfl | rfl <;> rfl) 48 [] (fun _ _ => False) (by kernel_rfl) (by kernel_rfl) (by rfl) ?_ ?_
 ·intro listed a W ix o hI ho hdep hB hF K hK hKf
  have hi : ix < 48 := (Array.getElem?_eq_some_iff.1 ho).1
  have hcase : ix = 0 ∨ ix = 1 ∨ ix = 2 ∨ ix = 3 ∨ ix = 4 ∨ ix = 5 ∨ ix = 6 ∨ ix = 7 ∨ ix = 8 ∨ ix = 9 ∨ ix = 10 ∨ ix = 11 ∨ ix = 12 ∨ ix = 13 ∨ ix = 14 ∨ ix = 15 ∨ ix = 16 ∨ ix = 17 ∨ ix = 18 ∨ ix = 19 ∨ ix = 20 ∨ ix = 21 ∨ ix = 22 ∨ ix = 23 ∨ ix = 24 ∨ ix = 25 ∨ ix = 26 ∨ ix = 27 ∨ ix = 28 ∨ ix = 29 ∨ ix = 30 ∨ ix = 31 ∨ ix = 32 ∨ ix = 33 ∨ ix = 34 ∨ ix = 35 ∨ ix = 36 ∨ ix = 37 ∨ ix = 38 ∨ ix = 39 ∨ ix = 40 ∨ ix = 41 ∨ ix = 42 ∨ ix = 43 ∨ ix = 44 ∨ ix = 45 ∨ ix = 46 ∨ ix = 47 := by omega
  clear hi
  rcases hcase with rfl | rfl | rfl | rfl | rfl | rfl | rfl | rfl | rfl | rfl | rfl | rfl | rfl | rfl | rfl | rfl | rfl | rfl | rfl | rfl | rfl | rfl | rfl | rfl | rfl | rfl | rfl | rfl | rfl | rfl | rfl | rfl | rfl | rfl | rfl | rfl | rfl | rfl | rfl | rfl | rfl | rfl | rfl | rfl | rfl | rfl | rfl | rfl
  ·obtain rfl := oI ho
   have q1 : a.tmps[1]?.getD undef = Value.int .i64 1 := hI.old 1 (noDst_spec (by kernel_rfl))
   clear hdep hI ho hF
   go_simp
   exact hK (by decide) (Value.int .i64 1) _ (fun u hu => oV hu) (Below.refl _ _) (fct_none rfl)
  ·obtain rfl := oI ho
   have d0 : listed.getD 0 false = true := hdep ⟨0, .data⟩ (by simp) rfl
   have q66 : a.tmps[66]?.getD undef = Value.int .i64 1 := hI.val 0 _ 66 _ rfl rfl rfl d0
   clear hdep hI ho hF
   go_simp
   exact hK (by decide) (Value.bool true) _ (fun u hu => oV hu) (Below.refl _ _) (fct_none rfl)
  ·obtain rfl := oI ho
   have d1 : listed.getD 1 false = true := hdep ⟨1, .data⟩ (by simp) rfl
   have q67 : a.tmps[67]?.getD undef = Value.bool true := hI.val 1 _ 67 _ rfl rfl rfl d1
   clear hdep hI ho hF
   go_simp
   exact hK (by decide) (Value.bool true) _ (fun u hu => oV hu) (Below.refl _ _) (fct_none rfl)
  ·obtain rfl := oI ho
   have q4 : a.tmps[4]?.getD undef = Value.int .i64 (-1) := hI.old 4 (noDst_spec (by kernel_rfl))
   clear hdep hI ho hF
   go_simp
   exact hK (by decide) (Value.int .i64 (-1)) _ (fun u hu => oV hu) (Below.refl _ _) (fct_none rfl)
  ·obtain rfl := oI ho
   have d3 : listed.getD 3 false = true := hdep ⟨3, .data⟩ (by simp) rfl
   have q69 : a.tmps[69]?.getD undef = Value.int .i64 (-1) := hI.val 3 _ 69 _ rfl rfl rfl d3
   clear hdep hI ho hF
   go_simp
   exact hK (by decide) (Value.bool true) _ (fun u hu => oV hu) (Below.refl _ _) (fct_none rfl)
  ·obtain rfl := oI ho
   have d2 : listed.getD 2 false = true := hdep ⟨2, .data⟩ (by simp) rfl
   have q68 : a.tmps[68]?.getD undef = Value.bool true := hI.val 2 _ 68 _ rfl rfl rfl d2
   have d4 : listed.getD 4 false = true := hdep ⟨4, .data⟩ (by simp) rfl
   have q70 : a.tmps[70]?.getD undef = Value.bool true := hI.val 4 _ 70 _ rfl rfl rfl d4
   clear hdep hI ho hF
   go_simp
   exact hK (by decide) (Value.bool true) _ (fun u hu => oV hu) (Below.refl _ _) (fct_none rfl)
  ·obtain rfl := oI ho
   have d5 : listed.getD 5 false = true := hdep ⟨5, .data⟩ (by simp) rfl
   have q71 : a.tmps[71]?.getD undef = Value.bool true := hI.val 5 _ 71 _ rfl rfl rfl d5
   clear hdep hI ho hF
   go_simp
   exact hK (by decide) (Value.bool true) _ (fun u hu => oV hu) (Below.refl _ _) (fct_none rfl)
  ·obtain rfl := oI ho
   have q6 : a.tmps[6]?.getD undef = Value.bool true := hI.old 6 (noDst_spec (by kernel_rfl))
   clear hdep hI ho hF
   go_simp
   exact hK (by decide) (Value.bool true) _ (fun u hu => oV hu) (Below.refl _ _) (fct_none rfl)
  ·obtain rfl := oI ho
   have d6 : listed.getD 6 false = true := hdep ⟨6, .data⟩ (by simp) rfl
   have q72 : a.tmps[72]?.getD undef = Value.bool true := hI.val 6 _ 72 _ rfl rfl rfl d6
   have d7 : listed.getD 7 false = true := hdep ⟨7, .data⟩ (by simp) rfl
   have q73 : a.tmps[73]?.getD undef = Value.bool true := hI.val 7 _ 73 _ rfl rfl rfl d7
   clear hdep hI ho hF
   go_simp
   exact hK (by decide) (Value.bool true) _ (fun u hu => oV hu) (Below.refl _ _) (fct_none rfl)
  ·obtain rfl := oI ho
   have d8 : listed.getD 8 false = true := hdep ⟨8, .data⟩ (by simp) rfl
   have q74 : a.tmps[74]?.getD undef = Value.bool true := hI.val 8 _ 74 _ rfl rfl rfl d8
   clear hdep hI ho hF
   go_simp
   exact hK (by decide) (Value.bool true) _ (fun u hu => oV hu) (Below.refl _ _) (fct_none rfl)
  ·obtain rfl := oI ho
   have q8 : a.tmps[8]?.getD undef = Value.bool false := hI.old 8 (noDst_spec (by kernel_rfl))
   clear hdep hI ho hF
   go_simp
   exact hK (by decide) (Value.bool false) _ (fun u hu => oV hu) (Below.refl _ _) (fct_none rfl)
  ·obtain rfl := oI ho
   have d10 : listed.getD 10 false = true := hdep ⟨10, .data⟩ (by simp) rfl
   have q76 : a.tmps[76]?.getD undef = Value.bool false := hI.val 10 _ 76 _ rfl rfl rfl d10
   clear hdep hI ho hF
   go_simp
   exact hK (by decide) (Value.bool true) _ (fun u hu => oV hu) (Below.refl _ _) (fct_none rfl)
  ·obtain rfl := oI ho
   have d9 : listed.getD 9 false = true := hdep ⟨9, .data⟩ (by simp) rfl
   have q75 : a.tmps[75]?.getD undef = Value.bool true := hI.val 9 _ 75 _ rfl rfl rfl d9
   have d11 : listed.getD 11 false = true := hdep ⟨11, .data⟩ (by simp) rfl
   have q77 : a.tmps[77]?.getD undef = Value.bool true := hI.val 11 _ 77 _ rfl rfl rfl d11
   clear hdep hI ho hF
   go_simp
   exact hK (by decide) (Value.bool true) _ (fun u hu => oV hu) (Below.refl _ _) (fct_none rfl)
  ·obtain rfl := oI ho
   have d12 : listed.getD 12 false = true := hdep ⟨12, .data⟩ (by simp) rfl
   have q78 : a.tmps[78]?.getD undef = Value.bool true := hI.val 12 _ 78 _ rfl rfl rfl d12
   clear hdep hI ho hF
   go_simp
   exact hK (by decide) (Value.bool true) _ (fun u hu => oV hu) (Below.refl _ _) (fct_none rfl)
  ·obtain rfl := oI ho
   have q2 : a.tmps[2]?.getD undef = Value.int .i64 0 := hI.old 2 (noDst_spec (by kernel_rfl))
   clear hdep hI ho hF
   go_simp
   exact hK (by decide) (Value.int .i64 0) _ (fun u hu => oV hu) (Below.refl _ _) (fct_none rfl)
  ·obtain rfl := oI ho
   have d14 : listed.getD 14 false = true := hdep ⟨14, .data⟩ (by simp) rfl
   have q80 : a.tmps[80]?.getD undef = Value.int .i64 0 := hI.val 14 _ 80 _ rfl rfl rfl d14
   clear hdep hI ho hF
   go_simp
   refine (num4_any _ _).mono ?_
   rintro e W2 ⟨rfl, hb⟩
   exact hK (by decide) (Value.int .i64 0) _ (fun u hu => oV hu) hb (fct_none rfl)
  ·obtain rfl := oI ho
   have q5 : a.tmps[5]?.getD undef = Value.int .i64 0 := hI.old 5 (noDst_spec (by kernel_rfl))
   clear hdep hI ho hF
   go_simp
   exact hK (by decide) (Value.int .i64 0) _ (fun u hu => oV hu) (Below.refl _ _) (fct_none rfl)
  ·obtain rfl := oI ho
   have d16 : listed.getD 16 false = true := hdep ⟨16, .data⟩ (by simp) rfl
   have q82 : a.tmps[82]?.getD undef = Value.int .i64 0 := hI.val 16 _ 82 _ rfl rfl rfl d16
   clear hdep hI ho hF
   go_simp
   refine (num4_any _ _).mono ?_
   rintro e W2 ⟨rfl, hb⟩
   exact hK (by decide) (Value.int .i64 0) _ (fun u hu => oV hu) hb (fct_none rfl)
  ·obtain rfl := oI ho
   have d15 : listed.getD 15 false = true := hdep ⟨15, .data⟩ (by simp) rfl
   have q81 : a.tmps[81]?.getD undef = Value.int .i64 0 := hI.val 15 _ 81 _ rfl rfl rfl d15
   have d17 : listed.getD 17 false = true := hdep ⟨17, .data⟩ (by simp) rfl
   have q83 : a.tmps[83]?.getD undef = Value.int .i64 0 := hI.val 17 _ 83 _ rfl rfl rfl d17
   clear hdep hI ho hF
   go_simp
   exact hK (by decide) (Value.int .i64 0) _ (fun u hu => oV hu) (Below.refl _ _) (fct_none rfl)
  ·obtain rfl := oI ho
   have q7 : a.tmps[7]?.getD undef = Value.int .i64 0 := hI.old 7 (noDst_spec (by kernel_rfl))
   clear hdep hI ho hF
   go_simp
   exact hK (by decide) (Value.int .i64 0) _ (fun u hu => oV hu) (Below.refl _ _) (fct_none rfl)
  ·obtain rfl := oI ho
   have d19 : listed.getD 19 false = true := hdep ⟨19, .data⟩ (by simp) rfl
   have q85 : a.tmps[85]?.getD undef = Value.int .i64 0 := hI.val 19 _ 85 _ rfl rfl rfl d19
   clear hdep hI ho hF
   go_simp
   refine (num4_any _ _).mono ?_
   rintro e W2 ⟨rfl, hb⟩
   exact hK (by decide) (Value.int .i64 0) _ (fun u hu => oV hu) hb (fct_none rfl)
  ·obtain rfl := oI ho
   have d18 : listed.getD 18 false = true := hdep ⟨18, .data⟩ (by simp) rfl
   have q84 : a.tmps[84]?.getD undef = Value.int .i64 0 := hI.val 18 _ 84 _ rfl rfl rfl d18
   have d20 : listed.getD 20 false = true := hdep ⟨20, .data⟩ (by simp) rfl
   have q86 : a.tmps[86]?.getD undef = Value.int .i64 0 := hI.val 20 _ 86 _ rfl rfl rfl d20
   clear hdep hI ho hF
   go_simp
   exact hK (by decide) (Value.int .i64 0) _ (fun u hu => oV hu) (Below.refl _ _) (fct_none rfl)
  ·obtain rfl := oI ho
   have q9 : a.tmps[9]?.getD undef = Value.int .i64 0 := hI.old 9 (noDst_spec (by kernel_rfl))
   clear hdep hI ho hF
   go_simp
   exact hK (by decide) (Value.int .i64 0) _ (fun u hu => oV hu) (Below.refl _ _) (fct_none rfl)
  ·obtain rfl := oI ho
   have d22 : listed.getD 22 false = true := hdep ⟨22, .data⟩ (by simp) rfl
   have q88 : a.tmps[88]?.getD undef = Value.int .i64 0 := hI.val 22 _ 88 _ rfl rfl rfl d22
   clear hdep hI ho hF
   go_simp
   refine (num4_any _ _).mono ?_
   rintro e W2 ⟨rfl, hb⟩
   exact hK (by decide) (Value.int .i64 0) _ (fun u hu => oV hu) hb (fct_none rfl)
  ·obtain rfl := oI ho
   have d21 : listed.getD 21 false = true := hdep ⟨21, .data⟩ (by simp) rfl
   have q87 : a.tmps[87]?.getD undef = Value.int .i64 0 := hI.val 21 _ 87 _ rfl rfl rfl d21
   have d23 : listed.getD 23 false = true := hdep ⟨23, .data⟩ (by simp) rfl
   have q89 : a.tmps[89]?.getD undef = Value.int .i64 0 := hI.val 23 _ 89 _ rfl rfl rfl d23
   clear hdep hI ho hF
   go_simp
   exact hK (by decide) (Value.int .i64 0) _ (fun u hu => oV hu) (Below.refl _ _) (fct_none rfl)
  ·obtain rfl := oI ho
   have q11 : a.tmps[11]?.getD undef = Value.int .i64 0 := hI.old 11 (noDst_spec (by kernel_rfl))
   clear hdep hI ho hF
   go_simp
   exact hK (by decide) (Value.int .i64 0) _ (fun u hu => oV hu) (Below.refl _ _) (fct_none rfl)
  ·obtain rfl := oI ho
   have d25 : listed.getD 25 false = true := hdep ⟨25, .data⟩ (by simp) rfl
   have q91 : a.tmps[91]?.getD undef = Value.int .i64 0 := hI.val 25 _ 91 _ rfl rfl rfl d25
   clear hdep hI ho hF
   go_simp
   refine (num4_any _ _).mono ?_
   rintro e W2 ⟨rfl, hb⟩
   exact hK (by decide) (Value.int .i64 0) _ (fun u hu => oV hu) hb (fct_none rfl)
  ·obtain rfl := oI ho
   have d24 : listed.getD 24 false = true := hdep ⟨24, .data⟩ (by simp) rfl
   have q90 : a.tmps[90]?.getD undef = Value.int .i64 0 := hI.val 24 _ 90 _ rfl rfl rfl d24
   have d26 : listed.getD 26 false = true := hdep ⟨26, .data⟩ (by simp) rfl
   have q92 : a.tmps[92]?.getD undef = Value.int .i64 0 := hI.val 26 _ 92 _ rfl rfl rfl d26
   clear hdep hI ho hF
   go_simp
   exact hK (by decide) (Value.int .i64 0) _ (fun u hu => oV hu) (Below.refl _ _) (fct_none rfl)
  ·obtain rfl := oI ho
   have q15 : a.tmps[15]?.getD undef = Value.int .i64 0 := hI.old 15 (noDst_spec (by kernel_rfl))
   clear hdep hI ho hF
   go_simp
   exact hK (by decide) (Value.int .i64 0) _ (fun u hu => oV hu) (Below.refl _ _) (fct_none rfl)
  ·obtain rfl := oI ho
   have d28 : listed.getD 28 false = true := hdep ⟨28, .data⟩ (by simp) rfl
   have q94 : a.tmps[94]?.getD undef = Value.int .i64 0 := hI.val 28 _ 94 _ rfl rfl rfl d28
   clear hdep hI ho hF
   go_simp
   refine (num4_any _ _).mono ?_
   rintro e W2 ⟨rfl, hb⟩
   exact hK (by decide) (Value.int .i64 0) _ (fun u hu => oV hu) hb (fct_none rfl)
  ·obtain rfl := oI ho
   have d27 : listed.getD 27 false = true := hdep ⟨27, .data⟩ (by simp) rfl
   have q93 : a.tmps[93]?.getD undef = Value.int .i64 0 := hI.val 27 _ 93 _ rfl rfl rfl d27
   have d29 : listed.getD 29 false = true := hdep ⟨29, .data⟩ (by simp) rfl
   have q95 : a.tmps[95]?.getD undef = Value.int .i64 0 := hI.val 29 _ 95 _ rfl rfl rfl d29
   clear hdep hI ho hF
   go_simp
   exact hK (by decide) (Value.int .i64 0) _ (fun u hu => oV hu) (Below.refl _ _) (fct_none rfl)
  ·obtain rfl := oI ho
   have d30 : listed.getD 30 false = true := hdep ⟨30, .data⟩ (by simp) rfl
   have q96 : a.tmps[96]?.getD undef = Value.int .i64 0 := hI.val 30 _ 96 _ rfl rfl rfl d30
   clear hdep hI ho hF
   go_simp
   exact hK (by decide) (Value.bool true) _ (fun u hu => oV hu) (Below.refl _ _) (fct_none rfl)
  ·obtain rfl := oI ho
   have d13 : listed.getD 13 false = true := hdep ⟨13, .data⟩ (by simp) rfl
   have q79 : a.tmps[79]?.getD undef = Value.bool true := hI.val 13 _ 79 _ rfl rfl rfl d13
   have d31 : listed.getD 31 false = true := hdep ⟨31, .data⟩ (by simp) rfl
   have q97 : a.tmps[97]?.getD undef = Value.bool true := hI.val 31 _ 97 _ rfl rfl rfl d31
   clear hdep hI ho hF
   go_simp
   exact hK (by decide) (Value.bool true) _ (fun u hu => oV hu) (Below.refl _ _) (fct_none rfl)
  ·obtain rfl := oI ho
   have d32 : listed.getD 32 false = true := hdep ⟨32, .data⟩ (by simp) rfl
   have q98 : a.tmps[98]?.getD undef = Value.bool true := hI.val 32 _ 98 _ rfl rfl rfl d32
   clear hdep hI ho hF
   go_simp
   exact hK (by decide) (Value.bool true) _ (fun u hu => oV hu) (Below.refl _ _) (fct_none rfl)
  ·obtain rfl := oI ho
   have q10 : a.tmps[10]?.getD undef = Value.string ⟨#[48, 32, 48, 44, 49, 32, 45, 50]⟩ := hI.old 10 (noDst_spec (by kernel_rfl))
   clear hdep hI ho hF
   go_simp
   exact hK (by decide) (Value.string ⟨#[48, 32, 48, 44, 49, 32, 45, 50]⟩) _ (fun u hu => oV hu) (Below.refl _ _) (fct_none rfl)
  ·obtain rfl := oI ho
   have d34 : listed.getD 34 false = true := hdep ⟨34, .data⟩ (by simp) rfl
   have q100 : a.tmps[100]?.getD undef = Value.string ⟨#[48, 32, 48, 44, 49, 32, 45, 50]⟩ := hI.val 34 _ 100 _ rfl rfl rfl d34
   clear hdep hI ho hF
   go_simp
   exact hK (by decide) (Value.bool true) _ (fun u hu => oV hu) (Below.refl _ _) (fct_none rfl)
  ·obtain rfl := oI ho
   have d33 : listed.getD 33 false = true := hdep ⟨33, .data⟩ (by simp) rfl
   have q99 : a.tmps[99]?.getD undef = Value.bool true := hI.val 33 _ 99 _ rfl rfl rfl d33
   have d35 : listed.getD 35 false = true := hdep ⟨35, .data⟩ (by simp) rfl
   have q101 : a.tmps[101]?.getD undef = Value.bool true := hI.val 35 _ 101 _ rfl rfl rfl d35
   clear hdep hI ho hF
   go_simp
   exact hK (by decide) (Value.bool true) _ (fun u hu => oV hu) (Below.refl _ _) (fct_none rfl)
  ·obtain rfl := oI ho
   have d36 : listed.getD 36 false = true := hdep ⟨36, .data⟩ (by simp) rfl
   have q102 : a.tmps[102]?.getD undef = Value.bool true := hI.val 36 _ 102 _ rfl rfl rfl d36
   clear hdep hI ho hF
   go_simp
   exact hK (by decide) (Value.bool true) _ (fun u hu => oV hu) (Below.refl _ _) (fct_none rfl)
  ·obtain rfl := oI ho
   have q13 : a.tmps[13]?.getD undef = Value.int .i64 140 := hI.old 13 (noDst_spec (by kernel_rfl))
   clear hdep hI ho hF
   go_simp
   exact hK (by decide) (Value.int .i64 140) _ (fun u hu => oV hu) (Below.refl _ _) (fct_none rfl)
  ·obtain rfl := oI ho
   have d38 : listed.getD 38 false = true := hdep ⟨38, .data⟩ (by simp) rfl
   have q104 : a.tmps[104]?.getD undef = Value.int .i64 140 := hI.val 38 _ 104 _ rfl rfl rfl d38
   clear hdep hI ho hF
   go_simp
   refine (num4_any _ _).mono ?_
   rintro e W2 ⟨rfl, hb⟩
   exact hK (by decide) (Value.int .i64 140) _ (fun u hu => oV hu) hb (fct_none rfl)
  ·obtain rfl := oI ho
   have d39 : listed.getD 39 false = true := hdep ⟨39, .data⟩ (by simp) rfl
   have q105 : a.tmps[105]?.getD undef = Value.int .i64 140 := hI.val 39 _ 105 _ rfl rfl rfl d39
   clear hdep hI ho hF
   go_simp
   exact hK (by decide) (Value.bool true) _ (fun u hu => oV hu) (Below.refl _ _) (fct_none rfl)
  ·obtain rfl := oI ho
   have d37 : listed.getD 37 false = true := hdep ⟨37, .data⟩ (by simp) rfl
   have q103 : a.tmps[103]?.getD undef = Value.bool true := hI.val 37 _ 103 _ rfl rfl rfl d37
   have d40 : listed.getD 40 false = true := hdep ⟨40, .data⟩ (by simp) rfl
   have q106 : a.tmps[106]?.getD undef = Value.bool true := hI.val 40 _ 106 _ rfl rfl rfl d40
   clear hdep hI ho hF
   go_simp
   exact hK (by decide) (Value.bool true) _ (fun u hu => oV hu) (Below.refl _ _) (fct_none rfl)
  ·obtain rfl := oI ho
   have d41 : listed.getD 41 false = true := hdep ⟨41, .data⟩ (by simp) rfl
   have q107 : a.tmps[107]?.getD undef = Value.bool true := hI.val 41 _ 107 _ rfl rfl rfl d41
   clear hdep hI ho hF
   go_simp
   exact hK (by decide) (Value.bool true) _ (fun u hu => oV hu) (Below.refl _ _) (fct_none rfl)
  ·obtain rfl := oI ho
   have q14 : a.tmps[14]?.getD undef = Value.pointer (some ⟨bl, 0, none⟩) := hI.old 14 (noDst_spec (by kernel_rfl))
   clear hdep hI ho hF
   refine wp_loadM _ _ rfl bl ((act_tmpC a 14).trans q14) #[.int .i64 1, .int .i64 5, .int .i64 2, .int .i64 0] (HRl.out.after hB) agg_seg ?_
   exact hK (by decide) (Value.agg #[.int .i64 1, .int .i64 5, .int .i64 2, .int .i64 0]) _ (fun u hu => oV hu) (Below.refl _ _) (fct_none rfl)
  ·obtain rfl := oI ho
   clear hdep hI ho hF
   go_simp
   refine (of4_any 1 5 2 0 _).mono ?_
   rintro e W2 ⟨rfl, hb⟩
   exact hK (by decide) (Value.agg #[.int .i64 1, .int .i64 5, .int .i64 2, .int .i64 0]) _ (fun u hu => oV hu) hb (fct_none rfl)
  ·obtain rfl := oI ho
   have d43 : listed.getD 43 false = true := hdep ⟨43, .data⟩ (by simp) rfl
   have d44 : listed.getD 44 false = true := hdep ⟨44, .data⟩ (by simp) rfl
   have q109 : a.tmps[109]?.getD undef = Value.agg #[.int .i64 1, .int .i64 5, .int .i64 2, .int .i64 0] := hI.val 43 _ 109 _ rfl rfl rfl d43
   have q110 : a.tmps[110]?.getD undef = Value.agg #[.int .i64 1, .int .i64 5, .int .i64 2, .int .i64 0] := hI.val 44 _ 110 _ rfl rfl rfl d44
   clear hdep hI ho hF
   refine wp_eqlM _ _ _ _ rfl _ _ true ((act_tmpC a 109).trans q109) ((act_tmpC a 110).trans q110) (eqg_seg _ _ _ _ _) (eql_seg W) ?_
   exact hK (by decide) (Value.bool true) _ (fun u hu => oV hu) (Below.refl _ _) (fct_none rfl)
  ·obtain rfl := oI ho
   have d42 : listed.getD 42 false = true := hdep ⟨42, .data⟩ (by simp) rfl
   have q108 : a.tmps[108]?.getD undef = Value.bool true := hI.val 42 _ 108 _ rfl rfl rfl d42
   have d45 : listed.getD 45 false = true := hdep ⟨45, .data⟩ (by simp) rfl
   have q111 : a.tmps[111]?.getD undef = Value.bool true := hI.val 45 _ 111 _ rfl rfl rfl d45
   clear hdep hI ho hF
   go_simp
   exact hK (by decide) (Value.bool true) _ (fun u hu => oV hu) (Below.refl _ _) (fct_none rfl)
  ·obtain rfl := oI ho
   have d46 : listed.getD 46 false = true := hdep ⟨46, .data⟩ (by simp) rfl
   have q112 : a.tmps[112]?.getD undef = Value.bool true := hI.val 46 _ 112 _ rfl rfl rfl d46
   clear hdep hI ho hF
   go_simp
   exact hK (by decide) (Value.bool true) _ (fun u hu => oV hu) (Below.refl _ _) (fct_none rfl)
 ·intro listed a W hI hall hfin hend
  obtain ⟨hBW, _⟩ := hend rfl
  have q0 : a.tmps[0]?.getD undef = Value.bool true := hI.val 47 _ 0 _ rfl rfl rfl (hall 47 (by decide))
  have hdf : a.defers = [] := hI.defers
  have HE := Lib.hid (HB.out.trans (hBW.mono HB.out.size))
  clear hBW hall hfin hend hI
  obtain ⟨tm, df⟩ := a
  simp only at hdf q0
  subst hdf
  go_wp2_with fail
  exact bodyPost_ret (v := .bool true) (by simp [results, Tryz.results17, go_sem, q0]) rfl ⟨rfl, HE.out⟩


end Go.Proofs.YtdfmmkidknginaaGreatDoor

namespace Go.Proofs.YtdfmmkidknginaaGreatDoor
open Go.RowKit Go.Sort CrossMath

set_option maxRecDepth 100000 in
theorem works4_true (w : World) (htab : Tab10 w) (ht : TabTz w) (hc : CutOk w) (hw0 : 3 < w.heap.size) :
 Calls Tryz.prog 17 #[] w fun e w' => e = .returned (.bool true) ∧ Below w.heap.size w w' := by
 have b : ∀ {x : Int}, -5 ≤ x → x ≤ 5 → Bd x := fun {x} h1 h2 => by unfold Bd; omega
 have pos : ∀ {V : World}, Below w.heap.size w V → 3 < V.heap.size := fun a => Nat.lt_of_lt_of_le hw0 a.size
 have q1 : RtP ⟨1, 1, -1, 2⟩ := ⟨⟨by decide, by decide, by decide, by decide⟩, ⟨by decide, by decide, by decide, by decide⟩⟩
 have n1 : (-1 : Int).natAbs = 1 := rfl
 have n2 : (2 : Int).natAbs = 2 := rfl
 refine works4_core (dotA 1 0) (dotA 1 1) (ptA ⟨1, 1, -1, 2⟩) (dotA 3 3) (ratA (-1) 2) (ratA 1 1).toList (ratA 0 1).toList ?_ ?_ rfl rfl rfl ?_ ?_ (decide ((-1 : Int) < 0)) (decide ((2 : Int) < 0)) (decide ((-1 : Int) < 0)) (L16 (-1 : Int).natAbs) (L16 (2 : Int).natAbs) (L16 (-1 : Int).natAbs) (L16 1) (L16 (2 : Int).natAbs)
  (fun A c W => L16 (-1 : Int).natAbs ≤ c ∧ DS W (-1 : Int).natAbs A) (fun A c W => L16 (2 : Int).natAbs ≤ c ∧ DS W (2 : Int).natAbs A) (fun A c B d W => DS W (-1 : Int).natAbs A ∧ DS W (2 : Int).natAbs B) w
  (Lib.hid (fun W => Turn_any 0 0 2 0 1 1 W))
  (Lib.hid (fun W => at4_any 1 0 W (b (by decide) (by decide)) (b (by decide) (by decide))))
  (Lib.hid (fun W => at4_any 1 1 W (b (by decide) (by decide)) (b (by decide) (by decide))))
  (Lib.hid (fun W => at4_any 3 3 W (b (by decide) (by decide)) (b (by decide) (by decide))))
  (Lib.hid (fun W => ?_)) (Lib.hid (fun W => ?_)) (Lib.hid (fun A c W W' h hb => ⟨h.1, h.2.below hb⟩)) (Lib.hid (fun A c B d W h1 h2 => ?_))
  (Lib.hid (fun A c B d W h => ?_)) (Lib.hid (fun W hW => ?_)) (Lib.hid (fun W hW => ?_)) (Lib.hid (fun W hW => ?_)) (Lib.hid (fun W hW => ?_)) (Lib.hid (fun W hW => ?_)) (Lib.hid (fun W => ?_))
 ·rw [← Array.toList_append]; rfl
 ·rw [← Array.toList_append]; rfl
 ·exact dotA_one 1 0
 ·exact ratA_one _ _
 ·refine (rnumC_any (-1) W (by decide) (by decide)).mono ?_
  rintro e w' ⟨A, c, B, d, rfl, hk, hA, hB, hb⟩
  exact ⟨A, c, B, d, rfl, ⟨hk, hA⟩, hb⟩
 ·refine (rnumC_any 2 W (by decide) (by decide)).mono ?_
  rintro e w' ⟨A, c, B, d, rfl, hk, hA, hB, hb⟩
  exact ⟨A, c, B, d, rfl, ⟨hk, hA⟩, hb⟩
 ·have f1 : frN (-1) 2 = -1 := by decide
  have f2 : frD (-1) 2 = 2 := by decide
  have h := rmake_z (-1) 2 A B c d W (by decide) (by decide) (by decide) h1.2 h2.2 h1.1 h2.1
  rw [f1, f2] at h
  refine h.mono ?_
  rintro e w' ⟨A, c, B, d, rfl, _, hD, hb⟩
  exact ⟨A, c, B, d, rfl, hD, hb⟩
 ·exact rout_good (-1) 2 A B c d W (by decide) (by decide) (by decide) h.1 h.2
 ·exact Side_num ⟨0, 0, 2, 0⟩ ⟨1, 1, -1, 2⟩ W ⟨b (by decide) (by decide), b (by decide) (by decide), b (by decide) (by decide), b (by decide) (by decide)⟩ (by unfold NeS; decide) q1 (ht.below hw0 hW) (pos hW)
 ·exact On_num ⟨0, 0, 2, 2⟩ (dotP 1 1) W ⟨b (by decide) (by decide), b (by decide) (by decide), b (by decide) (by decide), b (by decide) (by decide)⟩ (by unfold NeS; decide) (rtdot (b (by decide) (by decide)) (b (by decide) (by decide))) (ht.below hw0 hW) (pos hW)
 ·exact On_num ⟨0, 0, 2, 2⟩ (dotP 3 3) W ⟨b (by decide) (by decide), b (by decide) (by decide), b (by decide) (by decide), b (by decide) (by decide)⟩ (by unfold NeS; decide) (rtdot (b (by decide) (by decide)) (b (by decide) (by decide))) (ht.below hw0 hW) (pos hW)
 ·have h := Text_num ⟨0, 0, 1, -2⟩ W ⟨b (by decide) (by decide), b (by decide) (by decide), b (by decide) (by decide), b (by decide) (by decide)⟩ (by unfold NeS; decide) (htab.below hW) (ht.below hw0 hW) (pos hW)
  rw [show stx (0 : Int) 0 1 (-2) = ⟨#[48, 32, 48, 44, 49, 32, 45, 50]⟩ by kernel_rfl] at h
  exact h
 ·have h := Parse_node 0 0 0 0 W (b (by decide) (by decide)) (b (by decide) (by decide)) (b (by decide) (by decide)) (b (by decide) (by decide)) (hc.below hW) (ht.below hw0 hW) (pos hW)
  rw [show stx (0 : Int) 0 0 0 = ⟨#[48, 32, 48, 44, 48, 32, 48]⟩ by kernel_rfl] at h
  exact h
 ·exact Laid_any 2 0 1 5 W (b (by decide) (by decide)) (b (by decide) (by decide)) (b (by decide) (by decide)) (b (by decide) (by decide)) (by decide)
end Go.Proofs.YtdfmmkidknginaaGreatDoor

namespace Go.Proofs.YtdfmmkidknginaaGreatDoor
open Go.RowKit Go.Sort CrossMath

theorem wpQuiet_skip {P : Program} {ops : Array Oper} {C : World → Prop} {Q : Act → Prop} {op : Oper} {rest : List Oper} {a : Act} (hw : Region.wanted op (yielded ops a.tmps) = false) (k : wpQuiet P ops C Q rest (a.put op.dst undef)) : wpQuiet P ops C Q (op :: rest) a := by
 show (if Region.wanted op (yielded ops a.tmps) then op.quiet P a C (wpQuiet P ops C Q rest) else wpQuiet P ops C Q rest (a.put op.dst undef))
 rw [if_neg (by rw [hw]; simp)]
 exact k
theorem neqZ (W : World) : (binOp .neq 25 (.agg #[.int .i64 0, .int .i64 0, .int .i64 0, .int .i64 0]) (.agg #[.int .i64 0, .int .i64 0, .int .i64 0, .int .i64 0])).run Tryz.prog W = .ok (.bool false) W := by kernel_rfl
attribute [local irreducible] wpQuiet
set_option maxRecDepth 100000 in
set_option maxHeartbeats 600000 in
theorem turns_no_core (ax ay bx bY cx cy tv te : Int) (na nb nc : Bool) (htv : (na && (nb && nc)) = false → tv = 0 ∧ te = 2) (htw : (na && (nb && nc)) = true → te = 0) (w : World)
 (HT : Hid (∀ W, Calls Tryz.prog 10 #[.agg (nodeA ax ay), .agg (nodeA bx bY), .agg (nodeA cx cy)] W fun e w' => e = .returned (.tuple #[.int .i64 tv, .int .i64 te]) ∧ Below W.heap.size W w'))
 (HL : Hid (∀ W, Calls Tryz.prog 11 #[.agg (segA ax ay bx bY)] W fun e w' => e = .returned (.tuple #[.agg (segA 0 0 0 0), .int .i64 2]) ∧ Below W.heap.size W w'))
 (HR : Hid (∀ W, Calls Tryz.prog 12 #[.agg (segA ax ay bx bY)] W fun e w' => e = .returned (.bool false) ∧ Below W.heap.size W w'))
 (HC : Hid (∀ W, Calls Tryz.prog 14 #[.agg (segA ax ay bx bY)] W fun e w' => e = .returned (.int .i64 2) ∧ Below W.heap.size W w'))
 (HA : Hid (∀ W, Calls Tryz.prog 16 #[.agg (nodeA ax ay)] W fun e w' => e = .returned (.bool na) ∧ Below W.heap.size W w'))
 (HB : Hid (∀ W, Calls Tryz.prog 16 #[.agg (nodeA bx bY)] W fun e w' => e = .returned (.bool nb) ∧ Below W.heap.size W w'))
 (HD : Hid (∀ W, Calls Tryz.prog 16 #[.agg (nodeA cx cy)] W fun e w' => e = .returned (.bool nc) ∧ Below W.heap.size W w'))
 (HU : Hid (∀ W, (na && (nb && nc)) = true → Calls Tryz.prog 18 #[.agg (nodeA ax ay), .agg (nodeA bx bY), .agg (nodeA cx cy)] W fun e w' => e = .returned (.int .i64 tv) ∧ Below W.heap.size W w'))
 (HW : Hid (∀ W, Below w.heap.size w W → Calls Tryz.prog 17 #[] W fun e w' => e = .returned (.bool true) ∧ Below W.heap.size W w')) :
 Calls Tryz.prog 3 #[.agg (segA ax ay bx bY), .agg (nodeA cx cy)] w fun e w' => e = .returned (.bool true) ∧ Below w.heap.size w w' := by
 have HN := Lib.hid num4_any
 go_enter Tryz.func3, Tryz.ntmps3
 go_wp2_with fail
 refine (HT.out _).mono ?_
 rintro e w1 ⟨rfl, hb⟩
 have rS : Row w1 w.heap.size (segA ax ay bx bY).toList := ((Row.at rfl (segA ax ay bx bY).toList _).alloc _).after hb
 have rC : Row w1 (w.heap.size + 1) (nodeA cx cy).toList := (Row.at (by simp) (nodeA cx cy).toList _).after hb
 have hB : Below w.heap.size w w1 := (((Below.refl w.heap.size w).alloc (Nat.le_refl _) _).alloc (by simp) _).trans (hb.mono (by simp; omega))
 clear hb
 have a0 := rS.c 0 rfl
 have a1 := rS.c 1 rfl
 have a2 := rS.c 2 rfl
 have a3 := rS.c 3 rfl
 go_wp2_with fail
 refine (HL.out _).mono ?_
 rintro e w2 ⟨rfl, hb⟩
 replace rS := rS.after hb
 replace rC := rC.after hb
 replace hB := hB.trans (hb.mono hB.size)
 clear hb a0 a1 a2 a3
 go_upto_region 4 with fail
 generalize hW : World.alloc _ _ = W3
 have rL : Row W3 w2.heap.size (segA 0 0 0 0).toList := by rw [← hW]; exact Row.at rfl (segA 0 0 0 0).toList _
 replace rS : Row W3 w.heap.size (segA ax ay bx bY).toList := by rw [← hW]; exact rS.alloc _
 replace rC : Row W3 (w.heap.size + 1) (nodeA cx cy).toList := by rw [← hW]; exact rC.alloc _
 replace hB : Below w.heap.size w W3 := by rw [← hW]; exact hB.alloc hB.size _
 clear hW
 generalize w2.heap.size = bl at *
 have a0 := rS.c 0 rfl
 have a1 := rS.c 1 rfl
 have a2 := rS.c 2 rfl
 have a3 := rS.c 3 rfl
 go_wp2_with fail
 refine (HR.out _).mono ?_
 rintro e w3 ⟨rfl, hb⟩
 replace rL := rL.after hb
 replace rS := rS.after hb
 replace rC := rC.after hb
 replace hB := hB.trans (hb.mono hB.size)
 clear hb a0 a1 a2 a3
 have a0 := rS.c 0 rfl
 have a1 := rS.c 1 rfl
 have a2 := rS.c 2 rfl
 have a3 := rS.c 3 rfl
 go_wp2_with fail
 refine (HC.out _).mono ?_
 rintro e w4 ⟨rfl, hb⟩
 replace rS := rS.after hb
 replace rC := rC.after hb
 replace rL := rL.after hb
 replace hB := hB.trans (hb.mono hB.size)
 clear hb a0 a1 a2 a3
 go_wp2_with fail
 refine (HN.out _ _).mono ?_
 rintro e w5 ⟨rfl, hb⟩
 replace rS := rS.after hb
 replace rC := rC.after hb
 replace rL := rL.after hb
 replace hB := hB.trans (hb.mono hB.size)
 clear hb
 have a0 := rS.c 0 rfl
 have a1 := rS.c 1 rfl
 have a2 := rS.c 2 rfl
 have a3 := rS.c 3 rfl
 have l0 := rL.c 0 rfl
 have l1 := rL.c 1 rfl
 have l2 := rL.c 2 rfl
 have l3 := rL.c 3 rfl
 go_wp2_with fail
 clear a0 a1 a2 a3 l0 l1 l2 l3
 have a0 := cell_regrown (rS.c 0 rfl)
 have a1 := cell_regrown (rS.c 1 rfl)
 have a2 := cell_regrown (rS.c 2 rfl)
 have a3 := cell_regrown (rS.c 3 rfl)
 have l0 := cell_regrown (rL.c 0 rfl)
 have l1 := cell_regrown (rL.c 1 rfl)
 have l2 := cell_regrown (rL.c 2 rfl)
 have l3 := cell_regrown (rL.c 3 rfl)
 have C1 := Lib.hid (fun n d os => Calls.regrown_of (HN.out n (grow (redrawn w5 d) os)))
 have KR := Lib.hid (And.intro rS (And.intro rC rL))
 have KT := Lib.hid (And.intro htv htw)
 have KB := Lib.hid hB
 clear rS rC rL htv htw hB HT HL HR HC HN
 refine wp_region_quiet_below (by kernel_rfl) (by kernel_rfl) ?_
 iterate 3 (quiet_step ((first | with_reducible exact C1.out _ _ _)))
 iterate 9 (refine wpQuiet_skip (by kernel_rfl) ?_)
 have nz := neqZ
 repeat (quiet_step ((first | with_reducible exact C1.out _ _ _)))
 refine wpQuiet_nil ?_
 intro _ hw'
 obtain ⟨⟨dq, osq⟩, hw''⟩ := hw'
 subst hw''
 have hB := KB.out.trans ((below_regrown w5 dq osq).mono KB.out.size)
 have rS := KR.out.1.after (below_regrown w5 dq osq)
 have rC := KR.out.2.1.after (below_regrown w5 dq osq)
 generalize grow (redrawn w5 dq) osq = w6 at *
 clear C1 KR KB a0 a1 a2 a3 l0 l1 l2 l3 nz
 have a0 := rS.c 0 rfl
 have a1 := rS.c 1 rfl
 have a2 := rS.c 2 rfl
 have a3 := rS.c 3 rfl
 have b0 := rC.c 0 rfl
 have b1 := rC.c 1 rfl
 cases na with
 | false =>
   obtain ⟨rfl, rfl⟩ := KT.out.1 rfl
   clear KT
   go_wp2_with fail
   refine (HA.out _).mono ?_
   rintro e w7 ⟨rfl, hb⟩
   clear a0 a1 a2 a3 b0 b1
   replace rS := rS.after hb
   replace rC := rC.after hb
   replace hB := hB.trans (hb.mono hB.size)
   clear hb
   have a0 := rS.c 0 rfl
   have a1 := rS.c 1 rfl
   have a2 := rS.c 2 rfl
   have a3 := rS.c 3 rfl
   have b0 := rC.c 0 rfl
   have b1 := rC.c 1 rfl
   go_wp2_with fail
   refine (num4_any _ _).mono ?_
   rintro e w8 ⟨rfl, hb⟩
   clear a0 a1 a2 a3 b0 b1
   replace rS := rS.after hb
   replace rC := rC.after hb
   replace hB := hB.trans (hb.mono hB.size)
   clear hb
   have a0 := rS.c 0 rfl
   have a1 := rS.c 1 rfl
   have a2 := rS.c 2 rfl
   have a3 := rS.c 3 rfl
   have b0 := rC.c 0 rfl
   have b1 := rC.c 1 rfl
   go_wp2_with fail
   refine (HW.out _ hB).mono ?_
   rintro e w9 ⟨rfl, hb⟩
   clear a0 a1 a2 a3 b0 b1
   replace rS := rS.after hb
   replace rC := rC.after hb
   replace hB := hB.trans (hb.mono hB.size)
   clear hb
   have a0 := rS.c 0 rfl
   have a1 := rS.c 1 rfl
   have a2 := rS.c 2 rfl
   have a3 := rS.c 3 rfl
   have b0 := rC.c 0 rfl
   have b1 := rC.c 1 rfl
   go_wp2_with fail
   go_ret
   exact ⟨rfl, hB⟩
 | true =>
   cases nb with
   | false =>
     obtain ⟨rfl, rfl⟩ := KT.out.1 rfl
     clear KT
     go_wp2_with fail
     refine (HA.out _).mono ?_
     rintro e w7 ⟨rfl, hb⟩
     clear a0 a1 a2 a3 b0 b1
     replace rS := rS.after hb
     replace rC := rC.after hb
     replace hB := hB.trans (hb.mono hB.size)
     clear hb
     have a0 := rS.c 0 rfl
     have a1 := rS.c 1 rfl
     have a2 := rS.c 2 rfl
     have a3 := rS.c 3 rfl
     have b0 := rC.c 0 rfl
     have b1 := rC.c 1 rfl
     go_wp2_with fail
     refine (HB.out _).mono ?_
     rintro e w7 ⟨rfl, hb⟩
     clear a0 a1 a2 a3 b0 b1
     replace rS := rS.after hb
     replace rC := rC.after hb
     replace hB := hB.trans (hb.mono hB.size)
     clear hb
     have a0 := rS.c 0 rfl
     have a1 := rS.c 1 rfl
     have a2 := rS.c 2 rfl
     have a3 := rS.c 3 rfl
     have b0 := rC.c 0 rfl
     have b1 := rC.c 1 rfl
     go_wp2_with fail
     refine (num4_any _ _).mono ?_
     rintro e w8 ⟨rfl, hb⟩
     clear a0 a1 a2 a3 b0 b1
     replace rS := rS.after hb
     replace rC := rC.after hb
     replace hB := hB.trans (hb.mono hB.size)
     clear hb
     have a0 := rS.c 0 rfl
     have a1 := rS.c 1 rfl
     have a2 := rS.c 2 rfl
     have a3 := rS.c 3 rfl
     have b0 := rC.c 0 rfl
     have b1 := rC.c 1 rfl
     go_wp2_with fail
     refine (HW.out _ hB).mono ?_
     rintro e w9 ⟨rfl, hb⟩
     clear a0 a1 a2 a3 b0 b1
     replace rS := rS.after hb
     replace rC := rC.after hb
     replace hB := hB.trans (hb.mono hB.size)
     clear hb
     have a0 := rS.c 0 rfl
     have a1 := rS.c 1 rfl
     have a2 := rS.c 2 rfl
     have a3 := rS.c 3 rfl
     have b0 := rC.c 0 rfl
     have b1 := rC.c 1 rfl
     go_wp2_with fail
     go_ret
     exact ⟨rfl, hB⟩
   | true =>
     cases nc with
     | false =>
       obtain ⟨rfl, rfl⟩ := KT.out.1 rfl
       clear KT
       go_wp2_with fail
       refine (HA.out _).mono ?_
       rintro e w7 ⟨rfl, hb⟩
       clear a0 a1 a2 a3 b0 b1
       replace rS := rS.after hb
       replace rC := rC.after hb
       replace hB := hB.trans (hb.mono hB.size)
       clear hb
       have a0 := rS.c 0 rfl
       have a1 := rS.c 1 rfl
       have a2 := rS.c 2 rfl
       have a3 := rS.c 3 rfl
       have b0 := rC.c 0 rfl
       have b1 := rC.c 1 rfl
       go_wp2_with fail
       refine (HB.out _).mono ?_
       rintro e w7 ⟨rfl, hb⟩
       clear a0 a1 a2 a3 b0 b1
       replace rS := rS.after hb
       replace rC := rC.after hb
       replace hB := hB.trans (hb.mono hB.size)
       clear hb
       have a0 := rS.c 0 rfl
       have a1 := rS.c 1 rfl
       have a2 := rS.c 2 rfl
       have a3 := rS.c 3 rfl
       have b0 := rC.c 0 rfl
       have b1 := rC.c 1 rfl
       go_wp2_with fail
       refine (HD.out _).mono ?_
       rintro e w7 ⟨rfl, hb⟩
       clear a0 a1 a2 a3 b0 b1
       replace rS := rS.after hb
       replace rC := rC.after hb
       replace hB := hB.trans (hb.mono hB.size)
       clear hb
       have a0 := rS.c 0 rfl
       have a1 := rS.c 1 rfl
       have a2 := rS.c 2 rfl
       have a3 := rS.c 3 rfl
       have b0 := rC.c 0 rfl
       have b1 := rC.c 1 rfl
       go_wp2_with fail
       refine (num4_any _ _).mono ?_
       rintro e w8 ⟨rfl, hb⟩
       clear a0 a1 a2 a3 b0 b1
       replace rS := rS.after hb
       replace rC := rC.after hb
       replace hB := hB.trans (hb.mono hB.size)
       clear hb
       have a0 := rS.c 0 rfl
       have a1 := rS.c 1 rfl
       have a2 := rS.c 2 rfl
       have a3 := rS.c 3 rfl
       have b0 := rC.c 0 rfl
       have b1 := rC.c 1 rfl
       go_wp2_with fail
       refine (HW.out _ hB).mono ?_
       rintro e w9 ⟨rfl, hb⟩
       clear a0 a1 a2 a3 b0 b1
       replace rS := rS.after hb
       replace rC := rC.after hb
       replace hB := hB.trans (hb.mono hB.size)
       clear hb
       have a0 := rS.c 0 rfl
       have a1 := rS.c 1 rfl
       have a2 := rS.c 2 rfl
       have a3 := rS.c 3 rfl
       have b0 := rC.c 0 rfl
       have b1 := rC.c 1 rfl
       go_wp2_with fail
       go_ret
       exact ⟨rfl, hB⟩
     | true =>
       obtain rfl := KT.out.2 rfl
       clear KT
       go_wp2_with fail
       refine (HA.out _).mono ?_
       rintro e w7 ⟨rfl, hb⟩
       clear a0 a1 a2 a3 b0 b1
       replace rS := rS.after hb
       replace rC := rC.after hb
       replace hB := hB.trans (hb.mono hB.size)
       clear hb
       have a0 := rS.c 0 rfl
       have a1 := rS.c 1 rfl
       have a2 := rS.c 2 rfl
       have a3 := rS.c 3 rfl
       have b0 := rC.c 0 rfl
       have b1 := rC.c 1 rfl
       go_wp2_with fail
       refine (HB.out _).mono ?_
       rintro e w7 ⟨rfl, hb⟩
       clear a0 a1 a2 a3 b0 b1
       replace rS := rS.after hb
       replace rC := rC.after hb
       replace hB := hB.trans (hb.mono hB.size)
       clear hb
       have a0 := rS.c 0 rfl
       have a1 := rS.c 1 rfl
       have a2 := rS.c 2 rfl
       have a3 := rS.c 3 rfl
       have b0 := rC.c 0 rfl
       have b1 := rC.c 1 rfl
       go_wp2_with fail
       refine (HD.out _).mono ?_
       rintro e w7 ⟨rfl, hb⟩
       clear a0 a1 a2 a3 b0 b1
       replace rS := rS.after hb
       replace rC := rC.after hb
       replace hB := hB.trans (hb.mono hB.size)
       clear hb
       have a0 := rS.c 0 rfl
       have a1 := rS.c 1 rfl
       have a2 := rS.c 2 rfl
       have a3 := rS.c 3 rfl
       have b0 := rC.c 0 rfl
       have b1 := rC.c 1 rfl
       go_wp2_with fail
       refine (HU.out _ rfl).mono ?_
       rintro e w8 ⟨rfl, hb⟩
       clear a0 a1 a2 a3 b0 b1
       replace rS := rS.after hb
       replace rC := rC.after hb
       replace hB := hB.trans (hb.mono hB.size)
       clear hb
       have a0 := rS.c 0 rfl
       have a1 := rS.c 1 rfl
       have a2 := rS.c 2 rfl
       have a3 := rS.c 3 rfl
       have b0 := rC.c 0 rfl
       have b1 := rC.c 1 rfl
       go_wp2_with fail
       refine (num4_any _ _).mono ?_
       rintro e w8 ⟨rfl, hb⟩
       clear a0 a1 a2 a3 b0 b1
       replace rS := rS.after hb
       replace rC := rC.after hb
       replace hB := hB.trans (hb.mono hB.size)
       clear hb
       have a0 := rS.c 0 rfl
       have a1 := rS.c 1 rfl
       have a2 := rS.c 2 rfl
       have a3 := rS.c 3 rfl
       have b0 := rC.c 0 rfl
       have b1 := rC.c 1 rfl
       go_wp2_with fail
       refine (HW.out _ hB).mono ?_
       rintro e w9 ⟨rfl, hb⟩
       clear a0 a1 a2 a3 b0 b1
       replace rS := rS.after hb
       replace rC := rC.after hb
       replace hB := hB.trans (hb.mono hB.size)
       clear hb
       have a0 := rS.c 0 rfl
       have a1 := rS.c 1 rfl
       have a2 := rS.c 2 rfl
       have a3 := rS.c 3 rfl
       have b0 := rC.c 0 rfl
       have b1 := rC.c 1 rfl
       go_wp2_with fail
       go_ret
       exact ⟨rfl, hB⟩
end Go.Proofs.YtdfmmkidknginaaGreatDoor

namespace Go.Proofs.YtdfmmkidknginaaGreatDoor
open Go.RowKit Go.Sort CrossMath

theorem neqE (a b c d : Int) (W : World) : (binOp .neq 25 (.agg #[.int .i64 a, .int .i64 b, .int .i64 c, .int .i64 d]) (.agg #[.int .i64 a, .int .i64 b, .int .i64 c, .int .i64 d])).run Tryz.prog W = .ok (.bool false) W := by
 have u := Tryz.underlying25
 rw [run_neq_struct]
 go_simp
attribute [local irreducible] wpQuiet
set_option maxRecDepth 100000 in
set_option maxHeartbeats 600000 in
theorem turns_yes_core (ax ay bx bY e0 e1 e2 e3 cx cy tv te : Int) (nc : Bool) (htv : nc = false → tv = 0 ∧ te = 2) (htw : nc = true → te = 0) (w : World)
 (HT : Hid (∀ W, Calls Tryz.prog 10 #[.agg (nodeA ax ay), .agg (nodeA bx bY), .agg (nodeA cx cy)] W fun e w' => e = .returned (.tuple #[.int .i64 tv, .int .i64 te]) ∧ Below W.heap.size W w'))
 (HL : Hid (∀ W, Calls Tryz.prog 11 #[.agg (segA ax ay bx bY)] W fun e w' => e = .returned (.tuple #[.agg (segA e0 e1 e2 e3), .int .i64 0]) ∧ Below W.heap.size W w'))
 (HR : Hid (∀ W, Calls Tryz.prog 12 #[.agg (segA ax ay bx bY)] W fun e w' => e = .returned (.bool true) ∧ Below W.heap.size W w'))
 (HM : Hid (∀ W, Calls Tryz.prog 15 #[.agg (segA ax ay bx bY)] W fun e w' => e = .returned (.agg (segA e0 e1 e2 e3)) ∧ Below W.heap.size W w'))
 (HC : Hid (∀ W, Calls Tryz.prog 14 #[.agg (segA ax ay bx bY)] W fun e w' => e = .returned (.int .i64 0) ∧ Below W.heap.size W w'))
 (HA : Hid (∀ W, Calls Tryz.prog 16 #[.agg (nodeA ax ay)] W fun e w' => e = .returned (.bool true) ∧ Below W.heap.size W w'))
 (HB : Hid (∀ W, Calls Tryz.prog 16 #[.agg (nodeA bx bY)] W fun e w' => e = .returned (.bool true) ∧ Below W.heap.size W w'))
 (HD : Hid (∀ W, Calls Tryz.prog 16 #[.agg (nodeA cx cy)] W fun e w' => e = .returned (.bool nc) ∧ Below W.heap.size W w'))
 (HU : Hid (∀ W, nc = true → Calls Tryz.prog 18 #[.agg (nodeA ax ay), .agg (nodeA bx bY), .agg (nodeA cx cy)] W fun e w' => e = .returned (.int .i64 tv) ∧ Below W.heap.size W w'))
 (HW : Hid (∀ W, Below w.heap.size w W → Calls Tryz.prog 17 #[] W fun e w' => e = .returned (.bool true) ∧ Below W.heap.size W w')) :
 Calls Tryz.prog 3 #[.agg (segA ax ay bx bY), .agg (nodeA cx cy)] w fun e w' => e = .returned (.bool true) ∧ Below w.heap.size w w' := by
 have HN := Lib.hid num4_any
 go_enter Tryz.func3, Tryz.ntmps3
 go_wp2_with fail
 refine (HT.out _).mono ?_
 rintro e w1 ⟨rfl, hb⟩
 have rS : Row w1 w.heap.size (segA ax ay bx bY).toList := ((Row.at rfl (segA ax ay bx bY).toList _).alloc _).after hb
 have rC : Row w1 (w.heap.size + 1) (nodeA cx cy).toList := (Row.at (by simp) (nodeA cx cy).toList _).after hb
 have hB : Below w.heap.size w w1 := (((Below.refl w.heap.size w).alloc (Nat.le_refl _) _).alloc (by simp) _).trans (hb.mono (by simp; omega))
 clear hb
 have a0 := rS.c 0 rfl
 have a1 := rS.c 1 rfl
 have a2 := rS.c 2 rfl
 have a3 := rS.c 3 rfl
 go_wp2_with fail
 refine (HL.out _).mono ?_
 rintro e w2 ⟨rfl, hb⟩
 replace rS := rS.after hb
 replace rC := rC.after hb
 replace hB := hB.trans (hb.mono hB.size)
 clear hb a0 a1 a2 a3
 go_upto_region 4 with fail
 generalize hW : World.alloc _ _ = W3
 have rL : Row W3 w2.heap.size (segA e0 e1 e2 e3).toList := by rw [← hW]; exact Row.at rfl (segA e0 e1 e2 e3).toList _
 replace rS : Row W3 w.heap.size (segA ax ay bx bY).toList := by rw [← hW]; exact rS.alloc _
 replace rC : Row W3 (w.heap.size + 1) (nodeA cx cy).toList := by rw [← hW]; exact rC.alloc _
 replace hB : Below w.heap.size w W3 := by rw [← hW]; exact hB.alloc hB.size _
 clear hW
 generalize w2.heap.size = bl at *
 have a0 := rS.c 0 rfl
 have a1 := rS.c 1 rfl
 have a2 := rS.c 2 rfl
 have a3 := rS.c 3 rfl
 go_wp2_with fail
 refine (HR.out _).mono ?_
 rintro e w3 ⟨rfl, hb⟩
 replace rL := rL.after hb
 replace rS := rS.after hb
 replace rC := rC.after hb
 replace hB := hB.trans (hb.mono hB.size)
 clear hb a0 a1 a2 a3
 have a0 := rS.c 0 rfl
 have a1 := rS.c 1 rfl
 have a2 := rS.c 2 rfl
 have a3 := rS.c 3 rfl
 go_wp2_with fail
 refine (HC.out _).mono ?_
 rintro e w4 ⟨rfl, hb⟩
 replace rS := rS.after hb
 replace rC := rC.after hb
 replace rL := rL.after hb
 replace hB := hB.trans (hb.mono hB.size)
 clear hb a0 a1 a2 a3
 go_wp2_with fail
 refine (HN.out _ _).mono ?_
 rintro e w5 ⟨rfl, hb⟩
 replace rS := rS.after hb
 replace rC := rC.after hb
 replace rL := rL.after hb
 replace hB := hB.trans (hb.mono hB.size)
 clear hb
 have a0 := rS.c 0 rfl
 have a1 := rS.c 1 rfl
 have a2 := rS.c 2 rfl
 have a3 := rS.c 3 rfl
 have l0 := rL.c 0 rfl
 have l1 := rL.c 1 rfl
 have l2 := rL.c 2 rfl
 have l3 := rL.c 3 rfl
 go_wp2_with fail
 clear a0 a1 a2 a3 l0 l1 l2 l3
 have a0 := cell_regrown (rS.c 0 rfl)
 have a1 := cell_regrown (rS.c 1 rfl)
 have a2 := cell_regrown (rS.c 2 rfl)
 have a3 := cell_regrown (rS.c 3 rfl)
 have l0 := cell_regrown (rL.c 0 rfl)
 have l1 := cell_regrown (rL.c 1 rfl)
 have l2 := cell_regrown (rL.c 2 rfl)
 have l3 := cell_regrown (rL.c 3 rfl)
 have C1 := Lib.hid (fun n d os => Calls.regrown_of (HN.out n (grow (redrawn w5 d) os)))
 have C2 := Lib.hid (fun d os => Calls.regrown_of (HM.out (grow (redrawn w5 d) os)))
 have KR := Lib.hid (And.intro rS (And.intro rC rL))
 have KT := Lib.hid (And.intro htv htw)
 have KB := Lib.hid hB
 clear rS rC rL htv htw hB HT HL HR HC HN HM
 refine wp_region_quiet_below (by kernel_rfl) (by kernel_rfl) ?_
 have nz := neqE e0 e1 e2 e3
 iterate 17 (quiet_step ((first | with_reducible exact C1.out _ _ _ | with_reducible exact C2.out _ _)))
 iterate 8 (refine wpQuiet_skip (by kernel_rfl) ?_)
 repeat (quiet_step ((first | with_reducible exact C1.out _ _ _ | with_reducible exact C2.out _ _)))
 refine wpQuiet_nil ?_
 intro _ hw'
 obtain ⟨⟨dq, osq⟩, hw''⟩ := hw'
 subst hw''
 have hB := KB.out.trans ((below_regrown w5 dq osq).mono KB.out.size)
 have rS := KR.out.1.after (below_regrown w5 dq osq)
 have rC := KR.out.2.1.after (below_regrown w5 dq osq)
 generalize grow (redrawn w5 dq) osq = w6 at *
 clear C1 C2 KR KB a0 a1 a2 a3 l0 l1 l2 l3 nz
 have a0 := rS.c 0 rfl
 have a1 := rS.c 1 rfl
 have a2 := rS.c 2 rfl
 have a3 := rS.c 3 rfl
 have b0 := rC.c 0 rfl
 have b1 := rC.c 1 rfl
 cases nc with
 | false =>
   obtain ⟨rfl, rfl⟩ := KT.out.1 rfl
   clear KT
   go_wp2_with fail
   refine (HA.out _).mono ?_
   rintro e w7 ⟨rfl, hb⟩
   clear a0 a1 a2 a3 b0 b1
   replace rS := rS.after hb
   replace rC := rC.after hb
   replace hB := hB.trans (hb.mono hB.size)
   clear hb
   have a0 := rS.c 0 rfl
   have a1 := rS.c 1 rfl
   have a2 := rS.c 2 rfl
   have a3 := rS.c 3 rfl
   have b0 := rC.c 0 rfl
   have b1 := rC.c 1 rfl
   go_wp2_with fail
   refine (HB.out _).mono ?_
   rintro e w7 ⟨rfl, hb⟩
   clear a0 a1 a2 a3 b0 b1
   replace rS := rS.after hb
   replace rC := rC.after hb
   replace hB := hB.trans (hb.mono hB.size)
   clear hb
   have a0 := rS.c 0 rfl
   have a1 := rS.c 1 rfl
   have a2 := rS.c 2 rfl
   have a3 := rS.c 3 rfl
   have b0 := rC.c 0 rfl
   have b1 := rC.c 1 rfl
   go_wp2_with fail
   refine (HD.out _).mono ?_
   rintro e w7 ⟨rfl, hb⟩
   clear a0 a1 a2 a3 b0 b1
   replace rS := rS.after hb
   replace rC := rC.after hb
   replace hB := hB.trans (hb.mono hB.size)
   clear hb
   have a0 := rS.c 0 rfl
   have a1 := rS.c 1 rfl
   have a2 := rS.c 2 rfl
   have a3 := rS.c 3 rfl
   have b0 := rC.c 0 rfl
   have b1 := rC.c 1 rfl
   go_wp2_with fail
   refine (num4_any _ _).mono ?_
   rintro e w8 ⟨rfl, hb⟩
   clear a0 a1 a2 a3 b0 b1
   replace rS := rS.after hb
   replace rC := rC.after hb
   replace hB := hB.trans (hb.mono hB.size)
   clear hb
   have a0 := rS.c 0 rfl
   have a1 := rS.c 1 rfl
   have a2 := rS.c 2 rfl
   have a3 := rS.c 3 rfl
   have b0 := rC.c 0 rfl
   have b1 := rC.c 1 rfl
   go_wp2_with fail
   refine (HW.out _ hB).mono ?_
   rintro e w9 ⟨rfl, hb⟩
   clear a0 a1 a2 a3 b0 b1
   replace rS := rS.after hb
   replace rC := rC.after hb
   replace hB := hB.trans (hb.mono hB.size)
   clear hb
   have a0 := rS.c 0 rfl
   have a1 := rS.c 1 rfl
   have a2 := rS.c 2 rfl
   have a3 := rS.c 3 rfl
   have b0 := rC.c 0 rfl
   have b1 := rC.c 1 rfl
   go_wp2_with fail
   go_ret
   exact ⟨rfl, hB⟩
 | true =>
   obtain rfl := KT.out.2 rfl
   clear KT
   go_wp2_with fail
   refine (HA.out _).mono ?_
   rintro e w7 ⟨rfl, hb⟩
   clear a0 a1 a2 a3 b0 b1
   replace rS := rS.after hb
   replace rC := rC.after hb
   replace hB := hB.trans (hb.mono hB.size)
   clear hb
   have a0 := rS.c 0 rfl
   have a1 := rS.c 1 rfl
   have a2 := rS.c 2 rfl
   have a3 := rS.c 3 rfl
   have b0 := rC.c 0 rfl
   have b1 := rC.c 1 rfl
   go_wp2_with fail
   refine (HB.out _).mono ?_
   rintro e w7 ⟨rfl, hb⟩
   clear a0 a1 a2 a3 b0 b1
   replace rS := rS.after hb
   replace rC := rC.after hb
   replace hB := hB.trans (hb.mono hB.size)
   clear hb
   have a0 := rS.c 0 rfl
   have a1 := rS.c 1 rfl
   have a2 := rS.c 2 rfl
   have a3 := rS.c 3 rfl
   have b0 := rC.c 0 rfl
   have b1 := rC.c 1 rfl
   go_wp2_with fail
   refine (HD.out _).mono ?_
   rintro e w7 ⟨rfl, hb⟩
   clear a0 a1 a2 a3 b0 b1
   replace rS := rS.after hb
   replace rC := rC.after hb
   replace hB := hB.trans (hb.mono hB.size)
   clear hb
   have a0 := rS.c 0 rfl
   have a1 := rS.c 1 rfl
   have a2 := rS.c 2 rfl
   have a3 := rS.c 3 rfl
   have b0 := rC.c 0 rfl
   have b1 := rC.c 1 rfl
   go_wp2_with fail
   refine (HU.out _ (by trivial)).mono ?_
   rintro e w8 ⟨rfl, hb⟩
   clear a0 a1 a2 a3 b0 b1
   replace rS := rS.after hb
   replace rC := rC.after hb
   replace hB := hB.trans (hb.mono hB.size)
   clear hb
   have a0 := rS.c 0 rfl
   have a1 := rS.c 1 rfl
   have a2 := rS.c 2 rfl
   have a3 := rS.c 3 rfl
   have b0 := rC.c 0 rfl
   have b1 := rC.c 1 rfl
   go_wp2_with fail
   refine (num4_any _ _).mono ?_
   rintro e w8 ⟨rfl, hb⟩
   clear a0 a1 a2 a3 b0 b1
   replace rS := rS.after hb
   replace rC := rC.after hb
   replace hB := hB.trans (hb.mono hB.size)
   clear hb
   have a0 := rS.c 0 rfl
   have a1 := rS.c 1 rfl
   have a2 := rS.c 2 rfl
   have a3 := rS.c 3 rfl
   have b0 := rC.c 0 rfl
   have b1 := rC.c 1 rfl
   go_wp2_with fail
   refine (HW.out _ hB).mono ?_
   rintro e w9 ⟨rfl, hb⟩
   clear a0 a1 a2 a3 b0 b1
   replace rS := rS.after hb
   replace rC := rC.after hb
   replace hB := hB.trans (hb.mono hB.size)
   clear hb
   have a0 := rS.c 0 rfl
   have a1 := rS.c 1 rfl
   have a2 := rS.c 2 rfl
   have a3 := rS.c 3 rfl
   have b0 := rC.c 0 rfl
   have b1 := rC.c 1 rfl
   go_wp2_with fail
   go_ret
   exact ⟨rfl, hB⟩
end Go.Proofs.YtdfmmkidknginaaGreatDoor

namespace Go.Proofs.YtdfmmkidknginaaGreatDoor
open Go.RowKit Go.Sort CrossMath

theorem nd_node (x y : Int) : ndB (x, y) = nodeB x y := by
 rw [Bool.eq_iff_iff, nodeB_iff, ← inB_iff, ← inB_iff]
 unfold ndB
 simp
theorem laid_sg4 (s : Sg) : laidA s.ax s.ay s.bx s.bY = sgA (laidS s) := by
 unfold laidA laidS
 have e : turnB (s.bx - s.ax) (s.bY - s.ay) = turned s := rfl
 rw [e]
 split <;> rfl
theorem ck_right (s : Sg) : ckI s.ax s.ay s.bx s.bY = if rightS s = true then 0 else 2 := by
 unfold ckI rightS
 rw [nd_node, nd_node]
theorem turns_true (s : Sg) (cx cy : Int) (w : World) (htab : Tab10 w) (ht : TabTz w) (hc : CutOk w) (hw0 : 3 < w.heap.size) :
 Calls Tryz.prog 3 #[.agg (sgA s), .agg (nodeA cx cy)] w fun e w' => e = .returned (.bool true) ∧ Below w.heap.size w w' := by
 have HT := Lib.hid (fun W => Turn_any s.ax s.ay s.bx s.bY cx cy W)
 have HA := Lib.hid (fun W => refnode_any s.ax s.ay W)
 have HB := Lib.hid (fun W => refnode_any s.bx s.bY W)
 have HD := Lib.hid (fun W => refnode_any cx cy W)
 have HW : Hid (∀ W, Below w.heap.size w W → Calls Tryz.prog 17 #[] W fun e w' => e = .returned (.bool true) ∧ Below W.heap.size W w') := Lib.hid (fun W hW => works4_true W (htab.below hW) (ht.below hw0 hW) (hc.below hW) (Nat.lt_of_lt_of_le hw0 hW.size))
 have HR := Lib.hid (fun W => refright_any s W)
 have HC := Lib.hid (fun W => check_any4 s.ax s.ay s.bx s.bY W)
 have v0 : (nodeB s.ax s.ay && (nodeB s.bx s.bY && nodeB cx cy)) = false → turnV s.ax s.ay s.bx s.bY cx cy = 0 ∧ turnE s.ax s.ay s.bx s.bY cx cy = 2 := fun h => by
  unfold turnV turnE
  rw [nd_node, nd_node, nd_node, h]
  exact ⟨rfl, rfl⟩
 have v1 : (nodeB s.ax s.ay && (nodeB s.bx s.bY && nodeB cx cy)) = true → turnV s.ax s.ay s.bx s.bY cx cy = cmpI ((s.bx - s.ax) * (cy - s.ay)) ((s.bY - s.ay) * (cx - s.ax)) ∧ turnE s.ax s.ay s.bx s.bY cx cy = 0 := fun h => by
  unfold turnV turnE
  rw [nd_node, nd_node, nd_node, h]
  exact ⟨rfl, rfl⟩
 have HU : Hid (∀ W, (nodeB s.ax s.ay && (nodeB s.bx s.bY && nodeB cx cy)) = true → Calls Tryz.prog 18 #[.agg (nodeA s.ax s.ay), .agg (nodeA s.bx s.bY), .agg (nodeA cx cy)] W fun e w' => e = .returned (.int .i64 (turnV s.ax s.ay s.bx s.bY cx cy)) ∧ Below W.heap.size W w') := Lib.hid (fun W h => by
  rw [(v1 h).1]
  simp only [Bool.and_eq_true, nodeB_iff] at h
  obtain ⟨⟨h1, h2⟩, ⟨h3, h4⟩, h5, h6⟩ := h
  exact refturn_any _ _ _ _ _ _ W h1 h2 h3 h4 h5 h6)
 cases hr : rightS s with
 | false =>
   rw [ck_right, hr] at HC
   rw [hr] at HR
   exact turns_no_core _ _ _ _ cx cy _ _ _ _ _ v0 (fun h => (v1 h).2) w HT (Lib.hid (fun W => Laid_wrong _ _ _ _ W (by rw [ck_right, hr]; rfl))) HR HC HA HB HD HU HW
 | true =>
   rw [ck_right, hr] at HC
   rw [hr] at HR
   obtain ⟨hs, hne⟩ := rightS_iff.1 hr
   obtain ⟨h1, h2, h3, h4⟩ := hs
   have n1 : nodeB s.ax s.ay = true := nodeB_iff.2 ⟨h1, h2⟩
   have n2 : nodeB s.bx s.bY = true := nodeB_iff.2 ⟨h3, h4⟩
   rw [n1, n2] at v0 v1 HU
   rw [n1] at HA
   rw [n2] at HB
   simp only [Bool.true_and] at v0 v1 HU
   have HL := Lib.hid (fun W => Laid_any s.ax s.ay s.bx s.bY W h1 h2 h3 h4 hne)
   rw [laid_sg4] at HL
   exact turns_yes_core _ _ _ _ _ _ _ _ cx cy _ _ _ v0 (fun h => (v1 h).2) w HT HL HR (Lib.hid (fun W => relaid_any s W)) HC HA HB HD HU HW
end Go.Proofs.YtdfmmkidknginaaGreatDoor

namespace Go.Proofs.YtdfmmkidknginaaGreatDoor
open Go.ChangeShapes Go.WideShapes Go.ChangeAt Go.RowKit

theorem cellsSeg : Tryz.prog.cellsOf 25 = 4 := by kernel_rfl
theorem cellsNode : Tryz.prog.cellsOf 23 = 2 := by kernel_rfl
theorem cellsI64 : Tryz.prog.cellsOf 2 = 1 := by kernel_rfl
def datN (H : Type) (x y : Int) : DataW H := .agg [.lit (.int .i64 x), .lit (.int .i64 y)]
def datS (H : Type) (ax ay bx bY : Int) : DataW H := .agg [datN H ax ay, datN H bx bY]
theorem open_node {H : Type} {enc : TypeId × Value → H} {w : World} {base : Nat} {spare : Nat → Bool} {held : Bool} {fuel : Nat} {x0 x1 : Value} {y : DataW H × List MemPlace}
 (h : DataW.trod enc Tryz.prog w base spare held fuel 23 [x0, x1] = some y) :
 ∃ a b : Int, x0 = .int .i64 a ∧ x1 = .int .i64 b ∧ y = (datN H a b, []) ∧ (Lit.int .i64 a).wf = true ∧ (Lit.int .i64 b).wf = true := by
 obtain ⟨xs, n, _, hx, _, hlen, hg⟩ := DataW.trod_struct Tryz.underlying23 h
 match xs, hlen with
 | [y0, y1], _ =>
   have g0 : DataW.trod enc Tryz.prog w base spare held n 2 (([x0, x1].drop 0).take (Tryz.prog.cellsOf 2)) = some y0 := hg 0 _ rfl
   have g1 : DataW.trod enc Tryz.prog w base spare held n 2 (([x0, x1].drop 1).take (Tryz.prog.cellsOf 2)) = some y1 := hg 1 _ rfl
   rw [cellsI64] at g0 g1
   obtain ⟨a, ea, rfl, wa⟩ := DataW.trod_int Tryz.underlying2 (x := y0) g0
   obtain ⟨b, eb, rfl, wb⟩ := DataW.trod_int Tryz.underlying2 (x := y1) g1
   simp at ea eb
   exact ⟨a, b, ea, eb, hx, wa, wb⟩
set_option maxRecDepth 100000 in
theorem open_seg {H : Type} {enc : TypeId × Value → H} {w : World} {base b0 : Nat} {spare : Nat → Bool} {held : Bool} {r : Reach} {v : Value} {d : DataW H} {p : List MemPlace}
 (hv : Value.okWide Tryz.prog w r b0 25 v) (h : DataW.Trod enc Tryz.prog w base spare held 25 v d p) :
 ∃ (ax ay bx bY : Int), v = .agg #[.int .i64 ax, .int .i64 ay, .int .i64 bx, .int .i64 bY] ∧ d = datS H ax ay bx bY ∧ p = [] ∧ ((Lit.int .i64 ax).wf = true ∧ (Lit.int .i64 ay).wf = true ∧ (Lit.int .i64 bx).wf = true ∧ (Lit.int .i64 bY).wf = true) := by
 obtain ⟨cs, rfl, hsz⟩ := okWide_struct Tryz.underlying25 hv
 obtain ⟨l⟩ := cs
 match l, hsz.trans cellsSeg with
 | [c0, c1, c2, c3], _ =>
   obtain ⟨fuel, hf⟩ := h
   obtain ⟨xs, n, _, hx, _, hlen, hg⟩ := DataW.trod_struct Tryz.underlying25 hf
   match xs, hlen with
   | [y0, y1], _ =>
     have g0 : DataW.trod enc Tryz.prog w base spare held n 23 (((Value.agg #[c0, c1, c2, c3]).cells.toList.drop 0).take (Tryz.prog.cellsOf 23)) = some y0 := hg 0 _ rfl
     have g1 : DataW.trod enc Tryz.prog w base spare held n 23 (((Value.agg #[c0, c1, c2, c3]).cells.toList.drop 2).take (Tryz.prog.cellsOf 23)) = some y1 := hg 1 _ rfl
     rw [cellsNode] at g0 g1
     obtain ⟨a, b, rfl, rfl, rfl, wa, wb⟩ := open_node (y := y0) g0
     obtain ⟨c, e, rfl, rfl, rfl, wc, we⟩ := open_node (y := y1) g1
     simp only [Prod.mk.injEq] at hx
     exact ⟨a, b, c, e, rfl, hx.1, hx.2, wa, wb, wc, we⟩
set_option maxRecDepth 100000 in
theorem shut_seg {H : Type} {enc : TypeId × Value → H} {w : World} {base : Nat} {spare : Nat → Bool} {held : Bool} {ax ay bx bY : Int}
 (h : (Lit.int .i64 ax).wf = true ∧ (Lit.int .i64 ay).wf = true ∧ (Lit.int .i64 bx).wf = true ∧ (Lit.int .i64 bY).wf = true) :
 DataW.Trod enc Tryz.prog w base spare held 25 (.agg #[.int .i64 ax, .int .i64 ay, .int .i64 bx, .int .i64 bY]) (datS H ax ay bx bY) [] := by
 obtain ⟨wa, wb, wc, we⟩ := h
 refine ⟨4, ?_⟩
 simp [DataW.trod, datS, datN, Value.cells, Tryz.underlying25, Tryz.underlying23, Tryz.underlying2, cellsSeg, cellsNode, cellsI64, wa, wb, wc, we]
set_option maxRecDepth 100000 in
theorem open_nd {H : Type} {enc : TypeId × Value → H} {w : World} {base b0 : Nat} {spare : Nat → Bool} {held : Bool} {r : Reach} {v : Value} {d : DataW H} {p : List MemPlace}
 (hv : Value.okWide Tryz.prog w r b0 23 v) (h : DataW.Trod enc Tryz.prog w base spare held 23 v d p) :
 ∃ (x y : Int), v = .agg #[.int .i64 x, .int .i64 y] ∧ d = datN H x y ∧ p = [] ∧ ((Lit.int .i64 x).wf = true ∧ (Lit.int .i64 y).wf = true) := by
 obtain ⟨cs, rfl, hsz⟩ := okWide_struct Tryz.underlying23 hv
 obtain ⟨l⟩ := cs
 match l, hsz.trans cellsNode with
 | [c0, c1], _ =>
   obtain ⟨fuel, hf⟩ := h
   obtain ⟨a, b, e0, e1, hx, wa, wb⟩ := open_node (y := (d, p)) hf
   simp only [Prod.mk.injEq] at hx
   subst e0 e1
   exact ⟨a, b, rfl, hx.1, hx.2, wa, wb⟩
set_option maxRecDepth 100000 in
theorem shut_nd {H : Type} {enc : TypeId × Value → H} {w : World} {base : Nat} {spare : Nat → Bool} {held : Bool} {x y : Int}
 (h : (Lit.int .i64 x).wf = true ∧ (Lit.int .i64 y).wf = true) :
 DataW.Trod enc Tryz.prog w base spare held 23 (.agg #[.int .i64 x, .int .i64 y]) (datN H x y) [] := by
 obtain ⟨wa, wb⟩ := h
 refine ⟨3, ?_⟩
 simp [DataW.trod, datN, Value.cells, Tryz.underlying23, Tryz.underlying2, cellsNode, cellsI64, wa, wb]
theorem post_plain {H : Type} {enc : TypeId × Value → H} {P : Program} {f : Func} {s : ChangeSpec} {apart fresh handsOn again : Bool} {W W' : World} {args : Array Value} {v : Value} {ds gs : List (DataW H)}
 (hW : DataW.Whole enc P f.params.toList s.vars apart W args.toList ds gs [])
 (hres : ∀ (b : Nat) (sp : Nat → Bool) (hd : Bool), DataW.TrodAll enc P W' b sp hd f.resultTypes.toList (v.resultList f.resultTypes.size) (s.fn H (ds ++ gs)).results [])
 (hargs : ∀ sp : Nat → Bool, DataW.TrodAll enc P W' 0 sp true f.params.toList args.toList (s.fn H (ds ++ gs)).args [])
 (hvars : ∀ sp : Nat → Bool, DataW.TrodVars enc P W' sp s.vars (s.fn H (ds ++ gs)).vars [])
 (hb : Below W.heap.size W W')
 (hok : ∀ (j : Nat) (t : TypeId) (r : Value), f.resultTypes[j]? = some t → (v.resultList f.resultTypes.size)[j]? = some r → Value.okWide P W' .any 0 t r) :
 s.post enc P f apart fresh handsOn again W args v W' := by
 refine ⟨ds, gs, [], [], [], [], hW, hres _ _ _, hargs _, hvars _, hb.frame _, fun _ => ?_⟩
 exact ⟨hok, _, _, [], ⟨[], [], trodAll_append (hargs _) (hres _ _ _), hvars _, rfl, fun _ _ h => (List.not_mem_nil h).elim, fun _ => List.Pairwise.nil⟩, fun _ h => (List.not_mem_nil h).elim⟩
theorem tabIs_of_vars {P : Program} {W : World} {name : String} {k : IntKind} {zs : List Int} {rest : List (String × DataW Unit)} {ps : List MemPlace} {g : Nat} {t e : TypeId} {n : Nat}
 (hg : P.globalNamed name = some g) (hty : (P.globals[g]?).map (·.type) = some t) (ht : P.underlying t = some (.array n e)) (he : P.underlying e = some (.int k)) (hce : P.cellsOf e = 1) (hct : P.cellsOf t = n)
 (h : DataW.LaidVars P W ((name, Lib.tabData k zs) :: rest) ps) : Lib.TabIs P W name k zs := by
 obtain ⟨g', t', cs, fuel, p, q, hg', ht', hvar, hd, _, _⟩ := h
 obtain rfl := Option.some.inj (hg.symm.trans hg')
 obtain rfl := Option.some.inj (hty.symm.trans ht')
 unfold Lib.TabIs
 rw [hvar, ← Lib.cells_of_tab ht he hce hct hd]
theorem laidVars_tail {P : Program} {w : World} {x : String × DataW Unit} {r : List (String × DataW Unit)} {ps : List MemPlace} (h : DataW.LaidVars P w (x :: r) ps) : ∃ q, DataW.LaidVars P w r q := by
 obtain ⟨_, _, _, _, _, q, _, _, _, _, hr, _⟩ := h
 exact ⟨q, hr⟩
theorem g10 : Tryz.prog.globalNamed "internal/strconv.uint64pow10" = some 1 := by kernel_rfl
theorem g10t : (Tryz.prog.globals[1]?).map (·.type) = some 236 := by kernel_rfl
theorem c10 : Tryz.prog.cellsOf 236 = 20 := by kernel_rfl
theorem c10e : Tryz.prog.cellsOf 39 = 1 := by kernel_rfl
theorem g64 : Tryz.prog.globalNamed "math/bits.deBruijn64tab" = some 3 := by kernel_rfl
theorem g64t : (Tryz.prog.globals[3]?).map (·.type) = some 273 := by kernel_rfl
theorem c64 : Tryz.prog.cellsOf 273 = 64 := by kernel_rfl
theorem c8 : Tryz.prog.cellsOf 5 = 1 := by kernel_rfl
theorem tables {W : World} (h : laidMetH Tryz.prog [("math/bits.deBruijn32tab", Rows.laid_math_bits_deBruijn32tab), ("math/bits.deBruijn64tab", Rows.laid_math_bits_deBruijn64tab), ("internal/strconv.uint64pow10", Rows.laid_internal_strconv_uint64pow10)] W) (hsh : W.ShapedOpen Tryz.prog) : TabTz W ∧ Tab10 W ∧ CutOk W := by
 have hL : laidMet Tryz.prog [("math/bits.deBruijn32tab", Rows.laid_math_bits_deBruijn32tab), ("math/bits.deBruijn64tab", Rows.laid_math_bits_deBruijn64tab), ("internal/strconv.uint64pow10", Rows.laid_internal_strconv_uint64pow10)] W := h
 obtain ⟨ps, hv, _⟩ := hL
 obtain ⟨q1, h1⟩ := laidVars_tail hv
 obtain ⟨q2, h2⟩ := laidVars_tail h1
 have T : Lib.TabIs Tryz.prog W "math/bits.deBruijn64tab" .u8 (Lib.deBruijn64tab.map fun n : Nat => (n : Int)) := tabIs_of_vars g64 g64t Tryz.underlying273 Tryz.underlying5 c8 c64 h1
 refine ⟨fun j hj => ?_, tabIs_of_vars g10 g10t Tryz.underlying236 Tryz.underlying39 c10e c10 h2, ?_⟩
 ·have := T.cell g64 j (by simpa using hj)
  rw [this]
  simp [List.getD, hj]
 ·exact cell_of_shapedOpen_int (g := 0) (t := 3) (zero := #[.int .i64 0]) hsh (of_decide_eq_true (by kernel_rfl)) (by kernel_rfl) rfl (by kernel_rfl) (by kernel_rfl) Tryz.underlying3
theorem own : ownKnob Tryz.prog.godebug = none := by kernel_rfl

def flat0 : DataW Unit → List Value
 | .lit (.int k z) => [.int k z]
 | _ => []
def flat1 : DataW Unit → List Value
 | .agg l => l.flatMap flat0
 | d => flat0 d
def flat2 : DataW Unit → List Value
 | .agg l => l.flatMap flat1
 | d => flat0 d
def tabled (n : Nat) (d : DataW Unit) (h : Array Obj) : Array Obj := h.modify n fun
 | .cells _ t frozen => .cells (flat2 d).toArray t frozen
 | o => o
noncomputable def laidWorld (os : Os) : World :=
 let w0 := World.holding Tryz.prog os ⟨#[], #[], []⟩
 { w0 with heap := tabled 2 Rows.laid_math_bits_deBruijn32tab (tabled 3 Rows.laid_math_bits_deBruijn64tab (tabled 1 Rows.laid_internal_strconv_uint64pow10 w0.heap)) }
end Go.Proofs.YtdfmmkidknginaaGreatDoor

namespace Go.Proofs.YtdfmmkidknginaaGreatDoor
open Go.ChangeShapes Go.WideShapes Go.ChangeAt Go.RowKit

theorem cellsRat : Tryz.prog.cellsOf 44 = 10 := by kernel_rfl
theorem cellsPoint : Tryz.prog.cellsOf 46 = 20 := by kernel_rfl
theorem iv_numP (s : Bool) (a b c d : Int) (ha : 0 ≤ a ∧ a < 18446744073709551616) (hb : 0 ≤ b ∧ b < 18446744073709551616) (hc : 0 ≤ c ∧ c < 18446744073709551616) (hd : 0 ≤ d ∧ d < 18446744073709551616)
 (h : (s && zeroB a b c d) = false) : ∃ z : Int, z.natAbs < T256 ∧ iv s a b c d = ivz z ∧ s = decide (z < 0) ∧ a = (W64 z.natAbs 0 : Nat) ∧ b = (W64 z.natAbs 1 : Nat) ∧ c = (W64 z.natAbs 2 : Nat) ∧ d = (W64 z.natAbs 3 : Nat) := by
 obtain ⟨a, rfl⟩ := Int.eq_ofNat_of_zero_le ha.1
 obtain ⟨b, rfl⟩ := Int.eq_ofNat_of_zero_le hb.1
 obtain ⟨c, rfl⟩ := Int.eq_ofNat_of_zero_le hc.1
 obtain ⟨d, rfl⟩ := Int.eq_ofNat_of_zero_le hd.1
 have hx : ∀ i, i < 4 → nat4 a b c d i < 18446744073709551616 := fun i hi => by
  match i, hi with
  | 0, _ => show a < _; omega
  | 1, _ => show b < _; omega
  | 2, _ => show c < _; omega
  | 3, _ => show d < _; omega
 have hl := valW_lt 4 hx
 have w0 : W64 (valW (nat4 a b c d) 4) 0 = a := W64_val 4 hx 0 (by omega)
 have w1 : W64 (valW (nat4 a b c d) 4) 1 = b := W64_val 4 hx 1 (by omega)
 have w2 : W64 (valW (nat4 a b c d) 4) 2 = c := W64_val 4 hx 2 (by omega)
 have w3 : W64 (valW (nat4 a b c d) 4) 3 = d := W64_val 4 hx 3 (by omega)
 rw [← T256_w] at hl
 have hz : s = true → valW (nat4 a b c d) 4 ≠ 0 := fun hs h0 => by
  rw [hs, (zeroB_val a b c d).2 h0] at h; cases h
 generalize valW (nat4 a b c d) 4 = m at hl w0 w1 w2 w3 hz
 have hn : (if s then -(m : Int) else (m : Int)).natAbs = m := by split <;> omega
 refine ⟨if s then -(m : Int) else m, by rw [hn]; exact hl, ?_, ?_, by rw [hn, w0], by rw [hn, w1], by rw [hn, w2], by rw [hn, w3]⟩
 ·have hs : decide ((if s then -(m : Int) else (m : Int)) < 0) = s := by
   cases s
   ·simp
   ·simp; exact Nat.pos_of_ne_zero (hz rfl)
  unfold ivz
  rw [hn, hs, w0, w1, w2, w3]
 ·cases s
  ·simp
  ·simp; exact Nat.pos_of_ne_zero (hz rfl)
theorem int_O (s : Bool) (a b c d : Int) (ha : 0 ≤ a ∧ a < 18446744073709551616) (hb : 0 ≤ b ∧ b < 18446744073709551616) (hc : 0 ≤ c ∧ c < 18446744073709551616) (hd : 0 ≤ d ∧ d < 18446744073709551616) :
 ∃ o : Option Int, oM o < T256 ∧ s = oS o ∧ a = (W64 (oM o) 0 : Nat) ∧ b = (W64 (oM o) 1 : Nat) ∧ c = (W64 (oM o) 2 : Nat) ∧ d = (W64 (oM o) 3 : Nat) := by
 cases h : (s && zeroB a b c d)
 ·obtain ⟨x, hx, _, e⟩ := iv_numP s a b c d ha hb hc hd h
  exact ⟨some x, hx, e⟩
 ·obtain ⟨h1, h2⟩ := Bool.and_eq_true_iff.1 h
  obtain ⟨rfl, rfl, rfl, rfl⟩ := zeroB_iff.1 h2
  exact ⟨none, by decide, h1, by decide, by decide, by decide, by decide⟩
def datO (H : Type) (o : Option Int) : DataW H := datI H (oS o) (W64 (oM o) 0 : Nat) (W64 (oM o) 1 : Nat) (W64 (oM o) 2 : Nat) (W64 (oM o) 3 : Nat)
def datR (H : Type) (a b : Option Int) : DataW H := .agg [datO H a, datO H b]
def datP (H : Type) (a b c d : Option Int) : DataW H := .agg [datR H a b, datR H c d]
theorem open_int5 {H : Type} {enc : TypeId × Value → H} {w : World} {base : Nat} {spare : Nat → Bool} {held : Bool} {fuel : Nat} {c0 c1 c2 c3 c4 : Value} {y : DataW H × List MemPlace}
 (h : DataW.trod enc Tryz.prog w base spare held fuel 42 [c0, c1, c2, c3, c4] = some y) :
 ∃ o : Option Int, oM o < T256 ∧ [c0, c1, c2, c3, c4] = (oA o).toList ∧ y = (datO H o, []) := by
 obtain ⟨xs, n, _, hx, _, hlen, hg⟩ := DataW.trod_struct Tryz.underlying42 h
 match xs, hlen with
 | [y0, y1], _ =>
   have g0 : DataW.trod enc Tryz.prog w base spare held n 4 (([c0, c1, c2, c3, c4].drop 0).take (Tryz.prog.cellsOf 4)) = some y0 := hg 0 _ rfl
   have g1 : DataW.trod enc Tryz.prog w base spare held n 40 (([c0, c1, c2, c3, c4].drop 1).take (Tryz.prog.cellsOf 40)) = some y1 := hg 1 _ rfl
   rw [cellsB] at g0
   rw [cellsMag] at g1
   obtain ⟨s, es, ey⟩ := DataW.trod_bool Tryz.underlying4 (x := y0) g0
   obtain ⟨a, b, c, e, e1, e2, e3, e4, ez, wa, wb, wc, we⟩ := open_mag (y := y1) g1
   subst ey ez e1 e2 e3 e4
   simp at es
   subst es
   obtain ⟨o, ho, rfl, rfl, rfl, rfl, rfl⟩ := int_O s a b c e (wf_bd wa) (wf_bd wb) (wf_bd wc) (wf_bd we)
   exact ⟨o, ho, rfl, hx⟩
theorem open_rat10 {H : Type} {enc : TypeId × Value → H} {w : World} {base : Nat} {spare : Nat → Bool} {held : Bool} {fuel : Nat} {c0 c1 c2 c3 c4 c5 c6 c7 c8 c9 : Value} {y : DataW H × List MemPlace}
 (h : DataW.trod enc Tryz.prog w base spare held fuel 44 [c0, c1, c2, c3, c4, c5, c6, c7, c8, c9] = some y) :
 ∃ a b : Option Int, oM a < T256 ∧ oM b < T256 ∧ [c0, c1, c2, c3, c4] = (oA a).toList ∧ [c5, c6, c7, c8, c9] = (oA b).toList ∧ y = (datR H a b, []) := by
 obtain ⟨xs, n, _, hx, _, hlen, hg⟩ := DataW.trod_struct Tryz.underlying44 h
 match xs, hlen with
 | [y0, y1], _ =>
   have g0 : DataW.trod enc Tryz.prog w base spare held n 42 (([c0, c1, c2, c3, c4, c5, c6, c7, c8, c9].drop 0).take (Tryz.prog.cellsOf 42)) = some y0 := hg 0 _ rfl
   have g1 : DataW.trod enc Tryz.prog w base spare held n 42 (([c0, c1, c2, c3, c4, c5, c6, c7, c8, c9].drop 5).take (Tryz.prog.cellsOf 42)) = some y1 := hg 1 _ rfl
   rw [cellsInt] at g0 g1
   obtain ⟨a, ha, ea, rfl⟩ := open_int5 (y := y0) g0
   obtain ⟨b, hb, eb, rfl⟩ := open_int5 (y := y1) g1
   exact ⟨a, b, ha, hb, ea, eb, hx⟩
set_option maxRecDepth 100000 in
theorem open_pt {H : Type} {enc : TypeId × Value → H} {w : World} {base b0 : Nat} {spare : Nat → Bool} {held : Bool} {r : Reach} {v : Value} {d : DataW H} {p : List MemPlace}
 (hv : Value.okWide Tryz.prog w r b0 46 v) (h : DataW.Trod enc Tryz.prog w base spare held 46 v d p) :
 ∃ (a b c e : Option Int), v = .agg (pO a b c e) ∧ d = datP H a b c e ∧ p = [] ∧ oM a < T256 ∧ oM b < T256 ∧ oM c < T256 ∧ oM e < T256 := by
 obtain ⟨cs, rfl, hsz⟩ := okWide_struct Tryz.underlying46 hv
 obtain ⟨l⟩ := cs
 match l, hsz.trans cellsPoint with
 | [c0, c1, c2, c3, c4, c5, c6, c7, c8, c9, d0, d1, d2, d3, d4, d5, d6, d7, d8, d9], _ =>
   obtain ⟨fuel, hf⟩ := h
   obtain ⟨xs, n, _, hx, _, hlen, hg⟩ := DataW.trod_struct Tryz.underlying46 hf
   match xs, hlen with
   | [y0, y1], _ =>
     have g0 : DataW.trod enc Tryz.prog w base spare held n 44 (((Value.agg #[c0, c1, c2, c3, c4, c5, c6, c7, c8, c9, d0, d1, d2, d3, d4, d5, d6, d7, d8, d9]).cells.toList.drop 0).take (Tryz.prog.cellsOf 44)) = some y0 := hg 0 _ rfl
     have g1 : DataW.trod enc Tryz.prog w base spare held n 44 (((Value.agg #[c0, c1, c2, c3, c4, c5, c6, c7, c8, c9, d0, d1, d2, d3, d4, d5, d6, d7, d8, d9]).cells.toList.drop 10).take (Tryz.prog.cellsOf 44)) = some y1 := hg 1 _ rfl
     rw [cellsRat] at g0 g1
     obtain ⟨a, b, ha, hb, ea, eb, rfl⟩ := open_rat10 (y := y0) g0
     obtain ⟨c, e, hc, he, ec, ee, rfl⟩ := open_rat10 (y := y1) g1
     simp only [oA, List.cons.injEq, and_true] at ea eb ec ee
     obtain ⟨rfl, rfl, rfl, rfl, rfl⟩ := ea
     obtain ⟨rfl, rfl, rfl, rfl, rfl⟩ := eb
     obtain ⟨rfl, rfl, rfl, rfl, rfl⟩ := ec
     obtain ⟨rfl, rfl, rfl, rfl, rfl⟩ := ee
     simp only [Prod.mk.injEq] at hx
     exact ⟨a, b, c, e, rfl, hx.1, hx.2, ha, hb, hc, he⟩
theorem wf_W64 (m k : Nat) : (Lit.int .u64 (W64 m k : Nat)).wf = true := WalkArith.wf_u64 (n := ((W64 m k : Nat) : Int)) (by have := W64_bd m k; omega)
set_option maxRecDepth 100000 in
theorem shut_int5 {H : Type} {enc : TypeId × Value → H} {w : World} {base : Nat} {spare : Nat → Bool} {held : Bool} (a : Option Int) :
 DataW.trod enc Tryz.prog w base spare held 3 42 (oA a).toList = some (datO H a, []) := by
 have w0 := wf_W64 (oM a) 0
 have w1 := wf_W64 (oM a) 1
 have w2 := wf_W64 (oM a) 2
 have w3 := wf_W64 (oM a) 3
 unfold oA datO datI
 generalize oS a = s
 generalize ((W64 (oM a) 0 : Nat) : Int) = x0 at *
 generalize ((W64 (oM a) 1 : Nat) : Int) = x1 at *
 generalize ((W64 (oM a) 2 : Nat) : Int) = x2 at *
 generalize ((W64 (oM a) 3 : Nat) : Int) = x3 at *
 simp [DataW.trod, Tryz.underlying42, Tryz.underlying40, Tryz.underlying39, Tryz.underlying4, cellsInt, cellsMag, cellsW, cellsB, w0, w1, w2, w3, show List.range 4 = [0, 1, 2, 3] from rfl]
theorem shut_rat10 {H : Type} {enc : TypeId × Value → H} {w : World} {base : Nat} {spare : Nat → Bool} {held : Bool} (a b : Option Int) :
 DataW.trod enc Tryz.prog w base spare held 4 44 ((oA a).toList ++ (oA b).toList) = some (datR H a b, []) := by
 refine trod_struct2_mk (y0 := (datO H a, [])) (y1 := (datO H b, [])) Tryz.underlying44 (by rw [cellsRat]; rfl) ?_ ?_
 ·exact (show DataW.trod enc Tryz.prog w base spare held 3 42 ((((oA a).toList ++ (oA b).toList).drop 0).take (Tryz.prog.cellsOf 42)) = some (datO H a, []) by rw [cellsInt]; exact shut_int5 a)
 ·exact (show DataW.trod enc Tryz.prog w base spare held 3 42 ((((oA a).toList ++ (oA b).toList).drop 5).take (Tryz.prog.cellsOf 42)) = some (datO H b, []) by rw [cellsInt]; exact shut_int5 b)
theorem shut_pt {H : Type} {enc : TypeId × Value → H} {w : World} {base : Nat} {spare : Nat → Bool} {held : Bool} (a b c e : Option Int) :
 DataW.Trod enc Tryz.prog w base spare held 46 (.agg (pO a b c e)) (datP H a b c e) [] := by
 refine ⟨5, ?_⟩
 show DataW.trod enc Tryz.prog w base spare held 5 46 (((oA a).toList ++ (oA b).toList) ++ ((oA c).toList ++ (oA e).toList)) = some (.agg [datR H a b, datR H c e], [] ++ [])
 refine trod_struct2_mk (y0 := (datR H a b, [])) (y1 := (datR H c e, [])) Tryz.underlying46 (by rw [cellsPoint]; rfl) ?_ ?_
 ·exact (show DataW.trod enc Tryz.prog w base spare held 4 44 (((((oA a).toList ++ (oA b).toList) ++ ((oA c).toList ++ (oA e).toList)).drop 0).take (Tryz.prog.cellsOf 44)) = some (datR H a b, []) by rw [cellsRat]; exact shut_rat10 a b)
 ·exact (show DataW.trod enc Tryz.prog w base spare held 4 44 (((((oA a).toList ++ (oA b).toList) ++ ((oA c).toList ++ (oA e).toList)).drop 10).take (Tryz.prog.cellsOf 44)) = some (datR H c e, []) by rw [cellsRat]; exact shut_rat10 c e)
end Go.Proofs.YtdfmmkidknginaaGreatDoor

namespace Go.Proofs.YtdfmmkidknginaaGreatDoor
end Go.Proofs.YtdfmmkidknginaaGreatDoor
