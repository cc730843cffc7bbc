/- limb.Gcd of any two numbers; limb.Quo and limb.Gcd where an Int may not be. -/
import Derived.Test.YtpbdhhdmnnelhaaDoorEM
import Derived.Test.YtpbdhhdmnnelhaaDoorEF
import Derived.Test.YtpbdhhdmnnelhaaDoorEO
import Derived.Test.YtpbdhhdmnnelhaaDoorCI
namespace Go.Proofs.YtpbdhhdmnnelhaaDoor
open Go.RowKit

theorem gcd_z (x y : Int) (w : World) (hx : x.natAbs < T256) (hy : y.natAbs < T256) (ht : TabTz w) (hw0 : 0 < w.heap.size) :
    Calls Tryd.prog 31 #[ivz x, ivz y] w fun e w' => e = .returned (.tuple #[ivz (Int.gcd x y : Nat), .int .i64 0]) ∧ Below w.heap.size w w' := by
  have h := gcd_of (decide (x < 0)) (decide (y < 0)) _ _ _ _ _ _ _ _ _ _ _ _ w (ivz_right x hx) (ivz_right y hy) (fun W hb => shared_any x.natAbs y.natAbs W hx hy (ht.below hw0 hb) (Nat.lt_of_lt_of_le hw0 hb.size))
  rw [show ivz (Int.gcd x y : Nat) = iv false (W64 (x.natAbs.gcd y.natAbs) 0 : Nat) (W64 (x.natAbs.gcd y.natAbs) 1 : Nat) (W64 (x.natAbs.gcd y.natAbs) 2 : Nat) (W64 (x.natAbs.gcd y.natAbs) 3 : Nat) by
    rw [ivz, Int.natAbs_natCast, decide_eq_false (by omega : ¬ ((Int.gcd x y : Nat) : Int) < 0)]; rfl]
  exact h
set_option maxHeartbeats 2000000 in
theorem quo_wrong (s t : Bool) (a0 a1 a2 a3 b0 b1 b2 b3 : Int) (w : World) (he : errAll (fun i => if i = 0 then s else t) (fun i => if i = 0 then row4 a0 a1 a2 a3 else row4 b0 b1 b2 b3) 2 = 2) :
    Calls Tryd.prog 30 #[iv s a0 a1 a2 a3, iv t b0 b1 b2 b3] w fun e w' => e = .returned (.tuple #[iv false 0 0 0 0, iv false 0 0 0 0, .int .i64 2]) ∧ Below w.heap.size w w' := by
  have HE := Lib.hid he
  clear he
  go_enter Tryd.func30, Tryd.ntmps30
  go_wp2_with fail
  generalize hW : World.alloc _ _ = W0
  have hB : Below w.heap.size w W0 := by
    rw [← hW]; exact (((((Below.refl w.heap.size w).alloc (Nat.le_refl _) _).alloc (by simp) _).alloc (by simp; omega) _).alloc (by simp; omega) _).alloc (by simp; omega) _
  have rC : Row W0 (w.heap.size + 1 + 1) [.bool false, .int .u64 0, .int .u64 0, .int .u64 0, .int .u64 0] := by
    rw [← hW]; exact ((Row.at (by simp) _ _).alloc _).alloc _
  have rD : Row W0 (w.heap.size + 1 + 1 + 1) [.bool false, .int .u64 0, .int .u64 0, .int .u64 0, .int .u64 0] := by
    rw [← hW]; exact (Row.at (by simp) _ _).alloc _
  have rE : Row W0 (w.heap.size + 1 + 1 + 1 + 1) [.bool s, .int .u64 a0, .int .u64 a1, .int .u64 a2, .int .u64 a3, .bool t, .int .u64 b0, .int .u64 b1, .int .u64 b2, .int .u64 b3] := by
    rw [← hW]; exact Row.at (by simp) _ _
  clear hW
  refine (checkAll_any _ _ 2 _ 0 2 W0 (by omega) rE.lt (two_ints rE)).mono ?_
  rintro e w1 ⟨rfl, hb1⟩
  rw [HE.out]
  replace hB := hB.trans (hb1.mono hB.size)
  replace rC := rC.after hb1
  replace rD := rD.after hb1
  clear rE hb1
  have c0 := rC.c 0 rfl
  have cf0 := rC.f 0 rfl
  have c1 := rC.c 1 rfl
  have cf1 := rC.f 1 rfl
  have c2 := rC.c 2 rfl
  have cf2 := rC.f 2 rfl
  have c3 := rC.c 3 rfl
  have cf3 := rC.f 3 rfl
  have c4 := rC.c 4 rfl
  have cf4 := rC.f 4 rfl
  have d0 := rD.c 0 rfl
  have df0 := rD.f 0 rfl
  have d1 := rD.c 1 rfl
  have df1 := rD.f 1 rfl
  have d2 := rD.c 2 rfl
  have df2 := rD.f 2 rfl
  have d3 := rD.c 3 rfl
  have df3 := rD.f 3 rfl
  have d4 := rD.c 4 rfl
  have df4 := rD.f 4 rfl
  go_wp2
  clear c0 cf0 c1 cf1 c2 cf2 c3 cf3 c4 cf4 d0 df0 d1 df1 d2 df2 d3 df3 d4 df4
  generalize hW : World.setCell _ _ _ = W8
  have rR : Row W8 (w.heap.size + 1 + 1) [.bool false, .int .u64 0, .int .u64 0, .int .u64 0, .int .u64 0] := by rw [← hW]; exact (rC.put5 _ _ _ _ _).other5 (by omega) _ _ _ _ _
  have rS : Row W8 (w.heap.size + 1 + 1 + 1) [.bool false, .int .u64 0, .int .u64 0, .int .u64 0, .int .u64 0] := by rw [← hW]; exact (rD.other5 (by omega) _ _ _ _ _).put5 _ _ _ _ _
  replace hB : Below w.heap.size w W8 := by rw [← hW]; exact below_put5 (below_put5 hB (by omega) _ _ _ _ _) (by omega) _ _ _ _ _
  clear hW rC rD
  exact bodyPost_ret (v := .tuple #[iv false 0 0 0 0, iv false 0 0 0 0, .int .i64 2]) (by simp [results, Tryd.results30, go_sem, rR.c 0 rfl, rR.c 1 rfl, rR.c 2 rfl, rR.c 3 rfl, rR.c 4 rfl, rS.c 0 rfl, rS.c 1 rfl, rS.c 2 rfl, rS.c 3 rfl, rS.c 4 rfl]) rfl ⟨rfl, hB⟩
set_option maxHeartbeats 2000000 in
theorem gcd_wrong (s t : Bool) (a0 a1 a2 a3 b0 b1 b2 b3 : Int) (w : World) (he : errAll (fun i => if i = 0 then s else t) (fun i => if i = 0 then row4 a0 a1 a2 a3 else row4 b0 b1 b2 b3) 2 = 2) :
    Calls Tryd.prog 31 #[iv s a0 a1 a2 a3, iv t b0 b1 b2 b3] w fun e w' => e = .returned (.tuple #[iv false 0 0 0 0, .int .i64 2]) ∧ Below w.heap.size w w' := by
  have HE := Lib.hid he
  clear he
  go_enter Tryd.func31, Tryd.ntmps31
  go_wp2_with fail
  generalize hW : World.alloc _ _ = W0
  have hB : Below w.heap.size w W0 := by
    rw [← hW]; exact ((((Below.refl w.heap.size w).alloc (Nat.le_refl _) _).alloc (by simp) _).alloc (by simp; omega) _).alloc (by simp; omega) _
  have rC : Row W0 (w.heap.size + 1 + 1) [.bool false, .int .u64 0, .int .u64 0, .int .u64 0, .int .u64 0] := by
    rw [← hW]; exact (Row.at (by simp) _ _).alloc _
  have rE : Row W0 (w.heap.size + 1 + 1 + 1) [.bool s, .int .u64 a0, .int .u64 a1, .int .u64 a2, .int .u64 a3, .bool t, .int .u64 b0, .int .u64 b1, .int .u64 b2, .int .u64 b3] := by
    rw [← hW]; exact Row.at (by simp) _ _
  clear hW
  refine (checkAll_any _ _ 2 _ 0 2 W0 (by omega) rE.lt (two_ints rE)).mono ?_
  rintro e w1 ⟨rfl, hb1⟩
  rw [HE.out]
  replace hB := hB.trans (hb1.mono hB.size)
  replace rC := rC.after hb1
  clear rE hb1
  have c0 := rC.c 0 rfl
  have cf0 := rC.f 0 rfl
  have c1 := rC.c 1 rfl
  have cf1 := rC.f 1 rfl
  have c2 := rC.c 2 rfl
  have cf2 := rC.f 2 rfl
  have c3 := rC.c 3 rfl
  have cf3 := rC.f 3 rfl
  have c4 := rC.c 4 rfl
  have cf4 := rC.f 4 rfl
  go_wp2
  clear c0 cf0 c1 cf1 c2 cf2 c3 cf3 c4 cf4
  generalize hW : World.setCell _ _ _ = W8
  have rR : Row W8 (w.heap.size + 1 + 1) [.bool false, .int .u64 0, .int .u64 0, .int .u64 0, .int .u64 0] := by rw [← hW]; exact rC.put5 _ _ _ _ _
  replace hB : Below w.heap.size w W8 := by rw [← hW]; exact below_put5 hB (by omega) _ _ _ _ _
  clear hW rC
  exact bodyPost_ret (v := .tuple #[iv false 0 0 0 0, .int .i64 2]) (by simp [results, Tryd.results31, go_sem, rR.c 0 rfl, rR.c 1 rfl, rR.c 2 rfl, rR.c 3 rfl, rR.c 4 rfl]) rfl ⟨rfl, hB⟩
end Go.Proofs.YtpbdhhdmnnelhaaDoor

/- LimbQuos walked where an Int may not be. -/
namespace Go.Proofs.YtpbdhhdmnnelhaaDoor
open Go.RowKit

set_option maxRecDepth 100000 in
set_option maxHeartbeats 4000000 in
theorem quos_wrong (s t : Bool) (a0 a1 a2 a3 b0 b1 b2 b3 : Int) (w : World) (ht : Tab10 w) (hz : TabTz w) (hw0 : 0 < w.heap.size)
    (he : errAll (fun i => if i = 0 then s else t) (fun i => if i = 0 then row4 a0 a1 a2 a3 else row4 b0 b1 b2 b3) 2 = 2) (hr : (rightB s a0 a1 a2 a3 && rightB t b0 b1 b2 b3) = false) :
    Calls Tryd.prog 5 #[iv s a0 a1 a2 a3, iv t b0 b1 b2 b3] w fun e w' => e = .returned (.bool true) ∧ Below w.heap.size w w' := by
  have Ht := Lib.hid ht
  have Hz := Lib.hid hz
  have hg : 0 < w.heap.size := block_lt_of_cell (Hz.out 0 (by decide))
  have HQ := Lib.hid (fun W => quo_wrong s t a0 a1 a2 a3 b0 b1 b2 b3 W he)
  have HG := Lib.hid (fun W => gcd_wrong s t a0 a1 a2 a3 b0 b1 b2 b3 W he)
  have HRa := Lib.hid (fun W => right_any s a0 a1 a2 a3 W)
  have HRb := Lib.hid (fun W => right_any t b0 b1 b2 b3 W)
  have hT := (show ∀ W : World, (binOp .eql 25 (iv false 0 0 0 0) (iv false 0 0 0 0)).run Tryd.prog W = .ok (.bool true) W from fun W => by rw [eqlInt]; simp)
  clear ht hz he
  generalize rightB s a0 a1 a2 a3 = ra at *
  generalize rightB t b0 b1 b2 b3 = rb at *
  go_enter Tryd.func5, Tryd.ntmps5
  go_wp2_with fail
  have hS : RS w [(w.heap.size, [.bool s, .int .u64 a0, .int .u64 a1, .int .u64 a2, .int .u64 a3]), (w.heap.size + 1, [.bool t, .int .u64 b0, .int .u64 b1, .int .u64 b2, .int .u64 b3])] _ :=
    ((RS.nil w).new (B := w.heap.size) rfl [.bool s, .int .u64 a0, .int .u64 a1, .int .u64 a2, .int .u64 a3] 25).new (B := w.heap.size + 1) (by simp) [.bool t, .int .u64 b0, .int .u64 b1, .int .u64 b2, .int .u64 b3] 25
  generalize World.alloc _ _ = W0 at hS ⊢
  refine (HQ.out _).mono ?_
  rintro e w1 ⟨rfl, hb1⟩
  replace hS := hS.after hb1
  clear hb1
  replace hS := (hS.new rfl [.bool false, .int .u64 0, .int .u64 0, .int .u64 0, .int .u64 0] 25).new (B := w1.heap.size + 1) (by simp) [.bool false, .int .u64 0, .int .u64 0, .int .u64 0, .int .u64 0] 25
  have i0 := hS.c 0 rfl 0 rfl
  have i1 := hS.c 0 rfl 1 rfl
  have i2 := hS.c 0 rfl 2 rfl
  have i3 := hS.c 0 rfl 3 rfl
  have i4 := hS.c 0 rfl 4 rfl
  have j0 := hS.c 1 rfl 0 rfl
  have j1 := hS.c 1 rfl 1 rfl
  have j2 := hS.c 1 rfl 2 rfl
  have j3 := hS.c 1 rfl 3 rfl
  have j4 := hS.c 1 rfl 4 rfl
  go_wp2_with fail
  clear i0 i1 i2 i3 i4 j0 j1 j2 j3 j4
  generalize World.alloc _ _ = W1 at hS ⊢
  generalize w1.heap.size = B1 at hS ⊢
  refine (HG.out _).mono ?_
  rintro e w2 ⟨rfl, hb1⟩
  replace hS := hS.after hb1
  clear hb1
  replace hS := hS.new rfl [.bool false, .int .u64 0, .int .u64 0, .int .u64 0, .int .u64 0] 25
  have i0 := hS.c 0 rfl 0 rfl
  have i1 := hS.c 0 rfl 1 rfl
  have i2 := hS.c 0 rfl 2 rfl
  have i3 := hS.c 0 rfl 3 rfl
  have i4 := hS.c 0 rfl 4 rfl
  go_wp2_with fail
  clear i0 i1 i2 i3 i4
  generalize World.alloc _ _ = W2 at hS ⊢
  generalize w2.heap.size = B2 at hS ⊢
  refine (HRa.out _).mono ?_
  rintro e w3 ⟨rfl, hb1⟩
  replace hS := hS.after hb1
  clear hb1 HQ HG HRa
  cases ra
  · clear hr HRb
    have i0 := hS.c 2 rfl 0 rfl
    have i1 := hS.c 2 rfl 1 rfl
    have i2 := hS.c 2 rfl 2 rfl
    have i3 := hS.c 2 rfl 3 rfl
    have i4 := hS.c 2 rfl 4 rfl
    have j0 := hS.c 3 rfl 0 rfl
    have j1 := hS.c 3 rfl 1 rfl
    have j2 := hS.c 3 rfl 2 rfl
    have j3 := hS.c 3 rfl 3 rfl
    have j4 := hS.c 3 rfl 4 rfl
    have k0 := hS.c 4 rfl 0 rfl
    have k1 := hS.c 4 rfl 1 rfl
    have k2 := hS.c 4 rfl 2 rfl
    have k3 := hS.c 4 rfl 3 rfl
    have k4 := hS.c 4 rfl 4 rfl
    go_wp2_with fail
    clear i0 i1 i2 i3 i4 j0 j1 j2 j3 j4 k0 k1 k2 k3 k4
    refine (num_any _ _).mono ?_
    rintro e w5 ⟨rfl, hb1⟩
    replace hS := hS.after hb1
    clear hb1
    go_wp2_with fail
    refine (num_any _ _).mono ?_
    rintro e w6 ⟨rfl, hb1⟩
    replace hS := hS.after hb1
    clear hb1
    go_wp2_with fail
    have hb := hS.2
    refine (works_true _ (Ht.out.below hb) (Hz.out.below hg hb) (Nat.lt_of_lt_of_le hw0 hb.size)).mono ?_
    rintro e w10 ⟨rfl, hb1⟩
    have HB := Lib.hid (hb.trans (hb1.mono hb.size))
    clear hb hb1 hS
    go_wp2_with fail
    go_ret
    exact ⟨rfl, HB.out⟩
  · rw [Bool.true_and] at hr
    subst hr
    have i0 := hS.c 1 rfl 0 rfl
    have i1 := hS.c 1 rfl 1 rfl
    have i2 := hS.c 1 rfl 2 rfl
    have i3 := hS.c 1 rfl 3 rfl
    have i4 := hS.c 1 rfl 4 rfl
    go_wp2_with fail
    clear i0 i1 i2 i3 i4
    refine (HRb.out _).mono ?_
    rintro e w4 ⟨rfl, hb1⟩
    replace hS := hS.after hb1
    clear hb1 HRb
    have i0 := hS.c 2 rfl 0 rfl
    have i1 := hS.c 2 rfl 1 rfl
    have i2 := hS.c 2 rfl 2 rfl
    have i3 := hS.c 2 rfl 3 rfl
    have i4 := hS.c 2 rfl 4 rfl
    have j0 := hS.c 3 rfl 0 rfl
    have j1 := hS.c 3 rfl 1 rfl
    have j2 := hS.c 3 rfl 2 rfl
    have j3 := hS.c 3 rfl 3 rfl
    have j4 := hS.c 3 rfl 4 rfl
    have k0 := hS.c 4 rfl 0 rfl
    have k1 := hS.c 4 rfl 1 rfl
    have k2 := hS.c 4 rfl 2 rfl
    have k3 := hS.c 4 rfl 3 rfl
    have k4 := hS.c 4 rfl 4 rfl
    go_wp2_with fail
    clear i0 i1 i2 i3 i4 j0 j1 j2 j3 j4 k0 k1 k2 k3 k4
    refine (num_any _ _).mono ?_
    rintro e w5 ⟨rfl, hb1⟩
    replace hS := hS.after hb1
    clear hb1
    go_wp2_with fail
    refine (num_any _ _).mono ?_
    rintro e w6 ⟨rfl, hb1⟩
    replace hS := hS.after hb1
    clear hb1
    go_wp2_with fail
    have hb := hS.2
    refine (works_true _ (Ht.out.below hb) (Hz.out.below hg hb) (Nat.lt_of_lt_of_le hw0 hb.size)).mono ?_
    rintro e w10 ⟨rfl, hb1⟩
    have HB := Lib.hid (hb.trans (hb1.mono hb.size))
    clear hb hb1 hS
    go_wp2_with fail
    go_ret
    exact ⟨rfl, HB.out⟩
end Go.Proofs.YtpbdhhdmnnelhaaDoor

/- What calls of limb answer of Ints of any kind, told by their numbers: pure. -/
namespace Go.Proofs.YtpbdhhdmnnelhaaDoor
open Go.RowKit

/-- A sum of two Ints of any kind (none: the one that may not be), and its error. -/
def addP : Option Int → Option Int → Int × Int
  | some x, some y => if (x + y).natAbs < T256 then (x + y, 0) else (0, 110)
  | _, _ => (0, 2)
def mulP : Option Int → Option Int → Int × Int
  | some x, some y => if (x * y).natAbs < T256 then (x * y, 0) else (0, 110)
  | _, _ => (0, 2)
def mulQ : Option Int → Option Int → Option Int → Int × Int
  | some x, some y, some z => if (x * y).natAbs < T256 then (if (x * y * z).natAbs < T256 then (x * y * z, 0) else (0, 110)) else (0, 110)
  | _, _, _ => (0, 2)
theorem T256_pos : (0 : Int).natAbs < T256 := by decide
theorem bd_no : (0 : Int).natAbs < T256 ∧ (0 : Int) ≤ 2 ∧ (2 : Int) ≤ 110 := ⟨by decide, by decide, by decide⟩
theorem bd_over : (0 : Int).natAbs < T256 ∧ (0 : Int) ≤ 110 ∧ (110 : Int) ≤ 110 := ⟨by decide, by decide, by decide⟩
theorem bd_ok {z : Int} (h : z.natAbs < T256) : z.natAbs < T256 ∧ (0 : Int) ≤ 0 ∧ (0 : Int) ≤ 110 := ⟨h, by decide, by decide⟩
theorem addP_comm (x y : Option Int) : addP x y = addP y x := by
  cases x <;> cases y <;> simp [addP, Int.add_comm]
theorem addP_bd (x y : Option Int) : (addP x y).1.natAbs < T256 ∧ 0 ≤ (addP x y).2 ∧ (addP x y).2 ≤ 110 := by
  cases x with
  | none => exact bd_no
  | some x => cases y with
    | none => exact bd_no
    | some y =>
      rw [addP]
      split
      · exact bd_ok (by assumption)
      · exact bd_over
theorem mulP_bd (x y : Option Int) : (mulP x y).1.natAbs < T256 ∧ 0 ≤ (mulP x y).2 ∧ (mulP x y).2 ≤ 110 := by
  cases x with
  | none => exact bd_no
  | some x => cases y with
    | none => exact bd_no
    | some y =>
      rw [mulP]
      split
      · exact bd_ok (by assumption)
      · exact bd_over
theorem mulQ_bd (x y z : Option Int) : (mulQ x y z).1.natAbs < T256 ∧ 0 ≤ (mulQ x y z).2 ∧ (mulQ x y z).2 ≤ 110 := by
  cases x with
  | none => exact bd_no
  | some x => cases y with
    | none => exact bd_no
    | some y => cases z with
      | none => exact bd_no
      | some z =>
        rw [mulQ]
        split
        · split
          · exact bd_ok (by assumption)
          · exact bd_over
        · exact bd_over
theorem addP_ok {x y : Option Int} (h : (addP x y).2 = 0) : ∃ a b, x = some a ∧ y = some b ∧ (addP x y).1 = a + b := by
  cases x with
  | none => exact absurd (show (2 : Int) = 0 from h) (by decide)
  | some x => cases y with
    | none => exact absurd (show (2 : Int) = 0 from h) (by decide)
    | some y =>
      rw [addP] at h
      split at h
      · exact ⟨x, y, rfl, rfl, by rw [addP, if_pos (by assumption)]⟩
      · exact absurd (show (110 : Int) = 0 from h) (by decide)
theorem mulP_ok {x y : Option Int} (h : (mulP x y).2 = 0) : ∃ a b, x = some a ∧ y = some b ∧ (mulP x y).1 = a * b := by
  cases x with
  | none => exact absurd (show (2 : Int) = 0 from h) (by decide)
  | some x => cases y with
    | none => exact absurd (show (2 : Int) = 0 from h) (by decide)
    | some y =>
      rw [mulP] at h
      split at h
      · exact ⟨x, y, rfl, rfl, by rw [mulP, if_pos (by assumption)]⟩
      · exact absurd (show (110 : Int) = 0 from h) (by decide)
theorem mulQ_ok {x y z : Option Int} (h : (mulQ x y z).2 = 0) : ∃ a b c, x = some a ∧ y = some b ∧ z = some c ∧ (mulQ x y z).1 = a * b * c := by
  cases x with
  | none => exact absurd (show (2 : Int) = 0 from h) (by decide)
  | some x => cases y with
    | none => exact absurd (show (2 : Int) = 0 from h) (by decide)
    | some y => cases z with
      | none => exact absurd (show (2 : Int) = 0 from h) (by decide)
      | some z =>
        rw [mulQ] at h
        split at h
        · split at h
          · exact ⟨x, y, z, rfl, rfl, rfl, by rw [mulQ, if_pos (by assumption), if_pos (by assumption)]⟩
          · exact absurd (show (110 : Int) = 0 from h) (by decide)
        · exact absurd (show (110 : Int) = 0 from h) (by decide)
theorem mulQ_rev {x y z : Option Int} (h : (mulQ x y z).2 = 0) (h' : (mulQ z y x).2 = 0) : (mulQ x y z).1 = (mulQ z y x).1 := by
  obtain ⟨a, b, c, rfl, rfl, rfl, e⟩ := mulQ_ok h
  obtain ⟨_, _, _, e1, e2, e3, e'⟩ := mulQ_ok h'
  cases e1; cases e2; cases e3
  rw [e, e', Int.mul_comm (c * b) a, Int.mul_comm c b, Int.mul_assoc]
theorem distr {a b c : Option Int} (h1 : (addP a b).2 = 0) (h2 : (mulP (some (addP a b).1) c).2 = 0) (h3 : (mulP a c).2 = 0) (h4 : (mulP b c).2 = 0)
    (h5 : (addP (some (mulP a c).1) (some (mulP b c).1)).2 = 0) : (mulP (some (addP a b).1) c).1 = (addP (some (mulP a c).1) (some (mulP b c).1)).1 := by
  obtain ⟨_, _, e1, e2, e⟩ := addP_ok h5
  cases e1; cases e2
  obtain ⟨x, z, rfl, rfl, e3⟩ := mulP_ok h3
  obtain ⟨y, _, rfl, e4, e5⟩ := mulP_ok h4
  cases e4
  obtain ⟨_, _, e6, e7, e8⟩ := mulP_ok h2
  cases e6; cases e7
  obtain ⟨_, _, e9, e10, e11⟩ := addP_ok h1
  cases e9; cases e10
  rw [e, e3, e5, e8, e11, Int.add_mul]

/-- Where an Int of any kind lies. -/
def sgO : Option Int → Bool
  | some z => decide (z < 0)
  | none => true
def mgO : Option Int → Nat → Nat
  | some z, i => W64 z.natAbs i
  | none, _ => 0
def vO (o : Option Int) : Value := iv (sgO o) (mgO o 0 : Nat) (mgO o 1 : Nat) (mgO o 2 : Nat) (mgO o 3 : Nat)
def okO : Option Int → Prop
  | some z => z.natAbs < T256
  | none => True
theorem vO_some (z : Int) : vO (some z) = ivz z := rfl
theorem mgO_bd (o : Option Int) (i : Nat) : mgO o i < 18446744073709551616 := by
  cases o with
  | some z => have := (W64_bd z.natAbs i).2; unfold B64 at this; show W64 _ _ < _; omega
  | none => exact (show (0 : Nat) < 18446744073709551616 by decide)
theorem rightB_O (o : Option Int) (h : okO o) : rightB (sgO o) (mgO o 0 : Nat) (mgO o 1 : Nat) (mgO o 2 : Nat) (mgO o 3 : Nat) = o.isSome := by
  cases o with
  | some z =>
    have h := ivz_right z h
    show rightB (decide (z < 0)) (W64 z.natAbs 0 : Nat) (W64 z.natAbs 1 : Nat) (W64 z.natAbs 2 : Nat) (W64 z.natAbs 3 : Nat) = true
    unfold rightB
    rw [h]; rfl
  | none => rfl
/-- The words of Ints of any kind, as a slice's. -/
def sgs (os : Nat → Option Int) (k : Nat) : Bool := sgO (os k)
def mgs (os : Nat → Option Int) (k : Nat) : Nat → Int := fun i => (mgO (os k) i : Nat)
theorem mgs_BdF (os : Nat → Option Int) (k : Nat) : BdF (mgs os k) := fun i => ⟨Int.natCast_nonneg _, by have := mgO_bd (os k) i; unfold mgs B64; omega⟩
def zsO (os : Nat → Option Int) (k : Nat) : Int := (os k).getD 0
/-- What a call answers of so many Ints. -/
theorem after_O {st : StepR} {op : Int → Int → Int} (hst : StepNum st op) {s0 : Bool} {x0 : Nat → Int} {z0 : Int} (h0 : RN s0 x0 z0) (os : Nat → Option Int) (n : Nat) (hok : ∀ i, i < n → okO (os i)) :
    afterR st (sgs os) (mgs os) s0 x0 n = if (∀ i, i < n → (os i).isSome = true) then ansz (zfold op (zsO os) z0 n) else .tuple #[ivz 0, .int .i64 2] := by
  by_cases h : ∀ i, i < n → (os i).isSome = true
  · rw [if_pos h]
    refine after_num hst h0 n (fun i hi => ?_)
    have h1 := h i hi
    have h2 := hok i hi
    unfold sgs mgs zsO
    cases hq : os i with
    | none => rw [hq] at h1; cases h1
    | some z =>
      rw [hq] at h2
      exact RN.of h2 (fun i => W64_bd _ i) (fun i _ => rfl)
  · rw [if_neg h]
    have hr : rightAll (sgs os) (mgs os) n = false := by
      cases hq : rightAll (sgs os) (mgs os) n
      · rfl
      · exfalso
        apply h
        intro i hi
        have := rightAll_iff.1 hq i hi
        rw [← rightB_O (os i) (hok i hi)]
        exact this
    have he : errAll (sgs os) (mgs os) n = 2 := by rw [rightAll_err, hr]; rfl
    rw [afterR, if_neg (by rw [he]; decide), he, ← ivz_nought]
end Go.Proofs.YtpbdhhdmnnelhaaDoor

/- Contracts of limb.Add and limb.Mul of two or three Ints of any kind, of limb.Quo, limb.Gcd, limb.Neg likewise. -/
namespace Go.Proofs.YtpbdhhdmnnelhaaDoor
open Go.RowKit

def osTwo (x y : Option Int) (i : Nat) : Option Int := if i = 0 then x else y
def osThree (x y z : Option Int) (i : Nat) : Option Int := if i = 0 then x else if i = 1 then y else z
/-- The cells of an Int of any kind. -/
theorem two_O {w : World} {b : Nat} {x y : Option Int}
    (h : Row w b [.bool (sgO x), .int .u64 (mgO x 0 : Nat), .int .u64 (mgO x 1 : Nat), .int .u64 (mgO x 2 : Nat), .int .u64 (mgO x 3 : Nat), .bool (sgO y), .int .u64 (mgO y 0 : Nat), .int .u64 (mgO y 1 : Nat), .int .u64 (mgO y 2 : Nat), .int .u64 (mgO y 3 : Nat)]) :
    IntsAt w b 0 2 (sgs (osTwo x y)) (mgs (osTwo x y)) := by
  intro i hi
  match i, hi with
  | 0, _ => exact ⟨h.c 0 rfl, h.c 1 rfl, h.c 2 rfl, h.c 3 rfl, h.c 4 rfl⟩
  | 1, _ => exact ⟨h.c 5 rfl, h.c 6 rfl, h.c 7 rfl, h.c 8 rfl, h.c 9 rfl⟩
theorem three_O {w : World} {b : Nat} {x y z : Option Int}
    (h : Row w b [.bool (sgO x), .int .u64 (mgO x 0 : Nat), .int .u64 (mgO x 1 : Nat), .int .u64 (mgO x 2 : Nat), .int .u64 (mgO x 3 : Nat), .bool (sgO y), .int .u64 (mgO y 0 : Nat), .int .u64 (mgO y 1 : Nat), .int .u64 (mgO y 2 : Nat), .int .u64 (mgO y 3 : Nat), .bool (sgO z), .int .u64 (mgO z 0 : Nat), .int .u64 (mgO z 1 : Nat), .int .u64 (mgO z 2 : Nat), .int .u64 (mgO z 3 : Nat)]) :
    IntsAt w b 0 3 (sgs (osThree x y z)) (mgs (osThree x y z)) := by
  intro i hi
  match i, hi with
  | 0, _ => exact ⟨h.c 0 rfl, h.c 1 rfl, h.c 2 rfl, h.c 3 rfl, h.c 4 rfl⟩
  | 1, _ => exact ⟨h.c 5 rfl, h.c 6 rfl, h.c 7 rfl, h.c 8 rfl, h.c 9 rfl⟩
  | 2, _ => exact ⟨h.c 10 rfl, h.c 11 rfl, h.c 12 rfl, h.c 13 rfl, h.c 14 rfl⟩
theorem some_two (x y : Option Int) : (∀ i, i < 2 → (osTwo x y i).isSome = true) ↔ x.isSome = true ∧ y.isSome = true :=
  ⟨fun h => ⟨h 0 (by decide), h 1 (by decide)⟩, fun h i hi => by match i, hi with | 0, _ => exact h.1 | 1, _ => exact h.2⟩
theorem some_three (x y z : Option Int) : (∀ i, i < 3 → (osThree x y z i).isSome = true) ↔ x.isSome = true ∧ y.isSome = true ∧ z.isSome = true :=
  ⟨fun h => ⟨h 0 (by decide), h 1 (by decide), h 2 (by decide)⟩, fun h i hi => by match i, hi with | 0, _ => exact h.1 | 1, _ => exact h.2.1 | 2, _ => exact h.2.2⟩
theorem sum_two (x y : Int) (hx : x.natAbs < T256) : zfold (fun a b => a + b) (zsO (osTwo (some x) (some y))) 0 2 = if (x + y).natAbs < T256 then some (x + y) else none := by
  have h1 : zfold (fun a b => a + b) (zsO (osTwo (some x) (some y))) 0 1 = some x := by
    have h := zfold_some (op := fun a b => a + b) (zs := zsO (osTwo (some x) (some y))) (z0 := 0) (z := 0) (k := 0) rfl (by show (0 + x).natAbs < T256; rw [Int.zero_add]; exact hx)
    rw [h]; show some (0 + x) = _; rw [Int.zero_add]
  by_cases hf : (x + y).natAbs < T256
  · rw [if_pos hf]; exact zfold_some (op := fun a b => a + b) (k := 1) h1 hf
  · rw [if_neg hf]; exact zfold_stop (op := fun a b => a + b) (k := 1) (n := 2) h1 hf (by omega)
theorem prod_first (zs : Nat → Int) (x : Int) (h0 : zs 0 = x) (hx : x.natAbs < T256) : zfold (fun a b => a * b) zs 1 1 = some x := by
  have h := zfold_some (op := fun a b => a * b) (zs := zs) (z0 := 1) (z := 1) (k := 0) rfl (by show (1 * zs 0).natAbs < T256; rw [Int.one_mul, h0]; exact hx)
  rw [h]; show some (1 * zs 0) = _; rw [Int.one_mul, h0]
theorem prod_two (x y : Int) (hx : x.natAbs < T256) : zfold (fun a b => a * b) (zsO (osTwo (some x) (some y))) 1 2 = if (x * y).natAbs < T256 then some (x * y) else none := by
  have h1 := prod_first (zsO (osTwo (some x) (some y))) x rfl hx
  by_cases hf : (x * y).natAbs < T256
  · rw [if_pos hf]; exact zfold_some (op := fun a b => a * b) (k := 1) h1 hf
  · rw [if_neg hf]; exact zfold_stop (op := fun a b => a * b) (k := 1) (n := 2) h1 hf (by omega)
theorem prod_three (x y z : Int) (hx : x.natAbs < T256) : zfold (fun a b => a * b) (zsO (osThree (some x) (some y) (some z))) 1 3 = if (x * y).natAbs < T256 then (if (x * y * z).natAbs < T256 then some (x * y * z) else none) else none := by
  have h1 := prod_first (zsO (osThree (some x) (some y) (some z))) x rfl hx
  by_cases hf : (x * y).natAbs < T256
  · rw [if_pos hf]
    have h2 : zfold (fun a b => a * b) (zsO (osThree (some x) (some y) (some z))) 1 2 = some (x * y) := zfold_some (op := fun a b => a * b) (k := 1) h1 hf
    by_cases hg : (x * y * z).natAbs < T256
    · rw [if_pos hg]; exact zfold_some (op := fun a b => a * b) (k := 2) h2 hg
    · rw [if_neg hg]; exact zfold_stop (op := fun a b => a * b) (k := 2) (n := 3) h2 hg (by omega)
  · rw [if_neg hf]; exact zfold_stop (op := fun a b => a * b) (k := 1) (n := 3) h1 hf (by omega)
theorem sum_ans (x y : Option Int) (hx : okO x) (hy : okO y) : afterR plusR (sgs (osTwo x y)) (mgs (osTwo x y)) false (fun _ => 0) 2 = .tuple #[ivz (addP x y).1, .int .i64 (addP x y).2] := by
  rw [after_O step_plus zero_num (osTwo x y) 2 (fun i hi => by match i, hi with | 0, _ => exact hx | 1, _ => exact hy)]
  cases x with
  | none => rw [if_neg (fun h => by cases ((some_two _ _).1 h).1)]; rfl
  | some x => cases y with
    | none => rw [if_neg (fun h => by cases ((some_two _ _).1 h).2)]; rfl
    | some y =>
      rw [if_pos ((some_two _ _).2 ⟨rfl, rfl⟩), sum_two x y hx, addP]
      by_cases h : (x + y).natAbs < T256
      · rw [if_pos h, if_pos h]; rfl
      · rw [if_neg h, if_neg h]; rfl
theorem prod_ans (x y : Option Int) (hx : okO x) (hy : okO y) : afterR timesR (sgs (osTwo x y)) (mgs (osTwo x y)) false oneF 2 = .tuple #[ivz (mulP x y).1, .int .i64 (mulP x y).2] := by
  rw [after_O step_times one_num (osTwo x y) 2 (fun i hi => by match i, hi with | 0, _ => exact hx | 1, _ => exact hy)]
  cases x with
  | none => rw [if_neg (fun h => by cases ((some_two _ _).1 h).1)]; rfl
  | some x => cases y with
    | none => rw [if_neg (fun h => by cases ((some_two _ _).1 h).2)]; rfl
    | some y =>
      rw [if_pos ((some_two _ _).2 ⟨rfl, rfl⟩), prod_two x y hx, mulP]
      by_cases h : (x * y).natAbs < T256
      · rw [if_pos h, if_pos h]; rfl
      · rw [if_neg h, if_neg h]; rfl
theorem prod3_ans (x y z : Option Int) (hx : okO x) (hy : okO y) (hz : okO z) : afterR timesR (sgs (osThree x y z)) (mgs (osThree x y z)) false oneF 3 = .tuple #[ivz (mulQ x y z).1, .int .i64 (mulQ x y z).2] := by
  rw [after_O step_times one_num (osThree x y z) 3 (fun i hi => by match i, hi with | 0, _ => exact hx | 1, _ => exact hy | 2, _ => exact hz)]
  cases x with
  | none => rw [if_neg (fun h => by cases ((some_three _ _ _).1 h).1)]; rfl
  | some x => cases y with
    | none => rw [if_neg (fun h => by cases ((some_three _ _ _).1 h).2.1)]; rfl
    | some y => cases z with
      | none => rw [if_neg (fun h => by cases ((some_three _ _ _).1 h).2.2)]; rfl
      | some z =>
        rw [if_pos ((some_three _ _ _).2 ⟨rfl, rfl, rfl⟩), prod_three x y z hx, mulQ]
        by_cases h : (x * y).natAbs < T256
        · rw [if_pos h, if_pos h]
          by_cases h2 : (x * y * z).natAbs < T256
          · rw [if_pos h2, if_pos h2]; rfl
          · rw [if_neg h2, if_neg h2]; rfl
        · rw [if_neg h, if_neg h]; rfl
theorem add_O (x y : Option Int) (b c : Nat) (w : World) (hx : okO x) (hy : okO y)
    (hr : Row w b [.bool (sgO x), .int .u64 (mgO x 0 : Nat), .int .u64 (mgO x 1 : Nat), .int .u64 (mgO x 2 : Nat), .int .u64 (mgO x 3 : Nat), .bool (sgO y), .int .u64 (mgO y 0 : Nat), .int .u64 (mgO y 1 : Nat), .int .u64 (mgO y 2 : Nat), .int .u64 (mgO y 3 : Nat)]) :
    Calls Tryd.prog 22 #[.slice (some ⟨b, 0, none⟩) 2 c] w fun e w' => e = .returned (.tuple #[ivz (addP x y).1, .int .i64 (addP x y).2]) ∧ Below w.heap.size w w' := by
  have h := add_any b 0 2 c _ _ w (by decide) hr.lt (two_O hr) (mgs_BdF _)
  rw [sum_ans x y hx hy] at h
  exact h
theorem mul_O (x y : Option Int) (b c : Nat) (w : World) (hx : okO x) (hy : okO y)
    (hr : Row w b [.bool (sgO x), .int .u64 (mgO x 0 : Nat), .int .u64 (mgO x 1 : Nat), .int .u64 (mgO x 2 : Nat), .int .u64 (mgO x 3 : Nat), .bool (sgO y), .int .u64 (mgO y 0 : Nat), .int .u64 (mgO y 1 : Nat), .int .u64 (mgO y 2 : Nat), .int .u64 (mgO y 3 : Nat)]) :
    Calls Tryd.prog 23 #[.slice (some ⟨b, 0, none⟩) 2 c] w fun e w' => e = .returned (.tuple #[ivz (mulP x y).1, .int .i64 (mulP x y).2]) ∧ Below w.heap.size w w' := by
  have h := mul_any b 0 2 c _ _ w (by decide) hr.lt (two_O hr) (mgs_BdF _)
  rw [prod_ans x y hx hy] at h
  exact h
theorem mul3_O (x y z : Option Int) (b c : Nat) (w : World) (hx : okO x) (hy : okO y) (hz : okO z)
    (hr : Row w b [.bool (sgO x), .int .u64 (mgO x 0 : Nat), .int .u64 (mgO x 1 : Nat), .int .u64 (mgO x 2 : Nat), .int .u64 (mgO x 3 : Nat), .bool (sgO y), .int .u64 (mgO y 0 : Nat), .int .u64 (mgO y 1 : Nat), .int .u64 (mgO y 2 : Nat), .int .u64 (mgO y 3 : Nat), .bool (sgO z), .int .u64 (mgO z 0 : Nat), .int .u64 (mgO z 1 : Nat), .int .u64 (mgO z 2 : Nat), .int .u64 (mgO z 3 : Nat)]) :
    Calls Tryd.prog 23 #[.slice (some ⟨b, 0, none⟩) 3 c] w fun e w' => e = .returned (.tuple #[ivz (mulQ x y z).1, .int .i64 (mulQ x y z).2]) ∧ Below w.heap.size w w' := by
  have h := mul_any b 0 3 c _ _ w (by decide) hr.lt (three_O hr) (mgs_BdF _)
  rw [prod3_ans x y z hx hy hz] at h
  exact h
end Go.Proofs.YtpbdhhdmnnelhaaDoor
