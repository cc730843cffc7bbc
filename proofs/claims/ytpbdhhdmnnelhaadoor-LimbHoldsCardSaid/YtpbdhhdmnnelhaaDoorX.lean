/- Contract of package limb's Cmp. -/
import Derived.Test.YtpbdhhdmnnelhaaDoorE
namespace Go.Proofs.YtpbdhhdmnnelhaaDoor
open Go.RowKit

theorem order_rows (o o' p q k k' : Nat) (a b c d a' b' c' d' : Int) (w : World)
    (h0 : w.cell? ⟨p, o, none⟩ = some (.int .u64 a)) (h1 : w.cell? ⟨p, o + 1, none⟩ = some (.int .u64 b)) (h2 : w.cell? ⟨p, o + 2, none⟩ = some (.int .u64 c)) (h3 : w.cell? ⟨p, o + 3, none⟩ = some (.int .u64 d))
    (g0 : w.cell? ⟨q, o', none⟩ = some (.int .u64 a')) (g1 : w.cell? ⟨q, o' + 1, none⟩ = some (.int .u64 b')) (g2 : w.cell? ⟨q, o' + 2, none⟩ = some (.int .u64 c')) (g3 : w.cell? ⟨q, o' + 3, none⟩ = some (.int .u64 d')) :
    Calls Tryd.prog 58 #[.slice (some ⟨p, o, none⟩) 4 k, .slice (some ⟨q, o', none⟩) 4 k'] w fun e w' => e = .returned (.int .i64 (ordW a b c d a' b' c' d')) ∧ ∃ k, w' = w.drewN k := by
  rw [← ordF_row4]
  refine order_any _ _ 4 p o q o' k k' w (by omega) (fun i hi => ?_) (fun i hi => ?_)
  · match i, hi with
    | 0, _ => exact h0
    | 1, _ => exact h1
    | 2, _ => exact h2
    | 3, _ => exact h3
  · match i, hi with
    | 0, _ => exact g0
    | 1, _ => exact g1
    | 2, _ => exact g2
    | 3, _ => exact g3

/-- What Cmp tells of Ints that may be. -/
def cmpS (s t : Bool) (a b c d a' b' c' d' : Int) : Int :=
  match s, t with
  | true, true => ordW a' b' c' d' a b c d
  | true, false => -1
  | false, true => 1
  | false, false => ordW a b c d a' b' c' d'
def cmpE (s t : Bool) (a b c d a' b' c' d' : Int) : Value :=
  if (s && zeroB a b c d || t && zeroB a' b' c' d') = true then .tuple #[.int .i64 0, .int .i64 2] else .tuple #[.int .i64 (cmpS s t a b c d a' b' c' d'), .int .i64 0]

set_option maxHeartbeats 1000000 in
theorem cmp_bad (s t : Bool) (a0 a1 a2 a3 b0 b1 b2 b3 : Int) (w : World) (h : errAll (fun i => if i = 0 then s else t) (fun i => if i = 0 then row4 a0 a1 a2 a3 else row4 b0 b1 b2 b3) 2 = 2) :
    Calls Tryd.prog 34 #[iv s a0 a1 a2 a3, iv t b0 b1 b2 b3] w fun e w' => e = .returned (.tuple #[.int .i64 0, .int .i64 2]) ∧ Below w.heap.size w w' := by
  have HE := Lib.hid h
  clear h
  go_enter Tryd.func34, Tryd.ntmps34
  go_wp2_with fail
  generalize hW : World.alloc _ _ = W0
  have hB : Below w.heap.size w W0 := by
    rw [← hW]; exact (((Below.refl w.heap.size w).alloc (Nat.le_refl _) _).alloc (by simp) _).alloc (by simp; omega) _
  have rE : Row W0 (w.heap.size + 1 + 1) [.bool s, .int .u64 a0, .int .u64 a1, .int .u64 a2, .int .u64 a3, .bool t, .int .u64 b0, .int .u64 b1, .int .u64 b2, .int .u64 b3] := by
    rw [← hW]; exact Row.at (by simp) _ _
  clear hW
  refine (checkAll_any _ _ 2 _ 0 2 W0 (by omega) rE.lt (two_ints rE)).mono ?_
  rintro e w1 ⟨rfl, hb1⟩
  rw [HE.out]
  replace hB := hB.trans (hb1.mono hB.size)
  clear rE hb1 HE
  go_wp2_with fail
  go_ret2
  exact ⟨rfl, hB⟩

set_option maxHeartbeats 1000000 in
theorem cmp_any (s t : Bool) (a0 a1 a2 a3 b0 b1 b2 b3 : Int) (w : World) :
    Calls Tryd.prog 34 #[iv s a0 a1 a2 a3, iv t b0 b1 b2 b3] w fun e w' => e = .returned (cmpE s t a0 a1 a2 a3 b0 b1 b2 b3) ∧ Below w.heap.size w w' := by
  by_cases hs : (s && zeroB a0 a1 a2 a3) = false
  · by_cases ht : (t && zeroB b0 b1 b2 b3) = false
    · have HE := Lib.hid (show errAll (fun i => if i = 0 then s else t) (fun i => if i = 0 then row4 a0 a1 a2 a3 else row4 b0 b1 b2 b3) 2 = 0 by rw [errAll_two, errArg_ok hs, if_pos rfl, errArg_ok ht])
      have HC := Lib.hid (show cmpE s t a0 a1 a2 a3 b0 b1 b2 b3 = .tuple #[.int .i64 (cmpS s t a0 a1 a2 a3 b0 b1 b2 b3), .int .i64 0] by simp only [cmpE, hs, ht]; rfl)
      rw [HC.out]
      clear hs ht HC
      go_enter Tryd.func34, Tryd.ntmps34
      go_wp2_with fail
      generalize hW : World.alloc _ _ = W0
      have hB : Below w.heap.size w W0 := by
        rw [← hW]; exact (((Below.refl w.heap.size w).alloc (Nat.le_refl _) _).alloc (by simp) _).alloc (by simp; omega) _
      have rA : Row W0 w.heap.size [.bool s, .int .u64 a0, .int .u64 a1, .int .u64 a2, .int .u64 a3] := by
        rw [← hW]; exact ((Row.at rfl _ _).alloc _).alloc _
      have rB : Row W0 (w.heap.size + 1) [.bool t, .int .u64 b0, .int .u64 b1, .int .u64 b2, .int .u64 b3] := by
        rw [← hW]; exact (Row.at (by simp) _ _).alloc _
      have rE : Row W0 (w.heap.size + 1 + 1) [.bool s, .int .u64 a0, .int .u64 a1, .int .u64 a2, .int .u64 a3, .bool t, .int .u64 b0, .int .u64 b1, .int .u64 b2, .int .u64 b3] := by
        rw [← hW]; exact Row.at (by simp) _ _
      clear hW
      refine (checkAll_any _ _ 2 _ 0 2 W0 (by omega) rE.lt (two_ints rE)).mono ?_
      rintro e w1 ⟨rfl, hb1⟩
      rw [HE.out]
      replace hB := hB.trans (hb1.mono hB.size)
      replace rA := rA.after hb1
      replace rB := rB.after hb1
      clear rE hb1 HE
      have i0 := rA.c 0 rfl
      have i1 := rA.c 1 rfl
      have i2 := rA.c 2 rfl
      have i3 := rA.c 3 rfl
      have i4 := rA.c 4 rfl
      have j0 := rB.c 0 rfl
      have j1 := rB.c 1 rfl
      have j2 := rB.c 2 rfl
      have j3 := rB.c 3 rfl
      have j4 := rB.c 4 rfl
      clear rA rB
      cases s <;> cases t
      · go_wp2_with fail
        go_quiet ((go_at_call 58; refine Calls.quiet_of (order_rows 1 1 _ _ _ _ a0 a1 a2 a3 b0 b1 b2 b3 _ ?_ ?_ ?_ ?_ ?_ ?_ ?_ ?_) <;> go_simp))
        go_wp2
        go_ret2
        exact ⟨rfl, below_drewN hB nq⟩
      · go_wp2_with fail
        go_ret2
        exact ⟨rfl, hB⟩
      · go_wp2_with fail
        go_ret2
        exact ⟨rfl, hB⟩
      · go_wp2_with fail
        go_quiet ((go_at_call 58; refine Calls.quiet_of (order_rows 1 1 _ _ _ _ b0 b1 b2 b3 a0 a1 a2 a3 _ ?_ ?_ ?_ ?_ ?_ ?_ ?_ ?_) <;> go_simp))
        go_wp2
        go_ret2
        exact ⟨rfl, below_drewN hB nq⟩
    · have ht' : (t && zeroB b0 b1 b2 b3) = true := by simpa using ht
      have h0 : errArg s a0 a1 a2 a3 = 0 := errArg_ok hs
      have h1 : errArg t b0 b1 b2 b3 = 2 := by simp only [errArg, ht', if_true]
      rw [show cmpE s t a0 a1 a2 a3 b0 b1 b2 b3 = .tuple #[.int .i64 0, .int .i64 2] by simp only [cmpE, ht', Bool.or_true, if_true]]
      exact cmp_bad s t a0 a1 a2 a3 b0 b1 b2 b3 w (by rw [errAll_two, h0, if_pos rfl, h1])
  · have hs' : (s && zeroB a0 a1 a2 a3) = true := by simpa using hs
    have h0 : errArg s a0 a1 a2 a3 = 2 := by simp only [errArg, hs', if_true]
    rw [show cmpE s t a0 a1 a2 a3 b0 b1 b2 b3 = .tuple #[.int .i64 0, .int .i64 2] by simp only [cmpE, hs', Bool.true_or, if_true]]
    exact cmp_bad s t a0 a1 a2 a3 b0 b1 b2 b3 w (by rw [errAll_two, h0]; rfl)
end Go.Proofs.YtpbdhhdmnnelhaaDoor
