import Derived.Test.YtongeeggaigepaaGreatDoorZKkBase
import Derived.Deep.RegionHeld3
namespace Go.Proofs.YtongeeggaigepaaGreatDoor
open Go.RowKit
theorem isSome_setCell (w : World) (a b : Addr) (v : Value) : ((w.setCell a v).cell? b).isSome = (w.cell? b).isSome := by
 unfold World.cell? World.setCell
 simp only [Array.getElem?_modify]
 by_cases e : a.block = b.block
 ·rw [if_pos e]
  cases w.heap[b.block]? with
  | none => rfl
  | some o =>
    cases o with
    | cells c t f =>
      simp only [Option.map_some]
      by_cases e2 : b.spot.isSome = true
      ·simp [e2]
      ·simp only [e2]
       by_cases e3 : a.spot.isSome = true
       ·simp [e3]
       ·simp [e3]
        by_cases e4 : b.off < c.size
        ·simp [e4]
        ·simp [e4]
    | _ => rfl
 ·rw [if_neg e]
section
variable {w0 : World} {A B C D Q R : Nat} {s t : Bool} {q0 q1 q2 q3 r0 r1 r2 r3 : Int} {w w1 : World}
end
theorem two_ints {w : World} {b : Nat} {s t : Bool} {a0 a1 a2 a3 b0 b1 b2 b3 : Int}
 (h : Row w b [.bool s, .int .u64 a0, .int .u64 a1, .int .u64 a2, .int .u64 a3, .bool t, .int .u64 b0, .int .u64 b1, .int .u64 b2, .int .u64 b3]) :
 IntsAt w b 0 2 (fun i => if i = 0 then s else t) (fun i => if i = 0 then row4 a0 a1 a2 a3 else row4 b0 b1 b2 b3) := by
 intro i hi
 match i, hi with
 | 0, _ => exact ⟨h.c 0 rfl, h.c 1 rfl, h.c 2 rfl, h.c 3 rfl, h.c 4 rfl⟩
 | 1, _ => exact ⟨h.c 5 rfl, h.c 6 rfl, h.c 7 rfl, h.c 8 rfl, h.c 9 rfl⟩
theorem errAll_two {s t : Bool} {a0 a1 a2 a3 b0 b1 b2 b3 : Int} : errAll (fun i => if i = 0 then s else t) (fun i => if i = 0 then row4 a0 a1 a2 a3 else row4 b0 b1 b2 b3) 2 =
 if errArg s a0 a1 a2 a3 = 0 then errArg t b0 b1 b2 b3 else errArg s a0 a1 a2 a3 := by
 simp [errAll, row4]
end Go.Proofs.YtongeeggaigepaaGreatDoor
namespace Go.Proofs.YtongeeggaigepaaGreatDoor
open Go.RowKit
set_option maxHeartbeats 2000000 in
theorem gcd_of (s t : Bool) (a0 a1 a2 a3 b0 b1 b2 b3 g0 g1 g2 g3 : Int) (w : World)
 (hs : (s && zeroB a0 a1 a2 a3) = false) (ht : (t && zeroB b0 b1 b2 b3) = false)
 (hp : ∀ W, Below w.heap.size w W → Calls Tryz.prog 161 #[wv a0 a1 a2 a3, wv b0 b1 b2 b3] W fun e w' => e = .returned (wv g0 g1 g2 g3) ∧ Below W.heap.size W w') :
 Calls Tryz.prog 138 #[iv s a0 a1 a2 a3, iv t b0 b1 b2 b3] w fun e w' => e = .returned (.tuple #[iv false g0 g1 g2 g3, .int .i64 0]) ∧ Below w.heap.size w w' := by
 have HE := Lib.hid (show errAll (fun i => if i = 0 then s else t) (fun i => if i = 0 then row4 a0 a1 a2 a3 else row4 b0 b1 b2 b3) 2 = 0 by rw [errAll_two, errArg_ok hs, if_pos rfl, errArg_ok ht])
 have Hp := Lib.hid hp
 clear hp hs ht
 go_enter Tryz.func138, Tryz.ntmps138
 go_wp2_with fail
 generalize hW : World.alloc _ _ = W0
 have hB : Below w.heap.size w W0 := by
  rw [← hW]; exact ((((Below.refl w.heap.size w).alloc (Nat.le_refl _) _).alloc (by simp) _).alloc (by simp; omega) _).alloc (by simp; omega) _
 have rA : Row W0 w.heap.size [.bool s, .int .u64 a0, .int .u64 a1, .int .u64 a2, .int .u64 a3] := by
  rw [← hW]; exact (((Row.at rfl _ _).alloc _).alloc _).alloc _
 have rB : Row W0 (w.heap.size + 1) [.bool t, .int .u64 b0, .int .u64 b1, .int .u64 b2, .int .u64 b3] := by
  rw [← hW]; exact ((Row.at (by simp) _ _).alloc _).alloc _
 have rC : Row W0 (w.heap.size + 1 + 1) [.bool false, .int .u64 0, .int .u64 0, .int .u64 0, .int .u64 0] := by
  rw [← hW]; exact (Row.at (by simp) _ _).alloc _
 have rE : Row W0 (w.heap.size + 1 + 1 + 1) [.bool s, .int .u64 a0, .int .u64 a1, .int .u64 a2, .int .u64 a3, .bool t, .int .u64 b0, .int .u64 b1, .int .u64 b2, .int .u64 b3] := by
  rw [← hW]; exact Row.at (by simp) _ _
 clear hW
 refine (checkAll_any _ _ 2 _ 0 2 W0 (by omega) rE.lt (two_ints rE)).mono ?_
 rintro e w1 ⟨rfl, hb1⟩
 rw [HE.out]
 replace hB := hB.trans (hb1.mono hB.size)
 replace rA := rA.after hb1
 replace rB := rB.after hb1
 replace rC := rC.after hb1
 clear rE hb1
 have i1 := rA.c 1 rfl
 have i2 := rA.c 2 rfl
 have i3 := rA.c 3 rfl
 have i4 := rA.c 4 rfl
 have j1 := rB.c 1 rfl
 have j2 := rB.c 2 rfl
 have j3 := rB.c 3 rfl
 have j4 := rB.c 4 rfl
 go_wp2_with fail
 refine (Hp.out _ hB).mono ?_
 rintro e w2 ⟨rfl, hb2⟩
 replace hB := hB.trans (hb2.mono hB.size)
 replace rC := rC.after hb2
 clear rA rB hb2 i1 i2 i3 i4 j1 j2 j3 j4
 go_wp2_with fail
 refine (signed_any _ _ _ _ _ _).mono ?_
 rintro e w3 ⟨rfl, hb3⟩
 rw [show (false && !zeroB g0 g1 g2 g3) = false from rfl]
 replace hB := hB.trans (hb3.mono hB.size)
 replace rC := rC.after hb3
 clear hb3
 have c0 := rC.c 0 rfl
 have c1 := rC.c 1 rfl
 have c2 := rC.c 2 rfl
 have c3 := rC.c 3 rfl
 have c4 := rC.c 4 rfl
 have f0 := rC.f 0 rfl
 have f1 := rC.f 1 rfl
 have f2 := rC.f 2 rfl
 have f3 := rC.f 3 rfl
 have f4 := rC.f 4 rfl
 go_wp2
 clear c0 c1 c2 c3 c4 f0 f1 f2 f3 f4
 generalize hW : World.setCell _ _ _ = W8
 have rR : Row W8 (w.heap.size + 1 + 1) [.bool false, .int .u64 g0, .int .u64 g1, .int .u64 g2, .int .u64 g3] := by rw [← hW]; exact rC.put5 _ _ _ _ _
 replace hB : Below w.heap.size w W8 := by rw [← hW]; exact below_put5 hB (by omega) _ _ _ _ _
 clear hW rC
 exact bodyPost_ret (v := .tuple #[iv false g0 g1 g2 g3, .int .i64 0]) (by simp [results, Tryz.results138, go_sem, rR.c 0 rfl, rR.c 1 rfl, rR.c 2 rfl, rR.c 3 rfl, rR.c 4 rfl]) rfl ⟨rfl, hB⟩
end Go.Proofs.YtongeeggaigepaaGreatDoor

namespace Go.Proofs.YtongeeggaigepaaGreatDoor
open Go.RowKit
theorem order_rows (o o' p q k k' : Nat) (a b c d a' b' c' d' : Int) (w : World)
 (h0 : w.cell? ⟨p, o, none⟩ = some (.int .u64 a)) (h1 : w.cell? ⟨p, o + 1, none⟩ = some (.int .u64 b)) (h2 : w.cell? ⟨p, o + 2, none⟩ = some (.int .u64 c)) (h3 : w.cell? ⟨p, o + 3, none⟩ = some (.int .u64 d))
 (g0 : w.cell? ⟨q, o', none⟩ = some (.int .u64 a')) (g1 : w.cell? ⟨q, o' + 1, none⟩ = some (.int .u64 b')) (g2 : w.cell? ⟨q, o' + 2, none⟩ = some (.int .u64 c')) (g3 : w.cell? ⟨q, o' + 3, none⟩ = some (.int .u64 d')) :
 Calls Tryz.prog 126 #[.slice (some ⟨p, o, none⟩) 4 k, .slice (some ⟨q, o', none⟩) 4 k'] w fun e w' => e = .returned (.int .i64 (ordW a b c d a' b' c' d')) ∧ ∃ k, w' = w.drewN k := by
 rw [← ordF_row4]
 refine order_any _ _ 4 p o q o' k k' w (by omega) (fun i hi => ?_) (fun i hi => ?_)
 ·match i, hi with
  | 0, _ => exact h0
  | 1, _ => exact h1
  | 2, _ => exact h2
  | 3, _ => exact h3
 ·match i, hi with
  | 0, _ => exact g0
  | 1, _ => exact g1
  | 2, _ => exact g2
  | 3, _ => exact g3
def cmpS (s t : Bool) (a b c d a' b' c' d' : Int) : Int :=
 match s, t with
 | true, true => ordW a' b' c' d' a b c d
 | true, false => -1
 | false, true => 1
 | false, false => ordW a b c d a' b' c' d'
def cmpE (s t : Bool) (a b c d a' b' c' d' : Int) : Value :=
 if (s && zeroB a b c d || t && zeroB a' b' c' d') = true then .tuple #[.int .i64 0, .int .i64 2] else .tuple #[.int .i64 (cmpS s t a b c d a' b' c' d'), .int .i64 0]
set_option maxHeartbeats 1000000 in
theorem cmp_bad (s t : Bool) (a0 a1 a2 a3 b0 b1 b2 b3 : Int) (w : World) (h : errAll (fun i => if i = 0 then s else t) (fun i => if i = 0 then row4 a0 a1 a2 a3 else row4 b0 b1 b2 b3) 2 = 2) :
 Calls Tryz.prog 92 #[iv s a0 a1 a2 a3, iv t b0 b1 b2 b3] w fun e w' => e = .returned (.tuple #[.int .i64 0, .int .i64 2]) ∧ Below w.heap.size w w' := by
 have HE := Lib.hid h
 clear h
 go_enter Tryz.func92, Tryz.ntmps92
 go_wp2_with fail
 generalize hW : World.alloc _ _ = W0
 have hB : Below w.heap.size w W0 := by
  rw [← hW]; exact (((Below.refl w.heap.size w).alloc (Nat.le_refl _) _).alloc (by simp) _).alloc (by simp; omega) _
 have rE : Row W0 (w.heap.size + 1 + 1) [.bool s, .int .u64 a0, .int .u64 a1, .int .u64 a2, .int .u64 a3, .bool t, .int .u64 b0, .int .u64 b1, .int .u64 b2, .int .u64 b3] := by
  rw [← hW]; exact Row.at (by simp) _ _
 clear hW
 refine (checkAll_any _ _ 2 _ 0 2 W0 (by omega) rE.lt (two_ints rE)).mono ?_
 rintro e w1 ⟨rfl, hb1⟩
 rw [HE.out]
 replace hB := hB.trans (hb1.mono hB.size)
 clear rE hb1 HE
 go_wp2_with fail
 go_ret2
 exact ⟨rfl, hB⟩
set_option maxHeartbeats 1000000 in
theorem cmp_any (s t : Bool) (a0 a1 a2 a3 b0 b1 b2 b3 : Int) (w : World) :
 Calls Tryz.prog 92 #[iv s a0 a1 a2 a3, iv t b0 b1 b2 b3] w fun e w' => e = .returned (cmpE s t a0 a1 a2 a3 b0 b1 b2 b3) ∧ Below w.heap.size w w' := by
 by_cases hs : (s && zeroB a0 a1 a2 a3) = false
 ·by_cases ht : (t && zeroB b0 b1 b2 b3) = false
  ·have HE := Lib.hid (show errAll (fun i => if i = 0 then s else t) (fun i => if i = 0 then row4 a0 a1 a2 a3 else row4 b0 b1 b2 b3) 2 = 0 by rw [errAll_two, errArg_ok hs, if_pos rfl, errArg_ok ht])
   have HC := Lib.hid (show cmpE s t a0 a1 a2 a3 b0 b1 b2 b3 = .tuple #[.int .i64 (cmpS s t a0 a1 a2 a3 b0 b1 b2 b3), .int .i64 0] by simp only [cmpE, hs, ht]; rfl)
   rw [HC.out]
   clear hs ht HC
   go_enter Tryz.func92, Tryz.ntmps92
   go_wp2_with fail
   generalize hW : World.alloc _ _ = W0
   have hB : Below w.heap.size w W0 := by
    rw [← hW]; exact (((Below.refl w.heap.size w).alloc (Nat.le_refl _) _).alloc (by simp) _).alloc (by simp; omega) _
   have rA : Row W0 w.heap.size [.bool s, .int .u64 a0, .int .u64 a1, .int .u64 a2, .int .u64 a3] := by
    rw [← hW]; exact ((Row.at rfl _ _).alloc _).alloc _
   have rB : Row W0 (w.heap.size + 1) [.bool t, .int .u64 b0, .int .u64 b1, .int .u64 b2, .int .u64 b3] := by
    rw [← hW]; exact (Row.at (by simp) _ _).alloc _
   have rE : Row W0 (w.heap.size + 1 + 1) [.bool s, .int .u64 a0, .int .u64 a1, .int .u64 a2, .int .u64 a3, .bool t, .int .u64 b0, .int .u64 b1, .int .u64 b2, .int .u64 b3] := by
    rw [← hW]; exact Row.at (by simp) _ _
   clear hW
   refine (checkAll_any _ _ 2 _ 0 2 W0 (by omega) rE.lt (two_ints rE)).mono ?_
   rintro e w1 ⟨rfl, hb1⟩
   rw [HE.out]
   replace hB := hB.trans (hb1.mono hB.size)
   replace rA := rA.after hb1
   replace rB := rB.after hb1
   clear rE hb1 HE
   have i0 := rA.c 0 rfl
   have i1 := rA.c 1 rfl
   have i2 := rA.c 2 rfl
   have i3 := rA.c 3 rfl
   have i4 := rA.c 4 rfl
   have j0 := rB.c 0 rfl
   have j1 := rB.c 1 rfl
   have j2 := rB.c 2 rfl
   have j3 := rB.c 3 rfl
   have j4 := rB.c 4 rfl
   clear rA rB
   cases s <;> cases t
   ·go_wp2_with fail
    go_quiet ((go_at_call 126; refine Calls.quiet_of (order_rows 1 1 _ _ _ _ a0 a1 a2 a3 b0 b1 b2 b3 _ ?_ ?_ ?_ ?_ ?_ ?_ ?_ ?_) <;> go_simp))
    go_wp2
    go_ret2
    exact ⟨rfl, below_drewN hB nq⟩
   ·go_wp2_with fail
    go_ret2
    exact ⟨rfl, hB⟩
   ·go_wp2_with fail
    go_ret2
    exact ⟨rfl, hB⟩
   ·go_wp2_with fail
    go_quiet ((go_at_call 126; refine Calls.quiet_of (order_rows 1 1 _ _ _ _ b0 b1 b2 b3 a0 a1 a2 a3 _ ?_ ?_ ?_ ?_ ?_ ?_ ?_ ?_) <;> go_simp))
    go_wp2
    go_ret2
    exact ⟨rfl, below_drewN hB nq⟩
  ·have ht' : (t && zeroB b0 b1 b2 b3) = true := by simpa using ht
   have h0 : errArg s a0 a1 a2 a3 = 0 := errArg_ok hs
   have h1 : errArg t b0 b1 b2 b3 = 2 := by simp only [errArg, ht', if_true]
   rw [show cmpE s t a0 a1 a2 a3 b0 b1 b2 b3 = .tuple #[.int .i64 0, .int .i64 2] by simp only [cmpE, ht', Bool.or_true, if_true]]
   exact cmp_bad s t a0 a1 a2 a3 b0 b1 b2 b3 w (by rw [errAll_two, h0, if_pos rfl, h1])
 ·have hs' : (s && zeroB a0 a1 a2 a3) = true := by simpa using hs
  have h0 : errArg s a0 a1 a2 a3 = 2 := by simp only [errArg, hs', if_true]
  rw [show cmpE s t a0 a1 a2 a3 b0 b1 b2 b3 = .tuple #[.int .i64 0, .int .i64 2] by simp only [cmpE, hs', Bool.true_or, if_true]]
  exact cmp_bad s t a0 a1 a2 a3 b0 b1 b2 b3 w (by rw [errAll_two, h0]; rfl)
end Go.Proofs.YtongeeggaigepaaGreatDoor

namespace Go.Proofs.YtongeeggaigepaaGreatDoor
open Go.RowKit
def cellV (w : World) (b i : Nat) : Value := (w.cell? ⟨b, i, none⟩).getD undef
section
variable {w0 : World} {A B C D Q R : Nat} {s t : Bool} {q0 q1 q2 q3 r0 r1 r2 r3 : Int} {w w1 : World}
end
end Go.Proofs.YtongeeggaigepaaGreatDoor
namespace Go.Proofs.YtongeeggaigepaaGreatDoor
open Go.RowKit
end Go.Proofs.YtongeeggaigepaaGreatDoor
