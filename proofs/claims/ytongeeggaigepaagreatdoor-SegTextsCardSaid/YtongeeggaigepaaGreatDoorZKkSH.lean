import Derived.Test.YtongeeggaigepaaGreatDoorZKkSD
import Derived.Test.YtongeeggaigepaaGreatDoorZKkBase
namespace Go.Proofs.YtongeeggaigepaaGreatDoor
open Go.RowKit
theorem arr10 (a : Array Value) (h : a.size = 10) : ∃ x0 x1 x2 x3 x4 x5 x6 x7 x8 x9, a = #[x0, x1, x2, x3, x4, x5, x6, x7, x8, x9] := by
 refine ⟨a[0], a[1], a[2], a[3], a[4], a[5], a[6], a[7], a[8], a[9], ?_⟩
 refine Array.ext (by simp [h]) (fun i h1 h2 => ?_)
 match i, h2 with
 | 0, _ | 1, _ | 2, _ | 3, _ | 4, _ | 5, _ | 6, _ | 7, _ | 8, _ | 9, _ => rfl
 | i + 10, h2 => simp at h2; omega
theorem arr20 (a : Array Value) (h : a.size = 20) : ∃ x0 x1 x2 x3 x4 x5 x6 x7 x8 x9 x10 x11 x12 x13 x14 x15 x16 x17 x18 x19, a = #[x0, x1, x2, x3, x4, x5, x6, x7, x8, x9, x10, x11, x12, x13, x14, x15, x16, x17, x18, x19] := by
 refine ⟨a[0], a[1], a[2], a[3], a[4], a[5], a[6], a[7], a[8], a[9], a[10], a[11], a[12], a[13], a[14], a[15], a[16], a[17], a[18], a[19], ?_⟩
 refine Array.ext (by simp [h]) (fun i h1 h2 => ?_)
 match i, h2 with
 | 0, _ | 1, _ | 2, _ | 3, _ | 4, _ | 5, _ | 6, _ | 7, _ | 8, _ | 9, _ | 10, _ | 11, _ | 12, _ | 13, _ | 14, _ | 15, _ | 16, _ | 17, _ | 18, _ | 19, _ => rfl
 | i + 20, h2 => simp at h2; omega
theorem two_size (p : Array Value) (hp : p.size = 10) : (Array.foldl (fun cs x => cs.setIfInBounds x.snd x.fst) #[.bool false, .int .u64 0, .int .u64 0, .int .u64 0, .int .u64 0, .bool false, .int .u64 0, .int .u64 0, .int .u64 0, .int .u64 0, .bool false, .int .u64 0, .int .u64 0, .int .u64 0, .int .u64 0, .bool false, .int .u64 0, .int .u64 0, .int .u64 0, .int .u64 0] p.zipIdx 0 10).size = 20 := by
 obtain ⟨p0, p1, p2, p3, p4, p5, p6, p7, p8, p9, rfl⟩ := arr10 p hp
 kernel_rfl
theorem two_made (p q : Array Value) (hp : p.size = 10) (hq : q.size = 10) : Array.foldl (fun cs x => cs.setIfInBounds (10 + x.snd) x.fst) (Array.foldl (fun cs x => cs.setIfInBounds x.snd x.fst) #[.bool false, .int .u64 0, .int .u64 0, .int .u64 0, .int .u64 0, .bool false, .int .u64 0, .int .u64 0, .int .u64 0, .int .u64 0, .bool false, .int .u64 0, .int .u64 0, .int .u64 0, .int .u64 0, .bool false, .int .u64 0, .int .u64 0, .int .u64 0, .int .u64 0] p.zipIdx 0 10) q.zipIdx 0 10 = p ++ q := by
 obtain ⟨p0, p1, p2, p3, p4, p5, p6, p7, p8, p9, rfl⟩ := arr10 p hp
 obtain ⟨q0, q1, q2, q3, q4, q5, q6, q7, q8, q9, rfl⟩ := arr10 q hq
 kernel_rfl
theorem agg_point : AggTy Tryz.prog 46 20 := .of _ Tryz.underlying46 rfl (by kernel_rfl)
theorem OneC.append {a b : Array Value} (ha : OneC a) (hb : OneC b) : OneC (a ++ b) := by
 unfold OneC at *
 simp only [Array.all_append, ha, hb, Bool.and_self]
def dotA (x y : Int) : Array Value := ratA x 1 ++ ratA y 1
theorem dotA_size (x y : Int) : (dotA x y).size = 20 := rfl
theorem dotA_one (x y : Int) : OneC (dotA x y) := (ratA_one _ _).append (ratA_one _ _)
abbrev nodeA (x y : Int) : Array Value := #[.int .i64 x, .int .i64 y]
theorem in_i64 {x : Int} (h : Bd x) : -9223372036854775808 ≤ x ∧ x ≤ 9223372036854775807 := by unfold Bd at h; omega
set_option maxRecDepth 100000 in
set_option maxHeartbeats 1600000 in
theorem pointof_num (x y : Int) (w : World) (hx : Bd x) (hy : Bd y) :
 Calls Tryz.prog 119 #[nodeV x y] w fun e w' => e = .returned (.tuple #[.agg (dotA x y), .int .i64 0]) ∧ Below w.heap.size w w' := by
 have HX := Lib.hid (fun W => ratof_num x (in_i64 hx).1 (in_i64 hx).2 W)
 have HY := Lib.hid (fun W => ratof_num y (in_i64 hy).1 (in_i64 hy).2 W)
 have HC : Hid (∀ W, Calls Tryz.prog 37 #[nodeV x y] W fun e w' => e = .returned (.int .i64 0) ∧ Below W.heap.size W w') := Lib.hid (fun W => by
  have h := nodes_any x y W
  rw [(inB_iff x).2 hx, (inB_iff y).2 hy] at h
  exact h)
 clear hx hy
 unfold nodeV at *
 go_enter Tryz.func119, Tryz.ntmps119
 go_wp2_with fail
 refine (HC.out _).mono ?_
 rintro e w1 ⟨rfl, hb⟩
 have hK : KT w ([] ++ [(w.heap.size, nodeA x y)]) ([] ++ [(w.heap.size + 1, 20)]) w1 := ((KT.of ((KS.nil w).boxed rfl _ 23)).made (by simp) zero_point 46 rfl).after hb
 clear hb HC
 generalize hL : [] ++ [(w.heap.size, nodeA x y)] = L at hK
 generalize hM : [] ++ [(w.heap.size + 1, 20)] = M at hK
 have HL := Lib.hid hL; clear hL
 have HM := Lib.hid (show (w.heap.size + 1, 20) ∈ M by rw [← hM]; simp); clear hM
 go_wp2_with fail
 have l0 : ∀ W, KT w L M W → W.cell? ⟨w.heap.size, 0, none⟩ = some (.int .i64 x) := fun W h => h.c 0 (by rw [← HL.out]; rfl) 0 rfl
 have l1 : ∀ W, KT w L M W → W.cell? ⟨w.heap.size, 1, none⟩ = some (.int .i64 y) := fun W h => h.c 0 (by rw [← HL.out]; rfl) 1 rfl
 have s1 : ∀ W, KT w L M W → (storeCells ⟨w.heap.size + 1, 0, none⟩ (dotA x y).toList).run Tryz.prog W = .ok () (W.setCells (w.heap.size + 1) 0 (dotA x y).toList) := fun W h => (h.2 _ HM.out).1.store _ rfl (dotA_one x y)
 have hs := dotA_size x y
 have hs1 := ratA_size x 1
 have hs2 := ratA_size y 1
 have hz1 := two_size (ratA x 1) rfl
 have hz2 : Array.foldl (fun cs x => cs.setIfInBounds (10 + x.snd) x.fst) (Array.foldl (fun cs x => cs.setIfInBounds x.snd x.fst) #[.bool false, .int .u64 0, .int .u64 0, .int .u64 0, .int .u64 0, .bool false, .int .u64 0, .int .u64 0, .int .u64 0, .int .u64 0, .bool false, .int .u64 0, .int .u64 0, .int .u64 0, .int .u64 0, .bool false, .int .u64 0, .int .u64 0, .int .u64 0, .int .u64 0] (ratA x 1).zipIdx 0 10) (ratA y 1).zipIdx 0 10 = dotA x y := two_made (ratA x 1) (ratA y 1) rfl rfl
 go_region_held3 (fun w' : World => KT w L M w')
  (first
    | (with_reducible refine KT.drew ?_; with_reducible assumption)
    | (with_reducible refine KT.put ?_ HM.out _; with_reducible assumption)
    | (with_reducible refine KT.alloc ?_ _; with_reducible assumption)
    | (with_reducible refine KT.after ?_ hb; with_reducible assumption))
  (first
    | (go_at_call 137; (with_reducible refine (HX.out _).mono ?_); rintro e w' ⟨rfl, hb⟩)
    | (go_at_call 137; (with_reducible refine (HY.out _).mono ?_); rintro e w' ⟨rfl, hb⟩))
 all_goals
  have hq := ‹KT w L M _›
  have hr := hq.put_row HM.out (by simpa using hs)
  go_wp2
  exact bodyPost_ret (results_R2 (cs := dotA x y) rfl rfl hr agg_point) rfl ⟨rfl, hq.1.2⟩
end Go.Proofs.YtongeeggaigepaaGreatDoor

namespace Go.Proofs.YtongeeggaigepaaGreatDoor
open Go.RowKit
theorem DS.on {W W' : World} {m X : Nat} {A : Option Addr} {s : Bool} (h : DS W m A) (ho : On W W' X) (hX : W.cell? ⟨X, 0, none⟩ = some (.bool s)) : DS W' m A := fun hm => by
 obtain ⟨b, rfl, hl, hx⟩ := h hm
 have hne : b ≠ X := fun e => by
  subst e
  have := hx 0 hm
  rw [hX] at this
  cases this
 exact ⟨b, rfl, by rw [ho.size]; exact hl, fun i hi => (ho.cell (p := ⟨b, i, none⟩) hne).trans (hx i hi)⟩
theorem agg_rrat : AggTy Tryz.prog 55 4 := .of _ Tryz.underlying55 rfl (by kernel_rfl)
theorem agg_rpoint : AggTy Tryz.prog 57 8 := .of _ Tryz.underlying57 rfl (by kernel_rfl)
def RatPost (w : World) (s : Bool) (m k j : Nat) (e : Ending) (w' : World) : Prop := ∃ A c B d, e = .returned (.agg #[.bool s, .slice A k c, .bool false, .slice B j d]) ∧ DS w' m A ∧ DS w' 1 B ∧ Below w.heap.size w w'
theorem one_z (w : World) : Calls Tryz.prog 80 #[.int .i64 1] w fun e w' => ∃ A c, e = .returned (.agg #[.bool false, .slice A (L16 1) c]) ∧ DS w' 1 A ∧ Below w.heap.size w w' := by
 refine (num_z 1 w (by decide) (by decide)).mono ?_
 rintro e w' ⟨A, c, rfl, _, hd, hb⟩
 exact ⟨A, c, rfl, hd, hb⟩
set_option maxRecDepth 100000 in
set_option maxHeartbeats 1600000 in
theorem rnum_any (n : Int) (w : World) (h1 : -9223372036854775808 ≤ n) (h2 : n ≤ 9223372036854775807) :
 Calls Tryz.prog 45 #[.int .i64 n] w (RatPost w (decide (n < 0)) n.natAbs (L16 n.natAbs) (L16 1)) := by
 have H1 : Hid (∀ W, Calls Tryz.prog 80 #[.int .i64 n] W fun e w' => ∃ A c, e = .returned (.agg #[.bool (decide (n < 0)), .slice A (L16 n.natAbs) c]) ∧ DS w' n.natAbs A ∧ Below W.heap.size W w') := Lib.hid (fun W => by
  refine (num_z n W h1 h2).mono ?_
  rintro e w' ⟨A, c, rfl, _, hd, hb⟩
  exact ⟨A, c, rfl, hd, hb⟩)
 have H2 := Lib.hid one_z
 clear h1 h2
 generalize decide (n < 0) = s at *
 generalize n.natAbs = m at *
 generalize L16 m = k at *
 generalize L16 1 = j at *
 go_enter Tryz.func45, Tryz.ntmps45
 go_wp2_with fail
 generalize hW : World.alloc _ _ = W0
 have r0 : Row W0 w.heap.size [.bool false, .slice none 0 0, .bool false, .slice none 0 0] := by rw [← hW]; exact Row.at rfl _ _
 have hB : Below w.heap.size w W0 := by rw [← hW]; exact (Below.refl w.heap.size w).alloc (Nat.le_refl _) _
 clear hW
 refine (H1.out _).mono ?_
 rintro e w1 ⟨A, c, rfl, hd, hb⟩
 replace r0 := r0.after hb
 replace hB := hB.trans (hb.mono hB.size)
 clear hb
 have hd1 := Lib.hid hd
 clear hd
 go_wp2_with fail
 refine (H2.out _).mono ?_
 rintro e w2 ⟨B, d, rfl, hd2, hb⟩
 replace r0 := r0.after hb
 replace hB := hB.trans (hb.mono hB.size)
 have HD := Lib.hid (And.intro (hd1.out.below hb) hd2)
 clear hb hd1 hd2
 have hX := Lib.hid (r0.c 0 rfl)
 have HB := Lib.hid hB
 clear hB
 go_wp2_with (refine wpList_store_R rfl _ _ _ rfl _ #[.bool s, .slice A k c, .bool false, .slice B j d] rfl rfl _ r0 (by rfl) agg_rrat (by simp [OneC, Value.oneCell']) ?_; intro w3 r3 o3)
 exact bodyPost_ret (results_R1 (cs := #[.bool s, .slice A k c, .bool false, .slice B j d]) rfl rfl r3 agg_rrat) rfl ⟨A, c, B, d, rfl, HD.out.1.on o3 hX.out, HD.out.2.on o3 hX.out, below_on HB.out o3 (Nat.le_refl _)⟩
set_option maxRecDepth 100000 in
set_option maxHeartbeats 1600000 in
theorem rout_core (s t p q : Bool) (a0 a1 a2 a3 b0 b1 b2 b3 : Int) (A B : Option Addr) (k c j d : Nat) (w : World)
 (h1 : ∀ W, Below w.heap.size w W → Calls Tryz.prog 77 #[.agg #[.bool p, .slice A k c]] W fun e w' => e = .returned (.tuple #[.agg #[.bool s, .int .u64 a0, .int .u64 a1, .int .u64 a2, .int .u64 a3], .int .i64 0]) ∧ Below W.heap.size W w')
 (h2 : ∀ W, Below w.heap.size w W → Calls Tryz.prog 77 #[.agg #[.bool q, .slice B j d]] W fun e w' => e = .returned (.tuple #[.agg #[.bool t, .int .u64 b0, .int .u64 b1, .int .u64 b2, .int .u64 b3], .int .i64 0]) ∧ Below W.heap.size W w') :
 Calls Tryz.prog 43 #[.agg #[.bool p, .slice A k c, .bool q, .slice B j d]] w fun e w' => e = .returned (.tuple #[.agg #[.bool s, .int .u64 a0, .int .u64 a1, .int .u64 a2, .int .u64 a3, .bool t, .int .u64 b0, .int .u64 b1, .int .u64 b2, .int .u64 b3], .int .i64 0]) ∧ Below w.heap.size w w' := by
 have H1 := Lib.hid h1; clear h1
 have H2 := Lib.hid h2; clear h2
 have oA : OneC #[.bool s, .int .u64 a0, .int .u64 a1, .int .u64 a2, .int .u64 a3] := by simp [OneC, Value.oneCell']
 have oB : OneC #[.bool t, .int .u64 b0, .int .u64 b1, .int .u64 b2, .int .u64 b3] := by simp [OneC, Value.oneCell']
 have oR : OneC #[.bool s, .int .u64 a0, .int .u64 a1, .int .u64 a2, .int .u64 a3, .bool t, .int .u64 b0, .int .u64 b1, .int .u64 b2, .int .u64 b3] := by simp [OneC, Value.oneCell']
 go_enter Tryz.func43, Tryz.ntmps43
 go_wp2_with fail
 generalize hW : World.alloc _ _ = W0
 have rX : Row W0 w.heap.size [.bool p, .slice A k c, .bool q, .slice B j d] := by rw [← hW]; exact (Row.at rfl _ _).alloc _
 have rZ : Row W0 (w.heap.size + 1) zero_rat.toList := by rw [← hW]; exact Row.at (by simp) _ _
 have hB : Below w.heap.size w W0 := by rw [← hW]; exact ((Below.refl w.heap.size w).alloc (Nat.le_refl _) _).alloc (by simp) _
 clear hW
 have x0 := rX.c 0 rfl
 have x1 := rX.c 1 rfl
 go_wp2_with fail
 clear x0 x1
 refine (H1.out _ hB).mono ?_
 rintro e w1 ⟨rfl, hb⟩
 replace rX := rX.after hb
 replace rZ := rZ.after hb
 replace hB := hB.trans (hb.mono hB.size)
 clear hb
 go_upto_region 2 with (refine wpList_store_R rfl _ _ _ rfl _ #[.bool s, .int .u64 a0, .int .u64 a1, .int .u64 a2, .int .u64 a3] rfl rfl _ (Row.at rfl zero_int.toList _) (by rfl) agg_int oA ?_; intro w2 r2 o2)
 have l1 : w.heap.size + 1 < w1.heap.size := rZ.lt
 replace rX := o2.row (by omega) (rX.alloc _)
 replace rZ := o2.row (by omega) (rZ.alloc _)
 replace hB := below_on (hB.alloc hB.size _) o2 hB.size
 clear o2
 generalize w1.heap.size = C at *
 have x2 := rX.c 2 rfl
 have x3 := rX.c 3 rfl
 go_wp2_with fail
 clear x2 x3
 refine (H2.out _ hB).mono ?_
 rintro e w3 ⟨rfl, hb⟩
 replace rX := rX.after hb
 replace rZ := rZ.after hb
 replace r2 := r2.after hb
 replace hB := hB.trans (hb.mono hB.size)
 clear hb
 go_upto_region 3 with (refine wpList_store_R rfl _ _ _ rfl _ #[.bool t, .int .u64 b0, .int .u64 b1, .int .u64 b2, .int .u64 b3] rfl rfl _ (Row.at rfl zero_int.toList _) (by rfl) agg_int oB ?_; intro w4 r4 o4)
 have l3 : C < w3.heap.size := r2.lt
 have l4 : w.heap.size + 1 < w3.heap.size := rZ.lt
 replace rZ := o4.row (by omega) (rZ.alloc _)
 replace r2 := o4.row (by omega) (r2.alloc _)
 replace hB := below_on (hB.alloc hB.size _) o4 hB.size
 clear o4 rX
 generalize w3.heap.size = D at *
 have y0 := r2.c 0 rfl
 have y1 := r2.c 1 rfl
 have y2 := r2.c 2 rfl
 have y3 := r2.c 3 rfl
 have y4 := r2.c 4 rfl
 have z0 := r4.c 0 rfl
 have z1 := r4.c 1 rfl
 have z2 := r4.c 2 rfl
 have z3 := r4.c 3 rfl
 have z4 := r4.c 4 rfl
 have HB := Lib.hid hB
 clear hB l1 l3 l4
 go_wp2_with (refine wpList_store_R rfl _ _ _ rfl _ #[.bool s, .int .u64 a0, .int .u64 a1, .int .u64 a2, .int .u64 a3, .bool t, .int .u64 b0, .int .u64 b1, .int .u64 b2, .int .u64 b3] rfl rfl _ rZ (by rfl) agg_rat oR ?_; intro w5 r5 o5)
 exact bodyPost_ret (results_R2 (cs := #[.bool s, .int .u64 a0, .int .u64 a1, .int .u64 a2, .int .u64 a3, .bool t, .int .u64 b0, .int .u64 b1, .int .u64 b2, .int .u64 b3]) rfl rfl r5 agg_rat) rfl ⟨rfl, below_on HB.out o5 (by omega)⟩
theorem fits_any (p q : Bool) (A B : Option Addr) (k c j d : Nat) (w : World) (hk : k ≤ 6) (hj : j ≤ 4) :
 Calls Tryz.prog 55 #[.agg #[.bool p, .slice A k c, .bool q, .slice B j d]] w fun e w' => e = .returned (.bool true) ∧ Below w.heap.size w w' := by
 have h1 : (k : Int) ≤ 6 := by omega
 have h2 : (j : Int) ≤ 4 := by omega
 have HB := Lib.hid ((Below.refl w.heap.size w).alloc (Nat.le_refl _) (.cells #[.bool p, .slice A k c, .bool q, .slice B j d] 55))
 go_enter Tryz.func55, Tryz.ntmps55
 have r0 := Row.at (w := w) rfl [.bool p, .slice A k c, .bool q, .slice B j d] 55
 have x0 := r0.c 0 rfl
 have x1 := r0.c 1 rfl
 have x2 := r0.c 2 rfl
 have x3 := r0.c 3 rfl
 clear r0
 go_upto_region 1 with fail
 go_quiet (fail)
 go_wp2
 go_ret
 exact ⟨rfl, below_drewN HB.out _⟩
theorem KT.put8 {w W : World} {L : List (Nat × Array Value)} {M : List (Nat × Nat)} {b n : Nat} (h : KT w L M W) (hm : (b, n) ∈ M) (y0 y1 y2 y3 y4 y5 y6 y7 : Value) :
 KT w L M ((((((((W.setCell ⟨b, 0, none⟩ y0).setCell ⟨b, 1, none⟩ y1).setCell ⟨b, 2, none⟩ y2).setCell ⟨b, 3, none⟩ y3).setCell ⟨b, 4, none⟩ y4).setCell ⟨b, 5, none⟩ y5).setCell ⟨b, 6, none⟩ y6).setCell ⟨b, 7, none⟩ y7) := h.put hm [y0, y1, y2, y3, y4, y5, y6, y7]
theorem DS.put8 {W : World} {m b : Nat} {A : Option Addr} {s : Bool} (h : DS W m A) (hX : W.cell? ⟨b, 0, none⟩ = some (.bool s)) (y0 y1 y2 y3 y4 y5 y6 y7 : Value) :
 DS ((((((((W.setCell ⟨b, 0, none⟩ y0).setCell ⟨b, 1, none⟩ y1).setCell ⟨b, 2, none⟩ y2).setCell ⟨b, 3, none⟩ y3).setCell ⟨b, 4, none⟩ y4).setCell ⟨b, 5, none⟩ y5).setCell ⟨b, 6, none⟩ y6).setCell ⟨b, 7, none⟩ y7) m A := h.on (On.setCells W b [y0, y1, y2, y3, y4, y5, y6, y7] 0 W (On.refl W b)) hX
def PtPost (w : World) (s t : Bool) (m n k i j : Nat) (e : Ending) (w' : World) : Prop := ∃ A c B d E f G h, e = .returned (.agg #[.bool s, .slice A k c, .bool false, .slice B j d, .bool t, .slice E i f, .bool false, .slice G j h]) ∧ (DS w' m A ∧ DS w' 1 B ∧ DS w' n E ∧ DS w' 1 G) ∧ Below w.heap.size w w'
set_option maxRecDepth 100000 in
set_option maxHeartbeats 3200000 in
theorem ptof_core (x y : Int) (s t : Bool) (m n k i j : Nat) (w : World)
 (h1 : ∀ W, Calls Tryz.prog 45 #[.int .i64 x] W (RatPost W s m k j)) (h2 : ∀ W, Calls Tryz.prog 45 #[.int .i64 y] W (RatPost W t n i j)) :
 Calls Tryz.prog 61 #[.agg (nodeA x y)] w (PtPost w s t m n k i j) := by
 have H1 := Lib.hid h1; clear h1
 have H2 := Lib.hid h2; clear h2
 go_enter Tryz.func61, Tryz.ntmps61
 go_upto_region 1 with fail
 generalize hW : World.alloc _ _ = W0
 have hK : KT w ([] ++ [(w.heap.size, nodeA x y)]) ([] ++ [(w.heap.size + 1, 8)]) W0 := by
  rw [← hW]
  exact (KT.of ((KS.nil w).boxed rfl _ _)).made (by simp) _ _ rfl
 have z0 : W0.cell? ⟨w.heap.size + 1, 0, none⟩ = some (.bool false) := by rw [← hW]; exact (Row.at (by simp) [.bool false, .slice none 0 0, .bool false, .slice none 0 0, .bool false, .slice none 0 0, .bool false, .slice none 0 0] _).c 0 rfl
 have hz : w.heap.size + 1 < W0.heap.size := by rw [← hW]; simp
 clear hW
 generalize hL : [] ++ [(w.heap.size, nodeA x y)] = L at hK
 have HL := Lib.hid hL; clear hL
 have HM : Hid ((w.heap.size + 1, 8) ∈ ([] ++ [(w.heap.size + 1, 8)] : List (Nat × Nat))) := Lib.hid (by simp)
 generalize [] ++ [(w.heap.size + 1, 8)] = M at hK HM
 have l0 : ∀ W, KT w L M W → W.cell? ⟨w.heap.size, 0, none⟩ = some (.int .i64 x) := fun W h => h.c 0 (by rw [← HL.out]; rfl) 0 rfl
 have l1 : ∀ W, KT w L M W → W.cell? ⟨w.heap.size, 1, none⟩ = some (.int .i64 y) := fun W h => h.c 0 (by rw [← HL.out]; rfl) 1 rfl
 have xc0 : ∀ W, KT w L M W → W.cell? ⟨w.heap.size + 1, 0, none⟩ = some (cellAt W (w.heap.size + 1) 0) := fun W h => h.here HM.out 0 (by omega)
 have xf0 : ∀ W, KT w L M W → W.frozen? ⟨w.heap.size + 1, 0, none⟩ = false := fun W h => h.free HM.out 0 (by omega)
 have xc1 : ∀ W, KT w L M W → W.cell? ⟨w.heap.size + 1, 1, none⟩ = some (cellAt W (w.heap.size + 1) 1) := fun W h => h.here HM.out 1 (by omega)
 have xf1 : ∀ W, KT w L M W → W.frozen? ⟨w.heap.size + 1, 1, none⟩ = false := fun W h => h.free HM.out 1 (by omega)
 have xc2 : ∀ W, KT w L M W → W.cell? ⟨w.heap.size + 1, 2, none⟩ = some (cellAt W (w.heap.size + 1) 2) := fun W h => h.here HM.out 2 (by omega)
 have xf2 : ∀ W, KT w L M W → W.frozen? ⟨w.heap.size + 1, 2, none⟩ = false := fun W h => h.free HM.out 2 (by omega)
 have xc3 : ∀ W, KT w L M W → W.cell? ⟨w.heap.size + 1, 3, none⟩ = some (cellAt W (w.heap.size + 1) 3) := fun W h => h.here HM.out 3 (by omega)
 have xf3 : ∀ W, KT w L M W → W.frozen? ⟨w.heap.size + 1, 3, none⟩ = false := fun W h => h.free HM.out 3 (by omega)
 have xc4 : ∀ W, KT w L M W → W.cell? ⟨w.heap.size + 1, 4, none⟩ = some (cellAt W (w.heap.size + 1) 4) := fun W h => h.here HM.out 4 (by omega)
 have xf4 : ∀ W, KT w L M W → W.frozen? ⟨w.heap.size + 1, 4, none⟩ = false := fun W h => h.free HM.out 4 (by omega)
 have xc5 : ∀ W, KT w L M W → W.cell? ⟨w.heap.size + 1, 5, none⟩ = some (cellAt W (w.heap.size + 1) 5) := fun W h => h.here HM.out 5 (by omega)
 have xf5 : ∀ W, KT w L M W → W.frozen? ⟨w.heap.size + 1, 5, none⟩ = false := fun W h => h.free HM.out 5 (by omega)
 have xc6 : ∀ W, KT w L M W → W.cell? ⟨w.heap.size + 1, 6, none⟩ = some (cellAt W (w.heap.size + 1) 6) := fun W h => h.here HM.out 6 (by omega)
 have xf6 : ∀ W, KT w L M W → W.frozen? ⟨w.heap.size + 1, 6, none⟩ = false := fun W h => h.free HM.out 6 (by omega)
 have xc7 : ∀ W, KT w L M W → W.cell? ⟨w.heap.size + 1, 7, none⟩ = some (cellAt W (w.heap.size + 1) 7) := fun W h => h.here HM.out 7 (by omega)
 have xf7 : ∀ W, KT w L M W → W.frozen? ⟨w.heap.size + 1, 7, none⟩ = false := fun W h => h.free HM.out 7 (by omega)
 have hk0 := hK.drew
 have z0 : W0.drew.cell? ⟨w.heap.size + 1, 0, none⟩ = some (.bool false) := z0
 have hz : w.heap.size + 1 < W0.drew.heap.size := hz
 go_region_held3 (fun w' : World => KT w L M w')
  (repeat (first
    | (with_reducible assumption)
    | (with_reducible refine KT.put8 ?_ HM.out _ _ _ _ _ _ _ _)
    | (with_reducible refine KT.drew ?_)
    | (with_reducible refine KT.after ?_ hb)))
  (first
    | (go_at_call 45; (with_reducible refine (H1.out _).mono ?_); rintro e w' ⟨A, c, B, d, rfl, da, db, hb⟩; (replace z0 := (hb.cell (p := ⟨w.heap.size + 1, 0, none⟩) hz).trans z0); (replace hz := Nat.lt_of_lt_of_le hz hb.size))
    | (go_at_call 45; (with_reducible refine (H2.out _).mono ?_); rintro e w' ⟨E, f, G, h, rfl, de, dg, hb⟩; (replace da := da.below hb); (replace db := db.below hb); (replace z0 := (hb.cell (p := ⟨w.heap.size + 1, 0, none⟩) hz).trans z0); (replace hz := Nat.lt_of_lt_of_le hz hb.size)))
 have hq := ‹KT w L M _›
 have hr := hq.put_row (cs := [.bool s, .slice A k c, .bool false, .slice B j d, .bool t, .slice E i f, .bool false, .slice G j h]) HM.out rfl
 have D1 := da.put8 z0 (.bool s) (.slice A k c) (.bool false) (.slice B j d) (.bool t) (.slice E i f) (.bool false) (.slice G j h)
 have D2 := db.put8 z0 (.bool s) (.slice A k c) (.bool false) (.slice B j d) (.bool t) (.slice E i f) (.bool false) (.slice G j h)
 have D3 := de.put8 z0 (.bool s) (.slice A k c) (.bool false) (.slice B j d) (.bool t) (.slice E i f) (.bool false) (.slice G j h)
 have D4 := dg.put8 z0 (.bool s) (.slice A k c) (.bool false) (.slice B j d) (.bool t) (.slice E i f) (.bool false) (.slice G j h)
 have hB := hq.1.2
 go_wp2_with fail
 exact bodyPost_ret (results_R1 (cs := #[.bool s, .slice A k c, .bool false, .slice B j d, .bool t, .slice E i f, .bool false, .slice G j h]) rfl rfl hr agg_rpoint) rfl ⟨A, c, B, d, E, f, G, h, rfl, ⟨D1, D2, D3, D4⟩, hB⟩
set_option maxRecDepth 100000 in
set_option maxHeartbeats 3200000 in
theorem ptout_core (s t p q : Bool) (A B E G : Option Addr) (k c j d i f l h : Nat) (R S : Array Value) (hR : R.size = 10) (hS : S.size = 10) (oR : OneC R) (oS : OneC S) (w : World)
 (h1 : ∀ W, Below w.heap.size w W → Calls Tryz.prog 43 #[.agg #[.bool s, .slice A k c, .bool p, .slice B j d]] W fun e w' => e = .returned (.tuple #[.agg R, .int .i64 0]) ∧ Below W.heap.size W w')
 (h2 : ∀ W, Below w.heap.size w W → Calls Tryz.prog 43 #[.agg #[.bool t, .slice E i f, .bool q, .slice G l h]] W fun e w' => e = .returned (.tuple #[.agg S, .int .i64 0]) ∧ Below W.heap.size W w')
 (h3 : ∀ W, Calls Tryz.prog 55 #[.agg #[.bool s, .slice A k c, .bool p, .slice B j d]] W fun e w' => e = .returned (.bool true) ∧ Below W.heap.size W w')
 (h4 : ∀ W, Calls Tryz.prog 55 #[.agg #[.bool t, .slice E i f, .bool q, .slice G l h]] W fun e w' => e = .returned (.bool true) ∧ Below W.heap.size W w') :
 Calls Tryz.prog 71 #[.agg #[.bool s, .slice A k c, .bool p, .slice B j d, .bool t, .slice E i f, .bool q, .slice G l h]] w fun e w' => e = .returned (.tuple #[.agg (R ++ S), .int .i64 0]) ∧ Below w.heap.size w w' := by
 have H1 := Lib.hid h1; clear h1
 have H2 := Lib.hid h2; clear h2
 have H3 := Lib.hid h3; clear h3
 have H4 := Lib.hid h4; clear h4
 have hz2 := two_made R S hR hS
 have hz1 := two_size R hR
 have tR : AggTy Tryz.prog 44 R.size := by rw [hR]; exact aggRat
 have tS : AggTy Tryz.prog 44 S.size := by rw [hS]; exact aggRat
 have tP : AggTy Tryz.prog 46 (R ++ S).size := by rw [show (R ++ S).size = 20 by simp [hR, hS]]; exact agg_point
 have oRS := Lib.hid (oR.append oS)
 have HRS : Hid ((R ++ S).size = 20) := Lib.hid (by simp [hR, hS])
 have OR := Lib.hid oR
 have OS := Lib.hid oS
 have HR := Lib.hid hR
 have HS := Lib.hid hS
 clear oR oS
 go_enter Tryz.func71, Tryz.ntmps71
 go_upto_region 1 with fail
 generalize hW : World.alloc _ _ = W0
 have rX : Row W0 w.heap.size [.bool s, .slice A k c, .bool p, .slice B j d, .bool t, .slice E i f, .bool q, .slice G l h] := by rw [← hW]; exact (Row.at rfl _ _).alloc _
 have rZ : Row W0 (w.heap.size + 1) zero_point.toList := by rw [← hW]; exact Row.at (by simp) _ _
 have hB : Below w.heap.size w W0 := by rw [← hW]; exact ((Below.refl w.heap.size w).alloc (Nat.le_refl _) _).alloc (by simp) _
 clear hW
 have x0 := rX.c 0 rfl
 have x1 := rX.c 1 rfl
 have x2 := rX.c 2 rfl
 have x3 := rX.c 3 rfl
 go_wp2_with fail
 clear x0 x1 x2 x3
 refine (H1.out _ hB).mono ?_
 rintro e w1 ⟨rfl, hb⟩
 replace rX := rX.after hb
 replace rZ := rZ.after hb
 replace hB := hB.trans (hb.mono hB.size)
 clear hb
 go_upto_region 2 with (refine wpList_store_R rfl _ _ _ rfl _ R rfl rfl _ (Row.at rfl zero_rat.toList _) (by rw [HR.out]; rfl) tR OR.out ?_; intro w2 r2 o2)
 have l1 : w.heap.size + 1 < w1.heap.size := rZ.lt
 replace rX := o2.row (by omega) (rX.alloc _)
 replace rZ := o2.row (by omega) (rZ.alloc _)
 replace hB := below_on (hB.alloc hB.size _) o2 hB.size
 clear o2
 generalize w1.heap.size = C at *
 have x4 := rX.c 4 rfl
 have x5 := rX.c 5 rfl
 have x6 := rX.c 6 rfl
 have x7 := rX.c 7 rfl
 go_wp2_with fail
 clear x4 x5 x6 x7
 refine (H2.out _ hB).mono ?_
 rintro e w3 ⟨rfl, hb⟩
 replace rX := rX.after hb
 replace rZ := rZ.after hb
 replace r2 := r2.after hb
 replace hB := hB.trans (hb.mono hB.size)
 clear hb
 go_upto_region 3 with (refine wpList_store_R rfl _ _ _ rfl _ S rfl rfl _ (Row.at rfl zero_rat.toList _) (by rw [HS.out]; rfl) tS OS.out ?_; intro w4 r4 o4)
 have l3 : C < w3.heap.size := r2.lt
 have l4 : w.heap.size + 1 < w3.heap.size := rZ.lt
 replace rX := o4.row (by omega) (rX.alloc _)
 replace rZ := o4.row (by omega) (rZ.alloc _)
 replace r2 := o4.row (by omega) (r2.alloc _)
 replace hB := below_on (hB.alloc hB.size _) o4 hB.size
 clear o4 l3 l4 l1
 generalize w3.heap.size = D at *
 have x0 := rX.c 0 rfl
 have x1 := rX.c 1 rfl
 have x2 := rX.c 2 rfl
 have x3 := rX.c 3 rfl
 go_wp2_with fail
 clear x0 x1 x2 x3
 refine (H3.out _).mono ?_
 rintro e w5 ⟨rfl, hb⟩
 replace rX := rX.after hb
 replace rZ := rZ.after hb
 replace r2 := r2.after hb
 replace r4 := r4.after hb
 replace hB := hB.trans (hb.mono hB.size)
 clear hb
 have x4 := rX.c 4 rfl
 have x5 := rX.c 5 rfl
 have x6 := rX.c 6 rfl
 have x7 := rX.c 7 rfl
 go_wp2_with fail
 clear x4 x5 x6 x7
 refine (H4.out _).mono ?_
 rintro e w6 ⟨rfl, hb⟩
 replace rZ := rZ.after hb
 replace r2 := r2.after hb
 replace r4 := r4.after hb
 replace hB := hB.trans (hb.mono hB.size)
 have HB := Lib.hid hB
 clear hb rX hB
 go_wp2_with (first
  | (refine wpList_load_R rfl _ _ rfl C rfl R r2 tR ?_)
  | (refine wpList_load_R rfl _ _ rfl D rfl S r4 tS ?_)
  | (refine wpList_store_R rfl _ _ _ rfl _ (R ++ S) rfl rfl _ rZ (by rw [HRS.out]; rfl) tP oRS.out ?_; intro w7 r7 o7))
 exact bodyPost_ret (results_R2 (cs := R ++ S) rfl rfl r7 tP) rfl ⟨rfl, below_on HB.out o7 (by omega)⟩
theorem ptof_any (x y : Int) (w : World) (hx : Bd x) (hy : Bd y) : Calls Tryz.prog 61 #[.agg (nodeA x y)] w (PtPost w (decide (x < 0)) (decide (y < 0)) x.natAbs y.natAbs (L16 x.natAbs) (L16 y.natAbs) (L16 1)) :=
 ptof_core x y _ _ _ _ _ _ _ w (fun W => rnum_any x W (in_i64 hx).1 (in_i64 hx).2) (fun W => rnum_any y W (in_i64 hy).1 (in_i64 hy).2)
end Go.Proofs.YtongeeggaigepaaGreatDoor

namespace Go.Proofs.YtongeeggaigepaaGreatDoor
open Go.RowKit
def BgPost (w : World) (s : Bool) (m k : Nat) (e : Ending) (w' : World) : Prop := ∃ A c, e = .returned (.agg #[.bool s, .slice A k c]) ∧ k ≤ c ∧ DS w' m A ∧ Below w.heap.size w w'
def RqPost (w : World) (s t : Bool) (m p k j : Nat) (e : Ending) (w' : World) : Prop := ∃ A c B d, e = .returned (.agg #[.bool s, .slice A k c, .bool t, .slice B j d]) ∧ (k ≤ c ∧ j ≤ d) ∧ (DS w' m A ∧ DS w' p B) ∧ Below w.heap.size w w'
end Go.Proofs.YtongeeggaigepaaGreatDoor

namespace Go.Proofs.YtongeeggaigepaaGreatDoor
open Go.RowKit
theorem agg_big : AggTy Tryz.prog 53 2 := .of _ Tryz.underlying53 rfl (by kernel_rfl)
theorem KS.wroteK {w W W1 : World} {L : List (Nat × Array Value)} (h : KS w L W) {o : Obj} (ho : On (W.alloc o) W1 W.heap.size) {cs : Array Value} (hr : Row W1 W.heap.size cs.toList) : KS w (L ++ [(W.heap.size, cs)]) W1 :=
 KS.more ⟨fun p hp => ho.row (Nat.ne_of_lt (h.1 p hp).lt) ((h.alloc o).1 p hp), below_on (h.alloc o).2 ho h.2.size⟩ hr
theorem DS.drew' {W : World} {m : Nat} {A : Option Addr} (h : DS W m A) : DS W.drew m A := h
theorem two_wrote {w w3 w4 w5 : World} {L : List (Nat × Array Value)} (hK : KS w L w3) {cs : Array Value} {t : TypeId} (r4 : Row w4 w3.heap.size cs.toList) (o4 : On ((w3.alloc (.cells #[.bool false, .slice none 0 0] t)).alloc (.cells #[.bool false, .slice none 0 0] t)) w4 w3.heap.size) (o5 : On w4 w5 (w3.heap.size + 1)) :
 KS w (L ++ [(w3.heap.size, cs)]) w5 ∧ ∀ m A, DS w3 m A → DS w5 m A := by
 have h2 := (hK.alloc (.cells #[.bool false, .slice none 0 0] t)).alloc (.cells #[.bool false, .slice none 0 0] t)
 have rA : Row ((w3.alloc (.cells #[.bool false, .slice none 0 0] t)).alloc (.cells #[.bool false, .slice none 0 0] t)) w3.heap.size [.bool false, .slice none 0 0] := (Row.at rfl _ _).alloc _
 have rB : Row ((w3.alloc (.cells #[.bool false, .slice none 0 0] t)).alloc (.cells #[.bool false, .slice none 0 0] t)) (w3.heap.size + 1) [.bool false, .slice none 0 0] := Row.at (by simp) _ _
 refine ⟨KS.more ⟨fun p hp => ?_, ?_⟩ (o5.row (by omega) r4), fun m A hd => ?_⟩
 ·have hlt := (hK.1 p hp).lt
  exact o5.row (by omega) (o4.row (by omega) (h2.1 p hp))
 ·exact below_on (below_on h2.2 o4 hK.2.size) o5 (Nat.le_succ_of_le hK.2.size)
 ·have hb := ((Below.refl w3.heap.size w3).alloc (Nat.le_refl _) (.cells #[.bool false, .slice none 0 0] t)).alloc (by simp) (.cells #[.bool false, .slice none 0 0] t)
  exact ((hd.below hb).on o4 (rA.c 0 rfl)).on o5 ((o4.row (by omega) rB).c 0 rfl)
set_option maxRecDepth 100000 in
set_option maxHeartbeats 3200000 in
theorem make_one (s : Bool) (A B : Option Addr) (m p k j c d k1 : Nat) (w : World) (dA : DS w m A) (dB : DS w p B) (ck : k ≤ c) (cj : j ≤ d)
 (hNum : ∀ W, Calls Tryz.prog 80 #[.int .i64 1] W (BgPost W false 1 k1))
 (hCmp : ∀ E h W, DS W p B → DS W 1 E → Calls Tryz.prog 79 #[.agg #[.bool false, .slice B j d], .agg #[.bool false, .slice E k1 h]] W fun e w' => e = .returned (.int .i64 0) ∧ Below W.heap.size W w')
 :
  Calls Tryz.prog 44 #[.agg #[.bool s, .slice A k c], .agg #[.bool false, .slice B j d]] w (RqPost w s false m p k j) := by
  have HNum := Lib.hid hNum; clear hNum
  have HCmp := Lib.hid hCmp; clear hCmp
  have HC := Lib.hid (And.intro ck cj); clear ck cj
  go_enter Tryz.func44, Tryz.ntmps44
  go_upto_region 1 with fail
  generalize hW : World.alloc _ _ = W0
  have hb0 : Below w.heap.size w W0 := by rw [← hW]; exact (((Below.refl w.heap.size w).alloc (Nat.le_refl _) _).alloc (by simp) _).alloc (by simp; omega) _
  have rN : Row W0 w.heap.size [.bool s, .slice A k c] := by rw [← hW]; exact ((Row.at rfl _ _).alloc _).alloc _
  have rD : Row W0 (w.heap.size + 1) [.bool false, .slice B j d] := by rw [← hW]; exact (Row.at (by simp) _ _).alloc _
  have rZ : Row W0 (w.heap.size + 1 + 1) [.bool false, .slice none 0 0, .bool false, .slice none 0 0] := by rw [← hW]; exact Row.at (by simp) _ _
  replace dA := dA.below hb0
  replace dB := dB.below hb0
  clear hW
  have x0 := rN.c 0 rfl
  have x1 := rN.c 1 rfl
  have y0 := rD.c 0 rfl
  have y1 := rD.c 1 rfl
  have HD := Lib.hid (And.intro dA dB)
  have HR := Lib.hid (And.intro rN (And.intro rD (And.intro rZ hb0)))
  clear dA dB rN rD rZ hb0
  go_upto_region 3 with fail
  have hk0 : KS w [(w.heap.size, #[.bool s, .slice A k c]), ((w.heap.size + 1), #[.bool false, .slice B j d]), ((w.heap.size + 1 + 1), #[.bool false, .slice none 0 0, .bool false, .slice none 0 0])] W0 := ⟨fun q hq => by
   simp only [List.mem_cons, List.not_mem_nil, or_false] at hq
   rcases hq with rfl | rfl | rfl
   ·exact HR.out.1
   ·exact HR.out.2.1
   ·exact HR.out.2.2.1, HR.out.2.2.2⟩
  clear x0 x1 y0 y1 HR
  generalize hL : [(w.heap.size, #[.bool s, .slice A k c]), ((w.heap.size + 1), #[.bool false, .slice B j d]), ((w.heap.size + 1 + 1), (#[.bool false, .slice none 0 0, .bool false, .slice none 0 0] : Array Value))] = L at hk0
  have HL := Lib.hid hL; clear hL
  have l0 : ∀ W, KS w L W → W.cell? ⟨(w.heap.size + 1), 0, none⟩ = some (.bool false) := fun W h => h.c 1 (by rw [← HL.out]; rfl) 0 rfl
  have l1 : ∀ W, KS w L W → W.cell? ⟨(w.heap.size + 1), 1, none⟩ = some (.slice B j d) := fun W h => h.c 1 (by rw [← HL.out]; rfl) 1 rfl
  have dA := HD.out.1.drew'
  have dB := HD.out.2.drew'
  clear HD
  have hk := hk0.drew
  clear hk0
  go_region_held3 (fun W : World => KS w L W)
   (repeat (first | (with_reducible assumption) | (with_reducible refine KS.drew ?_) | (with_reducible refine KS.after ?_ hb)))
   (first
     | (go_at_call 80; (with_reducible refine (HNum.out _).mono ?_); rintro e w' ⟨E, h, rfl, _, dE, hb⟩; (replace dA := dA.below hb); (replace dB := dB.below hb))
     | (go_at_call 79; (with_reducible refine (HCmp.out _ _ _ dB dE).mono ?_); rintro e w' ⟨rfl, hb⟩; (replace dA := dA.below hb); (replace dB := dB.below hb)))
  have hK := ‹KS w L _›
  have HD := Lib.hid (And.intro dA dB)
  clear dA dB dE l0 l1
  have x0 := hK.c 0 (b := w.heap.size) (cs := #[.bool s, .slice A k c]) (by rw [← HL.out]; rfl) 0 rfl
  have x1 := hK.c 0 (b := w.heap.size) (cs := #[.bool s, .slice A k c]) (by rw [← HL.out]; rfl) 1 rfl
  have y0 := hK.c 1 (b := w.heap.size + 1) (cs := #[.bool false, .slice B j d]) (by rw [← HL.out]; rfl) 0 rfl
  have y1 := hK.c 1 (b := w.heap.size + 1) (cs := #[.bool false, .slice B j d]) (by rw [← HL.out]; rfl) 1 rfl
  have rZ := hK.row 2 (b := w.heap.size + 1 + 1) (cs := #[.bool false, .slice none 0 0, .bool false, .slice none 0 0]) (by rw [← HL.out]; rfl)
  have hB := Lib.hid hK.2
  clear hK HL hk
  go_wp2_with (refine wpList_store_R rfl _ _ _ rfl _ #[.bool s, .slice A k c, .bool false, .slice B j d] rfl rfl _ rZ (by rfl) agg_rrat (by simp [OneC, Value.oneCell']) ?_; intro w3 r3 o3)
  exact bodyPost_ret (results_R1 (cs := #[.bool s, .slice A k c, .bool false, .slice B j d]) rfl rfl r3 agg_rrat) rfl ⟨A, c, B, d, rfl, HC.out, ⟨HD.out.1.on o3 (rZ.c 0 rfl), HD.out.2.on o3 (rZ.c 0 rfl)⟩, below_on hB.out o3 (by omega)⟩
set_option maxRecDepth 100000 in
set_option maxHeartbeats 3200000 in
theorem make_gen (s u v : Bool) (A B : Option Addr) (m p k j c d k1 gm gk xm xk ym yk : Nat) (r : Int) (w : World) (dA : DS w m A) (dB : DS w p B) (ck : k ≤ c) (cj : j ≤ d)
 (hNum : ∀ W, Calls Tryz.prog 80 #[.int .i64 1] W (BgPost W false 1 k1))
 (hCmp : ∀ E h W, DS W p B → DS W 1 E → Calls Tryz.prog 79 #[.agg #[.bool false, .slice B j d], .agg #[.bool false, .slice E k1 h]] W fun e w' => e = .returned (.int .i64 r) ∧ Below W.heap.size W w')
 (hGcd : ∀ W, DS W m A → DS W p B → Calls Tryz.prog 81 #[.agg #[.bool s, .slice A k c], .agg #[.bool false, .slice B j d]] W (BgPost W false gm gk))
 (hQ1 : ∀ E h W, DS W m A → DS W gm E → gk ≤ h → Calls Tryz.prog 82 #[.agg #[.bool s, .slice A k c], .agg #[.bool false, .slice E gk h]] W fun e w' => ∃ X x Y y rs rk, e = .returned (.tuple #[.agg #[.bool u, .slice X xk x], .agg #[.bool rs, .slice Y rk y]]) ∧ xk ≤ x ∧ DS w' xm X ∧ Below W.heap.size W w')
 (hQ2 : ∀ E h W, DS W p B → DS W gm E → gk ≤ h → Calls Tryz.prog 82 #[.agg #[.bool false, .slice B j d], .agg #[.bool false, .slice E gk h]] W fun e w' => ∃ X x Y y rs rk, e = .returned (.tuple #[.agg #[.bool v, .slice X yk x], .agg #[.bool rs, .slice Y rk y]]) ∧ yk ≤ x ∧ DS w' ym X ∧ Below W.heap.size W w') (hr : r ≠ 0) :
 Calls Tryz.prog 44 #[.agg #[.bool s, .slice A k c], .agg #[.bool false, .slice B j d]] w (RqPost w u v xm ym xk yk) := by
 have HNum := Lib.hid hNum; clear hNum
 have HCmp := Lib.hid hCmp; clear hCmp
 have HGcd := Lib.hid hGcd; clear hGcd
 have HQ1 := Lib.hid hQ1; clear hQ1
 have HQ2 := Lib.hid hQ2; clear hQ2
 have hr0 : (r == 0) = false := by simpa using hr
 clear hr
 have HC := Lib.hid (And.intro ck cj); clear ck cj
 go_enter Tryz.func44, Tryz.ntmps44
 go_upto_region 1 with fail
 generalize hW : World.alloc _ _ = W0
 have hb0 : Below w.heap.size w W0 := by rw [← hW]; exact (((Below.refl w.heap.size w).alloc (Nat.le_refl _) _).alloc (by simp) _).alloc (by simp; omega) _
 have rN : Row W0 w.heap.size [.bool s, .slice A k c] := by rw [← hW]; exact ((Row.at rfl _ _).alloc _).alloc _
 have rD : Row W0 (w.heap.size + 1) [.bool false, .slice B j d] := by rw [← hW]; exact (Row.at (by simp) _ _).alloc _
 have rZ : Row W0 (w.heap.size + 1 + 1) [.bool false, .slice none 0 0, .bool false, .slice none 0 0] := by rw [← hW]; exact Row.at (by simp) _ _
 replace dA := dA.below hb0
 replace dB := dB.below hb0
 clear hW
 have x0 := rN.c 0 rfl
 have x1 := rN.c 1 rfl
 have y0 := rD.c 0 rfl
 have y1 := rD.c 1 rfl
 have HD := Lib.hid (And.intro dA dB)
 have HR := Lib.hid (And.intro rN (And.intro rD (And.intro rZ hb0)))
 clear dA dB rN rD rZ hb0
 go_upto_region 3 with fail
 have hk0 : KS w [(w.heap.size, #[.bool s, .slice A k c]), ((w.heap.size + 1), #[.bool false, .slice B j d]), ((w.heap.size + 1 + 1), #[.bool false, .slice none 0 0, .bool false, .slice none 0 0])] W0 := ⟨fun q hq => by
  simp only [List.mem_cons, List.not_mem_nil, or_false] at hq
  rcases hq with rfl | rfl | rfl
  ·exact HR.out.1
  ·exact HR.out.2.1
  ·exact HR.out.2.2.1, HR.out.2.2.2⟩
 clear x0 x1 y0 y1 HR
 generalize hL : [(w.heap.size, #[.bool s, .slice A k c]), ((w.heap.size + 1), #[.bool false, .slice B j d]), ((w.heap.size + 1 + 1), (#[.bool false, .slice none 0 0, .bool false, .slice none 0 0] : Array Value))] = L at hk0
 have HL := Lib.hid hL; clear hL
 have l0 : ∀ W, KS w L W → W.cell? ⟨(w.heap.size + 1), 0, none⟩ = some (.bool false) := fun W h => h.c 1 (by rw [← HL.out]; rfl) 0 rfl
 have l1 : ∀ W, KS w L W → W.cell? ⟨(w.heap.size + 1), 1, none⟩ = some (.slice B j d) := fun W h => h.c 1 (by rw [← HL.out]; rfl) 1 rfl
 have dA := HD.out.1.drew'
 have dB := HD.out.2.drew'
 clear HD
 have hk := hk0.drew
 clear hk0
 go_region_held3 (fun W : World => KS w L W)
  (repeat (first | (with_reducible assumption) | (with_reducible refine KS.drew ?_) | (with_reducible refine KS.after ?_ hb)))
  (first
    | (go_at_call 80; (with_reducible refine (HNum.out _).mono ?_); rintro e w' ⟨E, h, rfl, _, dE, hb⟩; (replace dA := dA.below hb); (replace dB := dB.below hb))
    | (go_at_call 79; (with_reducible refine (HCmp.out _ _ _ dB dE).mono ?_); rintro e w' ⟨rfl, hb⟩; (replace dA := dA.below hb); (replace dB := dB.below hb)))
 have hK := ‹KS w L _›
 have HD := Lib.hid (And.intro dA dB)
 clear dA dB dE l0 l1
 have x0 := hK.c 0 (b := w.heap.size) (cs := #[.bool s, .slice A k c]) (by rw [← HL.out]; rfl) 0 rfl
 have x1 := hK.c 0 (b := w.heap.size) (cs := #[.bool s, .slice A k c]) (by rw [← HL.out]; rfl) 1 rfl
 have y0 := hK.c 1 (b := w.heap.size + 1) (cs := #[.bool false, .slice B j d]) (by rw [← HL.out]; rfl) 0 rfl
 have y1 := hK.c 1 (b := w.heap.size + 1) (cs := #[.bool false, .slice B j d]) (by rw [← HL.out]; rfl) 1 rfl
 clear hk
 go_wp2_with fail
 refine (HGcd.out _ HD.out.1 HD.out.2).mono ?_
 rintro e w1 ⟨G, g, rfl, cg, dG, hb⟩
 replace hK := hK.after hb
 have HD1 := Lib.hid (And.intro (HD.out.1.below hb) (And.intro (HD.out.2.below hb) dG))
 have CG := Lib.hid cg
 clear hb HD dG cg x0 x1 y0 y1
 go_upto_region 6 with (refine wpList_store_R rfl _ _ _ rfl _ #[.bool false, .slice G gk g] rfl rfl _ (Row.at rfl [.bool false, .slice none 0 0] _) (by rfl) agg_big (by simp [OneC, Value.oneCell']) ?_; intro w2 r2 o2)
 have HD2 : Hid (DS w2 m A ∧ DS w2 p B ∧ DS w2 gm G) := by
  have zz := (Row.at (w := w1) rfl [.bool false, .slice none 0 0] 53).c 0 rfl
  have hb1 := (Below.refl w1.heap.size w1).alloc (Nat.le_refl _) (.cells #[.bool false, .slice none 0 0] 53)
  exact Lib.hid ⟨(HD1.out.1.below hb1).on o2 zz, (HD1.out.2.1.below hb1).on o2 zz, (HD1.out.2.2.below hb1).on o2 zz⟩
 have hK2 := KS.wroteK hK o2 r2
 clear hK o2 r2 HD1
 generalize w1.heap.size = C at *
 rw [← HL.out] at hK2
 clear HL
 have x0 := hK2.c 0 (b := w.heap.size) (cs := #[.bool s, .slice A k c]) rfl 0 rfl
 have x1 := hK2.c 0 (b := w.heap.size) (cs := #[.bool s, .slice A k c]) rfl 1 rfl
 have g0 := hK2.c 3 (b := C) (cs := #[.bool false, .slice G gk g]) rfl 0 rfl
 have g1 := hK2.c 3 (b := C) (cs := #[.bool false, .slice G gk g]) rfl 1 rfl
 have HK2 := Lib.hid hK2
 clear hK2
 go_wp2_with fail
 refine (HQ1.out _ _ _ HD2.out.1 HD2.out.2.2 CG.out).mono ?_
 rintro e w3 ⟨X, x, X', x', rs, rk, rfl, cx, dX, hb⟩
 have hK := HK2.out.after hb
 have HD3 := Lib.hid (And.intro (HD2.out.2.1.below hb) (And.intro (HD2.out.2.2.below hb) dX))
 have CX := Lib.hid cx
 clear hb HK2 HD2 dX cx x0 x1 g0 g1
 go_upto_region 7 with (first
  | (refine wpList_store_R rfl _ _ _ rfl w3.heap.size #[.bool u, .slice X xk x] rfl rfl _ ((Row.at rfl [.bool false, .slice none 0 0] _).alloc _) (by rfl) agg_big (by simp [OneC, Value.oneCell']) ?_; intro w4 r4 o4)
  | (refine wpList_store_R rfl _ _ _ rfl (w3.heap.size + 1) #[.bool rs, .slice X' rk x'] rfl rfl _ (o4.row (by omega) (Row.at (by simp) [.bool false, .slice none 0 0] _)) (by rfl) agg_big (by simp [OneC, Value.oneCell']) ?_; intro w5 r5 o5))
 have hT := two_wrote hK r4 o4 o5
 have HD4 := Lib.hid (And.intro (hT.2 _ _ HD3.out.1) (And.intro (hT.2 _ _ HD3.out.2.1) (hT.2 _ _ HD3.out.2.2)))
 have HK4 := Lib.hid hT.1
 have y0 := hT.1.c 1 (b := w.heap.size + 1) (cs := #[.bool false, .slice B j d]) rfl 0 rfl
 have y1 := hT.1.c 1 (b := w.heap.size + 1) (cs := #[.bool false, .slice B j d]) rfl 1 rfl
 have g0 := hT.1.c 3 (b := C) (cs := #[.bool false, .slice G gk g]) rfl 0 rfl
 have g1 := hT.1.c 3 (b := C) (cs := #[.bool false, .slice G gk g]) rfl 1 rfl
 clear hT hK r4 o4 r5 o5 HD3
 generalize w3.heap.size = D at *
 go_wp2_with fail
 refine (HQ2.out _ _ _ HD4.out.1 HD4.out.2.1 CG.out).mono ?_
 rintro e w6 ⟨Y, y, Y', y', rs', rk', rfl, cy, dY, hb⟩
 have hK := HK4.out.after hb
 have HD5 := Lib.hid (And.intro (HD4.out.2.2.below hb) dY)
 have CY := Lib.hid cy
 clear hb HK4 HD4 dY cy y0 y1 g0 g1
 go_upto_region 8 with (first
  | (refine wpList_store_R rfl _ _ _ rfl w6.heap.size #[.bool v, .slice Y yk y] rfl rfl _ ((Row.at rfl [.bool false, .slice none 0 0] _).alloc _) (by rfl) agg_big (by simp [OneC, Value.oneCell']) ?_; intro w7 r7 o7)
  | (refine wpList_store_R rfl _ _ _ rfl (w6.heap.size + 1) #[.bool rs', .slice Y' rk' y'] rfl rfl _ (o7.row (by omega) (Row.at (by simp) [.bool false, .slice none 0 0] _)) (by rfl) agg_big (by simp [OneC, Value.oneCell']) ?_; intro w8 r8 o8))
 have hT := two_wrote hK r7 o7 o8
 have HD6 := Lib.hid (And.intro (hT.2 _ _ HD5.out.1) (hT.2 _ _ HD5.out.2))
 have x0 := hT.1.c 4 (b := D) (cs := #[.bool u, .slice X xk x]) rfl 0 rfl
 have x1 := hT.1.c 4 (b := D) (cs := #[.bool u, .slice X xk x]) rfl 1 rfl
 have y0 := hT.1.c 5 (b := w6.heap.size) (cs := #[.bool v, .slice Y yk y]) rfl 0 rfl
 have y1 := hT.1.c 5 (b := w6.heap.size) (cs := #[.bool v, .slice Y yk y]) rfl 1 rfl
 have rZ := hT.1.row 2 (b := w.heap.size + 1 + 1) (cs := #[.bool false, .slice none 0 0, .bool false, .slice none 0 0]) rfl
 have hB := Lib.hid hT.1.2
 clear hT hK r7 o7 r8 o8 HD5
 generalize w6.heap.size = F at *
 go_wp2_with (refine wpList_store_R rfl _ _ _ rfl _ #[.bool u, .slice X xk x, .bool v, .slice Y yk y] rfl rfl _ rZ (by rfl) agg_rrat (by simp [OneC, Value.oneCell']) ?_; intro w9 r9 o9)
 exact bodyPost_ret (results_R1 (cs := #[.bool u, .slice X xk x, .bool v, .slice Y yk y]) rfl rfl r9 agg_rrat) rfl ⟨X, x, Y, y, rfl, ⟨CX.out, CY.out⟩, ⟨HD6.out.1.on o9 (rZ.c 0 rfl), HD6.out.2.on o9 (rZ.c 0 rfl)⟩, below_on hB.out o9 (by omega)⟩
end Go.Proofs.YtongeeggaigepaaGreatDoor

namespace Go.Proofs.YtongeeggaigepaaGreatDoor
open Go.RowKit
end Go.Proofs.YtongeeggaigepaaGreatDoor
