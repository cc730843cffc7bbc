import Derived.Test.YtongeeggaigepaaGreatDoorZKkZO
import Derived.Test.YtongeeggaigepaaGreatDoorZKkUB
import Derived.Test.YtongeeggaigepaaGreatDoorZKkZD
namespace Go.Proofs.YtongeeggaigepaaGreatDoor
open Go.RowKit Go.Sort CrossMath
theorem cut_at {l : List UInt8} {c : UInt8} {k : Nat} (hk : k < l.length) (hc : l[k] = c) (hn : ∀ (i : Nat) (h : i < l.length), i < k → l[i] ≠ c) : Lib.cut l [c] = (l.take k, l.drop (k + 1), true) := by
 have e : l = l.take k ++ c :: l.drop (k + 1) := by
  rw [← hc, ← List.drop_eq_getElem_cons hk, List.take_append_drop]
 have hh : c ∉ l.take k := fun h => by
  obtain ⟨i, hi, he⟩ := List.getElem_of_mem h
  rw [List.length_take] at hi
  rw [List.getElem_take] at he
  exact hn i (by omega) (by omega) he
 have h := Lib.cut_some (b := l.drop (k + 1)) hh
 rw [← e] at h
 exact h
theorem cut_not {l : List UInt8} {c : UInt8} (hn : ∀ (i : Nat) (h : i < l.length), l[i] ≠ c) : Lib.cut l [c] = (l, [], false) :=
 Lib.cut_none fun h => by
  obtain ⟨i, hi, he⟩ := List.getElem_of_mem h
  exact hn i hi he
theorem ext_ahead (s : ByteArray) (k : Nat) : (s.extract 0 k).data.toList = s.data.toList.take k := by
 rw [ByteArray.data_extract, Array.toList_extract]
 unfold List.extract
 simp
theorem ext_behind (s : ByteArray) (k : Nat) : (s.extract k s.size).data.toList = s.data.toList.drop k := by
 have h2 : s.data.toList.length = s.size := Array.length_toList
 rw [ByteArray.data_extract, Array.toList_extract]
 unfold List.extract
 rw [List.take_of_length_le (by rw [List.length_drop, h2]; omega)]
def nodeT (l : List UInt8) : (Int × Int) × Bool :=
 if (Lib.cut l [32]).2.2 = true then (((numS (Lib.cut l [32]).1).1, (numS (Lib.cut l [32]).2.1).1), (numS (Lib.cut l [32]).1).2 && ((numS (Lib.cut l [32]).2.1).2 && nodeB (numS (Lib.cut l [32]).1).1 (numS (Lib.cut l [32]).2.1).1)) else ((0, 0), false)
set_option maxRecDepth 100000 in
set_option maxHeartbeats 3200000 in
theorem rnode_any (s : ByteArray) (w : World) (hs : s.size ≤ 200) :
 Calls Tryz.prog 67 #[.string s] w fun e w' => e = .returned (.tuple #[.agg (nodeA (nodeT s.data.toList).1.1 (nodeT s.data.toList).1.2), .bool (nodeT s.data.toList).2]) ∧ Below w.heap.size w w' := by
 obtain ⟨R, HR⟩ : ∃ R : (Int × Int) × Bool, Hid (nodeT s.data.toList = R) := ⟨_, Lib.hid rfl⟩
 rw [HR.out]
 have HN : Hid (∀ (d : ByteArray) (W : World), d.size ≤ 200 → Calls Tryz.prog 107 #[.string d] W fun e w' => e = .returned (.tuple #[.int .i64 (numS d.data.toList).1, .bool (numS d.data.toList).2]) ∧ W = w') := Lib.hid (fun d W h => rnumber_any d W h)
 have HB := Lib.hid (fun x y W => refnode_any x y W)
 go_enter Tryz.func67, Tryz.ntmps67
 go_wp2_with fail
 go_loopw [4] (fun i wr => ∃ k : Nat, k ≤ s.size ∧ i = .int .i64 k ∧ Hid (∀ (i : Nat) (h : i < s.data.toList.length), i < k → s.data.toList[i] ≠ 32) ∧ w.alloc (Obj.cells #[.int .i64 0, .int .i64 0] 23) = wr) (fun i _ => s.size - (intOf i).toNat)
 case atStart => exact ⟨0, by omega, rfl, Lib.hid (fun _ _ h => by omega), rfl⟩
 case round =>
  obtain ⟨k, hk, rfl, HI, rfl⟩ := hrel
  have hlen : s.data.toList.length = s.size := Array.length_toList
  by_cases hkn : k < s.size
  ·have hk1 : (k : Int) < s.size := by omega
   have eK : s.data.toList[k]'(by omega) = s[k]'hkn := rfl
   by_cases hc : ((s[k]'hkn).toNat : Int) = 32
   ·have hx : s.data.toList[k]'(by omega) = 32 := UInt8.toNat.inj (by show (s[k]'hkn).toNat = 32; omega)
    have HC := Lib.hid (cut_at (by omega) hx HI.out)
    obtain ⟨x, xa, HX⟩ : ∃ x xa, Hid (numS (s.extract 0 k).data.toList = (x, xa)) := ⟨_, _, Lib.hid rfl⟩
    obtain ⟨y, ya, HY⟩ : ∃ y ya, Hid (numS (s.extract (k + 1) s.size).data.toList = (y, ya)) := ⟨_, _, Lib.hid rfl⟩
    have HF : Hid (R = ((x, y), xa && (ya && nodeB x y))) := Lib.hid (by
     have h1 := HX.out
     have h2 := HY.out
     rw [ext_ahead] at h1
     rw [ext_behind] at h2
     rw [← HR.out, nodeT, HC.out]
     simp only [if_true, h1, h2])
    have HC1 : Hid (∀ W, Calls Tryz.prog 107 #[.string (s.extract 0 k)] W fun e w' => e = .returned (.tuple #[.int .i64 x, .bool xa]) ∧ W = w') := Lib.hid (fun W => by
     have h := HN.out (s.extract 0 k) W (by simp; omega)
     rw [HX.out] at h; exact h)
    have HC2 : Hid (∀ W, Calls Tryz.prog 107 #[.string (s.extract (k + 1) s.size)] W fun e w' => e = .returned (.tuple #[.int .i64 y, .bool ya]) ∧ W = w') := Lib.hid (fun W => by
     have h := HN.out (s.extract (k + 1) s.size) W (by simp; omega)
     rw [HY.out] at h; exact h)
    have hk2 : (k : Int) + 1 ≤ s.size := by omega
    have w1a : IntKind.i64.wrap ((k : Int) + 1) = (k : Int) + 1 := by rw [IntKind.wrap_i64]; omega
    clear HX HY HC
    cases xa <;> cases ya
    ·go_wp2_with fail
     refine (HC1.out _).mono ?_
     rintro e W' ⟨rfl, rfl⟩
     go_wp2_with fail
     refine (HC2.out _).mono ?_
     rintro e W' ⟨rfl, rfl⟩
     go_wp2_with fail
     go_region
     go_wp2_with fail
     exact bodyPost_ret (v := .tuple #[.agg (nodeA R.1.1 R.1.2), .bool R.2]) (by rw [HF.out]; simp [results, Tryz.results67, go_sem, nodeA]) rfl ⟨rfl, (((Below.refl _ _).alloc (Nat.le_refl _) _).alloc (by simp) _).drew⟩
    ·go_wp2_with fail
     refine (HC1.out _).mono ?_
     rintro e W' ⟨rfl, rfl⟩
     go_wp2_with fail
     refine (HC2.out _).mono ?_
     rintro e W' ⟨rfl, rfl⟩
     go_wp2_with fail
     go_region
     go_wp2_with fail
     exact bodyPost_ret (v := .tuple #[.agg (nodeA R.1.1 R.1.2), .bool R.2]) (by rw [HF.out]; simp [results, Tryz.results67, go_sem, nodeA]) rfl ⟨rfl, (((Below.refl _ _).alloc (Nat.le_refl _) _).alloc (by simp) _).drew⟩
    ·go_wp2_with fail
     refine (HC1.out _).mono ?_
     rintro e W' ⟨rfl, rfl⟩
     go_wp2_with fail
     refine (HC2.out _).mono ?_
     rintro e W' ⟨rfl, rfl⟩
     go_wp2_with fail
     go_region
     go_wp2_with fail
     exact bodyPost_ret (v := .tuple #[.agg (nodeA R.1.1 R.1.2), .bool R.2]) (by rw [HF.out]; simp [results, Tryz.results67, go_sem, nodeA]) rfl ⟨rfl, (((Below.refl _ _).alloc (Nat.le_refl _) _).alloc (by simp) _).drew⟩
    ·go_wp2_with fail
     refine (HC1.out _).mono ?_
     rintro e W' ⟨rfl, rfl⟩
     go_wp2_with fail
     refine (HC2.out _).mono ?_
     rintro e W' ⟨rfl, rfl⟩
     go_wp2_with fail
     have r1 := (Row.at (w := w) rfl [.int .i64 0, .int .i64 0] 23).alloc (.cells #[.int .i64 x, .int .i64 y] 23)
     have r2 := Row.at (w := w.alloc (.cells #[.int .i64 0, .int .i64 0] 23)) (n := w.heap.size + 1) (by simp) [.int .i64 x, .int .i64 y] 23
     have hB := ((Below.refl w.heap.size w).alloc (Nat.le_refl _) (.cells #[.int .i64 0, .int .i64 0] 23)).alloc (by simp) (.cells #[.int .i64 x, .int .i64 y] 23)
     have HN1 : Hid (∀ W, Calls Tryz.prog 16 #[.agg #[.int .i64 x, .int .i64 y]] W fun e w' => e = .returned (.bool (nodeB x y)) ∧ Below W.heap.size W w') := Lib.hid (fun W => refnode_any x y W)
     generalize World.alloc _ _ = W2 at r1 r2 hB ⊢
     obtain ⟨nb, hnb⟩ : ∃ nb, nodeB x y = nb := ⟨_, rfl⟩
     rw [hnb] at HN1 HF
     clear hnb
     have x0 := r1.c 0 rfl
     have x1 := r1.c 1 rfl
     have f0 := r1.f 0 rfl
     have f1 := r1.f 1 rfl
     have z0 := r2.c 0 rfl
     have z1 := r2.c 1 rfl
     go_region_with (go_at_call 16; (with_reducible refine (HN1.out _).mono ?_); rintro e W' ⟨rfl, hb⟩; (replace hB := hB.drew.trans (hb.mono hB.drew.size)); (replace r1 := r1.drew.after hb); (replace r2 := r2.drew.after hb); (have y0 := r1.c 0 rfl); (have y1 := r1.c 1 rfl); (have g0 := r1.f 0 rfl); (have g1 := r1.f 1 rfl); (have t0 := r2.c 0 rfl); (have t1 := r2.c 1 rfl); clear x0 x1 f0 f1 z0 z1)
     all_goals go_wp2_with fail
     all_goals
      have q0 := ((r1.set 0 (by simp) (.int .i64 x)).set 1 (by simp) (.int .i64 y)).c 0 rfl
      have q1 := ((r1.set 0 (by simp) (.int .i64 x)).set 1 (by simp) (.int .i64 y)).c 1 rfl
      refine bodyPost_ret (v := .tuple #[.agg (nodeA R.1.1 R.1.2), .bool R.2]) ?_ rfl ⟨rfl, below_put1 (below_put1 hB (Nat.le_refl _) 0 _) (Nat.le_refl _) 1 _⟩
      rw [HF.out]
      simp [results, Tryz.results67, go_sem, nodeA, Act.put, q0, q1]
   ·have hx : ¬ s.data.toList[k]'(by omega) = 32 := fun h => hc (by rw [← eK, h]; rfl)
    have HX := Lib.hid hx
    have w1a : IntKind.i64.wrap ((k : Int) + 1) = (k : Int) + 1 := by rw [IntKind.wrap_i64]; omega
    clear hx eK
    go_wp2_with fail
    exact ⟨⟨k + 1, by omega, rfl, Lib.hid (fun i h hi => by
     by_cases e : i = k
     ·subst e; exact HX.out
     ·exact HI.out i h (by omega)), by first | trivial | rfl⟩, by simp [intOf]; omega⟩
  ·obtain rfl : k = s.size := by omega
   have hk1 : ¬ ((s.size : Int) < s.size) := by omega
   have HF : Hid (R = ((0, 0), false)) := Lib.hid (by
    rw [← HR.out, nodeT, cut_not (fun i h => HI.out i h (by omega))]; rfl)
   go_wp2_with fail
   exact bodyPost_ret (v := .tuple #[.agg (nodeA R.1.1 R.1.2), .bool R.2]) (by rw [HF.out]; simp [results, Tryz.results67, go_sem, nodeA]) rfl ⟨rfl, (Below.refl _ _).alloc (Nat.le_refl _) _⟩
end Go.Proofs.YtongeeggaigepaaGreatDoor

namespace Go.Proofs.YtongeeggaigepaaGreatDoor
open Go.RowKit Go.Sort CrossMath
def segT (A B : (Int × Int) × Bool) : Sg := ⟨A.1.1, A.1.2, B.1.1, B.1.2⟩
def parseT (l : List UInt8) : Sg × Int :=
 if (Lib.cut l [44]).2.2 = true then
  (if ((nodeT (Lib.cut l [44]).1).2 && ((nodeT (Lib.cut l [44]).2.1).2 && rightS (segT (nodeT (Lib.cut l [44]).1) (nodeT (Lib.cut l [44]).2.1)))) = true then (segT (nodeT (Lib.cut l [44]).1) (nodeT (Lib.cut l [44]).2.1), 0) else (⟨0, 0, 0, 0⟩, 140))
 else (⟨0, 0, 0, 0⟩, 140)
set_option maxRecDepth 100000 in
set_option maxHeartbeats 3200000 in
theorem refparse_any (s : ByteArray) (w : World) (hs : s.size ≤ 200) :
 Calls Tryz.prog 27 #[.string s] w fun e w' => e = .returned (.tuple #[.agg (sgA (parseT s.data.toList).1), .int .i64 (parseT s.data.toList).2]) ∧ Below w.heap.size w w' := by
 obtain ⟨R, HR⟩ : ∃ R : Sg × Int, Hid (parseT s.data.toList = R) := ⟨_, Lib.hid rfl⟩
 rw [HR.out]
 have HN : Hid (∀ (d : ByteArray) (W : World), d.size ≤ 200 → Calls Tryz.prog 67 #[.string d] W fun e w' => e = .returned (.tuple #[.agg (nodeA (nodeT d.data.toList).1.1 (nodeT d.data.toList).1.2), .bool (nodeT d.data.toList).2]) ∧ Below W.heap.size W w') := Lib.hid (fun d W h => rnode_any d W h)
 go_enter Tryz.func27, Tryz.ntmps27
 go_wp2_with fail
 go_loopw [4] (fun i wr => ∃ k : Nat, k ≤ s.size ∧ i = .int .i64 k ∧ Hid (∀ (i : Nat) (h : i < s.data.toList.length), i < k → s.data.toList[i] ≠ 44) ∧ w.alloc (Obj.cells #[.int .i64 0, .int .i64 0, .int .i64 0, .int .i64 0] 25) = wr) (fun i _ => s.size - (intOf i).toNat)
 case atStart => exact ⟨0, by omega, rfl, Lib.hid (fun _ _ h => by omega), rfl⟩
 case round =>
  obtain ⟨k, hk, rfl, HI, rfl⟩ := hrel
  have hlen : s.data.toList.length = s.size := Array.length_toList
  by_cases hkn : k < s.size
  ·have hk1 : (k : Int) < s.size := by omega
   have eK : s.data.toList[k]'(by omega) = s[k]'hkn := rfl
   by_cases hc : ((s[k]'hkn).toNat : Int) = 44
   ·have hx : s.data.toList[k]'(by omega) = 44 := UInt8.toNat.inj (by show (s[k]'hkn).toNat = 44; omega)
    have HC := Lib.hid (cut_at (by omega) hx HI.out)
    obtain ⟨A, HX⟩ : ∃ A, Hid (nodeT (s.extract 0 k).data.toList = A) := ⟨_, Lib.hid rfl⟩
    obtain ⟨B, HY⟩ : ∃ B, Hid (nodeT (s.extract (k + 1) s.size).data.toList = B) := ⟨_, Lib.hid rfl⟩
    have HF : Hid (R = if (A.2 && (B.2 && rightS (segT A B))) = true then (segT A B, 0) else (⟨0, 0, 0, 0⟩, 140)) := Lib.hid (by
     have h1 := HX.out
     have h2 := HY.out
     rw [ext_ahead] at h1
     rw [ext_behind] at h2
     rw [← HR.out, parseT, HC.out]
     show (if true = true then _ else _) = _
     rw [if_pos rfl, h1, h2])
    obtain ⟨⟨ax, ay⟩, xa⟩ := A
    obtain ⟨⟨bx, bY⟩, ya⟩ := B
    have HC1 : Hid (∀ W, Calls Tryz.prog 67 #[.string (s.extract 0 k)] W fun e w' => e = .returned (.tuple #[.agg #[.int .i64 ax, .int .i64 ay], .bool xa]) ∧ Below W.heap.size W w') := Lib.hid (fun W => by
     have h := HN.out (s.extract 0 k) W (by simp; omega)
     rw [HX.out] at h; exact h)
    have HC2 : Hid (∀ W, Calls Tryz.prog 67 #[.string (s.extract (k + 1) s.size)] W fun e w' => e = .returned (.tuple #[.agg #[.int .i64 bx, .int .i64 bY], .bool ya]) ∧ Below W.heap.size W w') := Lib.hid (fun W => by
     have h := HN.out (s.extract (k + 1) s.size) W (by simp; omega)
     rw [HY.out] at h; exact h)
    have hk2 : (k : Int) + 1 ≤ s.size := by omega
    have w1a : IntKind.i64.wrap ((k : Int) + 1) = (k : Int) + 1 := by rw [IntKind.wrap_i64]; omega
    clear HX HY HC
    have hB := (Below.refl w.heap.size w).alloc (Nat.le_refl _) (.cells #[.int .i64 0, .int .i64 0, .int .i64 0, .int .i64 0] 25)
    have r0 := Row.at (w := w) rfl [.int .i64 0, .int .i64 0, .int .i64 0, .int .i64 0] 25
    go_wp2_with fail
    refine (HC1.out _).mono ?_
    rintro e W1 ⟨rfl, hb⟩
    replace r0 := (r0.after hb).alloc (.cells #[.int .i64 ax, .int .i64 ay] 23)
    replace hB := hB.trans (hb.mono hB.size)
    replace hB := hB.alloc hB.size (.cells #[.int .i64 ax, .int .i64 ay] 23)
    clear hb
    have rA := Row.at (w := W1) rfl [.int .i64 ax, .int .i64 ay] 23
    go_upto_region 6 with fail
    generalize World.alloc W1 _ = W2 at r0 hB rA ⊢
    generalize W1.heap.size = pA at rA ⊢
    go_wp2_with fail
    refine (HC2.out _).mono ?_
    rintro e W3 ⟨rfl, hb⟩
    replace r0 := (r0.after hb).alloc (.cells #[.int .i64 bx, .int .i64 bY] 23)
    replace rA := (rA.after hb).alloc (.cells #[.int .i64 bx, .int .i64 bY] 23)
    replace hB := hB.trans (hb.mono hB.size)
    replace hB := hB.alloc hB.size (.cells #[.int .i64 bx, .int .i64 bY] 23)
    clear hb
    have rB := Row.at (w := W3) rfl [.int .i64 bx, .int .i64 bY] 23
    go_upto_region 7 with fail
    generalize World.alloc W3 _ = W4 at r0 hB rA rB ⊢
    generalize W3.heap.size = pB at rB ⊢
    have a0 := rA.c 0 rfl
    have a1 := rA.c 1 rfl
    have b0 := rB.c 0 rfl
    have b1 := rB.c 1 rfl
    go_upto_region 8 with fail
    clear a0 a1 b0 b1
    replace r0 := r0.alloc (.cells #[.int .i64 ax, .int .i64 ay, .int .i64 bx, .int .i64 bY] 25)
    replace hB := hB.alloc hB.size (.cells #[.int .i64 ax, .int .i64 ay, .int .i64 bx, .int .i64 bY] 25)
    have rT := Row.at (w := W4) rfl [.int .i64 ax, .int .i64 ay, .int .i64 bx, .int .i64 bY] 25
    generalize World.alloc W4 _ = W5 at r0 hB rT ⊢
    generalize W4.heap.size = pT at rT ⊢
    have t0 := rT.c 0 rfl
    have t1 := rT.c 1 rfl
    have t2 := rT.c 2 rfl
    have t3 := rT.c 3 rfl
    have y0 := r0.c 0 rfl
    have y1 := r0.c 1 rfl
    have y2 := r0.c 2 rfl
    have y3 := r0.c 3 rfl
    have f0 := r0.f 0 rfl
    have f1 := r0.f 1 rfl
    have f2 := r0.f 2 rfl
    have f3 := r0.f 3 rfl
    cases xa with
    | false =>
      go_wp2_with fail
      have q0 := ((((r0.set 0 (by simp) (.int .i64 0)).set 1 (by simp) (.int .i64 0)).set 2 (by simp) (.int .i64 0)).set 3 (by simp) (.int .i64 0)).c 0 rfl
      have q1 := ((((r0.set 0 (by simp) (.int .i64 0)).set 1 (by simp) (.int .i64 0)).set 2 (by simp) (.int .i64 0)).set 3 (by simp) (.int .i64 0)).c 1 rfl
      have q2 := ((((r0.set 0 (by simp) (.int .i64 0)).set 1 (by simp) (.int .i64 0)).set 2 (by simp) (.int .i64 0)).set 3 (by simp) (.int .i64 0)).c 2 rfl
      have q3 := ((((r0.set 0 (by simp) (.int .i64 0)).set 1 (by simp) (.int .i64 0)).set 2 (by simp) (.int .i64 0)).set 3 (by simp) (.int .i64 0)).c 3 rfl
      refine bodyPost_ret (v := .tuple #[.agg (sgA R.1), .int .i64 R.2]) ?_ rfl ⟨rfl, (below_put1 (below_put1 (below_put1 (below_put1 hB (Nat.le_refl _) 0 _) (Nat.le_refl _) 1 _) (Nat.le_refl _) 2 _) (Nat.le_refl _) 3 _)⟩
      rw [HF.out]
      simp [results, Tryz.results27, go_sem, sgA, segT, q0, q1, q2, q3]
    | true =>
      cases ya with
      | false =>
        go_wp2_with fail
        have q0 := ((((r0.set 0 (by simp) (.int .i64 0)).set 1 (by simp) (.int .i64 0)).set 2 (by simp) (.int .i64 0)).set 3 (by simp) (.int .i64 0)).c 0 rfl
        have q1 := ((((r0.set 0 (by simp) (.int .i64 0)).set 1 (by simp) (.int .i64 0)).set 2 (by simp) (.int .i64 0)).set 3 (by simp) (.int .i64 0)).c 1 rfl
        have q2 := ((((r0.set 0 (by simp) (.int .i64 0)).set 1 (by simp) (.int .i64 0)).set 2 (by simp) (.int .i64 0)).set 3 (by simp) (.int .i64 0)).c 2 rfl
        have q3 := ((((r0.set 0 (by simp) (.int .i64 0)).set 1 (by simp) (.int .i64 0)).set 2 (by simp) (.int .i64 0)).set 3 (by simp) (.int .i64 0)).c 3 rfl
        refine bodyPost_ret (v := .tuple #[.agg (sgA R.1), .int .i64 R.2]) ?_ rfl ⟨rfl, (below_put1 (below_put1 (below_put1 (below_put1 hB (Nat.le_refl _) 0 _) (Nat.le_refl _) 1 _) (Nat.le_refl _) 2 _) (Nat.le_refl _) 3 _)⟩
        rw [HF.out]
        simp [results, Tryz.results27, go_sem, sgA, segT, q0, q1, q2, q3]
      | true =>
        have HR1 : Hid (∀ W, Calls Tryz.prog 12 #[.agg #[.int .i64 ax, .int .i64 ay, .int .i64 bx, .int .i64 bY]] W fun e w' => e = .returned (.bool (rightS ⟨ax, ay, bx, bY⟩)) ∧ Below W.heap.size W w') := Lib.hid (fun W => refright_any ⟨ax, ay, bx, bY⟩ W)
        replace HF : Hid (R = if rightS ⟨ax, ay, bx, bY⟩ = true then (⟨ax, ay, bx, bY⟩, 0) else (⟨0, 0, 0, 0⟩, 140)) := Lib.hid HF.out
        obtain ⟨nb, hnb⟩ : ∃ nb, rightS ⟨ax, ay, bx, bY⟩ = nb := ⟨_, rfl⟩
        rw [hnb] at HR1 HF
        clear hnb
        go_wp2_with fail
        refine (HR1.out _).mono ?_
        rintro e W6 ⟨rfl, hb⟩
        replace r0 := r0.after hb
        replace rT := rT.after hb
        replace hB := hB.trans (hb.mono hB.size)
        clear hb t0 t1 t2 t3 y0 y1 y2 y3 f0 f1 f2 f3
        have t0 := rT.c 0 rfl
        have t1 := rT.c 1 rfl
        have t2 := rT.c 2 rfl
        have t3 := rT.c 3 rfl
        have y0 := r0.c 0 rfl
        have y1 := r0.c 1 rfl
        have y2 := r0.c 2 rfl
        have y3 := r0.c 3 rfl
        have f0 := r0.f 0 rfl
        have f1 := r0.f 1 rfl
        have f2 := r0.f 2 rfl
        have f3 := r0.f 3 rfl
        cases nb with
        | false =>
          go_wp2_with fail
          have q0 := ((((r0.set 0 (by simp) (.int .i64 0)).set 1 (by simp) (.int .i64 0)).set 2 (by simp) (.int .i64 0)).set 3 (by simp) (.int .i64 0)).c 0 rfl
          have q1 := ((((r0.set 0 (by simp) (.int .i64 0)).set 1 (by simp) (.int .i64 0)).set 2 (by simp) (.int .i64 0)).set 3 (by simp) (.int .i64 0)).c 1 rfl
          have q2 := ((((r0.set 0 (by simp) (.int .i64 0)).set 1 (by simp) (.int .i64 0)).set 2 (by simp) (.int .i64 0)).set 3 (by simp) (.int .i64 0)).c 2 rfl
          have q3 := ((((r0.set 0 (by simp) (.int .i64 0)).set 1 (by simp) (.int .i64 0)).set 2 (by simp) (.int .i64 0)).set 3 (by simp) (.int .i64 0)).c 3 rfl
          refine bodyPost_ret (v := .tuple #[.agg (sgA R.1), .int .i64 R.2]) ?_ rfl ⟨rfl, (below_put1 (below_put1 (below_put1 (below_put1 hB (Nat.le_refl _) 0 _) (Nat.le_refl _) 1 _) (Nat.le_refl _) 2 _) (Nat.le_refl _) 3 _)⟩
          rw [HF.out]
          simp [results, Tryz.results27, go_sem, sgA, q0, q1, q2, q3]
        | true =>
          go_wp2_with fail
          have q0 := ((((r0.set 0 (by simp) (.int .i64 ax)).set 1 (by simp) (.int .i64 ay)).set 2 (by simp) (.int .i64 bx)).set 3 (by simp) (.int .i64 bY)).c 0 rfl
          have q1 := ((((r0.set 0 (by simp) (.int .i64 ax)).set 1 (by simp) (.int .i64 ay)).set 2 (by simp) (.int .i64 bx)).set 3 (by simp) (.int .i64 bY)).c 1 rfl
          have q2 := ((((r0.set 0 (by simp) (.int .i64 ax)).set 1 (by simp) (.int .i64 ay)).set 2 (by simp) (.int .i64 bx)).set 3 (by simp) (.int .i64 bY)).c 2 rfl
          have q3 := ((((r0.set 0 (by simp) (.int .i64 ax)).set 1 (by simp) (.int .i64 ay)).set 2 (by simp) (.int .i64 bx)).set 3 (by simp) (.int .i64 bY)).c 3 rfl
          refine bodyPost_ret (v := .tuple #[.agg (sgA R.1), .int .i64 R.2]) ?_ rfl ⟨rfl, (below_put1 (below_put1 (below_put1 (below_put1 hB (Nat.le_refl _) 0 _) (Nat.le_refl _) 1 _) (Nat.le_refl _) 2 _) (Nat.le_refl _) 3 _)⟩
          rw [HF.out]
          simp [results, Tryz.results27, go_sem, sgA, q0, q1, q2, q3]
   ·have hx : ¬ s.data.toList[k]'(by omega) = 44 := fun h => hc (by rw [← eK, h]; rfl)
    have HX := Lib.hid hx
    have w1a : IntKind.i64.wrap ((k : Int) + 1) = (k : Int) + 1 := by rw [IntKind.wrap_i64]; omega
    clear hx eK
    go_wp2_with fail
    exact ⟨⟨k + 1, by omega, rfl, Lib.hid (fun i h hi => by
     by_cases e : i = k
     ·subst e; exact HX.out
     ·exact HI.out i h (by omega)), by first | trivial | rfl⟩, by simp [intOf]; omega⟩
  ·obtain rfl : k = s.size := by omega
   have hk1 : ¬ ((s.size : Int) < s.size) := by omega
   have HF : Hid (R = (⟨0, 0, 0, 0⟩, 140)) := Lib.hid (by
    rw [← HR.out, parseT, cut_not (fun i h => HI.out i h (by omega))]; rfl)
   go_wp2_with fail
   exact bodyPost_ret (v := .tuple #[.agg (sgA R.1), .int .i64 R.2]) (by rw [HF.out]; simp [results, Tryz.results27, go_sem, sgA]) rfl ⟨rfl, (Below.refl _ _).alloc (Nat.le_refl _) _⟩
end Go.Proofs.YtongeeggaigepaaGreatDoor

namespace Go.Proofs.YtongeeggaigepaaGreatDoor
open Go.RowKit Go.Sort CrossMath

def dgs (l : List UInt8) : List UInt8 := Lib.trimPrefix l [45]
def valZ (l : List UInt8) : Int := if l.head? = some 45 then -valT (dgs l) else valT (dgs l)
theorem dgs_neg {l : List UInt8} (h : l.head? = some 45) : dgs l = l.tail := by
 cases l with
 | nil => cases h
 | cons c t =>
   obtain rfl : c = 45 := by simpa using h
   simp [dgs, Lib.trimPrefix, Lib.hasPrefix, List.isPrefixOf]
theorem dgs_pos {l : List UInt8} (h : ¬ l.head? = some 45) : dgs l = l := by
 cases l with
 | nil => rfl
 | cons c t =>
   have hc : ¬ 45 = c := fun e => h (by rw [← e]; rfl)
   simp [dgs, Lib.trimPrefix, Lib.hasPrefix, List.isPrefixOf, hc]
theorem isDig_rng {c : UInt8} (h : isDig c = true) : 48 ≤ c.toNat ∧ c.toNat ≤ 57 := by
 unfold isDig at h
 rw [Bool.and_eq_true, decide_eq_true_eq, decide_eq_true_eq] at h; exact h
theorem valT_pos (l : List UInt8) (hd : ∀ c, c ∈ l → isDig c = true) : ∀ k, k ≤ l.length → 0 ≤ valT (l.take k)
 | 0, _ => by rw [List.take_zero]; exact Int.le_refl _
 | k + 1, hk => by
   have ih := valT_pos l hd k (by omega)
   have hc := isDig_rng (hd _ (List.getElem_mem (show k < l.length by omega)))
   rw [valT_take l k (by omega)]
   omega
theorem valT_ge (l : List UInt8) (hd : ∀ c, c ∈ l → isDig c = true) (h1 : ¬ l.head? = some 48) : ∀ k, k < l.length → (10 : Int) ^ k ≤ valT (l.take (k + 1))
 | 0, hk => by
   have hc := isDig_rng (hd _ (List.getElem_mem hk))
   have hn : ¬ l[0].toNat = 48 := fun e => h1 (by rw [List.head?_eq_getElem?, List.getElem?_eq_getElem hk]; congr 1; exact UInt8.toNat.inj e)
   rw [valT_take l 0 hk, List.take_zero]
   show (1 : Int) ≤ 10 * 0 + _
   omega
 | k + 1, hk => by
   have ih := valT_ge l hd h1 k (by omega)
   have hc := isDig_rng (hd _ (List.getElem_mem hk))
   rw [valT_take l (k + 1) hk, Int.pow_succ]
   omega
theorem dv_val (D : ByteArray) (hd : ∀ c, c ∈ D.data.toList → isDig c = true) : ∀ k, k ≤ D.size → ((dv D k : Nat) : Int) = valT (D.data.toList.take k)
 | 0, _ => by rw [List.take_zero]; rfl
 | k + 1, hk => by
   have hl : D.data.toList.length = D.size := Array.length_toList
   have ih := dv_val D hd k (by omega)
   have hc := isDig_rng (hd _ (List.getElem_mem (show k < D.data.toList.length by omega)))
   have e : D.data.toList[k]'(by omega) = D[k]'(by omega) := rfl
   rw [valT_take _ k (by omega), ← ih, dv, dgt, dif_pos (show k < D.size by omega)]
   rw [e] at hc ⊢
   omega
theorem isText_says {l : List UInt8} (h : isTextB l = true) : (∀ c, c ∈ dgs l → isDig c = true) ∧ ¬ dgs l = [] ∧ ((dgs l).head? = some 48 → l = [48]) := by
 unfold isTextB at h
 change (!((dgs l).isEmpty || ((dgs l).head? == some 48 && l != [48])) && (dgs l).all isDig) = true at h
 rw [Bool.and_eq_true, Bool.not_eq_true', Bool.or_eq_false_iff] at h
 obtain ⟨⟨h1, h2⟩, h3⟩ := h
 refine ⟨List.all_eq_true.1 h3, fun e => (by rw [e] at h1; cases h1), fun e => ?_⟩
 rw [e] at h2
 simpa using h2
theorem isText_of {l : List UInt8} (h1 : ∀ c, c ∈ dgs l → isDig c = true) (h2 : ¬ dgs l = []) (h3 : (dgs l).head? = some 48 → l = [48]) : isTextB l = true := by
 unfold isTextB
 show (!((dgs l).isEmpty || ((dgs l).head? == some 48 && l != [48])) && (dgs l).all isDig) = true
 rw [Bool.and_eq_true, Bool.not_eq_true', Bool.or_eq_false_iff]
 refine ⟨⟨?_, ?_⟩, List.all_eq_true.2 h1⟩
 ·cases h : dgs l with
  | nil => exact absurd h h2
  | cons _ _ => rfl
 ·by_cases e : (dgs l).head? = some 48
  ·rw [h3 e]; simp
  ·rw [Bool.and_eq_false_iff]; left; simpa using e
theorem valT_whole (l : List UInt8) : valT (l.take l.length) = valT l := by rw [List.take_length]
theorem dgs_nonneg {l : List UInt8} (h : isTextB l = true) : 0 ≤ valT (dgs l) := by
 have := valT_pos (dgs l) (isText_says h).1 (dgs l).length (Nat.le_refl _)
 rwa [valT_whole] at this
theorem len_pos {l : List UInt8} (h : ¬ l = []) : 0 < l.length := by
 cases l with
 | nil => exact absurd rfl h
 | cons _ _ => simp
theorem dgs_great {l : List UInt8} (h : isTextB l = true) (h1 : ¬ (dgs l).head? = some 48) : (10 : Int) ^ ((dgs l).length - 1) ≤ valT (dgs l) := by
 obtain ⟨h2, h3, _⟩ := isText_says h
 have hp := len_pos h3
 have := valT_ge (dgs l) h2 h1 ((dgs l).length - 1) (by omega)
 rw [show (dgs l).length - 1 + 1 = (dgs l).length by omega, valT_whole] at this
 exact this
theorem numS_of (l : List UInt8) : numS l = numT (decide (l.head? = some 45)) (dgs l) := by
 unfold numS
 by_cases h : l.head? = some 45
 ·rw [if_pos h, dgs_neg h, decide_eq_true h]
 ·rw [if_neg h, dgs_pos h, decide_eq_false h]
theorem pow_ten {k : Nat} (h : 9 ≤ k) : (1000000000 : Int) ≤ 10 ^ k := by
 have e : k = 9 + (k - 9) := by omega
 have hp : ∀ n : Nat, (1 : Int) ≤ 10 ^ n := fun n => by
  induction n with
  | zero => exact Int.le_refl _
  | succ n ih => rw [Int.pow_succ]; omega
 rw [e, Int.pow_add]
 have := hp (k - 9)
 have e9 : (10 : Int) ^ 9 = 1000000000 := by decide
 rw [e9]
 omega
theorem num_of {l : List UInt8} (h : isTextB l = true) (hb : inB (valZ l) = true) : numS l = (valZ l, true) := by
 obtain ⟨h1, h2, h3⟩ := isText_says h
 have hp := len_pos h2
 have hb2 := (inB_iff _).1 hb
 unfold Bd at hb2
 have hn := dgs_nonneg h
 have hv : valT (dgs l) ≤ 67108864 := by
  unfold valZ at hb2
  split at hb2 <;> omega
 have hlen : ¬ 9 < (dgs l).length := fun hl => by
  by_cases h4 : (dgs l).head? = some 48
  ·have e := h3 h4
   rw [e] at hl
   exact absurd hl (by decide)
  ·have := dgs_great h h4
   have h10 := pow_ten (k := (dgs l).length - 1) (by omega)
   omega
 rw [numS_of, numT, if_neg, if_pos]
 ·unfold valZ
  by_cases hs : l.head? = some 45
  ·rw [if_pos hs, decide_eq_true hs]; rfl
  ·rw [if_neg hs, decide_eq_false hs]; rfl
 ·exact List.all_eq_true.2 h1
 ·have he : (dgs l).isEmpty = false := by
   cases h : dgs l with
   | nil => exact absurd h h2
   | cons _ _ => rfl
  rw [he, Bool.false_or, decide_eq_false hlen, Bool.false_or]
  by_cases h4 : (dgs l).head? = some 48
  ·have e := h3 h4
   rw [e]
   decide
  ·intro hx
   rw [Bool.and_eq_true] at hx
   exact h4 (by simpa using hx.1)
theorem num_says {l : List UInt8} (h : (numS l).2 = true) : isTextB l = true ∧ (numS l).1 = valZ l ∧ (valZ l).natAbs < 1000000000 := by
 rw [numS_of] at h ⊢
 unfold numT at h ⊢
 split at h
 ·cases h
 ·rename_i hn
  split at h
  ·rename_i hd
   have hd2 := List.all_eq_true.1 hd
   have hn2 : ((dgs l).isEmpty || (decide (9 < (dgs l).length) || ((dgs l).head? == some 48 && (decide (1 < (dgs l).length) || decide (l.head? = some 45))))) = false := by
    simpa using hn
   rw [Bool.or_eq_false_iff, Bool.or_eq_false_iff] at hn2
   obtain ⟨n1, n2, n3⟩ := hn2
   have ne : ¬ dgs l = [] := fun e => by rw [e] at n1; cases n1
   have nl : (dgs l).length ≤ 9 := by have := of_decide_eq_false n2; omega
   have hz := valT_bd (dgs l) (dgs l).length (Nat.le_refl _) nl (fun i hi _ => hd2 _ (List.getElem_mem hi))
   rw [valT_whole] at hz
   have h9 : (10 : Int) ^ (dgs l).length ≤ 1000000000 := by
    have hm : ∀ m : Nat, m ≤ 9 → (10 : Int) ^ m ≤ 1000000000 := by decide
    exact hm _ nl
   refine ⟨isText_of hd2 ne fun e => ?_, ?_, ?_⟩
   ·rw [e] at n3
    have n4 : (decide (1 < (dgs l).length) || decide (l.head? = some 45)) = false := by simpa using n3
    rw [Bool.or_eq_false_iff] at n4
    have hs := of_decide_eq_false n4.2
    have hl1 := of_decide_eq_false n4.1
    rw [dgs_pos hs] at e hl1 ne
    have hp := len_pos ne
    cases l with
    | nil => cases e
    | cons c t =>
      obtain rfl : c = 48 := by simpa using e
      have : t = [] := List.eq_nil_of_length_eq_zero (by rw [List.length_cons] at hl1; omega)
      rw [this]
   ·unfold valZ
    rw [if_neg hn, if_pos hd]
    by_cases hs : l.head? = some 45
    ·rw [if_pos hs, decide_eq_true hs]; rfl
    ·rw [if_neg hs, decide_eq_false hs]; rfl
   ·unfold valZ
    split <;> omega
  ·cases h
theorem one_text {l : List UInt8} (h : isTextB l = true) (h1 : valZ l = 1) : l = [49] := by
 obtain ⟨h2, h3, h4⟩ := isText_says h
 have hn := dgs_nonneg h
 unfold valZ at h1
 split at h1
 ·omega
 ·rename_i hs
  have h5 : ¬ (dgs l).head? = some 48 := fun e => by
   rw [h4 e] at h1
   exact absurd h1 (by decide)
  have hg := dgs_great h h5
  have hp := len_pos h3
  have hl : (dgs l).length = 1 := by
   apply Classical.byContradiction
   intro hc
   obtain ⟨k, hk⟩ : ∃ k, (dgs l).length - 1 = k + 1 := ⟨(dgs l).length - 2, by omega⟩
   have hq : ∀ n : Nat, (1 : Int) ≤ 10 ^ n := fun n => by
    induction n with
    | zero => exact Int.le_refl _
    | succ n ih => rw [Int.pow_succ]; omega
   rw [hk, Int.pow_succ] at hg
   have := hq k
   omega
  rw [dgs_pos hs] at hl h1 h2
  match l, hl with
  | [c], _ =>
    have hc := isDig_rng (h2 c (List.mem_singleton_self c))
    have e : valT [c] = 10 * 0 + ((c.toNat : Int) - 48) := rfl
    rw [e] at h1
    rw [show c = 49 from UInt8.toNat.inj (by show c.toNat = 49; omega)]
theorem text_chars {l : List UInt8} (h : isTextB l = true) : ∀ c, c ∈ l → c = 45 ∨ isDig c = true := by
 intro c hc
 obtain ⟨h2, _, _⟩ := isText_says h
 by_cases hs : l.head? = some 45
 ·rw [dgs_neg hs] at h2
  cases l with
  | nil => cases hc
  | cons x t =>
    rcases List.mem_cons.1 hc with e | e
    ·left; rw [e]; simpa using hs
    ·exact .inr (h2 c e)
 ·rw [dgs_pos hs] at h2
  exact .inr (h2 c hc)
theorem text_no {l : List UInt8} (h : isTextB l = true) {c : UInt8} (h1 : c ≠ 45) (h2 : isDig c = false) : c ∉ l := fun hc => by
 rcases text_chars h c hc with e | e
 ·exact h1 e
 ·rw [h2] at e; cases e
def prsT (l : List UInt8) : Int × Int := if isTextB l = true then (if (valZ l).natAbs < T256 then (valZ l, 0) else (0, 110)) else (0, 111)
theorem prsT_lt (l : List UInt8) : (prsT l).1.natAbs < T256 := by
 unfold prsT
 split
 ·split
  ·rename_i h; exact h
  ·decide
 ·decide
theorem limbparse_any (s : ByteArray) (w : World) (hs : s.size ≤ 1000) :
 Calls Tryz.prog 210 #[.string s] w fun e w' => e = .returned (.tuple #[ivz (prsT s.data.toList).1, .int .i64 (prsT s.data.toList).2]) ∧ Below w.heap.size w w' := by
 by_cases hit : isTextB s.data.toList = true
 ·obtain ⟨h1, h2, h3⟩ := isText_says hit
  obtain ⟨D, hD⟩ : ∃ D : ByteArray, D = ⟨(dgs s.data.toList).toArray⟩ := ⟨_, rfl⟩
  have hDl : D.data.toList = dgs s.data.toList := by rw [hD]
  have e1 : D.data.toList.length = D.size := Array.length_toList
  have e2 : s.data.toList.length = s.size := Array.length_toList
  have hDs : D.size ≤ 1000 := by
   have h1 := trim_len s.data.toList [45]
   change (dgs s.data.toList).length ≤ _ at h1
   rw [← hDl] at h1
   omega
  have hneg : (!(s.toList == D.toList)) = decide (s.data.toList.head? = some 45) := by
   rw [ByteArray.toList_eq, ByteArray.toList_eq, hDl]
   by_cases hs : s.data.toList.head? = some 45
   ·rw [decide_eq_true hs, dgs_neg hs]
    cases hl : s.data.toList with
    | nil => rw [hl] at hs; cases hs
    | cons c t =>
      simp
   ·rw [decide_eq_false hs, dgs_pos hs]; simp
  have hv : ((dv D D.size : Nat) : Int) = valT (dgs s.data.toList) := by
   have h := dv_val D (by rw [hDl]; exact h1) D.size (Nat.le_refl _)
   rw [← e1, valT_whole, e1, hDl] at h
   exact h
  have h := parse_z s D w hD hs hDs hit (all_dig.1 (by rw [hDl]; exact List.all_eq_true.2 h1)) (by
   rw [hneg]
   intro hs
   have hs2 := of_decide_eq_true hs
   have h4 : ¬ (dgs s.data.toList).head? = some 48 := fun e => by
    rw [h3 e] at hs2; cases hs2
   have := dgs_great hit h4
   have hq : ∀ n : Nat, (1 : Int) ≤ 10 ^ n := fun n => by
    induction n with
    | zero => exact Int.le_refl _
    | succ n ih => rw [Int.pow_succ]; omega
   have := hq ((dgs s.data.toList).length - 1)
   omega)
  have ht : textN (!(s.toList == D.toList)) D = valZ s.data.toList := by
   unfold textN valZ
   rw [hneg, hv]
   by_cases hs : s.data.toList.head? = some 45
   ·rw [if_pos (decide_eq_true hs), if_pos hs]
   ·rw [if_neg (by simpa using hs), if_neg hs]
  rw [ht, outV] at h
  unfold prsT
  rw [if_pos hit]
  by_cases hf : (valZ s.data.toList).natAbs < T256
  ·rw [if_pos hf] at h ⊢; exact h
  ·rw [if_neg hf] at h ⊢
   rw [show ivz 0 = iv false 0 0 0 0 by simp [ivz, iv, W64]]
   exact h
 ·have h := parse_bad s w hs (by simpa using hit)
  unfold prsT
  rw [if_neg hit]
  rw [show ivz 0 = iv false 0 0 0 0 by simp [ivz, iv, W64]]
  exact h
end Go.Proofs.YtongeeggaigepaaGreatDoor

namespace Go.Proofs.YtongeeggaigepaaGreatDoor
open Go.RowKit Go.Sort CrossMath

theorem cut_cases (l : List UInt8) (c : UInt8) : (c ∉ l ∧ Lib.cut l [c] = (l, [], false)) ∨ (∃ a b, l = a ++ c :: b ∧ c ∉ a ∧ Lib.cut l [c] = (a, b, true)) := by
 by_cases h : c ∈ l
 ·obtain ⟨a, b, e, ha⟩ := List.eq_append_cons_of_mem h
  exact .inr ⟨a, b, e, ha, by rw [e]; exact Lib.cut_some ha⟩
 ·exact .inl ⟨h, Lib.cut_none h⟩
theorem cut_len (l : List UInt8) (c : UInt8) : (Lib.cut l [c]).1.length ≤ l.length ∧ (Lib.cut l [c]).2.1.length ≤ l.length := by
 rcases cut_cases l c with ⟨_, e⟩ | ⟨a, b, e1, _, e⟩
 ·rw [e]; exact ⟨Nat.le_refl _, Nat.zero_le _⟩
 ·rw [e, e1]; simp; omega
def behB (l : List UInt8) : Bool := !(Lib.hasPrefix l [45]) && (!(l == [48]) && !(l == [49]))
def rat1 (A : Int × Int) : Int × Int × Int := if A.2 = 111 then (120, 0, 0) else if A.2 = 0 then (0, A.1, 1) else (A.2, 0, 0)
def rat2 (A B : Int × Int) (beh : Bool) : Int × Int × Int := if A.2 = 111 then (120, 0, 0) else if B.2 = 111 ∨ beh = false then (120, 0, 0) else if ¬ B.2 = 0 then (B.2, 0, 0) else if ¬ A.2 = 0 then (A.2, 0, 0) else if riB (some A.1) (some B.1) = true then (0, A.1, B.1) else (120, 0, 0)
def ratT (l : List UInt8) : Int × Int × Int := if (Lib.cut l [47]).2.2 = true then rat2 (prsT (Lib.cut l [47]).1) (prsT (Lib.cut l [47]).2.1) (behB (Lib.cut l [47]).2.1) else rat1 (prsT l)
theorem ratT_no {l : List UInt8} (h : (47 : UInt8) ∉ l) : ratT l = rat1 (prsT l) := by unfold ratT; rw [Lib.cut_none h]; rfl
theorem ratT_two {l a b : List UInt8} (h : Lib.cut l [47] = (a, b, true)) : ratT l = rat2 (prsT a) (prsT b) (behB b) := by unfold ratT; rw [h]; rfl
theorem nodeT_no {l : List UInt8} (h : (32 : UInt8) ∉ l) : nodeT l = ((0, 0), false) := by unfold nodeT; rw [Lib.cut_none h]; rfl
theorem nodeT_two {l a b : List UInt8} (h : Lib.cut l [32] = (a, b, true)) : nodeT l = (((numS a).1, (numS b).1), (numS a).2 && ((numS b).2 && nodeB (numS a).1 (numS b).1)) := by unfold nodeT; rw [h]; rfl
theorem prsT_ok {l : List UInt8} (h : (prsT l).2 = 0) : isTextB l = true ∧ (prsT l).1 = valZ l := by
 unfold prsT at h ⊢
 split at h
 ·rename_i h1
  split at h
  ·rename_i h2
   rw [if_pos h1, if_pos h2]; exact ⟨h1, rfl⟩
  ·exact absurd h (by decide)
 ·exact absurd h (by decide)
theorem rat_node {l : List UInt8} (h : (numS l).2 = true) : ratT l = (0, (numS l).1, 1) := by
 obtain ⟨h1, h2, h3⟩ := num_says h
 rw [ratT_no (text_no h1 (c := 47) (by decide) (by decide))]
 unfold rat1 prsT
 have : (valZ l).natAbs < T256 := Nat.lt_of_lt_of_le h3 (by decide)
 rw [if_pos h1, if_pos this, if_neg (show ¬ (0 : Int) = 111 by decide), if_pos rfl, h2]
theorem node_rat {l : List UInt8} (h0 : (ratT l).1 = 0) (h1 : (ratT l).2.2 = 1) (h2 : inB (ratT l).2.1 = true) : numS l = ((ratT l).2.1, true) := by
 rcases cut_cases l 47 with ⟨hn, hc⟩ | ⟨a, b, hl, ha, hc⟩
 ·rw [ratT_no hn] at h0 h1 h2 ⊢
  unfold rat1 at h0 h1 h2 ⊢
  split at h0
  ·exact absurd h0 (by decide)
  ·rename_i n1
   split at h0
   ·rename_i n2
    rw [if_neg n1, if_pos n2] at h1 h2 ⊢
    obtain ⟨g1, g2⟩ := prsT_ok n2
    have h2 : inB (prsT l).1 = true := h2
    rw [g2] at h2
    show numS l = ((prsT l).1, true)
    rw [g2]
    exact num_of g1 h2
   ·rename_i n2
    exact absurd h0 n2
 ·exfalso
  rw [ratT_two hc] at h0 h1
  unfold rat2 at h0 h1
  split at h0
  ·exact absurd h0 (by decide)
  ·rename_i n1
   split at h0
   ·exact absurd h0 (by decide)
   ·rename_i n2
    split at h0
    ·rename_i n3
     exact n3 h0
    ·rename_i n3
     split at h0
     ·rename_i n4; exact n4 h0
     ·rename_i n4
      split at h0
      ·rename_i n5
       rw [if_neg n1, if_neg n2, if_neg n3, if_neg n4, if_pos n5] at h1
       have h1 : (prsT b).1 = 1 := h1
       obtain ⟨g1, g2⟩ := prsT_ok (Classical.not_not.1 n3)
       have h1 : (prsT b).1 = 1 := h1
       rw [g2] at h1
       have hb := one_text g1 h1
       apply n2
       right
       show behB b = false
       rw [hb]; decide
      ·exact absurd h0 (by decide)
def ptK (A B : Int × Int × Int) : Int := if ¬ A.1 = 0 ∧ ¬ A.1 = 110 then 130 else if ¬ B.1 = 0 ∧ ¬ B.1 = 110 then 130 else if B.1 = 110 then 110 else if A.1 = 110 then 110 else if grB (some A.2.1) (some A.2.2) = true then 110 else if grB (some B.2.1) (some B.2.2) = true then 110 else 0
theorem ptK_ok {A B : Int × Int × Int} (h : ptK A B = 0) : A.1 = 0 ∧ B.1 = 0 ∧ grB (some A.2.1) (some A.2.2) = false ∧ grB (some B.2.1) (some B.2.2) = false := by
 unfold ptK at h
 split at h
 ·exact absurd h (by decide)
 split at h
 ·exact absurd h (by decide)
 split at h
 ·exact absurd h (by decide)
 split at h
 ·exact absurd h (by decide)
 split at h
 ·exact absurd h (by decide)
 split at h
 ·exact absurd h (by decide)
 rename_i n1 n2 n3 n4 n5 n6
 exact ⟨by omega, by omega, by simpa using n5, by simpa using n6⟩
def ndOk (l : List UInt8) : Bool := decide (ptK (ratT (Lib.cut l [32]).1) (ratT (Lib.cut l [32]).2.1) = 0) && gridB (some (ratT (Lib.cut l [32]).1).2.1) (some (ratT (Lib.cut l [32]).1).2.2) (some (ratT (Lib.cut l [32]).2.1).2.1) (some (ratT (Lib.cut l [32]).2.1).2.2)
theorem rat_nil : (ratT []).1 = 120 := by decide
theorem nd_says {l : List UInt8} (h : ndOk l = true) : nodeT l = (((ratT (Lib.cut l [32]).1).2.1, (ratT (Lib.cut l [32]).2.1).2.1), true) := by
 unfold ndOk at h
 rw [Bool.and_eq_true, decide_eq_true_eq] at h
 obtain ⟨h1, h2⟩ := h
 obtain ⟨a0, b0, _, _⟩ := ptK_ok h1
 rcases cut_cases l 32 with ⟨hn, hc⟩ | ⟨a, b, hl, ha, hc⟩
 ·rw [hc] at b0
  exact absurd (b0.symm.trans rat_nil) (by decide)
 ·rw [hc] at h2 a0 b0 ⊢
  simp only at h2 a0 b0 ⊢
  have g2 : (inB (ratT a).2.1 && inB (ratT b).2.1 && decide ((ratT a).2.2 = 1) && decide ((ratT b).2.2 = 1)) = true := h2
  rw [Bool.and_eq_true, Bool.and_eq_true, Bool.and_eq_true, decide_eq_true_eq, decide_eq_true_eq] at g2
  obtain ⟨⟨⟨i1, i2⟩, i3⟩, i4⟩ := g2
  have e1 := node_rat a0 i3 i1
  have e2 := node_rat b0 i4 i2
  rw [nodeT_two hc, e1, e2]
  have : nodeB (ratT a).2.1 (ratT b).2.1 = true := nodeB_iff.2 ⟨(inB_iff _).1 i1, (inB_iff _).1 i2⟩
  simp only
  rw [this]; rfl
theorem nd_of {l : List UInt8} (h : (nodeT l).2 = true) : ndOk l = true := by
 rcases cut_cases l 32 with ⟨hn, hc⟩ | ⟨a, b, hl, ha, hc⟩
 ·rw [nodeT_no hn] at h
  cases h
 ·rw [nodeT_two hc] at h
  simp only [Bool.and_eq_true] at h
  obtain ⟨h1, h2, h3⟩ := h
  obtain ⟨b1, b2⟩ := nodeB_iff.1 h3
  have e1 := rat_node h1
  have e2 := rat_node h2
  have q : ∀ {z : Int}, Bd z → grB (some z) (some 1) = false := fun {z} h => by
   unfold grB oM
   unfold Bd at h
   simp only [Bool.or_eq_false_iff, decide_eq_false_iff_not]
   omega
  unfold ndOk
  rw [hc]
  simp only
  rw [e1, e2]
  rw [Bool.and_eq_true, decide_eq_true_eq]
  constructor
  ·unfold ptK
   simp [q b1, q b2]
  ·show (inB _ && inB _ && decide ((1 : Int) = 1) && decide ((1 : Int) = 1)) = true
   rw [(inB_iff _).2 b1, (inB_iff _).2 b2]; rfl
theorem node_no {l : List UInt8} (h : (nodeT l).2 = true) : (44 : UInt8) ∉ l := by
 rcases cut_cases l 32 with ⟨hn, hc⟩ | ⟨a, b, hl, ha, hc⟩
 ·rw [nodeT_no hn] at h
  cases h
 ·rw [nodeT_two hc] at h
  simp only [Bool.and_eq_true] at h
  obtain ⟨h1, h2, h3⟩ := h
  have g1 := text_no (num_says h1).1 (c := 44) (by decide) (by decide)
  have g2 := text_no (num_says h2).1 (c := 44) (by decide) (by decide)
  rw [hl]
  intro hm
  rcases List.mem_append.1 hm with e | e
  ·exact g1 e
  ·rcases List.mem_cons.1 e with e | e
   ·exact absurd e (by decide)
   ·exact g2 e
end Go.Proofs.YtongeeggaigepaaGreatDoor

namespace Go.Proofs.YtongeeggaigepaaGreatDoor
open Go.RowKit Go.Sort CrossMath
attribute [local go_sem] Oper.semAt_some

theorem leaves_gave {F : Fence} {n : Nat} {P : Program} {B : Nat} {fn : Func} {tmps : Array Value} {R : Ending → World → Prop} {u : FrameMode} (hu : u ≠ .run) : ∀ (l : List Nat) (W : World), Marks B l W →
 (∀ V, Below B W V → LeavesIn F n P fn tmps R [] u V) → LeavesInM F n P fn tmps R (markL l) u W
 | [], W, _, h => h W (Below.refl _ _)
 | D :: r, W, ⟨h1, h2, h3, h4⟩, h => by
   have hb : Below D W (W.putObj D (.deferred none)) := below_putObj W _ (Nat.le_refl _)
   exact ⟨hu, .inl ⟨D, _, rfl, run_takeDeferred h2, leaves_gave hu r _ (h4.below h3 hb) (fun V hV => h V ((hb.mono h1).trans hV))⟩⟩
def lx {α β : Type} (L0 L1 L2 : β) : List α → β
 | [] => L0
 | [_] => L1
 | _ :: _ :: _ => L2
theorem two_r {α : Type} {pre : List α} {x y z : α} (h : (pre ++ [x]) <+: [y, z]) : (pre = [] ∧ x = y) ∨ (pre = [y] ∧ x = z) := by
 have hl := h.length_le
 match pre, h, hl with
 | [], h, _ =>
   obtain ⟨r, hr⟩ := h
   exact .inl ⟨rfl, by simpa using (List.cons.inj hr).1⟩
 | [u], h, _ =>
   have := h.eq_of_length rfl
   simp at this
   exact .inr ⟨by rw [this.1], this.2⟩
 | u :: v :: r, _, hl => simp at hl
set_option maxRecDepth 100000 in
set_option maxHeartbeats 4000000 in
theorem digits_u2 (n E : Nat) (s a b : ByteArray) (w : World) (hE : Row w E [.string s]) (hs : s.size < 4294967281) (hn : Lib.cut s.data.toList [47] = (a.data.toList, b.data.toList, true)) (hc : CutOk w) :
 SeqU Fence.wide (n + 1) Tryz.prog 222 #[.pointer (some ⟨E, 0, none⟩)] encD (fun _ => KeepsB E) [(false, a), (true, b)] w := by
 intro l J Jx W hW hJ hJx hY h0
 have HC := Lib.hid (strcut_any s ⟨#[47]⟩ a b true W (hc.below hW) hs hn)
 have HY := Lib.hid hY; clear hY
 have hR := hE.after hW
 clear hE hW
 have HJ := Lib.hid hJ
 have c0 := hR.c 0 rfl
 refine callsIn_of_wp Tryz.func222 rfl trivial ?_ rfl
 simp only [Tryz.ntmps222, List.size_toArray, List.length_cons, List.length_nil, Nat.reduceAdd, Nat.reduceSub, Array.replicate_succ, Array.replicate_zero, List.push_toArray, List.append_toArray, List.nil_append, List.cons_append]
 gi_wp2_with fail
 refine ⟨trivial, callsIn_wide.2 (HC.out.mono ?_)⟩
 rintro e W1 ⟨rfl, hb⟩
 have h1 := HJ.out _ _ _ h0 hb
 obtain ⟨fn, tmps, assign, body, hy, hr⟩ := HY.out [] (false, a) W1 h1 hb.size (by simp)
 have H1 := Lib.hid hr
 have hsz := hb.size
 unfold encD at hy
 clear hr c0 hb HC
 gi_wp2_with fail
 refine H1.out.mono ?_
 rintro e W2 ⟨b1, rfl, hk, hb⟩
 clear hy H1
 cases b1 with
 | false =>
   gi_wp2_with fail
   go_end0
   exact ⟨⟨_, rfl⟩, .inr ⟨[(false, a)], by simp, hb⟩⟩
 | true =>
   obtain ⟨fn, tmps, assign, body, hy, hr⟩ := HY.out [(false, a)] (true, b) W2 hb (Nat.le_trans hsz hk.1) (by simp)
   have H2 := Lib.hid hr
   unfold encD at hy
   clear hr
   gi_wp2_with fail
   refine H2.out.mono ?_
   rintro e W3 ⟨b2, rfl, hk2, hb2⟩
   clear hy H2
   gi_wp2_with fail
   go_end0
   refine ⟨⟨_, rfl⟩, ?_⟩
   cases b2 with
   | false => exact .inr ⟨[(false, a), (true, b)], by simp, hb2⟩
   | true => exact .inl hb2
set_option maxRecDepth 100000 in
set_option maxHeartbeats 4000000 in
theorem isBehind_any (s : ByteArray) (w : World) : Calls Tryz.prog 211 #[.string s] w fun e w' => e = .returned (.bool (behB s.data.toList)) ∧ w = w' := by
 have HP := Lib.hid (fun W => Tryz.strings_HasPrefix s ⟨#[45]⟩ W)
 rw [show (⟨#[45]⟩ : ByteArray).data.toList = [45] from rfl] at HP
 have HB : Hid (behB s.data.toList = (!(Lib.hasPrefix s.data.toList [45]) && (!(s.toList == [48]) && !(s.toList == [49])))) := Lib.hid (by rw [ByteArray.toList_eq]; rfl)
 generalize behB s.data.toList = R at HB ⊢
 generalize Lib.hasPrefix s.data.toList [45] = p at HP HB
 go_enter Tryz.func211, Tryz.ntmps211
 go_wp2_with fail
 refine (HP.out _).mono ?_
 rintro e w' ⟨rfl, rfl⟩
 cases p with
 | true =>
   have HR : Hid (R = false) := Lib.hid HB.out
   clear HB HP
   go_wp2_with fail
   go_ret
   exact ⟨by rw [HR.out]; rfl, rfl⟩
 | false =>
   cases h48 : (s.toList == [48]) with
   | true =>
     have HR : Hid (R = false) := Lib.hid (by rw [HB.out, h48]; rfl)
     clear HB HP
     go_wp2_with fail
     go_ret
     exact ⟨by rw [HR.out]; rfl, rfl⟩
   | false =>
     cases h49 : (s.toList == [49]) with
     | true =>
       have HR : Hid (R = false) := Lib.hid (by rw [HB.out, h48, h49]; rfl)
       clear HB HP
       go_wp2_with fail
       go_ret
       exact ⟨by rw [HR.out]; rfl, rfl⟩
     | false =>
       have HR : Hid (R = true) := Lib.hid (by rw [HB.out, h48, h49]; rfl)
       clear HB HP
       go_wp2_with fail
       go_ret
       exact ⟨by rw [HR.out]; rfl, rfl⟩
end Go.Proofs.YtongeeggaigepaaGreatDoor

namespace Go.Proofs.YtongeeggaigepaaGreatDoor
open Go.RowKit Go.Sort CrossMath
attribute [local go_sem] Oper.semAt_some
set_option maxRecDepth 100000 in
set_option maxHeartbeats 8000000 in
theorem rread_none (X : Nat) (s ta : ByteArray) (rest : List (Bool × ByteArray)) (ab bb ng : Bool) (a1 a2 a3 a4 b1 b2 b3 b4 n1 n2 n3 n4 : Int) (w : World) (hX : Row w X [.bool ab, .int .u64 a1, .int .u64 a2, .int .u64 a3, .int .u64 a4, .bool bb, .int .u64 b1, .int .u64 b2, .int .u64 b3, .int .u64 b4]) (hc : CutOk w)
 (HS : ∀ E W, Row W E [.string s] → CutOk W → SeqU Fence.wide 8 Tryz.prog 222 #[.pointer (some ⟨E, 0, none⟩)] encD (fun _ => KeepsB E) ((false, ta) :: rest) W)
 (HP : Hid (∀ W, Calls Tryz.prog 210 #[.string ta] W fun e w' => e = .returned (.tuple #[.agg #[.bool ng, .int .u64 n1, .int .u64 n2, .int .u64 n3, .int .u64 n4], .int .i64 111]) ∧ Below W.heap.size W w'))
 : Calls Tryz.prog 198 #[.pointer (some ⟨X, 0, none⟩), .string s] w fun e w' => e = (Got.gave 120).end ∧ KB w.heap.size X w w' := by
 have hlX := hX.lt
 refine (callsIn_wide (n := 9)).1 ?_
 refine callsIn_of_wp_marks Tryz.func198 rfl trivial ?_ rfl
 simp only [Tryz.ntmps198, List.size_toArray, List.length_cons, List.length_nil, Nat.reduceAdd, Nat.reduceSub, Array.replicate_succ, Array.replicate_zero, List.push_toArray, List.append_toArray, List.nil_append, List.cons_append]
 refine wpIn_wide.2 ?_
 go_wp2_with fail
 refine wp_scope_straight ?_
 go_wp2_with fail
 generalize hW : World.alloc _ _ = W0
 have hR : Row W0 w.heap.size [.pointer (some ⟨X, 0, none⟩)] := by rw [← hW]; exact (Row.at rfl _ _).alloc _
 have hR2 : Row W0 (w.heap.size + 1) [.int .i64 0] := by rw [← hW]; exact Row.at (by simp) _ _
 have hB : Below w.heap.size w W0 := by rw [← hW]; exact ((Below.refl _ _).alloc (Nat.le_refl _) _).alloc (by simp) _
 clear hW
 refine wp_label ?_
 go_wp2_with fail
 refine (digits_any2 s _).mono ?_
 rintro e W1 ⟨E, rfl, hEs, hRE, hb⟩
 have hR2' := hR2.1
 replace hR := hR.after hb
 replace hR2 := hR2.after hb
 replace hB := hB.trans (hb.mono hB.size)
 have hW0 := hb.size
 have hC1 : CutOk W1 := hc.below hB
 have hX1 := hX.below hB hlX
 clear hb
 have HSq := HS E W1 hRE hC1
 clear HS
 have hEX : E ≠ X := by have := hB.size; omega
 have hEZ : E ≠ w.heap.size + 1 := by omega
 have hEY : E ≠ w.heap.size := by omega
 have hWX : w.heap.size ≠ X := by omega
 have hWY : w.heap.size + 1 ≠ X := by omega
 have lW1 := hRE.1
 go_wp2_with fail
 refine (wpIn_wide (n := 9)).1 ?_
 refine wpIn_range_u (α := Bool × ByteArray) rfl (by omega) (gf := 222) (lb := #[.pointer (some ⟨E, 0, none⟩)]) rfl trivial (enters_of Tryz.func222 (by kernel_rfl) rfl)
  HSq KeepsB.trans (fun _ l W _ o' h _ _ _ => KeepsB.turn W o' (by have := hRE.1; omega)) (fun _ _ _ h => KeepsB.below h) (Below.refl _ _) (fun _ => rfl)
  (fun pre W => pre = [] ∧ Row W w.heap.size [.pointer (some ⟨X, 0, none⟩)] ∧ Row W (w.heap.size + 1) [.int .i64 0] ∧ Row W X [.bool ab, .int .u64 a1, .int .u64 a2, .int .u64 a3, .int .u64 a4, .bool bb, .int .u64 b1, .int .u64 b2, .int .u64 b3, .int .u64 b4] ∧ KB w.heap.size X w W)
  (fun c _ W => c = .exit 0 ∧ Row W (w.heap.size + 1) [.int .i64 120] ∧ KB w.heap.size X w W)
  (fun _ X Y h hb => ⟨h.1, h.2.1.below hb hR.1, h.2.2.1.below hb hR2.1, h.2.2.2.1.below hb hX1.1, h.2.2.2.2.below hb hB.size⟩)
  (fun c _ X Y h hb => ⟨h.1, h.2.1.below hb hR2.1, h.2.2.below hb hB.size⟩) ⟨rfl, hR, hR2, hX1, KB.ofBelow' hB⟩
  (fun x a' _ => a' = { tmps := #[.pointer (some ⟨X, 0, none⟩), .string s, .pointer (some ⟨w.heap.size, 0, none⟩), undef, .pointer (some ⟨w.heap.size + 1, 0, none⟩), .bool x.1, .string x.2, undef, undef, .string s, .func (.func 222) #[] #[.pointer (some ⟨E, 0, none⟩)], .bool x.1, .string x.2, undef, undef, undef, undef, undef, undef, undef, undef, undef, undef, undef, undef, undef, undef, undef, undef, undef, undef, undef, undef, undef, undef, undef, undef, undef, undef, undef, undef, undef, undef, undef, undef, undef, undef, undef, undef, undef, undef, undef, undef, undef, undef, undef, undef], defers := [] })
  (fun _ _ _ _ _ _ _ h => h) ?assign ?body ?done ?stop
 case assign =>
  intro l' pre x W K hI hW hK
  clear hI
  unfold encD
  gi_wp2
  exact hK _ _ (Below.refl _ _) rfl
 case body =>
  rintro l' pre x a' W ⟨rfl, hI1, hI2, hI3, hI4⟩ hW hp rfl
  obtain rfl : x = (false, ta) := by obtain ⟨r, hr⟩ := hp; exact (List.cons.inj hr).1
  gi_wp2_with fail
  refine ⟨trivial, callsIn_wide.2 ((HP.out _).mono ?_)⟩
  rintro e W3 ⟨rfl, hb⟩
  have r1 := hI1.after hb
  have r2 := hI2.after hb
  have r3 := hI3.after hb
  have y0 := r1.c 0 rfl
  have z0 := r2.c 0 rfl
  have g0 := r2.f 0 rfl
  have x0 := r3.c 0 rfl
  have f0 := r3.f 0 rfl
  have x1 := r3.c 1 rfl
  have f1 := r3.f 1 rfl
  have x2 := r3.c 2 rfl
  have f2 := r3.f 2 rfl
  have x3 := r3.c 3 rfl
  have f3 := r3.f 3 rfl
  have x4 := r3.c 4 rfl
  have f4 := r3.f 4 rfl
  have lX := r3.lt
  have lB := r1.lt
  have lZ := r2.lt
  have k3 := hI4.below hb hI4.size
  have s3 := k3.size
  gi_wp2_with fail
  all_goals try (rename_i hu _; have hv : some undef = some (Value.bool _) := hu; cases hv)
  refine ⟨trivial, ?_⟩
  gi_wp2_with fail
  refine ⟨((keeps_below hb).trans ((KeepsOthers.setCell _ _ _).trans (KeepsOthers.alloc _ _))).from _, (KeepsB.put (KeepsB.below hb) hEZ _).trans (KeepsB.below ((Below.refl _ _).alloc (Nat.le_refl _) _)), ?_⟩
  exact ⟨rfl, (r2.set 0 (by simp) (.int .i64 120)).alloc _, (k3.put1 (Or.inr (Nat.le_succ _)) 0 _).alloc (by simpa [World.setCell] using s3) _⟩
 case done =>
  rintro D V hD ⟨hI0, _⟩ hK
  cases hI0
 case stop =>
  rintro D c pre V hD hpre ⟨rfl, hI2, hI4⟩ hK
  refine wpIn_wide.2 ?_
  have z0 := hI2.c 0 rfl
  have hM : Marks W1.heap.size [D] V := ⟨hD, hK, by simp, trivial⟩
  have HH := Lib.hid (And.intro hM hI4)
  have hBs := hB.size
  clear hI2 hI4 hK hM hpre
  go_wp2_with fail
  refine (for_gives 120 _ (by decide)).mono ?_
  rintro e V2 ⟨rfl, rfl⟩
  go_wp2_with fail
  refine leaves_gave (by simp) [D] V HH.out.1 fun V5 hV => ?_
  exact ⟨rfl, HH.out.2.below hV hBs⟩
set_option maxRecDepth 100000 in
set_option maxHeartbeats 8000000 in
theorem rread_over (X : Nat) (s ta : ByteArray) (ab bb ng : Bool) (a1 a2 a3 a4 b1 b2 b3 b4 n1 n2 n3 n4 : Int) (w : World) (hX : Row w X [.bool ab, .int .u64 a1, .int .u64 a2, .int .u64 a3, .int .u64 a4, .bool bb, .int .u64 b1, .int .u64 b2, .int .u64 b3, .int .u64 b4]) (hc : CutOk w)
 (HS : ∀ E W, Row W E [.string s] → CutOk W → SeqU Fence.wide 8 Tryz.prog 222 #[.pointer (some ⟨E, 0, none⟩)] encD (fun _ => KeepsB E) ([(false, ta)]) W)
 (HP : Hid (∀ W, Calls Tryz.prog 210 #[.string ta] W fun e w' => e = .returned (.tuple #[.agg #[.bool ng, .int .u64 n1, .int .u64 n2, .int .u64 n3, .int .u64 n4], .int .i64 110]) ∧ Below W.heap.size W w'))
 : Calls Tryz.prog 198 #[.pointer (some ⟨X, 0, none⟩), .string s] w fun e w' => e = (Got.gave 110).end ∧ KB w.heap.size X w w' := by
 have hlX := hX.lt
 refine (callsIn_wide (n := 9)).1 ?_
 refine callsIn_of_wp_marks Tryz.func198 rfl trivial ?_ rfl
 simp only [Tryz.ntmps198, List.size_toArray, List.length_cons, List.length_nil, Nat.reduceAdd, Nat.reduceSub, Array.replicate_succ, Array.replicate_zero, List.push_toArray, List.append_toArray, List.nil_append, List.cons_append]
 refine wpIn_wide.2 ?_
 go_wp2_with fail
 refine wp_scope_straight ?_
 go_wp2_with fail
 generalize hW : World.alloc _ _ = W0
 have hR : Row W0 w.heap.size [.pointer (some ⟨X, 0, none⟩)] := by rw [← hW]; exact (Row.at rfl _ _).alloc _
 have hR2 : Row W0 (w.heap.size + 1) [.int .i64 0] := by rw [← hW]; exact Row.at (by simp) _ _
 have hB : Below w.heap.size w W0 := by rw [← hW]; exact ((Below.refl _ _).alloc (Nat.le_refl _) _).alloc (by simp) _
 clear hW
 refine wp_label ?_
 go_wp2_with fail
 refine (digits_any2 s _).mono ?_
 rintro e W1 ⟨E, rfl, hEs, hRE, hb⟩
 have hR2' := hR2.1
 replace hR := hR.after hb
 replace hR2 := hR2.after hb
 replace hB := hB.trans (hb.mono hB.size)
 have hW0 := hb.size
 have hC1 : CutOk W1 := hc.below hB
 have hX1 := hX.below hB hlX
 clear hb
 have HSq := HS E W1 hRE hC1
 clear HS
 have hEX : E ≠ X := by have := hB.size; omega
 have hEZ : E ≠ w.heap.size + 1 := by omega
 have hEY : E ≠ w.heap.size := by omega
 have hWX : w.heap.size ≠ X := by omega
 have hWY : w.heap.size + 1 ≠ X := by omega
 have lW1 := hRE.1
 go_wp2_with fail
 refine (wpIn_wide (n := 9)).1 ?_
 refine wpIn_range_u (α := Bool × ByteArray) rfl (by omega) (gf := 222) (lb := #[.pointer (some ⟨E, 0, none⟩)]) rfl trivial (enters_of Tryz.func222 (by kernel_rfl) rfl)
  HSq KeepsB.trans (fun _ l W _ o' h _ _ _ => KeepsB.turn W o' (by have := hRE.1; omega)) (fun _ _ _ h => KeepsB.below h) (Below.refl _ _) (fun _ => rfl)
  (fun pre W => Row W w.heap.size [.pointer (some ⟨X, 0, none⟩)] ∧ Row W (w.heap.size + 1) [.int .i64 (lx 0 110 110 pre)] ∧ Row W X (lx [.bool ab, .int .u64 a1, .int .u64 a2, .int .u64 a3, .int .u64 a4, .bool bb, .int .u64 b1, .int .u64 b2, .int .u64 b3, .int .u64 b4] [.bool ab, .int .u64 a1, .int .u64 a2, .int .u64 a3, .int .u64 a4, .bool bb, .int .u64 b1, .int .u64 b2, .int .u64 b3, .int .u64 b4] [.bool ab, .int .u64 a1, .int .u64 a2, .int .u64 a3, .int .u64 a4, .bool bb, .int .u64 b1, .int .u64 b2, .int .u64 b3, .int .u64 b4] pre) ∧ KB w.heap.size X w W)
  (fun _ _ _ => False)
  (fun _ X Y h hb => ⟨h.1.below hb hR.1, h.2.1.below hb hR2.1, h.2.2.1.below hb hX1.1, h.2.2.2.below hb hB.size⟩) (fun _ _ _ _ h _ => h.elim) ⟨hR, hR2, hX1, KB.ofBelow' hB⟩
  (fun x a' _ => a' = { tmps := #[.pointer (some ⟨X, 0, none⟩), .string s, .pointer (some ⟨w.heap.size, 0, none⟩), undef, .pointer (some ⟨w.heap.size + 1, 0, none⟩), .bool x.1, .string x.2, undef, undef, .string s, .func (.func 222) #[] #[.pointer (some ⟨E, 0, none⟩)], .bool x.1, .string x.2, undef, undef, undef, undef, undef, undef, undef, undef, undef, undef, undef, undef, undef, undef, undef, undef, undef, undef, undef, undef, undef, undef, undef, undef, undef, undef, undef, undef, undef, undef, undef, undef, undef, undef, undef, undef, undef, undef, undef, undef, undef, undef, undef, undef], defers := [] })
  (fun _ _ _ _ _ _ _ h => h) ?assign ?body ?done ?stop
 case assign =>
  intro l' pre x W K hI hW hK
  clear hI
  unfold encD
  gi_wp2
  exact hK _ _ (Below.refl _ _) rfl
 case body =>
  rintro l' pre x a' W ⟨hI1, hI2, hI3, hI4⟩ hW hp rfl
  obtain ⟨rfl, rfl⟩ := one_round hp
  replace hI2 : Row W (w.heap.size + 1) [.int .i64 0] := hI2
  replace hI3 : Row W X [.bool ab, .int .u64 a1, .int .u64 a2, .int .u64 a3, .int .u64 a4, .bool bb, .int .u64 b1, .int .u64 b2, .int .u64 b3, .int .u64 b4] := hI3
  gi_wp2_with fail
  refine ⟨trivial, callsIn_wide.2 ((HP.out _).mono ?_)⟩
  rintro e W3 ⟨rfl, hb⟩
  have r1 := hI1.after hb
  have r2 := hI2.after hb
  have r3 := hI3.after hb
  have y0 := r1.c 0 rfl
  have z0 := r2.c 0 rfl
  have g0 := r2.f 0 rfl
  have x0 := r3.c 0 rfl
  have f0 := r3.f 0 rfl
  have x1 := r3.c 1 rfl
  have f1 := r3.f 1 rfl
  have x2 := r3.c 2 rfl
  have f2 := r3.f 2 rfl
  have x3 := r3.c 3 rfl
  have f3 := r3.f 3 rfl
  have x4 := r3.c 4 rfl
  have f4 := r3.f 4 rfl
  have lX := r3.lt
  have lB := r1.lt
  have lZ := r2.lt
  have k3 := hI4.below hb hI4.size
  have s3 := k3.size
  gi_wp2_with fail
  refine ⟨trivial, ?_⟩
  gi_wp2_with fail
  refine ⟨((keeps_below hb).trans ((KeepsOthers.setCell _ _ _).trans (KeepsOthers.alloc _ _))).from _, (KeepsB.put (KeepsB.below hb) hEZ _).trans (KeepsB.below ((Below.refl _ _).alloc (Nat.le_refl _) _)), ?_⟩
  exact ⟨(r1.other (by simp) _).alloc _, (r2.set 0 (by simp) (.int .i64 110)).alloc _, (r3.other hWY _).alloc _, (k3.put1 (Or.inr (Nat.le_succ _)) 0 _).alloc (by simpa [World.setCell] using s3) _⟩
 case stop => exact fun _ _ _ _ _ _ h => h.elim
 case done =>
  rintro D V hD ⟨hI1, hI2, hI3, hI4⟩ hK
  replace hI2 : Row V (w.heap.size + 1) [.int .i64 110] := hI2
  replace hI3 : Row V X [.bool ab, .int .u64 a1, .int .u64 a2, .int .u64 a3, .int .u64 a4, .bool bb, .int .u64 b1, .int .u64 b2, .int .u64 b3, .int .u64 b4] := hI3
  have hBs := hB.size
  have hD1 : D < V.heap.size := (Array.getElem?_eq_some_iff.1 hK).1
  have y0 := hI1.c 0 rfl
  have z0 := hI2.c 0 rfl
  have g0 := hI2.f 0 rfl
  have x0 := hI3.c 0 rfl
  have x1 := hI3.c 1 rfl
  have x2 := hI3.c 2 rfl
  have x3 := hI3.c 3 rfl
  have x4 := hI3.c 4 rfl
  have x5 := hI3.c 5 rfl
  have x6 := hI3.c 6 rfl
  have x7 := hI3.c 7 rfl
  have x8 := hI3.c 8 rfl
  have x9 := hI3.c 9 rfl
  have hM : Marks W1.heap.size [D] V := ⟨hD, hK, by simp, trivial⟩
  have HF := Lib.hid (And.intro hM hI4)
  clear y0 g0 x0 x1 x2 x3 x4 x5 x6 x7 x8 x9 hI1 hI2 hI3 hI4 hK HP hM
  go_wp2_with fail
  refine (for_gives 110 _ (by decide)).mono ?_
  rintro e V2 ⟨rfl, rfl⟩
  go_wp2_with fail
  refine leaves_gave (by simp) [D] _ HF.out.1 fun V5 hV => ?_
  exact ⟨rfl, HF.out.2.below hV hBs⟩
set_option maxRecDepth 100000 in
set_option maxHeartbeats 8000000 in
theorem rread_oneW (X : Nat) (s ta : ByteArray) (ab bb ng : Bool) (a1 a2 a3 a4 b1 b2 b3 b4 n1 n2 n3 n4 : Int) (w : World) (hX : Row w X [.bool ab, .int .u64 a1, .int .u64 a2, .int .u64 a3, .int .u64 a4, .bool bb, .int .u64 b1, .int .u64 b2, .int .u64 b3, .int .u64 b4]) (hc : CutOk w)
 (HS : ∀ E W, Row W E [.string s] → CutOk W → SeqU Fence.wide 8 Tryz.prog 222 #[.pointer (some ⟨E, 0, none⟩)] encD (fun _ => KeepsB E) ([(false, ta)]) W)
 (HP : Hid (∀ W, Calls Tryz.prog 210 #[.string ta] W fun e w' => e = .returned (.tuple #[.agg #[.bool ng, .int .u64 n1, .int .u64 n2, .int .u64 n3, .int .u64 n4], .int .i64 0]) ∧ Below W.heap.size W w'))
 (HCh : Hid (∀ W, KB w.heap.size X w W → Calls Tryz.prog 121 #[.agg #[.bool ng, .int .u64 n1, .int .u64 n2, .int .u64 n3, .int .u64 n4, .bool bb, .int .u64 b1, .int .u64 b2, .int .u64 b3, .int .u64 b4]] W fun e w' => e = .returned (.int .i64 0) ∧ Below W.heap.size W w'))
 : Calls Tryz.prog 198 #[.pointer (some ⟨X, 0, none⟩), .string s] w fun e w' => e = .returned (.tuple #[]) ∧ Row w' X [.bool ng, .int .u64 n1, .int .u64 n2, .int .u64 n3, .int .u64 n4, .bool bb, .int .u64 b1, .int .u64 b2, .int .u64 b3, .int .u64 b4] ∧ KB w.heap.size X w w' := by
 have hlX := hX.lt
 refine (callsIn_wide (n := 9)).1 ?_
 refine callsIn_of_wp_marks Tryz.func198 rfl trivial ?_ rfl
 simp only [Tryz.ntmps198, List.size_toArray, List.length_cons, List.length_nil, Nat.reduceAdd, Nat.reduceSub, Array.replicate_succ, Array.replicate_zero, List.push_toArray, List.append_toArray, List.nil_append, List.cons_append]
 refine wpIn_wide.2 ?_
 go_wp2_with fail
 refine wp_scope_straight ?_
 go_wp2_with fail
 generalize hW : World.alloc _ _ = W0
 have hR : Row W0 w.heap.size [.pointer (some ⟨X, 0, none⟩)] := by rw [← hW]; exact (Row.at rfl _ _).alloc _
 have hR2 : Row W0 (w.heap.size + 1) [.int .i64 0] := by rw [← hW]; exact Row.at (by simp) _ _
 have hB : Below w.heap.size w W0 := by rw [← hW]; exact ((Below.refl _ _).alloc (Nat.le_refl _) _).alloc (by simp) _
 clear hW
 refine wp_label ?_
 go_wp2_with fail
 refine (digits_any2 s _).mono ?_
 rintro e W1 ⟨E, rfl, hEs, hRE, hb⟩
 have hR2' := hR2.1
 replace hR := hR.after hb
 replace hR2 := hR2.after hb
 replace hB := hB.trans (hb.mono hB.size)
 have hW0 := hb.size
 have hC1 : CutOk W1 := hc.below hB
 have hX1 := hX.below hB hlX
 clear hb
 have HSq := HS E W1 hRE hC1
 clear HS
 have hEX : E ≠ X := by have := hB.size; omega
 have hEZ : E ≠ w.heap.size + 1 := by omega
 have hEY : E ≠ w.heap.size := by omega
 have hWX : w.heap.size ≠ X := by omega
 have hWY : w.heap.size + 1 ≠ X := by omega
 have lW1 := hRE.1
 go_wp2_with fail
 refine (wpIn_wide (n := 9)).1 ?_
 refine wpIn_range_u (α := Bool × ByteArray) rfl (by omega) (gf := 222) (lb := #[.pointer (some ⟨E, 0, none⟩)]) rfl trivial (enters_of Tryz.func222 (by kernel_rfl) rfl)
  HSq KeepsB.trans (fun _ l W _ o' h _ _ _ => KeepsB.turn W o' (by have := hRE.1; omega)) (fun _ _ _ h => KeepsB.below h) (Below.refl _ _) (fun _ => rfl)
  (fun pre W => Row W w.heap.size [.pointer (some ⟨X, 0, none⟩)] ∧ Row W (w.heap.size + 1) [.int .i64 (lx 0 0 0 pre)] ∧ Row W X (lx [.bool ab, .int .u64 a1, .int .u64 a2, .int .u64 a3, .int .u64 a4, .bool bb, .int .u64 b1, .int .u64 b2, .int .u64 b3, .int .u64 b4] [.bool ng, .int .u64 n1, .int .u64 n2, .int .u64 n3, .int .u64 n4, .bool bb, .int .u64 b1, .int .u64 b2, .int .u64 b3, .int .u64 b4] [.bool ng, .int .u64 n1, .int .u64 n2, .int .u64 n3, .int .u64 n4, .bool bb, .int .u64 b1, .int .u64 b2, .int .u64 b3, .int .u64 b4] pre) ∧ KB w.heap.size X w W)
  (fun _ _ _ => False)
  (fun _ X Y h hb => ⟨h.1.below hb hR.1, h.2.1.below hb hR2.1, h.2.2.1.below hb hX1.1, h.2.2.2.below hb hB.size⟩) (fun _ _ _ _ h _ => h.elim) ⟨hR, hR2, hX1, KB.ofBelow' hB⟩
  (fun x a' _ => a' = { tmps := #[.pointer (some ⟨X, 0, none⟩), .string s, .pointer (some ⟨w.heap.size, 0, none⟩), undef, .pointer (some ⟨w.heap.size + 1, 0, none⟩), .bool x.1, .string x.2, undef, undef, .string s, .func (.func 222) #[] #[.pointer (some ⟨E, 0, none⟩)], .bool x.1, .string x.2, undef, undef, undef, undef, undef, undef, undef, undef, undef, undef, undef, undef, undef, undef, undef, undef, undef, undef, undef, undef, undef, undef, undef, undef, undef, undef, undef, undef, undef, undef, undef, undef, undef, undef, undef, undef, undef, undef, undef, undef, undef, undef, undef, undef], defers := [] })
  (fun _ _ _ _ _ _ _ h => h) ?assign ?body ?done ?stop
 case assign =>
  intro l' pre x W K hI hW hK
  clear hI
  unfold encD
  gi_wp2
  exact hK _ _ (Below.refl _ _) rfl
 case body =>
  rintro l' pre x a' W ⟨hI1, hI2, hI3, hI4⟩ hW hp rfl
  obtain ⟨rfl, rfl⟩ := one_round hp
  replace hI2 : Row W (w.heap.size + 1) [.int .i64 0] := hI2
  replace hI3 : Row W X [.bool ab, .int .u64 a1, .int .u64 a2, .int .u64 a3, .int .u64 a4, .bool bb, .int .u64 b1, .int .u64 b2, .int .u64 b3, .int .u64 b4] := hI3
  gi_wp2_with fail
  refine ⟨trivial, callsIn_wide.2 ((HP.out _).mono ?_)⟩
  rintro e W3 ⟨rfl, hb⟩
  have r1 := hI1.after hb
  have r2 := hI2.after hb
  have r3 := hI3.after hb
  have y0 := r1.c 0 rfl
  have z0 := r2.c 0 rfl
  have g0 := r2.f 0 rfl
  have x0 := r3.c 0 rfl
  have f0 := r3.f 0 rfl
  have x1 := r3.c 1 rfl
  have f1 := r3.f 1 rfl
  have x2 := r3.c 2 rfl
  have f2 := r3.f 2 rfl
  have x3 := r3.c 3 rfl
  have f3 := r3.f 3 rfl
  have x4 := r3.c 4 rfl
  have f4 := r3.f 4 rfl
  have lX := r3.lt
  have lB := r1.lt
  have lZ := r2.lt
  have k3 := hI4.below hb hI4.size
  have s3 := k3.size
  gi_wp2_with fail
  refine ⟨trivial, ?_⟩
  gi_wp2_with fail
  have o : On W3 (((((W3.setCell ⟨X, 0, none⟩ (.bool ng)).setCell ⟨X, 1, none⟩ (.int .u64 n1)).setCell ⟨X, 2, none⟩ (.int .u64 n2)).setCell ⟨X, 3, none⟩ (.int .u64 n3)).setCell ⟨X, 4, none⟩ (.int .u64 n4)) X := ((((((On.refl W3 X).put 0 _).put 1 _).put 2 _).put 3 _).put 4 _)
  have rX := (((((r3.set 0 (by simp) (.bool ng)).set 1 (by simp) (.int .u64 n1)).set 2 (by simp) (.int .u64 n2)).set 3 (by simp) (.int .u64 n3)).set 4 (by simp) (.int .u64 n4))
  have kO : KeepsOthers W3 (((((W3.setCell ⟨X, 0, none⟩ (.bool ng)).setCell ⟨X, 1, none⟩ (.int .u64 n1)).setCell ⟨X, 2, none⟩ (.int .u64 n2)).setCell ⟨X, 3, none⟩ (.int .u64 n3)).setCell ⟨X, 4, none⟩ (.int .u64 n4)) := (((((KeepsOthers.setCell W3 _ _).trans (KeepsOthers.setCell _ _ _)).trans (KeepsOthers.setCell _ _ _)).trans (KeepsOthers.setCell _ _ _)).trans (KeepsOthers.setCell _ _ _))
  generalize ((((W3.setCell ⟨X, 0, none⟩ (.bool ng)).setCell ⟨X, 1, none⟩ (.int .u64 n1)).setCell ⟨X, 2, none⟩ (.int .u64 n2)).setCell ⟨X, 3, none⟩ (.int .u64 n3)).setCell ⟨X, 4, none⟩ (.int .u64 n4) = W4 at *
  refine ⟨((keeps_below hb).trans (kO.trans (KeepsOthers.alloc _ _))).from _, (KeepsB.below hb).trans ⟨by rw [World.size_alloc, o.size]; omega, fun hl => ((Below.refl W4.heap.size W4).alloc (Nat.le_refl _) _ |>.block E (by rw [o.size]; exact hl)).trans (o.block E hEX)⟩, ?_⟩
  exact ⟨(o.row hWX r1).alloc _, (o.row hWY r2).alloc _, rX.alloc _, ((hI4.below hb (by omega)).on o (.inl rfl)).alloc (by have := hI4.size; rw [o.size]; have := hb.size; omega) _⟩
 case stop => exact fun _ _ _ _ _ _ h => h.elim
 case done =>
  rintro D V hD ⟨hI1, hI2, hI3, hI4⟩ hK
  replace hI2 : Row V (w.heap.size + 1) [.int .i64 0] := hI2
  replace hI3 : Row V X [.bool ng, .int .u64 n1, .int .u64 n2, .int .u64 n3, .int .u64 n4, .bool bb, .int .u64 b1, .int .u64 b2, .int .u64 b3, .int .u64 b4] := hI3
  have hBs := hB.size
  have hD1 : D < V.heap.size := (Array.getElem?_eq_some_iff.1 hK).1
  have y0 := hI1.c 0 rfl
  have z0 := hI2.c 0 rfl
  have g0 := hI2.f 0 rfl
  have x0 := hI3.c 0 rfl
  have x1 := hI3.c 1 rfl
  have x2 := hI3.c 2 rfl
  have x3 := hI3.c 3 rfl
  have x4 := hI3.c 4 rfl
  have x5 := hI3.c 5 rfl
  have x6 := hI3.c 6 rfl
  have x7 := hI3.c 7 rfl
  have x8 := hI3.c 8 rfl
  have x9 := hI3.c 9 rfl
  go_wp2_with fail
  refine (HCh.out V hI4).mono ?_
  rintro e V1 ⟨rfl, hb⟩
  have z1 := (hI2.after hb).c 0 rfl
  have h1 := (hI2.after hb).f 0 rfl
  have hM : Marks W1.heap.size [D] V1 := ⟨hD, (hb.block D hD1).trans hK, by simp, trivial⟩
  have hF := Lib.hid (And.intro (hI3.after hb) (hI4.below hb hI4.size))
  have hl := hX1.1
  clear y0 z0 g0 h1 x0 x1 x2 x3 x4 x5 x6 x7 x8 x9 hb hI1 hI2 hI3 hI4 hK HCh HP
  go_wp2_with fail
  refine (for_okS _).mono ?_
  rintro e V2 ⟨rfl, rfl⟩
  go_wp2_with fail
  refine leaves_marks [D] V1 hM fun V5 hV => ?_
  exact ⟨.tuple #[], by simp [results, Tryz.results198, go_sem], rfl, hF.out.1.below hV hl, hF.out.2.below hV hBs⟩
end Go.Proofs.YtongeeggaigepaaGreatDoor

namespace Go.Proofs.YtongeeggaigepaaGreatDoor
open Go.RowKit Go.Sort CrossMath
attribute [local go_sem] Oper.semAt_some
set_option maxRecDepth 100000 in
set_option maxHeartbeats 8000000 in
theorem rread_a0_b111 (X : Nat) (s ta tb : ByteArray) (ab bb ng mg : Bool) (a1 a2 a3 a4 b1 b2 b3 b4 n1 n2 n3 n4 m1 m2 m3 m4 : Int) (w : World) (hX : Row w X [.bool ab, .int .u64 a1, .int .u64 a2, .int .u64 a3, .int .u64 a4, .bool bb, .int .u64 b1, .int .u64 b2, .int .u64 b3, .int .u64 b4]) (hc : CutOk w)
 (HS : ∀ E W, Row W E [.string s] → CutOk W → SeqU Fence.wide 8 Tryz.prog 222 #[.pointer (some ⟨E, 0, none⟩)] encD (fun _ => KeepsB E) ([(false, ta), (true, tb)]) W)
 (HP : Hid (∀ W, Calls Tryz.prog 210 #[.string ta] W fun e w' => e = .returned (.tuple #[.agg #[.bool ng, .int .u64 n1, .int .u64 n2, .int .u64 n3, .int .u64 n4], .int .i64 0]) ∧ Below W.heap.size W w'))
 (HP2 : Hid (∀ W, Calls Tryz.prog 210 #[.string tb] W fun e w' => e = .returned (.tuple #[.agg #[.bool mg, .int .u64 m1, .int .u64 m2, .int .u64 m3, .int .u64 m4], .int .i64 111]) ∧ Below W.heap.size W w'))
 : Calls Tryz.prog 198 #[.pointer (some ⟨X, 0, none⟩), .string s] w fun e w' => e = (Got.gave 120).end ∧ KB w.heap.size X w w' := by
 have hlX := hX.lt
 refine (callsIn_wide (n := 9)).1 ?_
 refine callsIn_of_wp_marks Tryz.func198 rfl trivial ?_ rfl
 simp only [Tryz.ntmps198, List.size_toArray, List.length_cons, List.length_nil, Nat.reduceAdd, Nat.reduceSub, Array.replicate_succ, Array.replicate_zero, List.push_toArray, List.append_toArray, List.nil_append, List.cons_append]
 refine wpIn_wide.2 ?_
 go_wp2_with fail
 refine wp_scope_straight ?_
 go_wp2_with fail
 generalize hW : World.alloc _ _ = W0
 have hR : Row W0 w.heap.size [.pointer (some ⟨X, 0, none⟩)] := by rw [← hW]; exact (Row.at rfl _ _).alloc _
 have hR2 : Row W0 (w.heap.size + 1) [.int .i64 0] := by rw [← hW]; exact Row.at (by simp) _ _
 have hB : Below w.heap.size w W0 := by rw [← hW]; exact ((Below.refl _ _).alloc (Nat.le_refl _) _).alloc (by simp) _
 clear hW
 refine wp_label ?_
 go_wp2_with fail
 refine (digits_any2 s _).mono ?_
 rintro e W1 ⟨E, rfl, hEs, hRE, hb⟩
 have hR2' := hR2.1
 replace hR := hR.after hb
 replace hR2 := hR2.after hb
 replace hB := hB.trans (hb.mono hB.size)
 have hW0 := hb.size
 have hC1 : CutOk W1 := hc.below hB
 have hX1 := hX.below hB hlX
 clear hb
 have HSq := HS E W1 hRE hC1
 clear HS
 have hEX : E ≠ X := by have := hB.size; omega
 have hEZ : E ≠ w.heap.size + 1 := by omega
 have hEY : E ≠ w.heap.size := by omega
 have hWX : w.heap.size ≠ X := by omega
 have hWY : w.heap.size + 1 ≠ X := by omega
 have lW1 := hRE.1
 go_wp2_with fail
 refine (wpIn_wide (n := 9)).1 ?_
 refine wpIn_range_u (α := Bool × ByteArray) rfl (by omega) (gf := 222) (lb := #[.pointer (some ⟨E, 0, none⟩)]) rfl trivial (enters_of Tryz.func222 (by kernel_rfl) rfl)
  HSq KeepsB.trans (fun _ l W _ o' h _ _ _ => KeepsB.turn W o' (by have := hRE.1; omega)) (fun _ _ _ h => KeepsB.below h) (Below.refl _ _) (fun _ => rfl)
  (fun pre W => pre.length ≤ 1 ∧ Row W w.heap.size [.pointer (some ⟨X, 0, none⟩)] ∧ Row W (w.heap.size + 1) [.int .i64 (lx 0 0 0 pre)] ∧ Row W X (lx [.bool ab, .int .u64 a1, .int .u64 a2, .int .u64 a3, .int .u64 a4, .bool bb, .int .u64 b1, .int .u64 b2, .int .u64 b3, .int .u64 b4] [.bool ng, .int .u64 n1, .int .u64 n2, .int .u64 n3, .int .u64 n4, .bool bb, .int .u64 b1, .int .u64 b2, .int .u64 b3, .int .u64 b4] [.bool ng, .int .u64 n1, .int .u64 n2, .int .u64 n3, .int .u64 n4, .bool bb, .int .u64 b1, .int .u64 b2, .int .u64 b3, .int .u64 b4] pre) ∧ KB w.heap.size X w W)
  (fun c _ W => c = .exit 0 ∧ Row W (w.heap.size + 1) [.int .i64 120] ∧ KB w.heap.size X w W)
  (fun _ X Y h hb => ⟨h.1, h.2.1.below hb hR.1, h.2.2.1.below hb hR2.1, h.2.2.2.1.below hb hX1.1, h.2.2.2.2.below hb hB.size⟩)
  (fun c _ X Y h hb => ⟨h.1, h.2.1.below hb hR2.1, h.2.2.below hb hB.size⟩) ⟨by simp, hR, hR2, hX1, KB.ofBelow' hB⟩
  (fun x a' _ => a' = { tmps := #[.pointer (some ⟨X, 0, none⟩), .string s, .pointer (some ⟨w.heap.size, 0, none⟩), undef, .pointer (some ⟨w.heap.size + 1, 0, none⟩), .bool x.1, .string x.2, undef, undef, .string s, .func (.func 222) #[] #[.pointer (some ⟨E, 0, none⟩)], .bool x.1, .string x.2, undef, undef, undef, undef, undef, undef, undef, undef, undef, undef, undef, undef, undef, undef, undef, undef, undef, undef, undef, undef, undef, undef, undef, undef, undef, undef, undef, undef, undef, undef, undef, undef, undef, undef, undef, undef, undef, undef, undef, undef, undef, undef, undef, undef], defers := [] })
  (fun _ _ _ _ _ _ _ h => h) ?assign ?body ?done ?stop
 case assign =>
  intro l' pre x W K hI hW hK
  clear hI
  unfold encD
  gi_wp2
  exact hK _ _ (Below.refl _ _) rfl
 case body =>
  rintro l' pre x a' W ⟨_, hI1, hI2, hI3, hI4⟩ hW hp rfl
  rcases two_r hp with ⟨rfl, rfl⟩ | ⟨rfl, rfl⟩
  ·replace hI2 : Row W (w.heap.size + 1) [.int .i64 0] := hI2
   replace hI3 : Row W X [.bool ab, .int .u64 a1, .int .u64 a2, .int .u64 a3, .int .u64 a4, .bool bb, .int .u64 b1, .int .u64 b2, .int .u64 b3, .int .u64 b4] := hI3
   gi_wp2_with fail
   refine ⟨trivial, callsIn_wide.2 ((HP.out _).mono ?_)⟩
   rintro e W3 ⟨rfl, hb⟩
   have r1 := hI1.after hb
   have r2 := hI2.after hb
   have r3 := hI3.after hb
   have y0 := r1.c 0 rfl
   have z0 := r2.c 0 rfl
   have g0 := r2.f 0 rfl
   have x0 := r3.c 0 rfl
   have f0 := r3.f 0 rfl
   have x1 := r3.c 1 rfl
   have f1 := r3.f 1 rfl
   have x2 := r3.c 2 rfl
   have f2 := r3.f 2 rfl
   have x3 := r3.c 3 rfl
   have f3 := r3.f 3 rfl
   have x4 := r3.c 4 rfl
   have f4 := r3.f 4 rfl
   have lX := r3.lt
   have lB := r1.lt
   have lZ := r2.lt
   have k3 := hI4.below hb hI4.size
   have s3 := k3.size
   gi_wp2_with fail
   refine ⟨trivial, ?_⟩
   gi_wp2_with fail
   have o : On W3 (((((W3.setCell ⟨X, 0, none⟩ (.bool ng)).setCell ⟨X, 1, none⟩ (.int .u64 n1)).setCell ⟨X, 2, none⟩ (.int .u64 n2)).setCell ⟨X, 3, none⟩ (.int .u64 n3)).setCell ⟨X, 4, none⟩ (.int .u64 n4)) X := ((((((On.refl W3 X).put 0 _).put 1 _).put 2 _).put 3 _).put 4 _)
   have rX := (((((r3.set 0 (by simp) (.bool ng)).set 1 (by simp) (.int .u64 n1)).set 2 (by simp) (.int .u64 n2)).set 3 (by simp) (.int .u64 n3)).set 4 (by simp) (.int .u64 n4))
   have kO : KeepsOthers W3 (((((W3.setCell ⟨X, 0, none⟩ (.bool ng)).setCell ⟨X, 1, none⟩ (.int .u64 n1)).setCell ⟨X, 2, none⟩ (.int .u64 n2)).setCell ⟨X, 3, none⟩ (.int .u64 n3)).setCell ⟨X, 4, none⟩ (.int .u64 n4)) := (((((KeepsOthers.setCell W3 _ _).trans (KeepsOthers.setCell _ _ _)).trans (KeepsOthers.setCell _ _ _)).trans (KeepsOthers.setCell _ _ _)).trans (KeepsOthers.setCell _ _ _))
   generalize ((((W3.setCell ⟨X, 0, none⟩ (.bool ng)).setCell ⟨X, 1, none⟩ (.int .u64 n1)).setCell ⟨X, 2, none⟩ (.int .u64 n2)).setCell ⟨X, 3, none⟩ (.int .u64 n3)).setCell ⟨X, 4, none⟩ (.int .u64 n4) = W4 at *
   refine ⟨((keeps_below hb).trans (kO.trans (KeepsOthers.alloc _ _))).from _, (KeepsB.below hb).trans ⟨by rw [World.size_alloc, o.size]; omega, fun hl => ((Below.refl W4.heap.size W4).alloc (Nat.le_refl _) _ |>.block E (by rw [o.size]; exact hl)).trans (o.block E hEX)⟩, ?_⟩
   exact ⟨by simp, (o.row hWX r1).alloc _, (o.row hWY r2).alloc _, rX.alloc _, ((hI4.below hb (by omega)).on o (.inl rfl)).alloc (by have := hI4.size; rw [o.size]; have := hb.size; omega) _⟩
  ·replace hI2 : Row W (w.heap.size + 1) [.int .i64 0] := hI2
   replace hI3 : Row W X [.bool ng, .int .u64 n1, .int .u64 n2, .int .u64 n3, .int .u64 n4, .bool bb, .int .u64 b1, .int .u64 b2, .int .u64 b3, .int .u64 b4] := hI3
   gi_wp2_with fail
   refine ⟨trivial, callsIn_wide.2 ((HP2.out _).mono ?_)⟩
   rintro e W3 ⟨rfl, hb⟩
   have r1 := hI1.after hb
   have r2 := hI2.after hb
   have r3 := hI3.after hb
   have y0 := r1.c 0 rfl
   have z0 := r2.c 0 rfl
   have g0 := r2.f 0 rfl
   have x5 := r3.c 5 rfl
   have f5 := r3.f 5 rfl
   have x6 := r3.c 6 rfl
   have f6 := r3.f 6 rfl
   have x7 := r3.c 7 rfl
   have f7 := r3.f 7 rfl
   have x8 := r3.c 8 rfl
   have f8 := r3.f 8 rfl
   have x9 := r3.c 9 rfl
   have f9 := r3.f 9 rfl
   have lX := r3.lt
   have lB := r1.lt
   have lZ := r2.lt
   have k3 := hI4.below hb hI4.size
   have s3 := k3.size
   gi_wp2_with fail
   all_goals try (rename_i hu _; have hv : some undef = some (Value.bool _) := hu; cases hv)
   refine ⟨trivial, ?_⟩
   gi_wp2_with fail
   refine ⟨((keeps_below hb).trans ((KeepsOthers.setCell _ _ _).trans (KeepsOthers.alloc _ _))).from _, (KeepsB.put (KeepsB.below hb) hEZ _).trans (KeepsB.below ((Below.refl _ _).alloc (Nat.le_refl _) _)), ?_⟩
   exact ⟨rfl, (r2.set 0 (by simp) (.int .i64 120)).alloc _, (k3.put1 (Or.inr (Nat.le_succ _)) 0 _).alloc (by simpa [World.setCell] using s3) _⟩
 case stop =>
  rintro D c pre V hD hpre ⟨rfl, hI2, hI4⟩ hK
  refine wpIn_wide.2 ?_
  have z0 := hI2.c 0 rfl
  have hM : Marks W1.heap.size [D] V := ⟨hD, hK, by simp, trivial⟩
  have HH := Lib.hid (And.intro hM hI4)
  have hBs := hB.size
  clear hI2 hI4 hK hM hpre
  go_wp2_with fail
  refine (for_gives 120 _ (by decide)).mono ?_
  rintro e V2 ⟨rfl, rfl⟩
  go_wp2_with fail
  refine leaves_gave (by simp) [D] V HH.out.1 fun V5 hV => ?_
  exact ⟨rfl, HH.out.2.below hV hBs⟩
 case done =>
  rintro D V hD ⟨hI0, _⟩ hK
  exact absurd hI0 (by simp)
set_option maxRecDepth 100000 in
set_option maxHeartbeats 8000000 in
theorem rread_a110_b111 (X : Nat) (s ta tb : ByteArray) (ab bb ng mg : Bool) (a1 a2 a3 a4 b1 b2 b3 b4 n1 n2 n3 n4 m1 m2 m3 m4 : Int) (w : World) (hX : Row w X [.bool ab, .int .u64 a1, .int .u64 a2, .int .u64 a3, .int .u64 a4, .bool bb, .int .u64 b1, .int .u64 b2, .int .u64 b3, .int .u64 b4]) (hc : CutOk w)
 (HS : ∀ E W, Row W E [.string s] → CutOk W → SeqU Fence.wide 8 Tryz.prog 222 #[.pointer (some ⟨E, 0, none⟩)] encD (fun _ => KeepsB E) ([(false, ta), (true, tb)]) W)
 (HP : Hid (∀ W, Calls Tryz.prog 210 #[.string ta] W fun e w' => e = .returned (.tuple #[.agg #[.bool ng, .int .u64 n1, .int .u64 n2, .int .u64 n3, .int .u64 n4], .int .i64 110]) ∧ Below W.heap.size W w'))
 (HP2 : Hid (∀ W, Calls Tryz.prog 210 #[.string tb] W fun e w' => e = .returned (.tuple #[.agg #[.bool mg, .int .u64 m1, .int .u64 m2, .int .u64 m3, .int .u64 m4], .int .i64 111]) ∧ Below W.heap.size W w'))
 : Calls Tryz.prog 198 #[.pointer (some ⟨X, 0, none⟩), .string s] w fun e w' => e = (Got.gave 120).end ∧ KB w.heap.size X w w' := by
 have hlX := hX.lt
 refine (callsIn_wide (n := 9)).1 ?_
 refine callsIn_of_wp_marks Tryz.func198 rfl trivial ?_ rfl
 simp only [Tryz.ntmps198, List.size_toArray, List.length_cons, List.length_nil, Nat.reduceAdd, Nat.reduceSub, Array.replicate_succ, Array.replicate_zero, List.push_toArray, List.append_toArray, List.nil_append, List.cons_append]
 refine wpIn_wide.2 ?_
 go_wp2_with fail
 refine wp_scope_straight ?_
 go_wp2_with fail
 generalize hW : World.alloc _ _ = W0
 have hR : Row W0 w.heap.size [.pointer (some ⟨X, 0, none⟩)] := by rw [← hW]; exact (Row.at rfl _ _).alloc _
 have hR2 : Row W0 (w.heap.size + 1) [.int .i64 0] := by rw [← hW]; exact Row.at (by simp) _ _
 have hB : Below w.heap.size w W0 := by rw [← hW]; exact ((Below.refl _ _).alloc (Nat.le_refl _) _).alloc (by simp) _
 clear hW
 refine wp_label ?_
 go_wp2_with fail
 refine (digits_any2 s _).mono ?_
 rintro e W1 ⟨E, rfl, hEs, hRE, hb⟩
 have hR2' := hR2.1
 replace hR := hR.after hb
 replace hR2 := hR2.after hb
 replace hB := hB.trans (hb.mono hB.size)
 have hW0 := hb.size
 have hC1 : CutOk W1 := hc.below hB
 have hX1 := hX.below hB hlX
 clear hb
 have HSq := HS E W1 hRE hC1
 clear HS
 have hEX : E ≠ X := by have := hB.size; omega
 have hEZ : E ≠ w.heap.size + 1 := by omega
 have hEY : E ≠ w.heap.size := by omega
 have hWX : w.heap.size ≠ X := by omega
 have hWY : w.heap.size + 1 ≠ X := by omega
 have lW1 := hRE.1
 go_wp2_with fail
 refine (wpIn_wide (n := 9)).1 ?_
 refine wpIn_range_u (α := Bool × ByteArray) rfl (by omega) (gf := 222) (lb := #[.pointer (some ⟨E, 0, none⟩)]) rfl trivial (enters_of Tryz.func222 (by kernel_rfl) rfl)
  HSq KeepsB.trans (fun _ l W _ o' h _ _ _ => KeepsB.turn W o' (by have := hRE.1; omega)) (fun _ _ _ h => KeepsB.below h) (Below.refl _ _) (fun _ => rfl)
  (fun pre W => pre.length ≤ 1 ∧ Row W w.heap.size [.pointer (some ⟨X, 0, none⟩)] ∧ Row W (w.heap.size + 1) [.int .i64 (lx 0 110 110 pre)] ∧ Row W X (lx [.bool ab, .int .u64 a1, .int .u64 a2, .int .u64 a3, .int .u64 a4, .bool bb, .int .u64 b1, .int .u64 b2, .int .u64 b3, .int .u64 b4] [.bool ab, .int .u64 a1, .int .u64 a2, .int .u64 a3, .int .u64 a4, .bool bb, .int .u64 b1, .int .u64 b2, .int .u64 b3, .int .u64 b4] [.bool ab, .int .u64 a1, .int .u64 a2, .int .u64 a3, .int .u64 a4, .bool bb, .int .u64 b1, .int .u64 b2, .int .u64 b3, .int .u64 b4] pre) ∧ KB w.heap.size X w W)
  (fun c _ W => c = .exit 0 ∧ Row W (w.heap.size + 1) [.int .i64 120] ∧ KB w.heap.size X w W)
  (fun _ X Y h hb => ⟨h.1, h.2.1.below hb hR.1, h.2.2.1.below hb hR2.1, h.2.2.2.1.below hb hX1.1, h.2.2.2.2.below hb hB.size⟩)
  (fun c _ X Y h hb => ⟨h.1, h.2.1.below hb hR2.1, h.2.2.below hb hB.size⟩) ⟨by simp, hR, hR2, hX1, KB.ofBelow' hB⟩
  (fun x a' _ => a' = { tmps := #[.pointer (some ⟨X, 0, none⟩), .string s, .pointer (some ⟨w.heap.size, 0, none⟩), undef, .pointer (some ⟨w.heap.size + 1, 0, none⟩), .bool x.1, .string x.2, undef, undef, .string s, .func (.func 222) #[] #[.pointer (some ⟨E, 0, none⟩)], .bool x.1, .string x.2, undef, undef, undef, undef, undef, undef, undef, undef, undef, undef, undef, undef, undef, undef, undef, undef, undef, undef, undef, undef, undef, undef, undef, undef, undef, undef, undef, undef, undef, undef, undef, undef, undef, undef, undef, undef, undef, undef, undef, undef, undef, undef, undef, undef], defers := [] })
  (fun _ _ _ _ _ _ _ h => h) ?assign ?body ?done ?stop
 case assign =>
  intro l' pre x W K hI hW hK
  clear hI
  unfold encD
  gi_wp2
  exact hK _ _ (Below.refl _ _) rfl
 case body =>
  rintro l' pre x a' W ⟨_, hI1, hI2, hI3, hI4⟩ hW hp rfl
  rcases two_r hp with ⟨rfl, rfl⟩ | ⟨rfl, rfl⟩
  ·replace hI2 : Row W (w.heap.size + 1) [.int .i64 0] := hI2
   replace hI3 : Row W X [.bool ab, .int .u64 a1, .int .u64 a2, .int .u64 a3, .int .u64 a4, .bool bb, .int .u64 b1, .int .u64 b2, .int .u64 b3, .int .u64 b4] := hI3
   gi_wp2_with fail
   refine ⟨trivial, callsIn_wide.2 ((HP.out _).mono ?_)⟩
   rintro e W3 ⟨rfl, hb⟩
   have r1 := hI1.after hb
   have r2 := hI2.after hb
   have r3 := hI3.after hb
   have y0 := r1.c 0 rfl
   have z0 := r2.c 0 rfl
   have g0 := r2.f 0 rfl
   have x0 := r3.c 0 rfl
   have f0 := r3.f 0 rfl
   have x1 := r3.c 1 rfl
   have f1 := r3.f 1 rfl
   have x2 := r3.c 2 rfl
   have f2 := r3.f 2 rfl
   have x3 := r3.c 3 rfl
   have f3 := r3.f 3 rfl
   have x4 := r3.c 4 rfl
   have f4 := r3.f 4 rfl
   have lX := r3.lt
   have lB := r1.lt
   have lZ := r2.lt
   have k3 := hI4.below hb hI4.size
   have s3 := k3.size
   gi_wp2_with fail
   refine ⟨trivial, ?_⟩
   gi_wp2_with fail
   refine ⟨((keeps_below hb).trans ((KeepsOthers.setCell _ _ _).trans (KeepsOthers.alloc _ _))).from _, (KeepsB.put (KeepsB.below hb) hEZ _).trans (KeepsB.below ((Below.refl _ _).alloc (Nat.le_refl _) _)), ?_⟩
   exact ⟨by simp, (r1.other (by simp) _).alloc _, (r2.set 0 (by simp) (.int .i64 110)).alloc _, (r3.other hWY _).alloc _, (k3.put1 (Or.inr (Nat.le_succ _)) 0 _).alloc (by simpa [World.setCell] using s3) _⟩
  ·replace hI2 : Row W (w.heap.size + 1) [.int .i64 110] := hI2
   replace hI3 : Row W X [.bool ab, .int .u64 a1, .int .u64 a2, .int .u64 a3, .int .u64 a4, .bool bb, .int .u64 b1, .int .u64 b2, .int .u64 b3, .int .u64 b4] := hI3
   gi_wp2_with fail
   refine ⟨trivial, callsIn_wide.2 ((HP2.out _).mono ?_)⟩
   rintro e W3 ⟨rfl, hb⟩
   have r1 := hI1.after hb
   have r2 := hI2.after hb
   have r3 := hI3.after hb
   have y0 := r1.c 0 rfl
   have z0 := r2.c 0 rfl
   have g0 := r2.f 0 rfl
   have x5 := r3.c 5 rfl
   have f5 := r3.f 5 rfl
   have x6 := r3.c 6 rfl
   have f6 := r3.f 6 rfl
   have x7 := r3.c 7 rfl
   have f7 := r3.f 7 rfl
   have x8 := r3.c 8 rfl
   have f8 := r3.f 8 rfl
   have x9 := r3.c 9 rfl
   have f9 := r3.f 9 rfl
   have lX := r3.lt
   have lB := r1.lt
   have lZ := r2.lt
   have k3 := hI4.below hb hI4.size
   have s3 := k3.size
   gi_wp2_with fail
   all_goals try (rename_i hu _; have hv : some undef = some (Value.bool _) := hu; cases hv)
   refine ⟨trivial, ?_⟩
   gi_wp2_with fail
   refine ⟨((keeps_below hb).trans ((KeepsOthers.setCell _ _ _).trans (KeepsOthers.alloc _ _))).from _, (KeepsB.put (KeepsB.below hb) hEZ _).trans (KeepsB.below ((Below.refl _ _).alloc (Nat.le_refl _) _)), ?_⟩
   exact ⟨rfl, (r2.set 0 (by simp) (.int .i64 120)).alloc _, (k3.put1 (Or.inr (Nat.le_succ _)) 0 _).alloc (by simpa [World.setCell] using s3) _⟩
 case stop =>
  rintro D c pre V hD hpre ⟨rfl, hI2, hI4⟩ hK
  refine wpIn_wide.2 ?_
  have z0 := hI2.c 0 rfl
  have hM : Marks W1.heap.size [D] V := ⟨hD, hK, by simp, trivial⟩
  have HH := Lib.hid (And.intro hM hI4)
  have hBs := hB.size
  clear hI2 hI4 hK hM hpre
  go_wp2_with fail
  refine (for_gives 120 _ (by decide)).mono ?_
  rintro e V2 ⟨rfl, rfl⟩
  go_wp2_with fail
  refine leaves_gave (by simp) [D] V HH.out.1 fun V5 hV => ?_
  exact ⟨rfl, HH.out.2.below hV hBs⟩
 case done =>
  rintro D V hD ⟨hI0, _⟩ hK
  exact absurd hI0 (by simp)
set_option maxRecDepth 100000 in
set_option maxHeartbeats 8000000 in
theorem rread_a0_n (X : Nat) (s ta tb : ByteArray) (ab bb ng mg : Bool) (a1 a2 a3 a4 b1 b2 b3 b4 n1 n2 n3 n4 m1 m2 m3 m4 : Int) (eb : Int) (heb : (eb == 111) = false) (w : World) (hX : Row w X [.bool ab, .int .u64 a1, .int .u64 a2, .int .u64 a3, .int .u64 a4, .bool bb, .int .u64 b1, .int .u64 b2, .int .u64 b3, .int .u64 b4]) (hc : CutOk w)
 (HS : ∀ E W, Row W E [.string s] → CutOk W → SeqU Fence.wide 8 Tryz.prog 222 #[.pointer (some ⟨E, 0, none⟩)] encD (fun _ => KeepsB E) ([(false, ta), (true, tb)]) W)
 (HP : Hid (∀ W, Calls Tryz.prog 210 #[.string ta] W fun e w' => e = .returned (.tuple #[.agg #[.bool ng, .int .u64 n1, .int .u64 n2, .int .u64 n3, .int .u64 n4], .int .i64 0]) ∧ Below W.heap.size W w'))
 (HP2 : Hid (∀ W, Calls Tryz.prog 210 #[.string tb] W fun e w' => e = .returned (.tuple #[.agg #[.bool mg, .int .u64 m1, .int .u64 m2, .int .u64 m3, .int .u64 m4], .int .i64 eb]) ∧ Below W.heap.size W w'))
 (HBh : Hid (∀ W, Calls Tryz.prog 211 #[.string tb] W fun e w' => e = .returned (.bool false) ∧ W = w'))
 : Calls Tryz.prog 198 #[.pointer (some ⟨X, 0, none⟩), .string s] w fun e w' => e = (Got.gave 120).end ∧ KB w.heap.size X w w' := by
 have hlX := hX.lt
 refine (callsIn_wide (n := 9)).1 ?_
 refine callsIn_of_wp_marks Tryz.func198 rfl trivial ?_ rfl
 simp only [Tryz.ntmps198, List.size_toArray, List.length_cons, List.length_nil, Nat.reduceAdd, Nat.reduceSub, Array.replicate_succ, Array.replicate_zero, List.push_toArray, List.append_toArray, List.nil_append, List.cons_append]
 refine wpIn_wide.2 ?_
 go_wp2_with fail
 refine wp_scope_straight ?_
 go_wp2_with fail
 generalize hW : World.alloc _ _ = W0
 have hR : Row W0 w.heap.size [.pointer (some ⟨X, 0, none⟩)] := by rw [← hW]; exact (Row.at rfl _ _).alloc _
 have hR2 : Row W0 (w.heap.size + 1) [.int .i64 0] := by rw [← hW]; exact Row.at (by simp) _ _
 have hB : Below w.heap.size w W0 := by rw [← hW]; exact ((Below.refl _ _).alloc (Nat.le_refl _) _).alloc (by simp) _
 clear hW
 refine wp_label ?_
 go_wp2_with fail
 refine (digits_any2 s _).mono ?_
 rintro e W1 ⟨E, rfl, hEs, hRE, hb⟩
 have hR2' := hR2.1
 replace hR := hR.after hb
 replace hR2 := hR2.after hb
 replace hB := hB.trans (hb.mono hB.size)
 have hW0 := hb.size
 have hC1 : CutOk W1 := hc.below hB
 have hX1 := hX.below hB hlX
 clear hb
 have HSq := HS E W1 hRE hC1
 clear HS
 have hEX : E ≠ X := by have := hB.size; omega
 have hEZ : E ≠ w.heap.size + 1 := by omega
 have hEY : E ≠ w.heap.size := by omega
 have hWX : w.heap.size ≠ X := by omega
 have hWY : w.heap.size + 1 ≠ X := by omega
 have lW1 := hRE.1
 go_wp2_with fail
 refine (wpIn_wide (n := 9)).1 ?_
 refine wpIn_range_u (α := Bool × ByteArray) rfl (by omega) (gf := 222) (lb := #[.pointer (some ⟨E, 0, none⟩)]) rfl trivial (enters_of Tryz.func222 (by kernel_rfl) rfl)
  HSq KeepsB.trans (fun _ l W _ o' h _ _ _ => KeepsB.turn W o' (by have := hRE.1; omega)) (fun _ _ _ h => KeepsB.below h) (Below.refl _ _) (fun _ => rfl)
  (fun pre W => pre.length ≤ 1 ∧ Row W w.heap.size [.pointer (some ⟨X, 0, none⟩)] ∧ Row W (w.heap.size + 1) [.int .i64 (lx 0 0 0 pre)] ∧ Row W X (lx [.bool ab, .int .u64 a1, .int .u64 a2, .int .u64 a3, .int .u64 a4, .bool bb, .int .u64 b1, .int .u64 b2, .int .u64 b3, .int .u64 b4] [.bool ng, .int .u64 n1, .int .u64 n2, .int .u64 n3, .int .u64 n4, .bool bb, .int .u64 b1, .int .u64 b2, .int .u64 b3, .int .u64 b4] [.bool ng, .int .u64 n1, .int .u64 n2, .int .u64 n3, .int .u64 n4, .bool bb, .int .u64 b1, .int .u64 b2, .int .u64 b3, .int .u64 b4] pre) ∧ KB w.heap.size X w W)
  (fun c _ W => c = .exit 0 ∧ Row W (w.heap.size + 1) [.int .i64 120] ∧ KB w.heap.size X w W)
  (fun _ X Y h hb => ⟨h.1, h.2.1.below hb hR.1, h.2.2.1.below hb hR2.1, h.2.2.2.1.below hb hX1.1, h.2.2.2.2.below hb hB.size⟩)
  (fun c _ X Y h hb => ⟨h.1, h.2.1.below hb hR2.1, h.2.2.below hb hB.size⟩) ⟨by simp, hR, hR2, hX1, KB.ofBelow' hB⟩
  (fun x a' _ => a' = { tmps := #[.pointer (some ⟨X, 0, none⟩), .string s, .pointer (some ⟨w.heap.size, 0, none⟩), undef, .pointer (some ⟨w.heap.size + 1, 0, none⟩), .bool x.1, .string x.2, undef, undef, .string s, .func (.func 222) #[] #[.pointer (some ⟨E, 0, none⟩)], .bool x.1, .string x.2, undef, undef, undef, undef, undef, undef, undef, undef, undef, undef, undef, undef, undef, undef, undef, undef, undef, undef, undef, undef, undef, undef, undef, undef, undef, undef, undef, undef, undef, undef, undef, undef, undef, undef, undef, undef, undef, undef, undef, undef, undef, undef, undef, undef], defers := [] })
  (fun _ _ _ _ _ _ _ h => h) ?assign ?body ?done ?stop
 case assign =>
  intro l' pre x W K hI hW hK
  clear hI
  unfold encD
  gi_wp2
  exact hK _ _ (Below.refl _ _) rfl
 case body =>
  rintro l' pre x a' W ⟨_, hI1, hI2, hI3, hI4⟩ hW hp rfl
  rcases two_r hp with ⟨rfl, rfl⟩ | ⟨rfl, rfl⟩
  ·replace hI2 : Row W (w.heap.size + 1) [.int .i64 0] := hI2
   replace hI3 : Row W X [.bool ab, .int .u64 a1, .int .u64 a2, .int .u64 a3, .int .u64 a4, .bool bb, .int .u64 b1, .int .u64 b2, .int .u64 b3, .int .u64 b4] := hI3
   gi_wp2_with fail
   refine ⟨trivial, callsIn_wide.2 ((HP.out _).mono ?_)⟩
   rintro e W3 ⟨rfl, hb⟩
   have r1 := hI1.after hb
   have r2 := hI2.after hb
   have r3 := hI3.after hb
   have y0 := r1.c 0 rfl
   have z0 := r2.c 0 rfl
   have g0 := r2.f 0 rfl
   have x0 := r3.c 0 rfl
   have f0 := r3.f 0 rfl
   have x1 := r3.c 1 rfl
   have f1 := r3.f 1 rfl
   have x2 := r3.c 2 rfl
   have f2 := r3.f 2 rfl
   have x3 := r3.c 3 rfl
   have f3 := r3.f 3 rfl
   have x4 := r3.c 4 rfl
   have f4 := r3.f 4 rfl
   have lX := r3.lt
   have lB := r1.lt
   have lZ := r2.lt
   have k3 := hI4.below hb hI4.size
   have s3 := k3.size
   gi_wp2_with fail
   refine ⟨trivial, ?_⟩
   gi_wp2_with fail
   have o : On W3 (((((W3.setCell ⟨X, 0, none⟩ (.bool ng)).setCell ⟨X, 1, none⟩ (.int .u64 n1)).setCell ⟨X, 2, none⟩ (.int .u64 n2)).setCell ⟨X, 3, none⟩ (.int .u64 n3)).setCell ⟨X, 4, none⟩ (.int .u64 n4)) X := ((((((On.refl W3 X).put 0 _).put 1 _).put 2 _).put 3 _).put 4 _)
   have rX := (((((r3.set 0 (by simp) (.bool ng)).set 1 (by simp) (.int .u64 n1)).set 2 (by simp) (.int .u64 n2)).set 3 (by simp) (.int .u64 n3)).set 4 (by simp) (.int .u64 n4))
   have kO : KeepsOthers W3 (((((W3.setCell ⟨X, 0, none⟩ (.bool ng)).setCell ⟨X, 1, none⟩ (.int .u64 n1)).setCell ⟨X, 2, none⟩ (.int .u64 n2)).setCell ⟨X, 3, none⟩ (.int .u64 n3)).setCell ⟨X, 4, none⟩ (.int .u64 n4)) := (((((KeepsOthers.setCell W3 _ _).trans (KeepsOthers.setCell _ _ _)).trans (KeepsOthers.setCell _ _ _)).trans (KeepsOthers.setCell _ _ _)).trans (KeepsOthers.setCell _ _ _))
   generalize ((((W3.setCell ⟨X, 0, none⟩ (.bool ng)).setCell ⟨X, 1, none⟩ (.int .u64 n1)).setCell ⟨X, 2, none⟩ (.int .u64 n2)).setCell ⟨X, 3, none⟩ (.int .u64 n3)).setCell ⟨X, 4, none⟩ (.int .u64 n4) = W4 at *
   refine ⟨((keeps_below hb).trans (kO.trans (KeepsOthers.alloc _ _))).from _, (KeepsB.below hb).trans ⟨by rw [World.size_alloc, o.size]; omega, fun hl => ((Below.refl W4.heap.size W4).alloc (Nat.le_refl _) _ |>.block E (by rw [o.size]; exact hl)).trans (o.block E hEX)⟩, ?_⟩
   exact ⟨by simp, (o.row hWX r1).alloc _, (o.row hWY r2).alloc _, rX.alloc _, ((hI4.below hb (by omega)).on o (.inl rfl)).alloc (by have := hI4.size; rw [o.size]; have := hb.size; omega) _⟩
  ·replace hI2 : Row W (w.heap.size + 1) [.int .i64 0] := hI2
   replace hI3 : Row W X [.bool ng, .int .u64 n1, .int .u64 n2, .int .u64 n3, .int .u64 n4, .bool bb, .int .u64 b1, .int .u64 b2, .int .u64 b3, .int .u64 b4] := hI3
   gi_wp2_with fail
   refine ⟨trivial, callsIn_wide.2 ((HP2.out _).mono ?_)⟩
   rintro e W3 ⟨rfl, hb⟩
   have r1 := hI1.after hb
   have r2 := hI2.after hb
   have r3 := hI3.after hb
   have y0 := r1.c 0 rfl
   have z0 := r2.c 0 rfl
   have g0 := r2.f 0 rfl
   have x5 := r3.c 5 rfl
   have f5 := r3.f 5 rfl
   have x6 := r3.c 6 rfl
   have f6 := r3.f 6 rfl
   have x7 := r3.c 7 rfl
   have f7 := r3.f 7 rfl
   have x8 := r3.c 8 rfl
   have f8 := r3.f 8 rfl
   have x9 := r3.c 9 rfl
   have f9 := r3.f 9 rfl
   have lX := r3.lt
   have lB := r1.lt
   have lZ := r2.lt
   have k3 := hI4.below hb hI4.size
   have s3 := k3.size
   gi_wp2_with fail
   refine ⟨trivial, callsIn_wide.2 ((HBh.out _).mono ?_)⟩
   rintro e W5 ⟨rfl, rfl⟩
   gi_wp2_with fail
   refine ⟨((keeps_below hb).trans ((KeepsOthers.setCell _ _ _).trans (KeepsOthers.alloc _ _))).from _, (KeepsB.put (KeepsB.below hb) hEZ _).trans (KeepsB.below ((Below.refl _ _).alloc (Nat.le_refl _) _)), ?_⟩
   exact ⟨rfl, (r2.set 0 (by simp) (.int .i64 120)).alloc _, (k3.put1 (Or.inr (Nat.le_succ _)) 0 _).alloc (by simpa [World.setCell] using s3) _⟩
 case stop =>
  rintro D c pre V hD hpre ⟨rfl, hI2, hI4⟩ hK
  refine wpIn_wide.2 ?_
  have z0 := hI2.c 0 rfl
  have hM : Marks W1.heap.size [D] V := ⟨hD, hK, by simp, trivial⟩
  have HH := Lib.hid (And.intro hM hI4)
  have hBs := hB.size
  clear hI2 hI4 hK hM hpre
  go_wp2_with fail
  refine (for_gives 120 _ (by decide)).mono ?_
  rintro e V2 ⟨rfl, rfl⟩
  go_wp2_with fail
  refine leaves_gave (by simp) [D] V HH.out.1 fun V5 hV => ?_
  exact ⟨rfl, HH.out.2.below hV hBs⟩
 case done =>
  rintro D V hD ⟨hI0, _⟩ hK
  exact absurd hI0 (by simp)
set_option maxRecDepth 100000 in
set_option maxHeartbeats 8000000 in
theorem rread_a110_n (X : Nat) (s ta tb : ByteArray) (ab bb ng mg : Bool) (a1 a2 a3 a4 b1 b2 b3 b4 n1 n2 n3 n4 m1 m2 m3 m4 : Int) (eb : Int) (heb : (eb == 111) = false) (w : World) (hX : Row w X [.bool ab, .int .u64 a1, .int .u64 a2, .int .u64 a3, .int .u64 a4, .bool bb, .int .u64 b1, .int .u64 b2, .int .u64 b3, .int .u64 b4]) (hc : CutOk w)
 (HS : ∀ E W, Row W E [.string s] → CutOk W → SeqU Fence.wide 8 Tryz.prog 222 #[.pointer (some ⟨E, 0, none⟩)] encD (fun _ => KeepsB E) ([(false, ta), (true, tb)]) W)
 (HP : Hid (∀ W, Calls Tryz.prog 210 #[.string ta] W fun e w' => e = .returned (.tuple #[.agg #[.bool ng, .int .u64 n1, .int .u64 n2, .int .u64 n3, .int .u64 n4], .int .i64 110]) ∧ Below W.heap.size W w'))
 (HP2 : Hid (∀ W, Calls Tryz.prog 210 #[.string tb] W fun e w' => e = .returned (.tuple #[.agg #[.bool mg, .int .u64 m1, .int .u64 m2, .int .u64 m3, .int .u64 m4], .int .i64 eb]) ∧ Below W.heap.size W w'))
 (HBh : Hid (∀ W, Calls Tryz.prog 211 #[.string tb] W fun e w' => e = .returned (.bool false) ∧ W = w'))
 : Calls Tryz.prog 198 #[.pointer (some ⟨X, 0, none⟩), .string s] w fun e w' => e = (Got.gave 120).end ∧ KB w.heap.size X w w' := by
 have hlX := hX.lt
 refine (callsIn_wide (n := 9)).1 ?_
 refine callsIn_of_wp_marks Tryz.func198 rfl trivial ?_ rfl
 simp only [Tryz.ntmps198, List.size_toArray, List.length_cons, List.length_nil, Nat.reduceAdd, Nat.reduceSub, Array.replicate_succ, Array.replicate_zero, List.push_toArray, List.append_toArray, List.nil_append, List.cons_append]
 refine wpIn_wide.2 ?_
 go_wp2_with fail
 refine wp_scope_straight ?_
 go_wp2_with fail
 generalize hW : World.alloc _ _ = W0
 have hR : Row W0 w.heap.size [.pointer (some ⟨X, 0, none⟩)] := by rw [← hW]; exact (Row.at rfl _ _).alloc _
 have hR2 : Row W0 (w.heap.size + 1) [.int .i64 0] := by rw [← hW]; exact Row.at (by simp) _ _
 have hB : Below w.heap.size w W0 := by rw [← hW]; exact ((Below.refl _ _).alloc (Nat.le_refl _) _).alloc (by simp) _
 clear hW
 refine wp_label ?_
 go_wp2_with fail
 refine (digits_any2 s _).mono ?_
 rintro e W1 ⟨E, rfl, hEs, hRE, hb⟩
 have hR2' := hR2.1
 replace hR := hR.after hb
 replace hR2 := hR2.after hb
 replace hB := hB.trans (hb.mono hB.size)
 have hW0 := hb.size
 have hC1 : CutOk W1 := hc.below hB
 have hX1 := hX.below hB hlX
 clear hb
 have HSq := HS E W1 hRE hC1
 clear HS
 have hEX : E ≠ X := by have := hB.size; omega
 have hEZ : E ≠ w.heap.size + 1 := by omega
 have hEY : E ≠ w.heap.size := by omega
 have hWX : w.heap.size ≠ X := by omega
 have hWY : w.heap.size + 1 ≠ X := by omega
 have lW1 := hRE.1
 go_wp2_with fail
 refine (wpIn_wide (n := 9)).1 ?_
 refine wpIn_range_u (α := Bool × ByteArray) rfl (by omega) (gf := 222) (lb := #[.pointer (some ⟨E, 0, none⟩)]) rfl trivial (enters_of Tryz.func222 (by kernel_rfl) rfl)
  HSq KeepsB.trans (fun _ l W _ o' h _ _ _ => KeepsB.turn W o' (by have := hRE.1; omega)) (fun _ _ _ h => KeepsB.below h) (Below.refl _ _) (fun _ => rfl)
  (fun pre W => pre.length ≤ 1 ∧ Row W w.heap.size [.pointer (some ⟨X, 0, none⟩)] ∧ Row W (w.heap.size + 1) [.int .i64 (lx 0 110 110 pre)] ∧ Row W X (lx [.bool ab, .int .u64 a1, .int .u64 a2, .int .u64 a3, .int .u64 a4, .bool bb, .int .u64 b1, .int .u64 b2, .int .u64 b3, .int .u64 b4] [.bool ab, .int .u64 a1, .int .u64 a2, .int .u64 a3, .int .u64 a4, .bool bb, .int .u64 b1, .int .u64 b2, .int .u64 b3, .int .u64 b4] [.bool ab, .int .u64 a1, .int .u64 a2, .int .u64 a3, .int .u64 a4, .bool bb, .int .u64 b1, .int .u64 b2, .int .u64 b3, .int .u64 b4] pre) ∧ KB w.heap.size X w W)
  (fun c _ W => c = .exit 0 ∧ Row W (w.heap.size + 1) [.int .i64 120] ∧ KB w.heap.size X w W)
  (fun _ X Y h hb => ⟨h.1, h.2.1.below hb hR.1, h.2.2.1.below hb hR2.1, h.2.2.2.1.below hb hX1.1, h.2.2.2.2.below hb hB.size⟩)
  (fun c _ X Y h hb => ⟨h.1, h.2.1.below hb hR2.1, h.2.2.below hb hB.size⟩) ⟨by simp, hR, hR2, hX1, KB.ofBelow' hB⟩
  (fun x a' _ => a' = { tmps := #[.pointer (some ⟨X, 0, none⟩), .string s, .pointer (some ⟨w.heap.size, 0, none⟩), undef, .pointer (some ⟨w.heap.size + 1, 0, none⟩), .bool x.1, .string x.2, undef, undef, .string s, .func (.func 222) #[] #[.pointer (some ⟨E, 0, none⟩)], .bool x.1, .string x.2, undef, undef, undef, undef, undef, undef, undef, undef, undef, undef, undef, undef, undef, undef, undef, undef, undef, undef, undef, undef, undef, undef, undef, undef, undef, undef, undef, undef, undef, undef, undef, undef, undef, undef, undef, undef, undef, undef, undef, undef, undef, undef, undef, undef], defers := [] })
  (fun _ _ _ _ _ _ _ h => h) ?assign ?body ?done ?stop
 case assign =>
  intro l' pre x W K hI hW hK
  clear hI
  unfold encD
  gi_wp2
  exact hK _ _ (Below.refl _ _) rfl
 case body =>
  rintro l' pre x a' W ⟨_, hI1, hI2, hI3, hI4⟩ hW hp rfl
  rcases two_r hp with ⟨rfl, rfl⟩ | ⟨rfl, rfl⟩
  ·replace hI2 : Row W (w.heap.size + 1) [.int .i64 0] := hI2
   replace hI3 : Row W X [.bool ab, .int .u64 a1, .int .u64 a2, .int .u64 a3, .int .u64 a4, .bool bb, .int .u64 b1, .int .u64 b2, .int .u64 b3, .int .u64 b4] := hI3
   gi_wp2_with fail
   refine ⟨trivial, callsIn_wide.2 ((HP.out _).mono ?_)⟩
   rintro e W3 ⟨rfl, hb⟩
   have r1 := hI1.after hb
   have r2 := hI2.after hb
   have r3 := hI3.after hb
   have y0 := r1.c 0 rfl
   have z0 := r2.c 0 rfl
   have g0 := r2.f 0 rfl
   have x0 := r3.c 0 rfl
   have f0 := r3.f 0 rfl
   have x1 := r3.c 1 rfl
   have f1 := r3.f 1 rfl
   have x2 := r3.c 2 rfl
   have f2 := r3.f 2 rfl
   have x3 := r3.c 3 rfl
   have f3 := r3.f 3 rfl
   have x4 := r3.c 4 rfl
   have f4 := r3.f 4 rfl
   have lX := r3.lt
   have lB := r1.lt
   have lZ := r2.lt
   have k3 := hI4.below hb hI4.size
   have s3 := k3.size
   gi_wp2_with fail
   refine ⟨trivial, ?_⟩
   gi_wp2_with fail
   refine ⟨((keeps_below hb).trans ((KeepsOthers.setCell _ _ _).trans (KeepsOthers.alloc _ _))).from _, (KeepsB.put (KeepsB.below hb) hEZ _).trans (KeepsB.below ((Below.refl _ _).alloc (Nat.le_refl _) _)), ?_⟩
   exact ⟨by simp, (r1.other (by simp) _).alloc _, (r2.set 0 (by simp) (.int .i64 110)).alloc _, (r3.other hWY _).alloc _, (k3.put1 (Or.inr (Nat.le_succ _)) 0 _).alloc (by simpa [World.setCell] using s3) _⟩
  ·replace hI2 : Row W (w.heap.size + 1) [.int .i64 110] := hI2
   replace hI3 : Row W X [.bool ab, .int .u64 a1, .int .u64 a2, .int .u64 a3, .int .u64 a4, .bool bb, .int .u64 b1, .int .u64 b2, .int .u64 b3, .int .u64 b4] := hI3
   gi_wp2_with fail
   refine ⟨trivial, callsIn_wide.2 ((HP2.out _).mono ?_)⟩
   rintro e W3 ⟨rfl, hb⟩
   have r1 := hI1.after hb
   have r2 := hI2.after hb
   have r3 := hI3.after hb
   have y0 := r1.c 0 rfl
   have z0 := r2.c 0 rfl
   have g0 := r2.f 0 rfl
   have x5 := r3.c 5 rfl
   have f5 := r3.f 5 rfl
   have x6 := r3.c 6 rfl
   have f6 := r3.f 6 rfl
   have x7 := r3.c 7 rfl
   have f7 := r3.f 7 rfl
   have x8 := r3.c 8 rfl
   have f8 := r3.f 8 rfl
   have x9 := r3.c 9 rfl
   have f9 := r3.f 9 rfl
   have lX := r3.lt
   have lB := r1.lt
   have lZ := r2.lt
   have k3 := hI4.below hb hI4.size
   have s3 := k3.size
   gi_wp2_with fail
   refine ⟨trivial, callsIn_wide.2 ((HBh.out _).mono ?_)⟩
   rintro e W5 ⟨rfl, rfl⟩
   gi_wp2_with fail
   refine ⟨((keeps_below hb).trans ((KeepsOthers.setCell _ _ _).trans (KeepsOthers.alloc _ _))).from _, (KeepsB.put (KeepsB.below hb) hEZ _).trans (KeepsB.below ((Below.refl _ _).alloc (Nat.le_refl _) _)), ?_⟩
   exact ⟨rfl, (r2.set 0 (by simp) (.int .i64 120)).alloc _, (k3.put1 (Or.inr (Nat.le_succ _)) 0 _).alloc (by simpa [World.setCell] using s3) _⟩
 case stop =>
  rintro D c pre V hD hpre ⟨rfl, hI2, hI4⟩ hK
  refine wpIn_wide.2 ?_
  have z0 := hI2.c 0 rfl
  have hM : Marks W1.heap.size [D] V := ⟨hD, hK, by simp, trivial⟩
  have HH := Lib.hid (And.intro hM hI4)
  have hBs := hB.size
  clear hI2 hI4 hK hM hpre
  go_wp2_with fail
  refine (for_gives 120 _ (by decide)).mono ?_
  rintro e V2 ⟨rfl, rfl⟩
  go_wp2_with fail
  refine leaves_gave (by simp) [D] V HH.out.1 fun V5 hV => ?_
  exact ⟨rfl, HH.out.2.below hV hBs⟩
 case done =>
  rintro D V hD ⟨hI0, _⟩ hK
  exact absurd hI0 (by simp)
end Go.Proofs.YtongeeggaigepaaGreatDoor

namespace Go.Proofs.YtongeeggaigepaaGreatDoor
open Go.RowKit Go.Sort CrossMath
attribute [local go_sem] Oper.semAt_some
set_option maxRecDepth 100000 in
set_option maxHeartbeats 8000000 in
theorem rread_a0_b110 (X : Nat) (s ta tb : ByteArray) (ab bb ng mg : Bool) (a1 a2 a3 a4 b1 b2 b3 b4 n1 n2 n3 n4 m1 m2 m3 m4 : Int) (w : World) (hX : Row w X [.bool ab, .int .u64 a1, .int .u64 a2, .int .u64 a3, .int .u64 a4, .bool bb, .int .u64 b1, .int .u64 b2, .int .u64 b3, .int .u64 b4]) (hc : CutOk w)
 (HS : ∀ E W, Row W E [.string s] → CutOk W → SeqU Fence.wide 8 Tryz.prog 222 #[.pointer (some ⟨E, 0, none⟩)] encD (fun _ => KeepsB E) ([(false, ta), (true, tb)]) W)
 (HP : Hid (∀ W, Calls Tryz.prog 210 #[.string ta] W fun e w' => e = .returned (.tuple #[.agg #[.bool ng, .int .u64 n1, .int .u64 n2, .int .u64 n3, .int .u64 n4], .int .i64 0]) ∧ Below W.heap.size W w'))
 (HP2 : Hid (∀ W, Calls Tryz.prog 210 #[.string tb] W fun e w' => e = .returned (.tuple #[.agg #[.bool mg, .int .u64 m1, .int .u64 m2, .int .u64 m3, .int .u64 m4], .int .i64 110]) ∧ Below W.heap.size W w'))
 (HBh : Hid (∀ W, Calls Tryz.prog 211 #[.string tb] W fun e w' => e = .returned (.bool true) ∧ W = w'))
 : Calls Tryz.prog 198 #[.pointer (some ⟨X, 0, none⟩), .string s] w fun e w' => e = (Got.gave 110).end ∧ KB w.heap.size X w w' := by
 have hlX := hX.lt
 refine (callsIn_wide (n := 9)).1 ?_
 refine callsIn_of_wp_marks Tryz.func198 rfl trivial ?_ rfl
 simp only [Tryz.ntmps198, List.size_toArray, List.length_cons, List.length_nil, Nat.reduceAdd, Nat.reduceSub, Array.replicate_succ, Array.replicate_zero, List.push_toArray, List.append_toArray, List.nil_append, List.cons_append]
 refine wpIn_wide.2 ?_
 go_wp2_with fail
 refine wp_scope_straight ?_
 go_wp2_with fail
 generalize hW : World.alloc _ _ = W0
 have hR : Row W0 w.heap.size [.pointer (some ⟨X, 0, none⟩)] := by rw [← hW]; exact (Row.at rfl _ _).alloc _
 have hR2 : Row W0 (w.heap.size + 1) [.int .i64 0] := by rw [← hW]; exact Row.at (by simp) _ _
 have hB : Below w.heap.size w W0 := by rw [← hW]; exact ((Below.refl _ _).alloc (Nat.le_refl _) _).alloc (by simp) _
 clear hW
 refine wp_label ?_
 go_wp2_with fail
 refine (digits_any2 s _).mono ?_
 rintro e W1 ⟨E, rfl, hEs, hRE, hb⟩
 have hR2' := hR2.1
 replace hR := hR.after hb
 replace hR2 := hR2.after hb
 replace hB := hB.trans (hb.mono hB.size)
 have hW0 := hb.size
 have hC1 : CutOk W1 := hc.below hB
 have hX1 := hX.below hB hlX
 clear hb
 have HSq := HS E W1 hRE hC1
 clear HS
 have hEX : E ≠ X := by have := hB.size; omega
 have hEZ : E ≠ w.heap.size + 1 := by omega
 have hEY : E ≠ w.heap.size := by omega
 have hWX : w.heap.size ≠ X := by omega
 have hWY : w.heap.size + 1 ≠ X := by omega
 have lW1 := hRE.1
 go_wp2_with fail
 refine (wpIn_wide (n := 9)).1 ?_
 refine wpIn_range_u (α := Bool × ByteArray) rfl (by omega) (gf := 222) (lb := #[.pointer (some ⟨E, 0, none⟩)]) rfl trivial (enters_of Tryz.func222 (by kernel_rfl) rfl)
  HSq KeepsB.trans (fun _ l W _ o' h _ _ _ => KeepsB.turn W o' (by have := hRE.1; omega)) (fun _ _ _ h => KeepsB.below h) (Below.refl _ _) (fun _ => rfl)
  (fun pre W => Row W w.heap.size [.pointer (some ⟨X, 0, none⟩)] ∧ Row W (w.heap.size + 1) [.int .i64 (lx 0 0 110 pre)] ∧ Row W X (lx [.bool ab, .int .u64 a1, .int .u64 a2, .int .u64 a3, .int .u64 a4, .bool bb, .int .u64 b1, .int .u64 b2, .int .u64 b3, .int .u64 b4] [.bool ng, .int .u64 n1, .int .u64 n2, .int .u64 n3, .int .u64 n4, .bool bb, .int .u64 b1, .int .u64 b2, .int .u64 b3, .int .u64 b4] [.bool ng, .int .u64 n1, .int .u64 n2, .int .u64 n3, .int .u64 n4, .bool bb, .int .u64 b1, .int .u64 b2, .int .u64 b3, .int .u64 b4] pre) ∧ KB w.heap.size X w W)
  (fun _ _ _ => False)
  (fun _ X Y h hb => ⟨h.1.below hb hR.1, h.2.1.below hb hR2.1, h.2.2.1.below hb hX1.1, h.2.2.2.below hb hB.size⟩) (fun _ _ _ _ h _ => h.elim) ⟨hR, hR2, hX1, KB.ofBelow' hB⟩
  (fun x a' _ => a' = { tmps := #[.pointer (some ⟨X, 0, none⟩), .string s, .pointer (some ⟨w.heap.size, 0, none⟩), undef, .pointer (some ⟨w.heap.size + 1, 0, none⟩), .bool x.1, .string x.2, undef, undef, .string s, .func (.func 222) #[] #[.pointer (some ⟨E, 0, none⟩)], .bool x.1, .string x.2, undef, undef, undef, undef, undef, undef, undef, undef, undef, undef, undef, undef, undef, undef, undef, undef, undef, undef, undef, undef, undef, undef, undef, undef, undef, undef, undef, undef, undef, undef, undef, undef, undef, undef, undef, undef, undef, undef, undef, undef, undef, undef, undef, undef], defers := [] })
  (fun _ _ _ _ _ _ _ h => h) ?assign ?body ?done ?stop
 case assign =>
  intro l' pre x W K hI hW hK
  clear hI
  unfold encD
  gi_wp2
  exact hK _ _ (Below.refl _ _) rfl
 case body =>
  rintro l' pre x a' W ⟨hI1, hI2, hI3, hI4⟩ hW hp rfl
  rcases two_r hp with ⟨rfl, rfl⟩ | ⟨rfl, rfl⟩
  ·replace hI2 : Row W (w.heap.size + 1) [.int .i64 0] := hI2
   replace hI3 : Row W X [.bool ab, .int .u64 a1, .int .u64 a2, .int .u64 a3, .int .u64 a4, .bool bb, .int .u64 b1, .int .u64 b2, .int .u64 b3, .int .u64 b4] := hI3
   gi_wp2_with fail
   refine ⟨trivial, callsIn_wide.2 ((HP.out _).mono ?_)⟩
   rintro e W3 ⟨rfl, hb⟩
   have r1 := hI1.after hb
   have r2 := hI2.after hb
   have r3 := hI3.after hb
   have y0 := r1.c 0 rfl
   have z0 := r2.c 0 rfl
   have g0 := r2.f 0 rfl
   have x0 := r3.c 0 rfl
   have f0 := r3.f 0 rfl
   have x1 := r3.c 1 rfl
   have f1 := r3.f 1 rfl
   have x2 := r3.c 2 rfl
   have f2 := r3.f 2 rfl
   have x3 := r3.c 3 rfl
   have f3 := r3.f 3 rfl
   have x4 := r3.c 4 rfl
   have f4 := r3.f 4 rfl
   have lX := r3.lt
   have lB := r1.lt
   have lZ := r2.lt
   have k3 := hI4.below hb hI4.size
   have s3 := k3.size
   gi_wp2_with fail
   refine ⟨trivial, ?_⟩
   gi_wp2_with fail
   have o : On W3 (((((W3.setCell ⟨X, 0, none⟩ (.bool ng)).setCell ⟨X, 1, none⟩ (.int .u64 n1)).setCell ⟨X, 2, none⟩ (.int .u64 n2)).setCell ⟨X, 3, none⟩ (.int .u64 n3)).setCell ⟨X, 4, none⟩ (.int .u64 n4)) X := ((((((On.refl W3 X).put 0 _).put 1 _).put 2 _).put 3 _).put 4 _)
   have rX := (((((r3.set 0 (by simp) (.bool ng)).set 1 (by simp) (.int .u64 n1)).set 2 (by simp) (.int .u64 n2)).set 3 (by simp) (.int .u64 n3)).set 4 (by simp) (.int .u64 n4))
   have kO : KeepsOthers W3 (((((W3.setCell ⟨X, 0, none⟩ (.bool ng)).setCell ⟨X, 1, none⟩ (.int .u64 n1)).setCell ⟨X, 2, none⟩ (.int .u64 n2)).setCell ⟨X, 3, none⟩ (.int .u64 n3)).setCell ⟨X, 4, none⟩ (.int .u64 n4)) := (((((KeepsOthers.setCell W3 _ _).trans (KeepsOthers.setCell _ _ _)).trans (KeepsOthers.setCell _ _ _)).trans (KeepsOthers.setCell _ _ _)).trans (KeepsOthers.setCell _ _ _))
   generalize ((((W3.setCell ⟨X, 0, none⟩ (.bool ng)).setCell ⟨X, 1, none⟩ (.int .u64 n1)).setCell ⟨X, 2, none⟩ (.int .u64 n2)).setCell ⟨X, 3, none⟩ (.int .u64 n3)).setCell ⟨X, 4, none⟩ (.int .u64 n4) = W4 at *
   refine ⟨((keeps_below hb).trans (kO.trans (KeepsOthers.alloc _ _))).from _, (KeepsB.below hb).trans ⟨by rw [World.size_alloc, o.size]; omega, fun hl => ((Below.refl W4.heap.size W4).alloc (Nat.le_refl _) _ |>.block E (by rw [o.size]; exact hl)).trans (o.block E hEX)⟩, ?_⟩
   exact ⟨(o.row hWX r1).alloc _, (o.row hWY r2).alloc _, rX.alloc _, ((hI4.below hb (by omega)).on o (.inl rfl)).alloc (by have := hI4.size; rw [o.size]; have := hb.size; omega) _⟩
  ·replace hI2 : Row W (w.heap.size + 1) [.int .i64 0] := hI2
   replace hI3 : Row W X [.bool ng, .int .u64 n1, .int .u64 n2, .int .u64 n3, .int .u64 n4, .bool bb, .int .u64 b1, .int .u64 b2, .int .u64 b3, .int .u64 b4] := hI3
   gi_wp2_with fail
   refine ⟨trivial, callsIn_wide.2 ((HP2.out _).mono ?_)⟩
   rintro e W3 ⟨rfl, hb⟩
   have r1 := hI1.after hb
   have r2 := hI2.after hb
   have r3 := hI3.after hb
   have y0 := r1.c 0 rfl
   have z0 := r2.c 0 rfl
   have g0 := r2.f 0 rfl
   have x5 := r3.c 5 rfl
   have f5 := r3.f 5 rfl
   have x6 := r3.c 6 rfl
   have f6 := r3.f 6 rfl
   have x7 := r3.c 7 rfl
   have f7 := r3.f 7 rfl
   have x8 := r3.c 8 rfl
   have f8 := r3.f 8 rfl
   have x9 := r3.c 9 rfl
   have f9 := r3.f 9 rfl
   have lX := r3.lt
   have lB := r1.lt
   have lZ := r2.lt
   have k3 := hI4.below hb hI4.size
   have s3 := k3.size
   gi_wp2_with fail
   refine ⟨trivial, callsIn_wide.2 ((HBh.out _).mono ?_)⟩
   rintro e W5 ⟨rfl, rfl⟩
   gi_wp2_with fail
   refine ⟨((keeps_below hb).trans ((KeepsOthers.setCell _ _ _).trans (KeepsOthers.alloc _ _))).from _, (KeepsB.put (KeepsB.below hb) hEZ _).trans (KeepsB.below ((Below.refl _ _).alloc (Nat.le_refl _) _)), ?_⟩
   exact ⟨(r1.other (by simp) _).alloc _, (r2.set 0 (by simp) (.int .i64 110)).alloc _, (r3.other hWY _).alloc _, (k3.put1 (Or.inr (Nat.le_succ _)) 0 _).alloc (by simpa [World.setCell] using s3) _⟩
 case stop => exact fun _ _ _ _ _ _ h => h.elim
 case done =>
  rintro D V hD ⟨hI1, hI2, hI3, hI4⟩ hK
  replace hI2 : Row V (w.heap.size + 1) [.int .i64 110] := hI2
  replace hI3 : Row V X [.bool ng, .int .u64 n1, .int .u64 n2, .int .u64 n3, .int .u64 n4, .bool bb, .int .u64 b1, .int .u64 b2, .int .u64 b3, .int .u64 b4] := hI3
  have hBs := hB.size
  have hD1 : D < V.heap.size := (Array.getElem?_eq_some_iff.1 hK).1
  have y0 := hI1.c 0 rfl
  have z0 := hI2.c 0 rfl
  have g0 := hI2.f 0 rfl
  have x0 := hI3.c 0 rfl
  have x1 := hI3.c 1 rfl
  have x2 := hI3.c 2 rfl
  have x3 := hI3.c 3 rfl
  have x4 := hI3.c 4 rfl
  have x5 := hI3.c 5 rfl
  have x6 := hI3.c 6 rfl
  have x7 := hI3.c 7 rfl
  have x8 := hI3.c 8 rfl
  have x9 := hI3.c 9 rfl
  have hM : Marks W1.heap.size [D] V := ⟨hD, hK, by simp, trivial⟩
  have HF := Lib.hid (And.intro hM hI4)
  clear y0 g0 x0 x1 x2 x3 x4 x5 x6 x7 x8 x9 hI1 hI2 hI3 hI4 hK HP hM
  go_wp2_with fail
  refine (for_gives 110 _ (by decide)).mono ?_
  rintro e V2 ⟨rfl, rfl⟩
  go_wp2_with fail
  refine leaves_gave (by simp) [D] _ HF.out.1 fun V5 hV => ?_
  exact ⟨rfl, HF.out.2.below hV hBs⟩
set_option maxRecDepth 100000 in
set_option maxHeartbeats 8000000 in
theorem rread_a110_b110 (X : Nat) (s ta tb : ByteArray) (ab bb ng mg : Bool) (a1 a2 a3 a4 b1 b2 b3 b4 n1 n2 n3 n4 m1 m2 m3 m4 : Int) (w : World) (hX : Row w X [.bool ab, .int .u64 a1, .int .u64 a2, .int .u64 a3, .int .u64 a4, .bool bb, .int .u64 b1, .int .u64 b2, .int .u64 b3, .int .u64 b4]) (hc : CutOk w)
 (HS : ∀ E W, Row W E [.string s] → CutOk W → SeqU Fence.wide 8 Tryz.prog 222 #[.pointer (some ⟨E, 0, none⟩)] encD (fun _ => KeepsB E) ([(false, ta), (true, tb)]) W)
 (HP : Hid (∀ W, Calls Tryz.prog 210 #[.string ta] W fun e w' => e = .returned (.tuple #[.agg #[.bool ng, .int .u64 n1, .int .u64 n2, .int .u64 n3, .int .u64 n4], .int .i64 110]) ∧ Below W.heap.size W w'))
 (HP2 : Hid (∀ W, Calls Tryz.prog 210 #[.string tb] W fun e w' => e = .returned (.tuple #[.agg #[.bool mg, .int .u64 m1, .int .u64 m2, .int .u64 m3, .int .u64 m4], .int .i64 110]) ∧ Below W.heap.size W w'))
 (HBh : Hid (∀ W, Calls Tryz.prog 211 #[.string tb] W fun e w' => e = .returned (.bool true) ∧ W = w'))
 : Calls Tryz.prog 198 #[.pointer (some ⟨X, 0, none⟩), .string s] w fun e w' => e = (Got.gave 110).end ∧ KB w.heap.size X w w' := by
 have hlX := hX.lt
 refine (callsIn_wide (n := 9)).1 ?_
 refine callsIn_of_wp_marks Tryz.func198 rfl trivial ?_ rfl
 simp only [Tryz.ntmps198, List.size_toArray, List.length_cons, List.length_nil, Nat.reduceAdd, Nat.reduceSub, Array.replicate_succ, Array.replicate_zero, List.push_toArray, List.append_toArray, List.nil_append, List.cons_append]
 refine wpIn_wide.2 ?_
 go_wp2_with fail
 refine wp_scope_straight ?_
 go_wp2_with fail
 generalize hW : World.alloc _ _ = W0
 have hR : Row W0 w.heap.size [.pointer (some ⟨X, 0, none⟩)] := by rw [← hW]; exact (Row.at rfl _ _).alloc _
 have hR2 : Row W0 (w.heap.size + 1) [.int .i64 0] := by rw [← hW]; exact Row.at (by simp) _ _
 have hB : Below w.heap.size w W0 := by rw [← hW]; exact ((Below.refl _ _).alloc (Nat.le_refl _) _).alloc (by simp) _
 clear hW
 refine wp_label ?_
 go_wp2_with fail
 refine (digits_any2 s _).mono ?_
 rintro e W1 ⟨E, rfl, hEs, hRE, hb⟩
 have hR2' := hR2.1
 replace hR := hR.after hb
 replace hR2 := hR2.after hb
 replace hB := hB.trans (hb.mono hB.size)
 have hW0 := hb.size
 have hC1 : CutOk W1 := hc.below hB
 have hX1 := hX.below hB hlX
 clear hb
 have HSq := HS E W1 hRE hC1
 clear HS
 have hEX : E ≠ X := by have := hB.size; omega
 have hEZ : E ≠ w.heap.size + 1 := by omega
 have hEY : E ≠ w.heap.size := by omega
 have hWX : w.heap.size ≠ X := by omega
 have hWY : w.heap.size + 1 ≠ X := by omega
 have lW1 := hRE.1
 go_wp2_with fail
 refine (wpIn_wide (n := 9)).1 ?_
 refine wpIn_range_u (α := Bool × ByteArray) rfl (by omega) (gf := 222) (lb := #[.pointer (some ⟨E, 0, none⟩)]) rfl trivial (enters_of Tryz.func222 (by kernel_rfl) rfl)
  HSq KeepsB.trans (fun _ l W _ o' h _ _ _ => KeepsB.turn W o' (by have := hRE.1; omega)) (fun _ _ _ h => KeepsB.below h) (Below.refl _ _) (fun _ => rfl)
  (fun pre W => Row W w.heap.size [.pointer (some ⟨X, 0, none⟩)] ∧ Row W (w.heap.size + 1) [.int .i64 (lx 0 110 110 pre)] ∧ Row W X (lx [.bool ab, .int .u64 a1, .int .u64 a2, .int .u64 a3, .int .u64 a4, .bool bb, .int .u64 b1, .int .u64 b2, .int .u64 b3, .int .u64 b4] [.bool ab, .int .u64 a1, .int .u64 a2, .int .u64 a3, .int .u64 a4, .bool bb, .int .u64 b1, .int .u64 b2, .int .u64 b3, .int .u64 b4] [.bool ab, .int .u64 a1, .int .u64 a2, .int .u64 a3, .int .u64 a4, .bool bb, .int .u64 b1, .int .u64 b2, .int .u64 b3, .int .u64 b4] pre) ∧ KB w.heap.size X w W)
  (fun _ _ _ => False)
  (fun _ X Y h hb => ⟨h.1.below hb hR.1, h.2.1.below hb hR2.1, h.2.2.1.below hb hX1.1, h.2.2.2.below hb hB.size⟩) (fun _ _ _ _ h _ => h.elim) ⟨hR, hR2, hX1, KB.ofBelow' hB⟩
  (fun x a' _ => a' = { tmps := #[.pointer (some ⟨X, 0, none⟩), .string s, .pointer (some ⟨w.heap.size, 0, none⟩), undef, .pointer (some ⟨w.heap.size + 1, 0, none⟩), .bool x.1, .string x.2, undef, undef, .string s, .func (.func 222) #[] #[.pointer (some ⟨E, 0, none⟩)], .bool x.1, .string x.2, undef, undef, undef, undef, undef, undef, undef, undef, undef, undef, undef, undef, undef, undef, undef, undef, undef, undef, undef, undef, undef, undef, undef, undef, undef, undef, undef, undef, undef, undef, undef, undef, undef, undef, undef, undef, undef, undef, undef, undef, undef, undef, undef, undef], defers := [] })
  (fun _ _ _ _ _ _ _ h => h) ?assign ?body ?done ?stop
 case assign =>
  intro l' pre x W K hI hW hK
  clear hI
  unfold encD
  gi_wp2
  exact hK _ _ (Below.refl _ _) rfl
 case body =>
  rintro l' pre x a' W ⟨hI1, hI2, hI3, hI4⟩ hW hp rfl
  rcases two_r hp with ⟨rfl, rfl⟩ | ⟨rfl, rfl⟩
  ·replace hI2 : Row W (w.heap.size + 1) [.int .i64 0] := hI2
   replace hI3 : Row W X [.bool ab, .int .u64 a1, .int .u64 a2, .int .u64 a3, .int .u64 a4, .bool bb, .int .u64 b1, .int .u64 b2, .int .u64 b3, .int .u64 b4] := hI3
   gi_wp2_with fail
   refine ⟨trivial, callsIn_wide.2 ((HP.out _).mono ?_)⟩
   rintro e W3 ⟨rfl, hb⟩
   have r1 := hI1.after hb
   have r2 := hI2.after hb
   have r3 := hI3.after hb
   have y0 := r1.c 0 rfl
   have z0 := r2.c 0 rfl
   have g0 := r2.f 0 rfl
   have x0 := r3.c 0 rfl
   have f0 := r3.f 0 rfl
   have x1 := r3.c 1 rfl
   have f1 := r3.f 1 rfl
   have x2 := r3.c 2 rfl
   have f2 := r3.f 2 rfl
   have x3 := r3.c 3 rfl
   have f3 := r3.f 3 rfl
   have x4 := r3.c 4 rfl
   have f4 := r3.f 4 rfl
   have lX := r3.lt
   have lB := r1.lt
   have lZ := r2.lt
   have k3 := hI4.below hb hI4.size
   have s3 := k3.size
   gi_wp2_with fail
   refine ⟨trivial, ?_⟩
   gi_wp2_with fail
   refine ⟨((keeps_below hb).trans ((KeepsOthers.setCell _ _ _).trans (KeepsOthers.alloc _ _))).from _, (KeepsB.put (KeepsB.below hb) hEZ _).trans (KeepsB.below ((Below.refl _ _).alloc (Nat.le_refl _) _)), ?_⟩
   exact ⟨(r1.other (by simp) _).alloc _, (r2.set 0 (by simp) (.int .i64 110)).alloc _, (r3.other hWY _).alloc _, (k3.put1 (Or.inr (Nat.le_succ _)) 0 _).alloc (by simpa [World.setCell] using s3) _⟩
  ·replace hI2 : Row W (w.heap.size + 1) [.int .i64 110] := hI2
   replace hI3 : Row W X [.bool ab, .int .u64 a1, .int .u64 a2, .int .u64 a3, .int .u64 a4, .bool bb, .int .u64 b1, .int .u64 b2, .int .u64 b3, .int .u64 b4] := hI3
   gi_wp2_with fail
   refine ⟨trivial, callsIn_wide.2 ((HP2.out _).mono ?_)⟩
   rintro e W3 ⟨rfl, hb⟩
   have r1 := hI1.after hb
   have r2 := hI2.after hb
   have r3 := hI3.after hb
   have y0 := r1.c 0 rfl
   have z0 := r2.c 0 rfl
   have g0 := r2.f 0 rfl
   have x5 := r3.c 5 rfl
   have f5 := r3.f 5 rfl
   have x6 := r3.c 6 rfl
   have f6 := r3.f 6 rfl
   have x7 := r3.c 7 rfl
   have f7 := r3.f 7 rfl
   have x8 := r3.c 8 rfl
   have f8 := r3.f 8 rfl
   have x9 := r3.c 9 rfl
   have f9 := r3.f 9 rfl
   have lX := r3.lt
   have lB := r1.lt
   have lZ := r2.lt
   have k3 := hI4.below hb hI4.size
   have s3 := k3.size
   gi_wp2_with fail
   refine ⟨trivial, callsIn_wide.2 ((HBh.out _).mono ?_)⟩
   rintro e W5 ⟨rfl, rfl⟩
   gi_wp2_with fail
   refine ⟨((keeps_below hb).trans ((KeepsOthers.setCell _ _ _).trans (KeepsOthers.alloc _ _))).from _, (KeepsB.put (KeepsB.below hb) hEZ _).trans (KeepsB.below ((Below.refl _ _).alloc (Nat.le_refl _) _)), ?_⟩
   exact ⟨(r1.other (by simp) _).alloc _, (r2.set 0 (by simp) (.int .i64 110)).alloc _, (r3.other hWY _).alloc _, (k3.put1 (Or.inr (Nat.le_succ _)) 0 _).alloc (by simpa [World.setCell] using s3) _⟩
 case stop => exact fun _ _ _ _ _ _ h => h.elim
 case done =>
  rintro D V hD ⟨hI1, hI2, hI3, hI4⟩ hK
  replace hI2 : Row V (w.heap.size + 1) [.int .i64 110] := hI2
  replace hI3 : Row V X [.bool ab, .int .u64 a1, .int .u64 a2, .int .u64 a3, .int .u64 a4, .bool bb, .int .u64 b1, .int .u64 b2, .int .u64 b3, .int .u64 b4] := hI3
  have hBs := hB.size
  have hD1 : D < V.heap.size := (Array.getElem?_eq_some_iff.1 hK).1
  have y0 := hI1.c 0 rfl
  have z0 := hI2.c 0 rfl
  have g0 := hI2.f 0 rfl
  have x0 := hI3.c 0 rfl
  have x1 := hI3.c 1 rfl
  have x2 := hI3.c 2 rfl
  have x3 := hI3.c 3 rfl
  have x4 := hI3.c 4 rfl
  have x5 := hI3.c 5 rfl
  have x6 := hI3.c 6 rfl
  have x7 := hI3.c 7 rfl
  have x8 := hI3.c 8 rfl
  have x9 := hI3.c 9 rfl
  have hM : Marks W1.heap.size [D] V := ⟨hD, hK, by simp, trivial⟩
  have HF := Lib.hid (And.intro hM hI4)
  clear y0 g0 x0 x1 x2 x3 x4 x5 x6 x7 x8 x9 hI1 hI2 hI3 hI4 hK HP hM
  go_wp2_with fail
  refine (for_gives 110 _ (by decide)).mono ?_
  rintro e V2 ⟨rfl, rfl⟩
  go_wp2_with fail
  refine leaves_gave (by simp) [D] _ HF.out.1 fun V5 hV => ?_
  exact ⟨rfl, HF.out.2.below hV hBs⟩
set_option maxRecDepth 100000 in
set_option maxHeartbeats 8000000 in
theorem rread_a110_b0 (X : Nat) (s ta tb : ByteArray) (ab bb ng mg : Bool) (a1 a2 a3 a4 b1 b2 b3 b4 n1 n2 n3 n4 m1 m2 m3 m4 : Int) (w : World) (hX : Row w X [.bool ab, .int .u64 a1, .int .u64 a2, .int .u64 a3, .int .u64 a4, .bool bb, .int .u64 b1, .int .u64 b2, .int .u64 b3, .int .u64 b4]) (hc : CutOk w)
 (HS : ∀ E W, Row W E [.string s] → CutOk W → SeqU Fence.wide 8 Tryz.prog 222 #[.pointer (some ⟨E, 0, none⟩)] encD (fun _ => KeepsB E) ([(false, ta), (true, tb)]) W)
 (HP : Hid (∀ W, Calls Tryz.prog 210 #[.string ta] W fun e w' => e = .returned (.tuple #[.agg #[.bool ng, .int .u64 n1, .int .u64 n2, .int .u64 n3, .int .u64 n4], .int .i64 110]) ∧ Below W.heap.size W w'))
 (HP2 : Hid (∀ W, Calls Tryz.prog 210 #[.string tb] W fun e w' => e = .returned (.tuple #[.agg #[.bool mg, .int .u64 m1, .int .u64 m2, .int .u64 m3, .int .u64 m4], .int .i64 0]) ∧ Below W.heap.size W w'))
 (HBh : Hid (∀ W, Calls Tryz.prog 211 #[.string tb] W fun e w' => e = .returned (.bool true) ∧ W = w'))
 : Calls Tryz.prog 198 #[.pointer (some ⟨X, 0, none⟩), .string s] w fun e w' => e = (Got.gave 110).end ∧ KB w.heap.size X w w' := by
 have hlX := hX.lt
 refine (callsIn_wide (n := 9)).1 ?_
 refine callsIn_of_wp_marks Tryz.func198 rfl trivial ?_ rfl
 simp only [Tryz.ntmps198, List.size_toArray, List.length_cons, List.length_nil, Nat.reduceAdd, Nat.reduceSub, Array.replicate_succ, Array.replicate_zero, List.push_toArray, List.append_toArray, List.nil_append, List.cons_append]
 refine wpIn_wide.2 ?_
 go_wp2_with fail
 refine wp_scope_straight ?_
 go_wp2_with fail
 generalize hW : World.alloc _ _ = W0
 have hR : Row W0 w.heap.size [.pointer (some ⟨X, 0, none⟩)] := by rw [← hW]; exact (Row.at rfl _ _).alloc _
 have hR2 : Row W0 (w.heap.size + 1) [.int .i64 0] := by rw [← hW]; exact Row.at (by simp) _ _
 have hB : Below w.heap.size w W0 := by rw [← hW]; exact ((Below.refl _ _).alloc (Nat.le_refl _) _).alloc (by simp) _
 clear hW
 refine wp_label ?_
 go_wp2_with fail
 refine (digits_any2 s _).mono ?_
 rintro e W1 ⟨E, rfl, hEs, hRE, hb⟩
 have hR2' := hR2.1
 replace hR := hR.after hb
 replace hR2 := hR2.after hb
 replace hB := hB.trans (hb.mono hB.size)
 have hW0 := hb.size
 have hC1 : CutOk W1 := hc.below hB
 have hX1 := hX.below hB hlX
 clear hb
 have HSq := HS E W1 hRE hC1
 clear HS
 have hEX : E ≠ X := by have := hB.size; omega
 have hEZ : E ≠ w.heap.size + 1 := by omega
 have hEY : E ≠ w.heap.size := by omega
 have hWX : w.heap.size ≠ X := by omega
 have hWY : w.heap.size + 1 ≠ X := by omega
 have lW1 := hRE.1
 go_wp2_with fail
 refine (wpIn_wide (n := 9)).1 ?_
 refine wpIn_range_u (α := Bool × ByteArray) rfl (by omega) (gf := 222) (lb := #[.pointer (some ⟨E, 0, none⟩)]) rfl trivial (enters_of Tryz.func222 (by kernel_rfl) rfl)
  HSq KeepsB.trans (fun _ l W _ o' h _ _ _ => KeepsB.turn W o' (by have := hRE.1; omega)) (fun _ _ _ h => KeepsB.below h) (Below.refl _ _) (fun _ => rfl)
  (fun pre W => Row W w.heap.size [.pointer (some ⟨X, 0, none⟩)] ∧ Row W (w.heap.size + 1) [.int .i64 (lx 0 110 110 pre)] ∧ Row W X (lx [.bool ab, .int .u64 a1, .int .u64 a2, .int .u64 a3, .int .u64 a4, .bool bb, .int .u64 b1, .int .u64 b2, .int .u64 b3, .int .u64 b4] [.bool ab, .int .u64 a1, .int .u64 a2, .int .u64 a3, .int .u64 a4, .bool bb, .int .u64 b1, .int .u64 b2, .int .u64 b3, .int .u64 b4] [.bool ab, .int .u64 a1, .int .u64 a2, .int .u64 a3, .int .u64 a4, .bool mg, .int .u64 m1, .int .u64 m2, .int .u64 m3, .int .u64 m4] pre) ∧ KB w.heap.size X w W)
  (fun _ _ _ => False)
  (fun _ X Y h hb => ⟨h.1.below hb hR.1, h.2.1.below hb hR2.1, h.2.2.1.below hb hX1.1, h.2.2.2.below hb hB.size⟩) (fun _ _ _ _ h _ => h.elim) ⟨hR, hR2, hX1, KB.ofBelow' hB⟩
  (fun x a' _ => a' = { tmps := #[.pointer (some ⟨X, 0, none⟩), .string s, .pointer (some ⟨w.heap.size, 0, none⟩), undef, .pointer (some ⟨w.heap.size + 1, 0, none⟩), .bool x.1, .string x.2, undef, undef, .string s, .func (.func 222) #[] #[.pointer (some ⟨E, 0, none⟩)], .bool x.1, .string x.2, undef, undef, undef, undef, undef, undef, undef, undef, undef, undef, undef, undef, undef, undef, undef, undef, undef, undef, undef, undef, undef, undef, undef, undef, undef, undef, undef, undef, undef, undef, undef, undef, undef, undef, undef, undef, undef, undef, undef, undef, undef, undef, undef, undef], defers := [] })
  (fun _ _ _ _ _ _ _ h => h) ?assign ?body ?done ?stop
 case assign =>
  intro l' pre x W K hI hW hK
  clear hI
  unfold encD
  gi_wp2
  exact hK _ _ (Below.refl _ _) rfl
 case body =>
  rintro l' pre x a' W ⟨hI1, hI2, hI3, hI4⟩ hW hp rfl
  rcases two_r hp with ⟨rfl, rfl⟩ | ⟨rfl, rfl⟩
  ·replace hI2 : Row W (w.heap.size + 1) [.int .i64 0] := hI2
   replace hI3 : Row W X [.bool ab, .int .u64 a1, .int .u64 a2, .int .u64 a3, .int .u64 a4, .bool bb, .int .u64 b1, .int .u64 b2, .int .u64 b3, .int .u64 b4] := hI3
   gi_wp2_with fail
   refine ⟨trivial, callsIn_wide.2 ((HP.out _).mono ?_)⟩
   rintro e W3 ⟨rfl, hb⟩
   have r1 := hI1.after hb
   have r2 := hI2.after hb
   have r3 := hI3.after hb
   have y0 := r1.c 0 rfl
   have z0 := r2.c 0 rfl
   have g0 := r2.f 0 rfl
   have x0 := r3.c 0 rfl
   have f0 := r3.f 0 rfl
   have x1 := r3.c 1 rfl
   have f1 := r3.f 1 rfl
   have x2 := r3.c 2 rfl
   have f2 := r3.f 2 rfl
   have x3 := r3.c 3 rfl
   have f3 := r3.f 3 rfl
   have x4 := r3.c 4 rfl
   have f4 := r3.f 4 rfl
   have lX := r3.lt
   have lB := r1.lt
   have lZ := r2.lt
   have k3 := hI4.below hb hI4.size
   have s3 := k3.size
   gi_wp2_with fail
   refine ⟨trivial, ?_⟩
   gi_wp2_with fail
   refine ⟨((keeps_below hb).trans ((KeepsOthers.setCell _ _ _).trans (KeepsOthers.alloc _ _))).from _, (KeepsB.put (KeepsB.below hb) hEZ _).trans (KeepsB.below ((Below.refl _ _).alloc (Nat.le_refl _) _)), ?_⟩
   exact ⟨(r1.other (by simp) _).alloc _, (r2.set 0 (by simp) (.int .i64 110)).alloc _, (r3.other hWY _).alloc _, (k3.put1 (Or.inr (Nat.le_succ _)) 0 _).alloc (by simpa [World.setCell] using s3) _⟩
  ·replace hI2 : Row W (w.heap.size + 1) [.int .i64 110] := hI2
   replace hI3 : Row W X [.bool ab, .int .u64 a1, .int .u64 a2, .int .u64 a3, .int .u64 a4, .bool bb, .int .u64 b1, .int .u64 b2, .int .u64 b3, .int .u64 b4] := hI3
   gi_wp2_with fail
   refine ⟨trivial, callsIn_wide.2 ((HP2.out _).mono ?_)⟩
   rintro e W3 ⟨rfl, hb⟩
   have r1 := hI1.after hb
   have r2 := hI2.after hb
   have r3 := hI3.after hb
   have y0 := r1.c 0 rfl
   have z0 := r2.c 0 rfl
   have g0 := r2.f 0 rfl
   have x5 := r3.c 5 rfl
   have f5 := r3.f 5 rfl
   have x6 := r3.c 6 rfl
   have f6 := r3.f 6 rfl
   have x7 := r3.c 7 rfl
   have f7 := r3.f 7 rfl
   have x8 := r3.c 8 rfl
   have f8 := r3.f 8 rfl
   have x9 := r3.c 9 rfl
   have f9 := r3.f 9 rfl
   have lX := r3.lt
   have lB := r1.lt
   have lZ := r2.lt
   have k3 := hI4.below hb hI4.size
   have s3 := k3.size
   gi_wp2_with fail
   refine ⟨trivial, callsIn_wide.2 ((HBh.out _).mono ?_)⟩
   rintro e W5 ⟨rfl, rfl⟩
   gi_wp2_with fail
   have o : On W3 (((((W3.setCell ⟨X, 5, none⟩ (.bool mg)).setCell ⟨X, 6, none⟩ (.int .u64 m1)).setCell ⟨X, 7, none⟩ (.int .u64 m2)).setCell ⟨X, 8, none⟩ (.int .u64 m3)).setCell ⟨X, 9, none⟩ (.int .u64 m4)) X := ((((((On.refl W3 X).put 5 _).put 6 _).put 7 _).put 8 _).put 9 _)
   have rX := (((((r3.set 5 (by simp) (.bool mg)).set 6 (by simp) (.int .u64 m1)).set 7 (by simp) (.int .u64 m2)).set 8 (by simp) (.int .u64 m3)).set 9 (by simp) (.int .u64 m4))
   have kO : KeepsOthers W3 (((((W3.setCell ⟨X, 5, none⟩ (.bool mg)).setCell ⟨X, 6, none⟩ (.int .u64 m1)).setCell ⟨X, 7, none⟩ (.int .u64 m2)).setCell ⟨X, 8, none⟩ (.int .u64 m3)).setCell ⟨X, 9, none⟩ (.int .u64 m4)) := (((((KeepsOthers.setCell W3 _ _).trans (KeepsOthers.setCell _ _ _)).trans (KeepsOthers.setCell _ _ _)).trans (KeepsOthers.setCell _ _ _)).trans (KeepsOthers.setCell _ _ _))
   generalize ((((W3.setCell ⟨X, 5, none⟩ (.bool mg)).setCell ⟨X, 6, none⟩ (.int .u64 m1)).setCell ⟨X, 7, none⟩ (.int .u64 m2)).setCell ⟨X, 8, none⟩ (.int .u64 m3)).setCell ⟨X, 9, none⟩ (.int .u64 m4) = W4 at *
   refine ⟨((keeps_below hb).trans (kO.trans (KeepsOthers.alloc _ _))).from _, (KeepsB.below hb).trans ⟨by rw [World.size_alloc, o.size]; omega, fun hl => ((Below.refl W4.heap.size W4).alloc (Nat.le_refl _) _ |>.block E (by rw [o.size]; exact hl)).trans (o.block E hEX)⟩, ?_⟩
   exact ⟨(o.row hWX r1).alloc _, (o.row hWY r2).alloc _, rX.alloc _, ((hI4.below hb (by omega)).on o (.inl rfl)).alloc (by have := hI4.size; rw [o.size]; have := hb.size; omega) _⟩
 case stop => exact fun _ _ _ _ _ _ h => h.elim
 case done =>
  rintro D V hD ⟨hI1, hI2, hI3, hI4⟩ hK
  replace hI2 : Row V (w.heap.size + 1) [.int .i64 110] := hI2
  replace hI3 : Row V X [.bool ab, .int .u64 a1, .int .u64 a2, .int .u64 a3, .int .u64 a4, .bool mg, .int .u64 m1, .int .u64 m2, .int .u64 m3, .int .u64 m4] := hI3
  have hBs := hB.size
  have hD1 : D < V.heap.size := (Array.getElem?_eq_some_iff.1 hK).1
  have y0 := hI1.c 0 rfl
  have z0 := hI2.c 0 rfl
  have g0 := hI2.f 0 rfl
  have x0 := hI3.c 0 rfl
  have x1 := hI3.c 1 rfl
  have x2 := hI3.c 2 rfl
  have x3 := hI3.c 3 rfl
  have x4 := hI3.c 4 rfl
  have x5 := hI3.c 5 rfl
  have x6 := hI3.c 6 rfl
  have x7 := hI3.c 7 rfl
  have x8 := hI3.c 8 rfl
  have x9 := hI3.c 9 rfl
  have hM : Marks W1.heap.size [D] V := ⟨hD, hK, by simp, trivial⟩
  have HF := Lib.hid (And.intro hM hI4)
  clear y0 g0 x0 x1 x2 x3 x4 x5 x6 x7 x8 x9 hI1 hI2 hI3 hI4 hK HP hM
  go_wp2_with fail
  refine (for_gives 110 _ (by decide)).mono ?_
  rintro e V2 ⟨rfl, rfl⟩
  go_wp2_with fail
  refine leaves_gave (by simp) [D] _ HF.out.1 fun V5 hV => ?_
  exact ⟨rfl, HF.out.2.below hV hBs⟩
set_option maxRecDepth 100000 in
set_option maxHeartbeats 8000000 in
theorem rread_a0_b0_no (X : Nat) (s ta tb : ByteArray) (ab bb ng mg : Bool) (a1 a2 a3 a4 b1 b2 b3 b4 n1 n2 n3 n4 m1 m2 m3 m4 : Int) (w : World) (hX : Row w X [.bool ab, .int .u64 a1, .int .u64 a2, .int .u64 a3, .int .u64 a4, .bool bb, .int .u64 b1, .int .u64 b2, .int .u64 b3, .int .u64 b4]) (hc : CutOk w)
 (HS : ∀ E W, Row W E [.string s] → CutOk W → SeqU Fence.wide 8 Tryz.prog 222 #[.pointer (some ⟨E, 0, none⟩)] encD (fun _ => KeepsB E) ([(false, ta), (true, tb)]) W)
 (HP : Hid (∀ W, Calls Tryz.prog 210 #[.string ta] W fun e w' => e = .returned (.tuple #[.agg #[.bool ng, .int .u64 n1, .int .u64 n2, .int .u64 n3, .int .u64 n4], .int .i64 0]) ∧ Below W.heap.size W w'))
 (HP2 : Hid (∀ W, Calls Tryz.prog 210 #[.string tb] W fun e w' => e = .returned (.tuple #[.agg #[.bool mg, .int .u64 m1, .int .u64 m2, .int .u64 m3, .int .u64 m4], .int .i64 0]) ∧ Below W.heap.size W w'))
 (HBh : Hid (∀ W, Calls Tryz.prog 211 #[.string tb] W fun e w' => e = .returned (.bool true) ∧ W = w'))
 (HCh : Hid (∀ W, KB w.heap.size X w W → Calls Tryz.prog 121 #[.agg #[.bool ng, .int .u64 n1, .int .u64 n2, .int .u64 n3, .int .u64 n4, .bool mg, .int .u64 m1, .int .u64 m2, .int .u64 m3, .int .u64 m4]] W fun e w' => e = .returned (.int .i64 2) ∧ Below W.heap.size W w'))
 : Calls Tryz.prog 198 #[.pointer (some ⟨X, 0, none⟩), .string s] w fun e w' => e = (Got.gave 120).end ∧ KB w.heap.size X w w' := by
 have hlX := hX.lt
 refine (callsIn_wide (n := 9)).1 ?_
 refine callsIn_of_wp_marks Tryz.func198 rfl trivial ?_ rfl
 simp only [Tryz.ntmps198, List.size_toArray, List.length_cons, List.length_nil, Nat.reduceAdd, Nat.reduceSub, Array.replicate_succ, Array.replicate_zero, List.push_toArray, List.append_toArray, List.nil_append, List.cons_append]
 refine wpIn_wide.2 ?_
 go_wp2_with fail
 refine wp_scope_straight ?_
 go_wp2_with fail
 generalize hW : World.alloc _ _ = W0
 have hR : Row W0 w.heap.size [.pointer (some ⟨X, 0, none⟩)] := by rw [← hW]; exact (Row.at rfl _ _).alloc _
 have hR2 : Row W0 (w.heap.size + 1) [.int .i64 0] := by rw [← hW]; exact Row.at (by simp) _ _
 have hB : Below w.heap.size w W0 := by rw [← hW]; exact ((Below.refl _ _).alloc (Nat.le_refl _) _).alloc (by simp) _
 clear hW
 refine wp_label ?_
 go_wp2_with fail
 refine (digits_any2 s _).mono ?_
 rintro e W1 ⟨E, rfl, hEs, hRE, hb⟩
 have hR2' := hR2.1
 replace hR := hR.after hb
 replace hR2 := hR2.after hb
 replace hB := hB.trans (hb.mono hB.size)
 have hW0 := hb.size
 have hC1 : CutOk W1 := hc.below hB
 have hX1 := hX.below hB hlX
 clear hb
 have HSq := HS E W1 hRE hC1
 clear HS
 have hEX : E ≠ X := by have := hB.size; omega
 have hEZ : E ≠ w.heap.size + 1 := by omega
 have hEY : E ≠ w.heap.size := by omega
 have hWX : w.heap.size ≠ X := by omega
 have hWY : w.heap.size + 1 ≠ X := by omega
 have lW1 := hRE.1
 go_wp2_with fail
 refine (wpIn_wide (n := 9)).1 ?_
 refine wpIn_range_u (α := Bool × ByteArray) rfl (by omega) (gf := 222) (lb := #[.pointer (some ⟨E, 0, none⟩)]) rfl trivial (enters_of Tryz.func222 (by kernel_rfl) rfl)
  HSq KeepsB.trans (fun _ l W _ o' h _ _ _ => KeepsB.turn W o' (by have := hRE.1; omega)) (fun _ _ _ h => KeepsB.below h) (Below.refl _ _) (fun _ => rfl)
  (fun pre W => Row W w.heap.size [.pointer (some ⟨X, 0, none⟩)] ∧ Row W (w.heap.size + 1) [.int .i64 (lx 0 0 0 pre)] ∧ Row W X (lx [.bool ab, .int .u64 a1, .int .u64 a2, .int .u64 a3, .int .u64 a4, .bool bb, .int .u64 b1, .int .u64 b2, .int .u64 b3, .int .u64 b4] [.bool ng, .int .u64 n1, .int .u64 n2, .int .u64 n3, .int .u64 n4, .bool bb, .int .u64 b1, .int .u64 b2, .int .u64 b3, .int .u64 b4] [.bool ng, .int .u64 n1, .int .u64 n2, .int .u64 n3, .int .u64 n4, .bool mg, .int .u64 m1, .int .u64 m2, .int .u64 m3, .int .u64 m4] pre) ∧ KB w.heap.size X w W)
  (fun _ _ _ => False)
  (fun _ X Y h hb => ⟨h.1.below hb hR.1, h.2.1.below hb hR2.1, h.2.2.1.below hb hX1.1, h.2.2.2.below hb hB.size⟩) (fun _ _ _ _ h _ => h.elim) ⟨hR, hR2, hX1, KB.ofBelow' hB⟩
  (fun x a' _ => a' = { tmps := #[.pointer (some ⟨X, 0, none⟩), .string s, .pointer (some ⟨w.heap.size, 0, none⟩), undef, .pointer (some ⟨w.heap.size + 1, 0, none⟩), .bool x.1, .string x.2, undef, undef, .string s, .func (.func 222) #[] #[.pointer (some ⟨E, 0, none⟩)], .bool x.1, .string x.2, undef, undef, undef, undef, undef, undef, undef, undef, undef, undef, undef, undef, undef, undef, undef, undef, undef, undef, undef, undef, undef, undef, undef, undef, undef, undef, undef, undef, undef, undef, undef, undef, undef, undef, undef, undef, undef, undef, undef, undef, undef, undef, undef, undef], defers := [] })
  (fun _ _ _ _ _ _ _ h => h) ?assign ?body ?done ?stop
 case assign =>
  intro l' pre x W K hI hW hK
  clear hI
  unfold encD
  gi_wp2
  exact hK _ _ (Below.refl _ _) rfl
 case body =>
  rintro l' pre x a' W ⟨hI1, hI2, hI3, hI4⟩ hW hp rfl
  rcases two_r hp with ⟨rfl, rfl⟩ | ⟨rfl, rfl⟩
  ·replace hI2 : Row W (w.heap.size + 1) [.int .i64 0] := hI2
   replace hI3 : Row W X [.bool ab, .int .u64 a1, .int .u64 a2, .int .u64 a3, .int .u64 a4, .bool bb, .int .u64 b1, .int .u64 b2, .int .u64 b3, .int .u64 b4] := hI3
   gi_wp2_with fail
   refine ⟨trivial, callsIn_wide.2 ((HP.out _).mono ?_)⟩
   rintro e W3 ⟨rfl, hb⟩
   have r1 := hI1.after hb
   have r2 := hI2.after hb
   have r3 := hI3.after hb
   have y0 := r1.c 0 rfl
   have z0 := r2.c 0 rfl
   have g0 := r2.f 0 rfl
   have x0 := r3.c 0 rfl
   have f0 := r3.f 0 rfl
   have x1 := r3.c 1 rfl
   have f1 := r3.f 1 rfl
   have x2 := r3.c 2 rfl
   have f2 := r3.f 2 rfl
   have x3 := r3.c 3 rfl
   have f3 := r3.f 3 rfl
   have x4 := r3.c 4 rfl
   have f4 := r3.f 4 rfl
   have lX := r3.lt
   have lB := r1.lt
   have lZ := r2.lt
   have k3 := hI4.below hb hI4.size
   have s3 := k3.size
   gi_wp2_with fail
   refine ⟨trivial, ?_⟩
   gi_wp2_with fail
   have o : On W3 (((((W3.setCell ⟨X, 0, none⟩ (.bool ng)).setCell ⟨X, 1, none⟩ (.int .u64 n1)).setCell ⟨X, 2, none⟩ (.int .u64 n2)).setCell ⟨X, 3, none⟩ (.int .u64 n3)).setCell ⟨X, 4, none⟩ (.int .u64 n4)) X := ((((((On.refl W3 X).put 0 _).put 1 _).put 2 _).put 3 _).put 4 _)
   have rX := (((((r3.set 0 (by simp) (.bool ng)).set 1 (by simp) (.int .u64 n1)).set 2 (by simp) (.int .u64 n2)).set 3 (by simp) (.int .u64 n3)).set 4 (by simp) (.int .u64 n4))
   have kO : KeepsOthers W3 (((((W3.setCell ⟨X, 0, none⟩ (.bool ng)).setCell ⟨X, 1, none⟩ (.int .u64 n1)).setCell ⟨X, 2, none⟩ (.int .u64 n2)).setCell ⟨X, 3, none⟩ (.int .u64 n3)).setCell ⟨X, 4, none⟩ (.int .u64 n4)) := (((((KeepsOthers.setCell W3 _ _).trans (KeepsOthers.setCell _ _ _)).trans (KeepsOthers.setCell _ _ _)).trans (KeepsOthers.setCell _ _ _)).trans (KeepsOthers.setCell _ _ _))
   generalize ((((W3.setCell ⟨X, 0, none⟩ (.bool ng)).setCell ⟨X, 1, none⟩ (.int .u64 n1)).setCell ⟨X, 2, none⟩ (.int .u64 n2)).setCell ⟨X, 3, none⟩ (.int .u64 n3)).setCell ⟨X, 4, none⟩ (.int .u64 n4) = W4 at *
   refine ⟨((keeps_below hb).trans (kO.trans (KeepsOthers.alloc _ _))).from _, (KeepsB.below hb).trans ⟨by rw [World.size_alloc, o.size]; omega, fun hl => ((Below.refl W4.heap.size W4).alloc (Nat.le_refl _) _ |>.block E (by rw [o.size]; exact hl)).trans (o.block E hEX)⟩, ?_⟩
   exact ⟨(o.row hWX r1).alloc _, (o.row hWY r2).alloc _, rX.alloc _, ((hI4.below hb (by omega)).on o (.inl rfl)).alloc (by have := hI4.size; rw [o.size]; have := hb.size; omega) _⟩
  ·replace hI2 : Row W (w.heap.size + 1) [.int .i64 0] := hI2
   replace hI3 : Row W X [.bool ng, .int .u64 n1, .int .u64 n2, .int .u64 n3, .int .u64 n4, .bool bb, .int .u64 b1, .int .u64 b2, .int .u64 b3, .int .u64 b4] := hI3
   gi_wp2_with fail
   refine ⟨trivial, callsIn_wide.2 ((HP2.out _).mono ?_)⟩
   rintro e W3 ⟨rfl, hb⟩
   have r1 := hI1.after hb
   have r2 := hI2.after hb
   have r3 := hI3.after hb
   have y0 := r1.c 0 rfl
   have z0 := r2.c 0 rfl
   have g0 := r2.f 0 rfl
   have x5 := r3.c 5 rfl
   have f5 := r3.f 5 rfl
   have x6 := r3.c 6 rfl
   have f6 := r3.f 6 rfl
   have x7 := r3.c 7 rfl
   have f7 := r3.f 7 rfl
   have x8 := r3.c 8 rfl
   have f8 := r3.f 8 rfl
   have x9 := r3.c 9 rfl
   have f9 := r3.f 9 rfl
   have lX := r3.lt
   have lB := r1.lt
   have lZ := r2.lt
   have k3 := hI4.below hb hI4.size
   have s3 := k3.size
   gi_wp2_with fail
   refine ⟨trivial, callsIn_wide.2 ((HBh.out _).mono ?_)⟩
   rintro e W5 ⟨rfl, rfl⟩
   gi_wp2_with fail
   have o : On W3 (((((W3.setCell ⟨X, 5, none⟩ (.bool mg)).setCell ⟨X, 6, none⟩ (.int .u64 m1)).setCell ⟨X, 7, none⟩ (.int .u64 m2)).setCell ⟨X, 8, none⟩ (.int .u64 m3)).setCell ⟨X, 9, none⟩ (.int .u64 m4)) X := ((((((On.refl W3 X).put 5 _).put 6 _).put 7 _).put 8 _).put 9 _)
   have rX := (((((r3.set 5 (by simp) (.bool mg)).set 6 (by simp) (.int .u64 m1)).set 7 (by simp) (.int .u64 m2)).set 8 (by simp) (.int .u64 m3)).set 9 (by simp) (.int .u64 m4))
   have kO : KeepsOthers W3 (((((W3.setCell ⟨X, 5, none⟩ (.bool mg)).setCell ⟨X, 6, none⟩ (.int .u64 m1)).setCell ⟨X, 7, none⟩ (.int .u64 m2)).setCell ⟨X, 8, none⟩ (.int .u64 m3)).setCell ⟨X, 9, none⟩ (.int .u64 m4)) := (((((KeepsOthers.setCell W3 _ _).trans (KeepsOthers.setCell _ _ _)).trans (KeepsOthers.setCell _ _ _)).trans (KeepsOthers.setCell _ _ _)).trans (KeepsOthers.setCell _ _ _))
   generalize ((((W3.setCell ⟨X, 5, none⟩ (.bool mg)).setCell ⟨X, 6, none⟩ (.int .u64 m1)).setCell ⟨X, 7, none⟩ (.int .u64 m2)).setCell ⟨X, 8, none⟩ (.int .u64 m3)).setCell ⟨X, 9, none⟩ (.int .u64 m4) = W4 at *
   refine ⟨((keeps_below hb).trans (kO.trans (KeepsOthers.alloc _ _))).from _, (KeepsB.below hb).trans ⟨by rw [World.size_alloc, o.size]; omega, fun hl => ((Below.refl W4.heap.size W4).alloc (Nat.le_refl _) _ |>.block E (by rw [o.size]; exact hl)).trans (o.block E hEX)⟩, ?_⟩
   exact ⟨(o.row hWX r1).alloc _, (o.row hWY r2).alloc _, rX.alloc _, ((hI4.below hb (by omega)).on o (.inl rfl)).alloc (by have := hI4.size; rw [o.size]; have := hb.size; omega) _⟩
 case stop => exact fun _ _ _ _ _ _ h => h.elim
 case done =>
  rintro D V hD ⟨hI1, hI2, hI3, hI4⟩ hK
  replace hI2 : Row V (w.heap.size + 1) [.int .i64 0] := hI2
  replace hI3 : Row V X [.bool ng, .int .u64 n1, .int .u64 n2, .int .u64 n3, .int .u64 n4, .bool mg, .int .u64 m1, .int .u64 m2, .int .u64 m3, .int .u64 m4] := hI3
  have hBs := hB.size
  have hD1 : D < V.heap.size := (Array.getElem?_eq_some_iff.1 hK).1
  have y0 := hI1.c 0 rfl
  have z0 := hI2.c 0 rfl
  have g0 := hI2.f 0 rfl
  have x0 := hI3.c 0 rfl
  have x1 := hI3.c 1 rfl
  have x2 := hI3.c 2 rfl
  have x3 := hI3.c 3 rfl
  have x4 := hI3.c 4 rfl
  have x5 := hI3.c 5 rfl
  have x6 := hI3.c 6 rfl
  have x7 := hI3.c 7 rfl
  have x8 := hI3.c 8 rfl
  have x9 := hI3.c 9 rfl
  go_wp2_with fail
  refine (HCh.out V hI4).mono ?_
  rintro e V1 ⟨rfl, hb⟩
  have z1 := (hI2.after hb).c 0 rfl
  have h1 := (hI2.after hb).f 0 rfl
  have lZ := (hI2.after hb).lt
  have r4 := (hI2.after hb).set 0 (by simp) (.int .i64 120)
  have hM : Marks W1.heap.size [D] (V1.setCell ⟨w.heap.size + 1, 0, none⟩ (.int .i64 120)) := ⟨hD, (Below.heap_setCell _ _ _ _ (by show D ≠ w.heap.size + 1; omega)).trans ((hb.block D hD1).trans hK), by simp, trivial⟩
  have hF : KB w.heap.size X w (V1.setCell ⟨w.heap.size + 1, 0, none⟩ (.int .i64 120)) := (hI4.below hb hI4.size).put1 (Or.inr (Nat.le_succ _)) 0 _
  have HF := Lib.hid (And.intro hM hF)
  have z2 : (V1.setCell ⟨w.heap.size + 1, 0, none⟩ (.int .i64 120)).cell? ⟨w.heap.size + 1, 0, none⟩ = some (.int .i64 120) := r4.c 0 rfl
  clear y0 z0 g0 x0 x1 x2 x3 x4 x5 x6 x7 x8 x9 hb hI1 hI2 hI3 hI4 hK HCh HP hM hF r4
  go_wp2_with fail
  refine (for_gives 120 _ (by decide)).mono ?_
  rintro e V2 ⟨rfl, rfl⟩
  go_wp2_with fail
  refine leaves_gave (by simp) [D] _ HF.out.1 fun V5 hV => ?_
  exact ⟨rfl, HF.out.2.below hV hBs⟩
set_option maxRecDepth 100000 in
set_option maxHeartbeats 8000000 in
theorem rread_a0_b0 (X : Nat) (s ta tb : ByteArray) (ab bb ng mg : Bool) (a1 a2 a3 a4 b1 b2 b3 b4 n1 n2 n3 n4 m1 m2 m3 m4 : Int) (w : World) (hX : Row w X [.bool ab, .int .u64 a1, .int .u64 a2, .int .u64 a3, .int .u64 a4, .bool bb, .int .u64 b1, .int .u64 b2, .int .u64 b3, .int .u64 b4]) (hc : CutOk w)
 (HS : ∀ E W, Row W E [.string s] → CutOk W → SeqU Fence.wide 8 Tryz.prog 222 #[.pointer (some ⟨E, 0, none⟩)] encD (fun _ => KeepsB E) ([(false, ta), (true, tb)]) W)
 (HP : Hid (∀ W, Calls Tryz.prog 210 #[.string ta] W fun e w' => e = .returned (.tuple #[.agg #[.bool ng, .int .u64 n1, .int .u64 n2, .int .u64 n3, .int .u64 n4], .int .i64 0]) ∧ Below W.heap.size W w'))
 (HP2 : Hid (∀ W, Calls Tryz.prog 210 #[.string tb] W fun e w' => e = .returned (.tuple #[.agg #[.bool mg, .int .u64 m1, .int .u64 m2, .int .u64 m3, .int .u64 m4], .int .i64 0]) ∧ Below W.heap.size W w'))
 (HBh : Hid (∀ W, Calls Tryz.prog 211 #[.string tb] W fun e w' => e = .returned (.bool true) ∧ W = w'))
 (HCh : Hid (∀ W, KB w.heap.size X w W → Calls Tryz.prog 121 #[.agg #[.bool ng, .int .u64 n1, .int .u64 n2, .int .u64 n3, .int .u64 n4, .bool mg, .int .u64 m1, .int .u64 m2, .int .u64 m3, .int .u64 m4]] W fun e w' => e = .returned (.int .i64 0) ∧ Below W.heap.size W w'))
 : Calls Tryz.prog 198 #[.pointer (some ⟨X, 0, none⟩), .string s] w fun e w' => e = .returned (.tuple #[]) ∧ Row w' X [.bool ng, .int .u64 n1, .int .u64 n2, .int .u64 n3, .int .u64 n4, .bool mg, .int .u64 m1, .int .u64 m2, .int .u64 m3, .int .u64 m4] ∧ KB w.heap.size X w w' := by
 have hlX := hX.lt
 refine (callsIn_wide (n := 9)).1 ?_
 refine callsIn_of_wp_marks Tryz.func198 rfl trivial ?_ rfl
 simp only [Tryz.ntmps198, List.size_toArray, List.length_cons, List.length_nil, Nat.reduceAdd, Nat.reduceSub, Array.replicate_succ, Array.replicate_zero, List.push_toArray, List.append_toArray, List.nil_append, List.cons_append]
 refine wpIn_wide.2 ?_
 go_wp2_with fail
 refine wp_scope_straight ?_
 go_wp2_with fail
 generalize hW : World.alloc _ _ = W0
 have hR : Row W0 w.heap.size [.pointer (some ⟨X, 0, none⟩)] := by rw [← hW]; exact (Row.at rfl _ _).alloc _
 have hR2 : Row W0 (w.heap.size + 1) [.int .i64 0] := by rw [← hW]; exact Row.at (by simp) _ _
 have hB : Below w.heap.size w W0 := by rw [← hW]; exact ((Below.refl _ _).alloc (Nat.le_refl _) _).alloc (by simp) _
 clear hW
 refine wp_label ?_
 go_wp2_with fail
 refine (digits_any2 s _).mono ?_
 rintro e W1 ⟨E, rfl, hEs, hRE, hb⟩
 have hR2' := hR2.1
 replace hR := hR.after hb
 replace hR2 := hR2.after hb
 replace hB := hB.trans (hb.mono hB.size)
 have hW0 := hb.size
 have hC1 : CutOk W1 := hc.below hB
 have hX1 := hX.below hB hlX
 clear hb
 have HSq := HS E W1 hRE hC1
 clear HS
 have hEX : E ≠ X := by have := hB.size; omega
 have hEZ : E ≠ w.heap.size + 1 := by omega
 have hEY : E ≠ w.heap.size := by omega
 have hWX : w.heap.size ≠ X := by omega
 have hWY : w.heap.size + 1 ≠ X := by omega
 have lW1 := hRE.1
 go_wp2_with fail
 refine (wpIn_wide (n := 9)).1 ?_
 refine wpIn_range_u (α := Bool × ByteArray) rfl (by omega) (gf := 222) (lb := #[.pointer (some ⟨E, 0, none⟩)]) rfl trivial (enters_of Tryz.func222 (by kernel_rfl) rfl)
  HSq KeepsB.trans (fun _ l W _ o' h _ _ _ => KeepsB.turn W o' (by have := hRE.1; omega)) (fun _ _ _ h => KeepsB.below h) (Below.refl _ _) (fun _ => rfl)
  (fun pre W => Row W w.heap.size [.pointer (some ⟨X, 0, none⟩)] ∧ Row W (w.heap.size + 1) [.int .i64 (lx 0 0 0 pre)] ∧ Row W X (lx [.bool ab, .int .u64 a1, .int .u64 a2, .int .u64 a3, .int .u64 a4, .bool bb, .int .u64 b1, .int .u64 b2, .int .u64 b3, .int .u64 b4] [.bool ng, .int .u64 n1, .int .u64 n2, .int .u64 n3, .int .u64 n4, .bool bb, .int .u64 b1, .int .u64 b2, .int .u64 b3, .int .u64 b4] [.bool ng, .int .u64 n1, .int .u64 n2, .int .u64 n3, .int .u64 n4, .bool mg, .int .u64 m1, .int .u64 m2, .int .u64 m3, .int .u64 m4] pre) ∧ KB w.heap.size X w W)
  (fun _ _ _ => False)
  (fun _ X Y h hb => ⟨h.1.below hb hR.1, h.2.1.below hb hR2.1, h.2.2.1.below hb hX1.1, h.2.2.2.below hb hB.size⟩) (fun _ _ _ _ h _ => h.elim) ⟨hR, hR2, hX1, KB.ofBelow' hB⟩
  (fun x a' _ => a' = { tmps := #[.pointer (some ⟨X, 0, none⟩), .string s, .pointer (some ⟨w.heap.size, 0, none⟩), undef, .pointer (some ⟨w.heap.size + 1, 0, none⟩), .bool x.1, .string x.2, undef, undef, .string s, .func (.func 222) #[] #[.pointer (some ⟨E, 0, none⟩)], .bool x.1, .string x.2, undef, undef, undef, undef, undef, undef, undef, undef, undef, undef, undef, undef, undef, undef, undef, undef, undef, undef, undef, undef, undef, undef, undef, undef, undef, undef, undef, undef, undef, undef, undef, undef, undef, undef, undef, undef, undef, undef, undef, undef, undef, undef, undef, undef], defers := [] })
  (fun _ _ _ _ _ _ _ h => h) ?assign ?body ?done ?stop
 case assign =>
  intro l' pre x W K hI hW hK
  clear hI
  unfold encD
  gi_wp2
  exact hK _ _ (Below.refl _ _) rfl
 case body =>
  rintro l' pre x a' W ⟨hI1, hI2, hI3, hI4⟩ hW hp rfl
  rcases two_r hp with ⟨rfl, rfl⟩ | ⟨rfl, rfl⟩
  ·replace hI2 : Row W (w.heap.size + 1) [.int .i64 0] := hI2
   replace hI3 : Row W X [.bool ab, .int .u64 a1, .int .u64 a2, .int .u64 a3, .int .u64 a4, .bool bb, .int .u64 b1, .int .u64 b2, .int .u64 b3, .int .u64 b4] := hI3
   gi_wp2_with fail
   refine ⟨trivial, callsIn_wide.2 ((HP.out _).mono ?_)⟩
   rintro e W3 ⟨rfl, hb⟩
   have r1 := hI1.after hb
   have r2 := hI2.after hb
   have r3 := hI3.after hb
   have y0 := r1.c 0 rfl
   have z0 := r2.c 0 rfl
   have g0 := r2.f 0 rfl
   have x0 := r3.c 0 rfl
   have f0 := r3.f 0 rfl
   have x1 := r3.c 1 rfl
   have f1 := r3.f 1 rfl
   have x2 := r3.c 2 rfl
   have f2 := r3.f 2 rfl
   have x3 := r3.c 3 rfl
   have f3 := r3.f 3 rfl
   have x4 := r3.c 4 rfl
   have f4 := r3.f 4 rfl
   have lX := r3.lt
   have lB := r1.lt
   have lZ := r2.lt
   have k3 := hI4.below hb hI4.size
   have s3 := k3.size
   gi_wp2_with fail
   refine ⟨trivial, ?_⟩
   gi_wp2_with fail
   have o : On W3 (((((W3.setCell ⟨X, 0, none⟩ (.bool ng)).setCell ⟨X, 1, none⟩ (.int .u64 n1)).setCell ⟨X, 2, none⟩ (.int .u64 n2)).setCell ⟨X, 3, none⟩ (.int .u64 n3)).setCell ⟨X, 4, none⟩ (.int .u64 n4)) X := ((((((On.refl W3 X).put 0 _).put 1 _).put 2 _).put 3 _).put 4 _)
   have rX := (((((r3.set 0 (by simp) (.bool ng)).set 1 (by simp) (.int .u64 n1)).set 2 (by simp) (.int .u64 n2)).set 3 (by simp) (.int .u64 n3)).set 4 (by simp) (.int .u64 n4))
   have kO : KeepsOthers W3 (((((W3.setCell ⟨X, 0, none⟩ (.bool ng)).setCell ⟨X, 1, none⟩ (.int .u64 n1)).setCell ⟨X, 2, none⟩ (.int .u64 n2)).setCell ⟨X, 3, none⟩ (.int .u64 n3)).setCell ⟨X, 4, none⟩ (.int .u64 n4)) := (((((KeepsOthers.setCell W3 _ _).trans (KeepsOthers.setCell _ _ _)).trans (KeepsOthers.setCell _ _ _)).trans (KeepsOthers.setCell _ _ _)).trans (KeepsOthers.setCell _ _ _))
   generalize ((((W3.setCell ⟨X, 0, none⟩ (.bool ng)).setCell ⟨X, 1, none⟩ (.int .u64 n1)).setCell ⟨X, 2, none⟩ (.int .u64 n2)).setCell ⟨X, 3, none⟩ (.int .u64 n3)).setCell ⟨X, 4, none⟩ (.int .u64 n4) = W4 at *
   refine ⟨((keeps_below hb).trans (kO.trans (KeepsOthers.alloc _ _))).from _, (KeepsB.below hb).trans ⟨by rw [World.size_alloc, o.size]; omega, fun hl => ((Below.refl W4.heap.size W4).alloc (Nat.le_refl _) _ |>.block E (by rw [o.size]; exact hl)).trans (o.block E hEX)⟩, ?_⟩
   exact ⟨(o.row hWX r1).alloc _, (o.row hWY r2).alloc _, rX.alloc _, ((hI4.below hb (by omega)).on o (.inl rfl)).alloc (by have := hI4.size; rw [o.size]; have := hb.size; omega) _⟩
  ·replace hI2 : Row W (w.heap.size + 1) [.int .i64 0] := hI2
   replace hI3 : Row W X [.bool ng, .int .u64 n1, .int .u64 n2, .int .u64 n3, .int .u64 n4, .bool bb, .int .u64 b1, .int .u64 b2, .int .u64 b3, .int .u64 b4] := hI3
   gi_wp2_with fail
   refine ⟨trivial, callsIn_wide.2 ((HP2.out _).mono ?_)⟩
   rintro e W3 ⟨rfl, hb⟩
   have r1 := hI1.after hb
   have r2 := hI2.after hb
   have r3 := hI3.after hb
   have y0 := r1.c 0 rfl
   have z0 := r2.c 0 rfl
   have g0 := r2.f 0 rfl
   have x5 := r3.c 5 rfl
   have f5 := r3.f 5 rfl
   have x6 := r3.c 6 rfl
   have f6 := r3.f 6 rfl
   have x7 := r3.c 7 rfl
   have f7 := r3.f 7 rfl
   have x8 := r3.c 8 rfl
   have f8 := r3.f 8 rfl
   have x9 := r3.c 9 rfl
   have f9 := r3.f 9 rfl
   have lX := r3.lt
   have lB := r1.lt
   have lZ := r2.lt
   have k3 := hI4.below hb hI4.size
   have s3 := k3.size
   gi_wp2_with fail
   refine ⟨trivial, callsIn_wide.2 ((HBh.out _).mono ?_)⟩
   rintro e W5 ⟨rfl, rfl⟩
   gi_wp2_with fail
   have o : On W3 (((((W3.setCell ⟨X, 5, none⟩ (.bool mg)).setCell ⟨X, 6, none⟩ (.int .u64 m1)).setCell ⟨X, 7, none⟩ (.int .u64 m2)).setCell ⟨X, 8, none⟩ (.int .u64 m3)).setCell ⟨X, 9, none⟩ (.int .u64 m4)) X := ((((((On.refl W3 X).put 5 _).put 6 _).put 7 _).put 8 _).put 9 _)
   have rX := (((((r3.set 5 (by simp) (.bool mg)).set 6 (by simp) (.int .u64 m1)).set 7 (by simp) (.int .u64 m2)).set 8 (by simp) (.int .u64 m3)).set 9 (by simp) (.int .u64 m4))
   have kO : KeepsOthers W3 (((((W3.setCell ⟨X, 5, none⟩ (.bool mg)).setCell ⟨X, 6, none⟩ (.int .u64 m1)).setCell ⟨X, 7, none⟩ (.int .u64 m2)).setCell ⟨X, 8, none⟩ (.int .u64 m3)).setCell ⟨X, 9, none⟩ (.int .u64 m4)) := (((((KeepsOthers.setCell W3 _ _).trans (KeepsOthers.setCell _ _ _)).trans (KeepsOthers.setCell _ _ _)).trans (KeepsOthers.setCell _ _ _)).trans (KeepsOthers.setCell _ _ _))
   generalize ((((W3.setCell ⟨X, 5, none⟩ (.bool mg)).setCell ⟨X, 6, none⟩ (.int .u64 m1)).setCell ⟨X, 7, none⟩ (.int .u64 m2)).setCell ⟨X, 8, none⟩ (.int .u64 m3)).setCell ⟨X, 9, none⟩ (.int .u64 m4) = W4 at *
   refine ⟨((keeps_below hb).trans (kO.trans (KeepsOthers.alloc _ _))).from _, (KeepsB.below hb).trans ⟨by rw [World.size_alloc, o.size]; omega, fun hl => ((Below.refl W4.heap.size W4).alloc (Nat.le_refl _) _ |>.block E (by rw [o.size]; exact hl)).trans (o.block E hEX)⟩, ?_⟩
   exact ⟨(o.row hWX r1).alloc _, (o.row hWY r2).alloc _, rX.alloc _, ((hI4.below hb (by omega)).on o (.inl rfl)).alloc (by have := hI4.size; rw [o.size]; have := hb.size; omega) _⟩
 case stop => exact fun _ _ _ _ _ _ h => h.elim
 case done =>
  rintro D V hD ⟨hI1, hI2, hI3, hI4⟩ hK
  replace hI2 : Row V (w.heap.size + 1) [.int .i64 0] := hI2
  replace hI3 : Row V X [.bool ng, .int .u64 n1, .int .u64 n2, .int .u64 n3, .int .u64 n4, .bool mg, .int .u64 m1, .int .u64 m2, .int .u64 m3, .int .u64 m4] := hI3
  have hBs := hB.size
  have hD1 : D < V.heap.size := (Array.getElem?_eq_some_iff.1 hK).1
  have y0 := hI1.c 0 rfl
  have z0 := hI2.c 0 rfl
  have g0 := hI2.f 0 rfl
  have x0 := hI3.c 0 rfl
  have x1 := hI3.c 1 rfl
  have x2 := hI3.c 2 rfl
  have x3 := hI3.c 3 rfl
  have x4 := hI3.c 4 rfl
  have x5 := hI3.c 5 rfl
  have x6 := hI3.c 6 rfl
  have x7 := hI3.c 7 rfl
  have x8 := hI3.c 8 rfl
  have x9 := hI3.c 9 rfl
  go_wp2_with fail
  refine (HCh.out V hI4).mono ?_
  rintro e V1 ⟨rfl, hb⟩
  have z1 := (hI2.after hb).c 0 rfl
  have h1 := (hI2.after hb).f 0 rfl
  have hM : Marks W1.heap.size [D] V1 := ⟨hD, (hb.block D hD1).trans hK, by simp, trivial⟩
  have hF := Lib.hid (And.intro (hI3.after hb) (hI4.below hb hI4.size))
  have hl := hX1.1
  clear y0 z0 g0 h1 x0 x1 x2 x3 x4 x5 x6 x7 x8 x9 hb hI1 hI2 hI3 hI4 hK HCh HP
  go_wp2_with fail
  refine (for_okS _).mono ?_
  rintro e V2 ⟨rfl, rfl⟩
  go_wp2_with fail
  refine leaves_marks [D] V1 hM fun V5 hV => ?_
  exact ⟨.tuple #[], by simp [results, Tryz.results198, go_sem], rfl, hF.out.1.below hV hl, hF.out.2.below hV hBs⟩
end Go.Proofs.YtongeeggaigepaaGreatDoor

namespace Go.Proofs.YtongeeggaigepaaGreatDoor
open Go.RowKit Go.Sort CrossMath

set_option maxRecDepth 100000 in
set_option maxHeartbeats 1600000 in
theorem rparse1_bad (X B : Nat) (s : ByteArray) (k : Int) (w : World) (hB : w.cell? ⟨B, 0, none⟩ = some (.string s))
 (H : Hid (∀ W, Below w.heap.size w W → Calls Tryz.prog 198 #[.pointer (some ⟨X, 0, none⟩), .string s] W fun e w' => e = (Got.gave k).end ∧ KB W.heap.size X W w')) :
 Calls Tryz.prog 197 #[.pointer (some ⟨X, 0, none⟩), .pointer (some ⟨B, 0, none⟩)] w fun e w' => e = (Got.gave k).end ∧ KB w.heap.size X w w' := by
 go_enter Tryz.func197, Tryz.ntmps197
 go_wp2_with fail
 refine (H.out _ (Below.refl _ _)).mono ?_
 rintro e w1 ⟨rfl, hk⟩
 unfold Got.end
 go_wp2
 exact ⟨rfl, rfl, hk⟩
set_option maxRecDepth 100000 in
set_option maxHeartbeats 1600000 in
theorem rdone1_bad (P Q X B : Nat) (k : Int) (w : World) (hP : Row w P [.func (.func 197) #[] #[.pointer (some ⟨X, 0, none⟩), .pointer (some ⟨B, 0, none⟩)]])
 (H : Hid (∀ W, Below w.heap.size w W → Calls Tryz.prog 197 #[.pointer (some ⟨X, 0, none⟩), .pointer (some ⟨B, 0, none⟩)] W fun e w' => e = (Got.gave k).end ∧ KB W.heap.size X W w')) :
 Calls Tryz.prog 208 #[.pointer (some ⟨P, 0, none⟩), .pointer (some ⟨Q, 0, none⟩)] w (GotPost X w (.gave k)) := by
 have p0 := hP.c 0 rfl
 have hlP := hP.lt
 clear hP
 go_enter Tryz.func208, Tryz.ntmps208
 go_wp2_with fail
 have hb0 := (Below.refl w.heap.size w).alloc (Nat.le_refl _) (.cells zero_ratP 44)
 refine (H.out _ hb0).mono ?_
 rintro e w1 ⟨rfl, hk⟩
 have hK := ((KB.refl w.heap.size X w).below hb0 (Nat.le_refl _)).trans hk hb0.size
 clear hk hb0 H
 unfold Got.end
 go_wp2
 exact ⟨rfl, rfl, hK⟩
set_option maxRecDepth 100000 in
set_option maxHeartbeats 1600000 in
theorem rdone_bad (X B : Nat) (k : Int) (w : World) (hk0 : k ≠ 0) (hlX : X < w.heap.size)
 (H : Hid (∀ W, Below w.heap.size w W → Calls Tryz.prog 197 #[.pointer (some ⟨X, 0, none⟩), .pointer (some ⟨B, 0, none⟩)] W fun e w' => e = (Got.gave k).end ∧ KB W.heap.size X W w')) :
 Calls Tryz.prog 196 #[.pointer (some ⟨X, 0, none⟩), .func (.func 197) #[] #[.pointer (some ⟨X, 0, none⟩), .pointer (some ⟨B, 0, none⟩)]] w fun e w' => e = .returned (.tuple #[.agg zero_ratP, .int .i64 k]) ∧ KB w.heap.size X w w' := by
 have hmf : ∀ (fn : Fn) (first cap : Array Value) (w : World), (Instr.makeFunc fn first cap).run Tryz.prog w = .ok (.func fn first cap) w := fun _ _ _ _ => rfl
 have hT : AggTy Tryz.prog 44 zero_ratP.size := agg_rat
 have HO : Hid (OneC zero_ratP) := Lib.hid (by simp [OneC, zero_ratP, Value.oneCell'])
 have HK0 := Lib.hid hk0; clear hk0
 have H1 := Lib.hid (fun W (hb : Below w.heap.size w W) P Q hP => rdone1_bad P Q X B k W hP (Lib.hid (fun V hV => H.out V (hb.trans (hV.mono hb.size)))))
 clear H
 go_enter Tryz.func196, Tryz.ntmps196
 go_wp2_with fail
 have r3 := ((Row.at (w := w.alloc (.cells #[.pointer (some ⟨X, 0, none⟩)] 264)) (n := w.heap.size + 1) (by simp) [.func (.func 197) #[] #[.pointer (some ⟨X, 0, none⟩), .pointer (some ⟨B, 0, none⟩)]] 1).alloc (.cells zero_ratP 44))
 have r4 := (Row.at (w := (w.alloc (.cells #[.pointer (some ⟨X, 0, none⟩)] 264)).alloc (.cells #[.func (.func 197) #[] #[.pointer (some ⟨X, 0, none⟩), .pointer (some ⟨B, 0, none⟩)]] 1)) (n := w.heap.size + 1 + 1) (by simp) zero_ratP.toList 44)
 have hb0 := (((Below.refl w.heap.size w).alloc (Nat.le_refl _) (.cells #[.pointer (some ⟨X, 0, none⟩)] 264)).alloc (by simp) (.cells #[.func (.func 197) #[] #[.pointer (some ⟨X, 0, none⟩), .pointer (some ⟨B, 0, none⟩)]] 1)).alloc (by simp; omega) (.cells zero_ratP 44)
 refine (caughtP_rat 208 #[.pointer (some ⟨w.heap.size + 1, 0, none⟩), .pointer (some ⟨w.heap.size, 0, none⟩)] X (.gave k) _ (Nat.lt_of_lt_of_le hlX hb0.size) HK0.out (fun _ _ => Tryz.call208 _ _)
  (fun W hW => H1.out W (hb0.trans (hW.mono hb0.size)) (w.heap.size + 1) w.heap.size (r3.below hW r3.lt))).mono ?_
 rintro e w1 ⟨rfl, hk⟩
 have hK := ((KB.refl w.heap.size X w).below hb0 (Nat.le_refl _)).trans hk hb0.size
 replace r4 := r4.kb hk (by omega)
 clear r3 hk hb0 H1
 simp only [Got.ans]
 go_wp2_with (first | (refine wpList_store_R rfl _ _ _ rfl _ zero_ratP rfl rfl _ r4 rfl hT HO.out ?_; intro w2 q2 o2))
 exact bodyPost_ret (results_R2 (cs := zero_ratP) rfl rfl q2 hT) rfl ⟨rfl, hK.on o2 (.inr (by omega))⟩
set_option maxRecDepth 100000 in
set_option maxHeartbeats 3200000 in
theorem ratparse_core (s : ByteArray) (fr : Array Value) (K : Int) (w : World) (HS : Hid (fr.size = 10)) (HF : Hid (OneC fr))
 (HD : Hid (∀ W, Below w.heap.size w W → ∀ X B, w.heap.size ≤ X → W.cell? ⟨B, 0, none⟩ = some (.string s) → Row W X (ratA 0 1).toList →
   Calls Tryz.prog 196 #[.pointer (some ⟨X, 0, none⟩), .func (.func 197) #[] #[.pointer (some ⟨X, 0, none⟩), .pointer (some ⟨B, 0, none⟩)]] W fun e w' => e = .returned (.tuple #[.agg fr, .int .i64 K]) ∧ KB W.heap.size X W w')) :
 Calls Tryz.prog 176 #[.string s] w fun e w' => e = .returned (.tuple #[.agg fr, .int .i64 K]) ∧ Below w.heap.size w w' := by
 have hmf : ∀ (fn : Fn) (first cap : Array Value) (w : World), (Instr.makeFunc fn first cap).run Tryz.prog w = .ok (.func fn first cap) w := fun _ _ _ _ => rfl
 have HO := Lib.hid (fun W => ratof_num 0 (by decide) (by decide) W)
 have hT : AggTy Tryz.prog 44 fr.size := by rw [HS.out]; exact agg_rat
 have e0 : ratA 0 1 = #[.bool (decide ((0 : Int) < 0)), .int .u64 (W64 (0 : Int).natAbs 0 : Nat), .int .u64 (W64 (0 : Int).natAbs 1 : Nat), .int .u64 (W64 (0 : Int).natAbs 2 : Nat), .int .u64 (W64 (0 : Int).natAbs 3 : Nat), .bool (decide ((1 : Int) < 0)), .int .u64 (W64 (1 : Int).natAbs 0 : Nat), .int .u64 (W64 (1 : Int).natAbs 1 : Nat), .int .u64 (W64 (1 : Int).natAbs 2 : Nat), .int .u64 (W64 (1 : Int).natAbs 3 : Nat)] := rfl
 rw [e0] at HO HD
 clear e0
 generalize decide ((0 : Int) < 0) = ab at *
 generalize decide ((1 : Int) < 0) = bb at *
 generalize ((W64 (0 : Int).natAbs 0 : Nat) : Int) = a0 at *
 generalize ((W64 (0 : Int).natAbs 1 : Nat) : Int) = a1 at *
 generalize ((W64 (0 : Int).natAbs 2 : Nat) : Int) = a2 at *
 generalize ((W64 (0 : Int).natAbs 3 : Nat) : Int) = a3 at *
 generalize ((W64 (1 : Int).natAbs 0 : Nat) : Int) = b0 at *
 generalize ((W64 (1 : Int).natAbs 1 : Nat) : Int) = b1 at *
 generalize ((W64 (1 : Int).natAbs 2 : Nat) : Int) = b2 at *
 generalize ((W64 (1 : Int).natAbs 3 : Nat) : Int) = b3 at *
 go_enter Tryz.func176, Tryz.ntmps176
 go_upto_region 1 with fail
 generalize hW : World.alloc _ _ = W0
 have rB : Row W0 w.heap.size [.string s] := by rw [← hW]; exact (Row.at rfl [.string s] _).alloc _
 have rZ : Row W0 (w.heap.size + 1) zero_ratP.toList := by rw [← hW]; exact Row.at (by simp) _ _
 have hB : Below w.heap.size w W0 := by rw [← hW]; exact ((Below.refl _ _).alloc (Nat.le_refl _) _).alloc (by simp) _
 clear hW
 go_wp2_with fail
 refine (HO.out _).mono ?_
 rintro e w1 ⟨rfl, hb⟩
 replace rB := rB.after hb
 replace rZ := rZ.after hb
 replace hB := hB.trans (hb.mono hB.size)
 clear hb
 go_upto_region 2 with fail
 generalize hW : World.alloc _ _ = W2
 have hX : Row W2 w1.heap.size [.bool ab, .int .u64 a0, .int .u64 a1, .int .u64 a2, .int .u64 a3, .bool bb, .int .u64 b0, .int .u64 b1, .int .u64 b2, .int .u64 b3] := by rw [← hW]; exact Row.at rfl _ _
 replace rB : Row W2 w.heap.size [.string s] := by rw [← hW]; exact rB.alloc _
 have lZ := rZ.lt
 replace rZ : Row W2 (w.heap.size + 1) zero_ratP.toList := by rw [← hW]; exact rZ.alloc _
 have hs1 := hB.size
 replace hB : Below w.heap.size w W2 := by rw [← hW]; exact hB.alloc hB.size _
 clear hW
 go_wp2_with fail
 refine (HD.out W2 hB w1.heap.size w.heap.size hs1 (rB.c 0 rfl) hX).mono ?_
 rintro e w3 ⟨rfl, hk⟩
 replace rZ := rZ.kb hk (by omega)
 have hB3 : Below w.heap.size w w3 := (((KB.refl w.heap.size w1.heap.size w).below hB (Nat.le_refl _)).trans hk hB.size).toBelow' hs1
 clear hk rB hX HD HO
 go_wp2_with (first | (refine wpList_store_R rfl _ _ _ rfl _ fr rfl rfl _ rZ (by rw [HS.out]; rfl) hT HF.out ?_; intro w4 q2 o2))
 exact bodyPost_ret (results_R2 (cs := fr) rfl rfl q2 hT) rfl ⟨rfl, below_on hB3 o2 (by omega)⟩
theorem prsT_err (l : List UInt8) : (prsT l).2 = 0 ∨ (prsT l).2 = 110 ∨ (prsT l).2 = 111 := by
 unfold prsT
 split
 ·split
  ·exact .inl rfl
  ·exact .inr (.inl rfl)
 ·exact .inr (.inr rfl)
theorem limb_at (s : ByteArray) (K : Int) (hs : s.size ≤ 1000) (h : (prsT s.data.toList).2 = K) (W : World) : Calls Tryz.prog 210 #[.string s] W fun e w' => e = .returned (.tuple #[ivz (prsT s.data.toList).1, .int .i64 K]) ∧ Below W.heap.size W w' := by
 have := limbparse_any s W hs
 rw [h] at this
 exact this
theorem beh_at (s : ByteArray) (b : Bool) (h : behB s.data.toList = b) (W : World) : Calls Tryz.prog 211 #[.string s] W fun e w' => e = .returned (.bool b) ∧ W = w' := by
 have := isBehind_any s W
 rw [h] at this
 exact this
theorem size_le (s a : ByteArray) (h : a.data.toList.length ≤ s.data.toList.length) (hs : s.size ≤ 1000) : a.size ≤ 1000 := by
 have e1 : a.data.toList.length = a.size := Array.length_toList
 have e2 : s.data.toList.length = s.size := Array.length_toList
 omega
set_option maxRecDepth 100000 in
set_option maxHeartbeats 3200000 in
theorem rread_any (X : Nat) (s : ByteArray) (w : World) (hs : s.size ≤ 1000) (hX : Row w X (ratA 0 1).toList) (hgX : 3 ≠ X) (hc : CutOk w) (ht : TabTz w) (hw0 : 3 < w.heap.size) :
 (∀ n d, ratT s.data.toList = (0, n, d) → Calls Tryz.prog 198 #[.pointer (some ⟨X, 0, none⟩), .string s] w fun e w' => e = .returned (.tuple #[]) ∧ Row w' X (ratA n d).toList ∧ KB w.heap.size X w w') ∧
 (∀ k, (ratT s.data.toList).1 = k → k ≠ 0 → Calls Tryz.prog 198 #[.pointer (some ⟨X, 0, none⟩), .string s] w fun e w' => e = (Got.gave k).end ∧ KB w.heap.size X w w') := by
 have hs2 : s.size < 4294967281 := by omega
 rcases cut_cases s.data.toList 47 with ⟨hn, hcut⟩ | ⟨a, b, hl, ha, hcut⟩
 ·have hS := fun E W (hE : Row W E [.string s]) (hC : CutOk W) => digits_u 7 E s W hE hs2 hn hC
  have hr : ratT s.data.toList = rat1 (prsT s.data.toList) := ratT_no hn
  rcases prsT_err s.data.toList with h | h | h
  ·have e : ratT s.data.toList = (0, (prsT s.data.toList).1, 1) := by rw [hr]; unfold rat1; rw [if_neg (by rw [h]; decide), if_pos h]
   refine ⟨fun n d hnd => ?_, fun k hk h0 => absurd (hk.symm.trans (by rw [e])) h0⟩
   rw [e] at hnd
   obtain ⟨rfl, rfl⟩ : (prsT s.data.toList).1 = n ∧ 1 = d := by simpa using hnd
   exact rread_oneW X s s _ _ _ _ _ _ _ _ _ _ _ _ _ _ _ w hX hc hS (Lib.hid (limb_at s 0 hs h)) (Lib.hid (fun W hk => check_one _ W (prsT_lt _) (ht.kb hk hw0 hgX) (Nat.lt_of_lt_of_le hw0 hk.size)))
  ·have e : ratT s.data.toList = (110, 0, 0) := by rw [hr]; unfold rat1; rw [if_neg (by rw [h]; decide), if_neg (by rw [h]; decide), h]
   refine ⟨fun n d hnd => absurd (show (_ : Int) = 0 from congrArg (·.1) (e.symm.trans hnd)) (by decide), fun k hk h0 => ?_⟩
   rw [e] at hk; subst hk
   exact rread_over X s s _ _ _ _ _ _ _ _ _ _ _ _ _ _ _ w hX hc hS (Lib.hid (limb_at s 110 hs h))
  ·have e : ratT s.data.toList = (120, 0, 0) := by rw [hr]; unfold rat1; rw [if_pos h]
   refine ⟨fun n d hnd => absurd (show (_ : Int) = 0 from congrArg (·.1) (e.symm.trans hnd)) (by decide), fun k hk h0 => ?_⟩
   rw [e] at hk; subst hk
   exact rread_none X s s [] _ _ _ _ _ _ _ _ _ _ _ _ _ _ _ w hX hc hS (Lib.hid (limb_at s 111 hs h))
 ·obtain ⟨A, hA⟩ : ∃ A : ByteArray, A.data.toList = a := ⟨⟨a.toArray⟩, rfl⟩
  obtain ⟨B, hB⟩ : ∃ B : ByteArray, B.data.toList = b := ⟨⟨b.toArray⟩, rfl⟩
  subst hA hB
  have hl1 := cut_len s.data.toList 47
  rw [hcut] at hl1
  have hsA := size_le s A hl1.1 hs
  have hsB := size_le s B hl1.2 hs
  clear hl1
  have hS := fun E W (hE : Row W E [.string s]) (hC : CutOk W) => digits_u2 7 E s A B W hE hs2 hcut hC
  have hr : ratT s.data.toList = rat2 (prsT A.data.toList) (prsT B.data.toList) (behB B.data.toList) := ratT_two hcut
  have gv : ∀ K : Int, K ≠ 0 → rat2 (prsT A.data.toList) (prsT B.data.toList) (behB B.data.toList) = (K, 0, 0) → (∀ n d, ratT s.data.toList = (0, n, d) → False) ∧ (∀ k, (ratT s.data.toList).1 = k → K = k) := fun K h0 e => by
   rw [hr, e]
   exact ⟨fun n d h => h0 (congrArg (·.1) h), fun k h => h⟩
  rcases prsT_err A.data.toList with h | h | h
  ·rcases prsT_err B.data.toList with h2 | h2 | h2
   ·cases hb : behB B.data.toList with
    | false =>
      obtain ⟨g1, g2⟩ := gv 120 (by decide) (by unfold rat2; rw [if_neg (by rw [h]; decide), if_pos (.inr hb)])
      refine ⟨fun n d e => (g1 n d e).elim, fun k hk _ => ?_⟩
      obtain rfl := g2 k hk
      exact rread_a0_n X s A B _ _ _ _ _ _ _ _ _ _ _ _ _ _ _ _ _ _ _ _ 0 (by decide) w hX hc hS (Lib.hid (limb_at A 0 hsA h)) (Lib.hid (limb_at B 0 hsB h2)) (Lib.hid (beh_at B false hb))
    | true =>
      have hch := fun W (hk : KB w.heap.size X w W) => check_O (some (prsT A.data.toList).1) (some (prsT B.data.toList).1) (prsT_lt _) (prsT_lt _) W (ht.kb hk hw0 hgX) (Nat.lt_of_lt_of_le hw0 hk.size)
      cases hi : riB (some (prsT A.data.toList).1) (some (prsT B.data.toList).1) with
      | true =>
        have e : ratT s.data.toList = (0, (prsT A.data.toList).1, (prsT B.data.toList).1) := by
         rw [hr]; unfold rat2
         rw [if_neg (by rw [h]; decide), if_neg (by rw [h2, hb]; decide), if_neg (by rw [h2]; decide), if_neg (by rw [h]; decide), if_pos hi]
        refine ⟨fun n d hnd => ?_, fun k hk h0 => absurd (hk.symm.trans (by rw [e])) h0⟩
        rw [e] at hnd
        obtain ⟨rfl, rfl⟩ : (prsT A.data.toList).1 = n ∧ (prsT B.data.toList).1 = d := by simpa using hnd
        rw [hi] at hch
        exact rread_a0_b0 X s A B _ _ _ _ _ _ _ _ _ _ _ _ _ _ _ _ _ _ _ _ w hX hc hS (Lib.hid (limb_at A 0 hsA h)) (Lib.hid (limb_at B 0 hsB h2)) (Lib.hid (beh_at B true hb)) (Lib.hid hch)
      | false =>
        obtain ⟨g1, g2⟩ := gv 120 (by decide) (by unfold rat2; rw [if_neg (by rw [h]; decide), if_neg (by rw [h2, hb]; decide), if_neg (by rw [h2]; decide), if_neg (by rw [h]; decide), if_neg (by rw [hi]; decide)])
        refine ⟨fun n d e => (g1 n d e).elim, fun k hk _ => ?_⟩
        obtain rfl := g2 k hk
        rw [hi] at hch
        exact rread_a0_b0_no X s A B _ _ _ _ _ _ _ _ _ _ _ _ _ _ _ _ _ _ _ _ w hX hc hS (Lib.hid (limb_at A 0 hsA h)) (Lib.hid (limb_at B 0 hsB h2)) (Lib.hid (beh_at B true hb)) (Lib.hid hch)
   ·cases hb : behB B.data.toList with
    | false =>
      obtain ⟨g1, g2⟩ := gv 120 (by decide) (by unfold rat2; rw [if_neg (by rw [h]; decide), if_pos (.inr hb)])
      refine ⟨fun n d e => (g1 n d e).elim, fun k hk _ => ?_⟩
      obtain rfl := g2 k hk
      exact rread_a0_n X s A B _ _ _ _ _ _ _ _ _ _ _ _ _ _ _ _ _ _ _ _ 110 (by decide) w hX hc hS (Lib.hid (limb_at A 0 hsA h)) (Lib.hid (limb_at B 110 hsB h2)) (Lib.hid (beh_at B false hb))
    | true =>
      obtain ⟨g1, g2⟩ := gv 110 (by decide) (by unfold rat2; rw [if_neg (by rw [h]; decide), if_neg (by rw [h2, hb]; decide), if_pos (by rw [h2]; decide), h2])
      refine ⟨fun n d e => (g1 n d e).elim, fun k hk _ => ?_⟩
      obtain rfl := g2 k hk
      exact rread_a0_b110 X s A B _ _ _ _ _ _ _ _ _ _ _ _ _ _ _ _ _ _ _ _ w hX hc hS (Lib.hid (limb_at A 0 hsA h)) (Lib.hid (limb_at B 110 hsB h2)) (Lib.hid (beh_at B true hb))
   ·obtain ⟨g1, g2⟩ := gv 120 (by decide) (by unfold rat2; rw [if_neg (by rw [h]; decide), if_pos (.inl h2)])
    refine ⟨fun n d e => (g1 n d e).elim, fun k hk _ => ?_⟩
    obtain rfl := g2 k hk
    exact rread_a0_b111 X s A B _ _ _ _ _ _ _ _ _ _ _ _ _ _ _ _ _ _ _ _ w hX hc hS (Lib.hid (limb_at A 0 hsA h)) (Lib.hid (limb_at B 111 hsB h2))
  ·rcases prsT_err B.data.toList with h2 | h2 | h2
   ·cases hb : behB B.data.toList with
    | false =>
      obtain ⟨g1, g2⟩ := gv 120 (by decide) (by unfold rat2; rw [if_neg (by rw [h]; decide), if_pos (.inr hb)])
      refine ⟨fun n d e => (g1 n d e).elim, fun k hk _ => ?_⟩
      obtain rfl := g2 k hk
      exact rread_a110_n X s A B _ _ _ _ _ _ _ _ _ _ _ _ _ _ _ _ _ _ _ _ 0 (by decide) w hX hc hS (Lib.hid (limb_at A 110 hsA h)) (Lib.hid (limb_at B 0 hsB h2)) (Lib.hid (beh_at B false hb))
    | true =>
      obtain ⟨g1, g2⟩ := gv 110 (by decide) (by unfold rat2; rw [if_neg (by rw [h]; decide), if_neg (by rw [h2, hb]; decide), if_neg (by rw [h2]; decide), if_pos (by rw [h]; decide), h])
      refine ⟨fun n d e => (g1 n d e).elim, fun k hk _ => ?_⟩
      obtain rfl := g2 k hk
      exact rread_a110_b0 X s A B _ _ _ _ _ _ _ _ _ _ _ _ _ _ _ _ _ _ _ _ w hX hc hS (Lib.hid (limb_at A 110 hsA h)) (Lib.hid (limb_at B 0 hsB h2)) (Lib.hid (beh_at B true hb))
   ·cases hb : behB B.data.toList with
    | false =>
      obtain ⟨g1, g2⟩ := gv 120 (by decide) (by unfold rat2; rw [if_neg (by rw [h]; decide), if_pos (.inr hb)])
      refine ⟨fun n d e => (g1 n d e).elim, fun k hk _ => ?_⟩
      obtain rfl := g2 k hk
      exact rread_a110_n X s A B _ _ _ _ _ _ _ _ _ _ _ _ _ _ _ _ _ _ _ _ 110 (by decide) w hX hc hS (Lib.hid (limb_at A 110 hsA h)) (Lib.hid (limb_at B 110 hsB h2)) (Lib.hid (beh_at B false hb))
    | true =>
      obtain ⟨g1, g2⟩ := gv 110 (by decide) (by unfold rat2; rw [if_neg (by rw [h]; decide), if_neg (by rw [h2, hb]; decide), if_pos (by rw [h2]; decide), h2])
      refine ⟨fun n d e => (g1 n d e).elim, fun k hk _ => ?_⟩
      obtain rfl := g2 k hk
      exact rread_a110_b110 X s A B _ _ _ _ _ _ _ _ _ _ _ _ _ _ _ _ _ _ _ _ w hX hc hS (Lib.hid (limb_at A 110 hsA h)) (Lib.hid (limb_at B 110 hsB h2)) (Lib.hid (beh_at B true hb))
   ·obtain ⟨g1, g2⟩ := gv 120 (by decide) (by unfold rat2; rw [if_neg (by rw [h]; decide), if_pos (.inl h2)])
    refine ⟨fun n d e => (g1 n d e).elim, fun k hk _ => ?_⟩
    obtain rfl := g2 k hk
    exact rread_a110_b111 X s A B _ _ _ _ _ _ _ _ _ _ _ _ _ _ _ _ _ _ _ _ w hX hc hS (Lib.hid (limb_at A 110 hsA h)) (Lib.hid (limb_at B 111 hsB h2))
  ·obtain ⟨g1, g2⟩ := gv 120 (by decide) (by unfold rat2; rw [if_pos h])
   refine ⟨fun n d e => (g1 n d e).elim, fun k hk _ => ?_⟩
   obtain rfl := g2 k hk
   exact rread_none X s A [(true, B)] _ _ _ _ _ _ _ _ _ _ _ _ _ _ _ w hX hc hS (Lib.hid (limb_at A 111 hsA h))
def ratV (t : Int × Int × Int) : Array Value := if t.1 = 0 then ratA t.2.1 t.2.2 else zero_ratP
theorem ratparse_any (s : ByteArray) (w : World) (hs : s.size ≤ 1000) (hc : CutOk w) (ht : TabTz w) (hw0 : 3 < w.heap.size) :
 Calls Tryz.prog 176 #[.string s] w fun e w' => e = .returned (.tuple #[.agg (ratV (ratT s.data.toList)), .int .i64 (ratT s.data.toList).1]) ∧ Below w.heap.size w w' := by
 have hz : OneC zero_ratP := by simp [OneC, zero_ratP, Value.oneCell']
 have hg0 : 3 < w.heap.size := block_lt_of_cell (ht 0 (by decide))
 by_cases h0 : (ratT s.data.toList).1 = 0
 ·unfold ratV
  rw [if_pos h0]
  refine ratparse_core s _ _ w (Lib.hid (ratA_size _ _)) (Lib.hid (ratA_one _ _)) (Lib.hid (fun W hW X B hwX hB hX => ?_))
  rw [h0]
  refine rdone_core X B _ W (ratA_size _ _) (ratA_one _ _) hX.lt (Lib.hid (fun V hV => ?_))
  refine rparse1_core X B s _ V ((hV.cell (p := ⟨B, 0, none⟩) (block_lt_of_cell hB)).trans hB) (Lib.hid (fun U hU => ?_))
  have hwU : Below w.heap.size w U := hW.trans ((hV.trans (hU.mono hV.size)).mono hW.size)
  exact (rread_any X s U hs ((hX.after hV).after hU) (by omega) (hc.below hwU) (ht.below hw0 hwU) (Nat.lt_of_lt_of_le hw0 hwU.size)).1 _ _ (by rw [← h0])
 ·unfold ratV
  rw [if_neg h0]
  refine ratparse_core s _ _ w (Lib.hid rfl) (Lib.hid hz) (Lib.hid (fun W hW X B hwX hB hX => ?_))
  refine rdone_bad X B _ W h0 hX.lt (Lib.hid (fun V hV => ?_))
  refine rparse1_bad X B s _ V ((hV.cell (p := ⟨B, 0, none⟩) (block_lt_of_cell hB)).trans hB) (Lib.hid (fun U hU => ?_))
  have hwU : Below w.heap.size w U := hW.trans ((hV.trans (hU.mono hV.size)).mono hW.size)
  exact (rread_any X s U hs ((hX.after hV).after hU) (by omega) (hc.below hwU) (ht.below hw0 hwU) (Nat.lt_of_lt_of_le hw0 hwU.size)).2 _ rfl h0
end Go.Proofs.YtongeeggaigepaaGreatDoor

namespace Go.Proofs.YtongeeggaigepaaGreatDoor
open Go.RowKit Go.Sort CrossMath
theorem itoa_text {n : Int} : Lib.itoa n = textL n := by
 unfold Lib.itoa textL
 by_cases h : n < 0
 ·rw [if_pos h, if_pos h]
 ·rw [if_neg h, if_neg h, show n.toNat = n.natAbs by omega]
theorem format_one (n : Int) (hn : Bd n) (w : World) (h : Tab10 w) : Calls Tryz.prog 108 #[.int .i64 n, .int .i64 10] w fun e w' => e = .returned (.string (tx n)) ∧ Below w.heap.size w w' := by
 unfold Bd at hn
 refine (Tryz.strconv_FormatInt_10 n (by omega) (by omega) w h).mono ?_
 rintro e w' ⟨rfl, k, os, rfl⟩
 exact ⟨by rw [itoa_text]; rfl, below_regrown w _ os⟩
set_option maxRecDepth 100000 in
set_option maxHeartbeats 3200000 in
theorem refnodetext_any (x y : Int) (w : World) (hx : Bd x) (hy : Bd y) (htab : Tab10 w) :
 Calls Tryz.prog 68 #[.agg (nodeA x y)] w fun e w' => e = .returned (.string (ntx x y)) ∧ Below w.heap.size w w' := by
 have H1 := Lib.hid (fun W (hW : Below w.heap.size w W) => format_one x hx W (htab.below hW))
 have H2 := Lib.hid (fun W (hW : Below w.heap.size w W) => format_one y hy W (htab.below hW))
 have hX : (tx x).size ≤ 100 := by have := tx_size (z := x) (by unfold Bd at hx; simp only [T256]; omega); omega
 have hY : (tx y).size ≤ 100 := by have := tx_size (z := y) (by unfold Bd at hy; simp only [T256]; omega); omega
 have z1 : (tx x).size + 1 ≤ 9223372036854775807 := by omega
 have z2 : (tx x).size + 1 + (tx y).size ≤ 9223372036854775807 := by omega
 clear hX hY hx hy htab
 unfold ntx
 generalize tx x = T at *
 generalize tx y = U at *
 go_enter Tryz.func68, Tryz.ntmps68
 go_upto_region 1 with fail
 generalize hW : World.alloc _ _ = W0
 have hR : Row W0 w.heap.size (nodeA x y).toList := by rw [← hW]; exact Row.at rfl _ _
 have hB : Below w.heap.size w W0 := by rw [← hW]; exact (Below.refl _ _).alloc (Nat.le_refl _) _
 clear hW
 have x0 := hR.c 0 rfl
 have x1 := hR.c 1 rfl
 go_region_with (first
  | (go_at_call 108; (with_reducible refine (H1.out _ hB.drew).mono ?_); rintro e W' ⟨rfl, hb⟩; (replace hB := hB.drew.trans (hb.mono hB.drew.size)); (replace hR := hR.drew.after hb); clear x0 x1; (have x0 := hR.c 0 rfl); (have x1 := hR.c 1 rfl))
  | (go_at_call 108; (with_reducible refine (H2.out _ hB).mono ?_); rintro e W' ⟨rfl, hb⟩; (replace hB := hB.trans (hb.mono hB.size)); (replace hR := hR.after hb); clear x0 x1; (have x0 := hR.c 0 rfl); (have x1 := hR.c 1 rfl)))
 all_goals go_wp2_with fail
 all_goals exact bodyPost_ret (v := .string (T ++ ⟨#[32]⟩ ++ U)) (by simp [results, Tryz.results68, go_sem, Act.put]) rfl ⟨rfl, hB⟩
end Go.Proofs.YtongeeggaigepaaGreatDoor

namespace Go.Proofs.YtongeeggaigepaaGreatDoor
open Go.RowKit Go.Sort CrossMath
set_option maxRecDepth 100000 in
set_option maxHeartbeats 3200000 in
theorem reftext_any (s : Sg) (w : World) (hs : BdS s) (htab : Tab10 w) :
 Calls Tryz.prog 29 #[.agg (sgA s)] w fun e w' => e = .returned (.string (stx s.ax s.ay s.bx s.bY)) ∧ Below w.heap.size w w' := by
 obtain ⟨ax, ay, bx, bY⟩ := s
 obtain ⟨h1, h2, h3, h4⟩ : Bd ax ∧ Bd ay ∧ Bd bx ∧ Bd bY := hs
 have H1 := Lib.hid (fun W (hW : Below w.heap.size w W) => refnodetext_any ax ay W h1 h2 (htab.below hW))
 have H2 := Lib.hid (fun W (hW : Below w.heap.size w W) => refnodetext_any bx bY W h3 h4 (htab.below hW))
 unfold nodeA at H1 H2
 have n1 : ax.natAbs < T256 := by unfold Bd at h1; simp only [T256]; omega
 have n2 : ay.natAbs < T256 := by unfold Bd at h2; simp only [T256]; omega
 have n3 : bx.natAbs < T256 := by unfold Bd at h3; simp only [T256]; omega
 have n4 : bY.natAbs < T256 := by unfold Bd at h4; simp only [T256]; omega
 have hX : (ntx ax ay).size ≤ 200 := by have := ntx_size n1 n2; omega
 have hY : (ntx bx bY).size ≤ 200 := by have := ntx_size n3 n4; omega
 have z1 : (ntx ax ay).size + 1 ≤ 9223372036854775807 := by omega
 have z2 : (ntx ax ay).size + 1 + (ntx bx bY).size ≤ 9223372036854775807 := by omega
 clear hX hY h1 h2 h3 h4 n1 n2 n3 n4 htab
 unfold stx
 generalize ntx ax ay = T at *
 generalize ntx bx bY = U at *
 go_enter Tryz.func29, Tryz.ntmps29
 go_upto_region 1 with fail
 generalize hW : World.alloc _ _ = W0
 have hR : Row W0 w.heap.size (sgA ⟨ax, ay, bx, bY⟩).toList := by rw [← hW]; exact Row.at rfl _ _
 have hB : Below w.heap.size w W0 := by rw [← hW]; exact (Below.refl _ _).alloc (Nat.le_refl _) _
 clear hW
 have x0 := hR.c 0 rfl
 have x1 := hR.c 1 rfl
 have x2 := hR.c 2 rfl
 have x3 := hR.c 3 rfl
 go_region_with (first
  | (go_at_call 68; (with_reducible refine (H1.out _ hB.drew).mono ?_); rintro e W' ⟨rfl, hb⟩; (replace hB := hB.drew.trans (hb.mono hB.drew.size)); (replace hR := hR.drew.after hb); clear x0 x1 x2 x3; (have x0 := hR.c 0 rfl); (have x1 := hR.c 1 rfl); (have x2 := hR.c 2 rfl); (have x3 := hR.c 3 rfl))
  | (go_at_call 68; (with_reducible refine (H2.out _ hB).mono ?_); rintro e W' ⟨rfl, hb⟩; (replace hB := hB.trans (hb.mono hB.size)); (replace hR := hR.after hb); clear x0 x1 x2 x3; (have x0 := hR.c 0 rfl); (have x1 := hR.c 1 rfl); (have x2 := hR.c 2 rfl); (have x3 := hR.c 3 rfl)))
 all_goals go_wp2_with fail
 all_goals exact bodyPost_ret (v := .string (T ++ ⟨#[44]⟩ ++ U)) (by simp [results, Tryz.results29, go_sem, Act.put]) rfl ⟨rfl, hB⟩
end Go.Proofs.YtongeeggaigepaaGreatDoor
