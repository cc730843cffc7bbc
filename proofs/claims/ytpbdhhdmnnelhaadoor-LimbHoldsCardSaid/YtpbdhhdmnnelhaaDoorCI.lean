/- What LimbSums' walk leans on: rows of blocks known together; when all Ints of a slice may be; LimbSums of too many Ints. -/
import Derived.Test.YtpbdhhdmnnelhaaDoorCD
import Derived.Test.YtpbdhhdmnnelhaaDoorBO
import Derived.Test.YtpbdhhdmnnelhaaDoorBX
import Derived.Test.YtpbdhhdmnnelhaaDoorV
namespace Go.Proofs.YtpbdhhdmnnelhaaDoor
open Go.RowKit

/-- The blocks of a list are known, and what was there at the call is as it was. -/
def RS (w : World) (L : List (Nat × List Value)) (W : World) : Prop := (∀ p, p ∈ L → Row W p.1 p.2) ∧ Below w.heap.size w W
section
variable {w W W1 : World} {L : List (Nat × List Value)}
theorem RS.after (h : RS w L W) (hb : Below W.heap.size W W1) : RS w L W1 := ⟨fun p hp => (h.1 p hp).after hb, h.2.trans (hb.mono h.2.size)⟩
theorem RS.drew (h : RS w L W) : RS w L W.drew := ⟨fun p hp => (h.1 p hp).drew, h.2.drew⟩
theorem RS.nil (w : World) : RS w [] w := ⟨fun _ h => (List.not_mem_nil h).elim, Below.refl _ _⟩
theorem RS.new (h : RS w L W) {B : Nat} (hB : B = W.heap.size) (vs : List Value) (t : TypeId) : RS w (L ++ [(B, vs)]) (W.alloc (.cells vs.toArray t)) := by
  refine ⟨fun p hp => ?_, h.2.alloc h.2.size _⟩
  rcases List.mem_append.1 hp with h1 | h1
  · exact (h.1 p h1).alloc _
  · obtain rfl := List.mem_singleton.1 h1
    exact Row.at hB _ _
theorem RS.row (h : RS w L W) (k : Nat) {b : Nat} {vs : List Value} (hk : L[k]? = some (b, vs)) : Row W b vs := h.1 (b, vs) (List.mem_of_getElem? hk)
theorem RS.c (h : RS w L W) (k : Nat) {b : Nat} {vs : List Value} (hk : L[k]? = some (b, vs)) (i : Nat) {v : Value} (hv : vs[i]? = some v) : W.cell? ⟨b, i, none⟩ = some v := (h.row k hk).c i hv
end
/-- All of the first k Ints may be. -/
def rightAll (neg : Nat → Bool) (m : Nat → Nat → Int) : Nat → Bool
  | 0 => true
  | k + 1 => rightAll neg m k && rightB (neg k) (m k 0) (m k 1) (m k 2) (m k 3)
theorem right_err (s : Bool) (a b c d : Int) : errArg s a b c d = if rightB s a b c d = true then 0 else 2 := by
  unfold errArg rightB
  cases (s && zeroB a b c d) <;> simp
theorem rightAll_err (neg : Nat → Bool) (m : Nat → Nat → Int) (n : Nat) : errAll neg m n = if rightAll neg m n = true then 0 else 2 := by
  induction n with
  | zero => rfl
  | succ n ih =>
    rw [errAll, ih, rightAll, right_err]
    cases rightAll neg m n <;> cases rightB (neg n) (m n 0) (m n 1) (m n 2) (m n 3) <;> simp
theorem rightAll_iff {neg : Nat → Bool} {m : Nat → Nat → Int} {n : Nat} : rightAll neg m n = true ↔ ∀ i, i < n → rightB (neg i) (m i 0) (m i 1) (m i 2) (m i 3) = true := by
  induction n with
  | zero => simp [rightAll]
  | succ n ih =>
    rw [rightAll, Bool.and_eq_true_iff, ih]
    constructor
    · intro ⟨h1, h2⟩ i hi
      by_cases e : i = n
      · subst e; exact h2
      · exact h1 i (by omega)
    · exact fun h => ⟨fun i hi => h i (by omega), h n (by omega)⟩

set_option maxRecDepth 100000 in
set_option maxHeartbeats 1000000 in
theorem sums_many (A : Option Addr) (n c : Nat) (s t : Bool) (a0 a1 a2 a3 b0 b1 b2 b3 : Int) (w : World) (ht : Tab10 w) (hz : TabTz w) (hw0 : 0 < w.heap.size) (hn : 6 < n) :
    Calls Tryd.prog 4 #[.slice A n c, iv s a0 a1 a2 a3, iv t b0 b1 b2 b3] w fun e w' => e = .returned (.bool true) ∧ Below w.heap.size w w' := by
  have Ht := Lib.hid ht
  have Hz := Lib.hid hz
  have hg : 0 < w.heap.size := block_lt_of_cell (Hz.out 0 (by decide))
  clear ht hz
  have hn1 : (6 : Int) < n := by omega
  go_enter Tryd.func4, Tryd.ntmps4
  go_wp2_with fail
  generalize hW : World.alloc _ _ = W0
  have hB : Below w.heap.size w W0 := by rw [← hW]; exact ((Below.refl w.heap.size w).alloc (Nat.le_refl _) _).alloc (by simp) _
  clear hW
  refine (works_true _ (Ht.out.below hB) (Hz.out.below hg hB) (Nat.lt_of_lt_of_le hw0 hB.size)).mono ?_
  rintro e w1 ⟨rfl, hb1⟩
  replace hB := hB.trans (hb1.mono hB.size)
  go_wp2_with fail
  go_ret
  exact ⟨rfl, hB⟩
end Go.Proofs.YtpbdhhdmnnelhaaDoor

/- LimbSums walked, where an Int of the slice may not be. -/
namespace Go.Proofs.YtpbdhhdmnnelhaaDoor
open Go.RowKit

set_option maxRecDepth 100000 in
set_option maxHeartbeats 2000000 in
theorem sums_wrong (A : Option Addr) (b o n c : Nat) (neg : Nat → Bool) (m : Nat → Nat → Int) (s t : Bool) (a0 a1 a2 a3 b0 b1 b2 b3 : Int) (w : World) (ht : Tab10 w) (hz : TabTz w) (hw0 : 0 < w.heap.size) (hn : n ≤ 6)
    (lb : b < w.heap.size) (hi : IntsAt w b o n neg m) (hm : ∀ k, BdF (m k)) (hA : 0 < n → A = some ⟨b, o, none⟩) (hr : rightAll neg m n = false) :
    Calls Tryd.prog 4 #[.slice A n c, iv s a0 a1 a2 a3, iv t b0 b1 b2 b3] w fun e w' => e = .returned (.bool true) ∧ Below w.heap.size w w' := by
  have Ht := Lib.hid ht
  have Hz := Lib.hid hz
  have hg : 0 < w.heap.size := block_lt_of_cell (Hz.out 0 (by decide))
  have he : errAll neg m n = 2 := by rw [rightAll_err, hr]; rfl
  have HE1 := Lib.hid (show afterR plusR neg m false (fun _ => 0) n = .tuple #[iv false 0 0 0 0, .int .i64 2] by rw [afterR, if_neg (by rw [he]; decide), he])
  have HE2 := Lib.hid (show afterR timesR neg m false oneF n = .tuple #[iv false 0 0 0 0, .int .i64 2] by rw [afterR, if_neg (by rw [he]; decide), he])
  have HR := Lib.hid hr
  have HAd := Lib.hid hA
  have Hi := Lib.hid hi
  have Hm := Lib.hid hm
  clear ht hz he hr hA hi hm
  have hn1 : (n : Int) ≤ 6 := by omega
  go_enter Tryd.func4, Tryd.ntmps4
  go_wp2_with fail
  generalize hW : World.alloc _ _ = W0
  have hB0 : Below w.heap.size w W0 := by rw [← hW]; exact ((Below.refl w.heap.size w).alloc (Nat.le_refl _) _).alloc (by simp) _
  clear hW
  go_loopw [7, 8] (fun r v wr => ∃ k : Nat, k ≤ n ∧ v = .int .i64 k ∧ r = .bool (rightAll neg m k) ∧ Below w.heap.size w wr) (fun _ v _ => n - (intOf v).toNat)
  case atStart => exact ⟨0, by omega, rfl, rfl, hB0⟩
  case round =>
    obtain ⟨k, hk, rfl, rfl, hB⟩ := hrel
    clear hB0
    by_cases hkn : k < n
    · obtain rfl := HAd.out (by omega)
      obtain ⟨d0, d1, d2, d3, d4⟩ := (Hi.out.below hB lb) k hkn
      have hk1 : (k : Int) < n := by omega
      have HK := Lib.hid (show rightAll neg m (k + 1) = (rightAll neg m k && rightB (neg k) (m k 0) (m k 1) (m k 2) (m k 3)) from rfl)
      cases hq : rightAll neg m k
      · have HK2 := Lib.hid (HK.out.trans (by rw [hq, Bool.false_and]))
        clear hq HK
        go_wp2_with fail
        exact ⟨⟨k + 1, by omega, rfl, by rw [HK2.out], hB⟩, by simp [intOf]; omega⟩
      · have HK2 := Lib.hid (HK.out.trans (by rw [hq, Bool.true_and]))
        clear hq HK
        go_wp2_with fail
        refine (right_any _ _ _ _ _ _).mono ?_
        rintro e w1 ⟨rfl, hb1⟩
        generalize rightB (neg k) (m k 0) (m k 1) (m k 2) (m k 3) = q at HK2 ⊢
        replace hB := hB.trans (hb1.mono hB.size)
        clear hb1
        go_wp2_with fail
        exact ⟨⟨k + 1, by omega, rfl, by rw [HK2.out], hB⟩, by simp [intOf]; omega⟩
    · obtain rfl : k = n := by omega
      rw [HR.out]
      go_wp2_with fail
      refine (add_o A b o k c neg m _ (by omega) (Nat.lt_of_lt_of_le lb hB.size) (Hi.out.below hB lb) Hm.out HAd.out).mono ?_
      rintro e w1 ⟨rfl, hb1⟩
      rw [HE1.out]
      replace hB := hB.trans (hb1.mono hB.size)
      clear hb1
      go_wp2_with fail
      generalize hW : World.alloc _ _ = W2
      have hS : RS w [(w1.heap.size, [.bool false, .int .u64 0, .int .u64 0, .int .u64 0, .int .u64 0])] W2 := by rw [← hW]; exact RS.new (L := []) ⟨fun _ h => (List.not_mem_nil h).elim, hB⟩ rfl _ _
      clear hW hB
      refine (mul_o A b o k c neg m _ (by omega) (Nat.lt_of_lt_of_le lb hS.2.size) (Hi.out.below hS.2 lb) Hm.out HAd.out).mono ?_
      rintro e w3 ⟨rfl, hb1⟩
      rw [HE2.out]
      replace hS := hS.after hb1
      clear hb1
      have hT := (show ∀ W : World, (binOp .eql 25 (iv false 0 0 0 0) (iv false 0 0 0 0)).run Tryd.prog W = .ok (.bool true) W from fun W => by rw [eqlInt]; simp)
      have hS2 : RS w [(w1.heap.size, [.bool false, .int .u64 0, .int .u64 0, .int .u64 0, .int .u64 0]), (w3.heap.size, [.bool false, .int .u64 0, .int .u64 0, .int .u64 0, .int .u64 0])] (w3.alloc (.cells #[.bool false, .int .u64 0, .int .u64 0, .int .u64 0, .int .u64 0] 25)) := hS.new rfl _ _
      have i0 := hS2.c 0 rfl 0 rfl
      have i1 := hS2.c 0 rfl 1 rfl
      have i2 := hS2.c 0 rfl 2 rfl
      have i3 := hS2.c 0 rfl 3 rfl
      have i4 := hS2.c 0 rfl 4 rfl
      go_wp2_with fail
      clear i0 i1 i2 i3 i4 hT
      generalize World.alloc _ _ = W4 at hS2 ⊢
      refine (num_any _ _).mono ?_
      rintro e w5 ⟨rfl, hb1⟩
      replace hS2 := hS2.after hb1
      clear hb1
      go_wp2_with fail
      refine (num_any _ _).mono ?_
      rintro e w6 ⟨rfl, hb1⟩
      replace hS2 := hS2.after hb1
      clear hb1
      go_wp2_with fail
      refine (works_true _ (Ht.out.below hS2.2) (Hz.out.below hg hS2.2) (Nat.lt_of_lt_of_le hw0 hS2.2.size)).mono ?_
      rintro e w7 ⟨rfl, hb1⟩
      replace hS2 := hS2.after hb1
      go_wp2_with fail
      go_ret
      exact ⟨rfl, hS2.2⟩
end Go.Proofs.YtpbdhhdmnnelhaaDoor

/- What LimbSums' last walks lean on. -/
namespace Go.Proofs.YtpbdhhdmnnelhaaDoor
open Go.RowKit

theorem RS.last1 {w W : World} {L : List (Nat × List Value)} (h : RS w L W) (k : Nat) {B : Nat} {vs : List Value} (hk : L[k]? = some (B, vs)) (us : List Value) (t : TypeId) : RS w [(B, vs), (W.heap.size, us)] (W.alloc (.cells us.toArray t)) :=
  ⟨fun p hp => by
    rcases List.mem_cons.1 hp with rfl | h1
    · exact (h.row k hk).alloc _
    · obtain rfl := List.mem_singleton.1 h1
      exact Row.at rfl _ _, h.2.alloc h.2.size _⟩
theorem RS.last2 {w W : World} {L : List (Nat × List Value)} (h : RS w L W) (k : Nat) {B : Nat} {vs : List Value} (hk : L[k]? = some (B, vs)) (k2 : Nat) {C : Nat} {x0 x1 x2 x3 x4 : Value} (hk2 : L[k2]? = some (C, [x0, x1, x2, x3, x4])) (hBC : B < C) (hC : w.heap.size ≤ C)
    (y0 y1 y2 y3 y4 : Value) : RS w [(B, vs), (C, [y0, y1, y2, y3, y4])] (((((W.setCell ⟨C, 0, none⟩ y0).setCell ⟨C, 1, none⟩ y1).setCell ⟨C, 2, none⟩ y2).setCell ⟨C, 3, none⟩ y3).setCell ⟨C, 4, none⟩ y4) :=
  ⟨fun p hp => by
    rcases List.mem_cons.1 hp with rfl | h1
    · exact (h.row k hk).other5 (by show C ≠ B; omega) _ _ _ _ _
    · obtain rfl := List.mem_singleton.1 h1
      exact (h.row k2 hk2).put5 _ _ _ _ _, below_put5 h.2 hC _ _ _ _ _⟩
/-- What stands while LimbSums' last call runs. -/
def S3 (w : World) (ra rb dv : List Value) (B : Nat) (W : World) : Prop := RS w [(w.heap.size, ra), (w.heap.size + 1, rb), (B, dv)] W
section
variable {w W W1 : World} {ra rb dv : List Value} {B : Nat}
theorem RS.three {L : List (Nat × List Value)} (h : RS w L W) (i : Nat) (hi : L[i]? = some (w.heap.size, ra)) (j : Nat) (hj : L[j]? = some (w.heap.size + 1, rb)) (k : Nat) (hk : L[k]? = some (B, dv)) : S3 w ra rb dv B W :=
  ⟨fun p hp => by
    rcases List.mem_cons.1 hp with rfl | hp
    · exact h.row i hi
    · rcases List.mem_cons.1 hp with rfl | hp
      · exact h.row j hj
      · obtain rfl := List.mem_singleton.1 hp
        exact h.row k hk, h.2⟩
theorem S3.c (h : S3 w ra rb dv B W) (k : Nat) {b : Nat} {vs : List Value} (hk : [(w.heap.size, ra), (w.heap.size + 1, rb), (B, dv)][k]? = some (b, vs)) (i : Nat) {v : Value} (hv : vs[i]? = some v) : W.cell? ⟨b, i, none⟩ = some v := RS.c (L := [(w.heap.size, ra), (w.heap.size + 1, rb), (B, dv)]) h k hk i hv
theorem S3.drew (h : S3 w ra rb dv B W) : S3 w ra rb dv B W.drew := RS.drew h
theorem S3.after (h : S3 w ra rb dv B W) (hb : Below W.heap.size W W1) : S3 w ra rb dv B W1 := RS.after h hb
theorem S3.alloc (h : S3 w ra rb dv B W) (o : Obj) : S3 w ra rb dv B (W.alloc o) := RS.after h ((Below.refl _ _).alloc (Nat.le_refl _) _)
theorem S3.lt6 (h : S3 w ra rb dv B W) : B < W.heap.size := (RS.row h 2 rfl).lt
theorem S3.lt1 (h : S3 w ra rb dv B W) : w.heap.size + 1 < W.heap.size := (RS.row h 1 rfl).lt
theorem S3.put5 (h : S3 w ra rb dv B W) {C : Nat} (hB : B < C) (hC : w.heap.size + 1 < C) (y0 y1 y2 y3 y4 : Value) :
    S3 w ra rb dv B (((((W.setCell ⟨C, 0, none⟩ y0).setCell ⟨C, 1, none⟩ y1).setCell ⟨C, 2, none⟩ y2).setCell ⟨C, 3, none⟩ y3).setCell ⟨C, 4, none⟩ y4) :=
  ⟨fun p hp => by
    rcases List.mem_cons.1 hp with rfl | hp
    · exact (RS.row h 0 rfl).other5 (by show C ≠ w.heap.size; omega) _ _ _ _ _
    · rcases List.mem_cons.1 hp with rfl | hp
      · exact (RS.row h 1 rfl).other5 (by show C ≠ w.heap.size + 1; omega) _ _ _ _ _
      · obtain rfl := List.mem_singleton.1 hp
        exact (RS.row h 2 rfl).other5 (by show C ≠ B; omega) _ _ _ _ _, below_put5 h.2 (by omega) _ _ _ _ _⟩
theorem S3.two (h : S3 w ra rb dv B W) {C : Nat} {vs : List Value} (hr : Row W C vs) : RS w [(B, dv), (C, vs)] W :=
  ⟨fun p hp => by
    rcases List.mem_cons.1 hp with rfl | hp
    · exact RS.row h 2 rfl
    · obtain rfl := List.mem_singleton.1 hp
      exact hr, h.2⟩
theorem S3.made (h : S3 w ra rb dv B W) (us : List Value) (t : TypeId) : Hid (RS w [(B, dv), (W.heap.size, us)] (W.alloc (.cells us.toArray t))) := Lib.hid (S3.two (h.alloc _) (Row.at rfl _ _))
theorem S3.laid (h : S3 w ra rb dv B W) {C : Nat} {x0 x1 x2 x3 x4 : Value} (hr : Row W C [x0, x1, x2, x3, x4]) (hB : B < C) (hC : w.heap.size + 1 < C) (y0 y1 y2 y3 y4 : Value) :
    Hid (RS w [(B, dv), (C, [y0, y1, y2, y3, y4])] (((((W.setCell ⟨C, 0, none⟩ y0).setCell ⟨C, 1, none⟩ y1).setCell ⟨C, 2, none⟩ y2).setCell ⟨C, 3, none⟩ y3).setCell ⟨C, 4, none⟩ y4)) :=
  Lib.hid (S3.two (h.put5 hB hC _ _ _ _ _) (hr.put5 _ _ _ _ _))
end
theorem outV_form (z : Int) : ∃ u v0 v1 v2 v3 k, outV z = .tuple #[iv u v0 v1 v2 v3, .int .i64 k] := by
  unfold outV
  split
  · exact ⟨_, _, _, _, _, _, rfl⟩
  · exact ⟨_, _, _, _, _, _, rfl⟩
theorem sub_out (x y : Int) (hx : x.natAbs < T256) : ansz (zfold (fun a b => a + b) (fun i => if i = 0 then x else -y) 0 2) = outV (x - y) := by
  have h1 : zfold (fun a b => a + b) (fun i => if i = 0 then x else -y) 0 1 = some x := by
    have h := zfold_some (op := fun a b => a + b) (zs := fun i => if i = 0 then x else -y) (z0 := 0) (z := 0) (k := 0) rfl (by simpa using hx)
    simpa using h
  unfold outV
  by_cases hf : (x - y).natAbs < T256
  · have h := zfold_some (op := fun a b => a + b) (k := 1) h1 (by simpa [Int.sub_eq_add_neg] using hf)
    rw [if_pos hf, h, ansz]
    simp [Int.sub_eq_add_neg]
  · have h := zfold_stop (op := fun a b => a + b) (k := 1) (n := 2) h1 (by simpa [Int.sub_eq_add_neg] using hf) (by omega)
    rw [if_neg hf, h, ansz, ivz_nought]
theorem sub_outs (x y : Int) (w : World) (hx : x.natAbs < T256) (hy : y.natAbs < T256) : Calls Tryd.prog 25 #[ivz x, ivz y] w fun e w' => e = .returned (outV (x - y)) ∧ Below w.heap.size w w' := by
  have h := sub_z x y w hx hy
  rw [sub_out x y hx] at h
  exact h
theorem neg_bad (w : World) : Calls Tryd.prog 26 #[iv true 0 0 0 0] w fun e w' => e = .returned (.tuple #[iv false 0 0 0 0, .int .i64 2]) ∧ Below w.heap.size w w' := neg_any true 0 0 0 0 w
theorem word_row (z : Int) (hz : z.natAbs < T256) : RN (decide (z < 0)) (fun k => ((W64 z.natAbs k : Nat) : Int)) z := RN.of hz (fun i => W64_bd _ i) (fun _ _ => rfl)
/-- What limb.Add answers, told by the numbers. -/
theorem add_nums (A : Option Addr) (b o n c : Nat) (zs : Nat → Int) (w : World) (hn : n ≤ 1000) (lb : b < w.heap.size)
    (hi : IntsAt w b o n (fun i => decide (zs i < 0)) (fun i k => (W64 (zs i).natAbs k : Nat))) (hz : ∀ i, i < n → (zs i).natAbs < T256) (hA : 0 < n → A = some ⟨b, o, none⟩) :
    Calls Tryd.prog 22 #[.slice A n c] w fun e w' => e = .returned (ansz (zfold (fun a b => a + b) zs 0 n)) ∧ Below w.heap.size w w' := by
  have h := add_o A b o n c _ _ w (by omega) lb hi (fun i k => W64_bd _ k) hA
  rw [after_num (zs := zs) step_plus zero_num n (fun i hi => word_row _ (hz i hi))] at h
  exact h
theorem mul_nums (A : Option Addr) (b o n c : Nat) (zs : Nat → Int) (w : World) (hn : n ≤ 1000) (lb : b < w.heap.size)
    (hi : IntsAt w b o n (fun i => decide (zs i < 0)) (fun i k => (W64 (zs i).natAbs k : Nat))) (hz : ∀ i, i < n → (zs i).natAbs < T256) (hA : 0 < n → A = some ⟨b, o, none⟩) :
    Calls Tryd.prog 23 #[.slice A n c] w fun e w' => e = .returned (ansz (zfold (fun a b => a * b) zs 1 n)) ∧ Below w.heap.size w w' := by
  have h := mul_o A b o n c _ _ w (by omega) lb hi (fun i k => W64_bd _ k) hA
  rw [after_num (zs := zs) step_times one_num n (fun i hi => word_row _ (hz i hi))] at h
  exact h
theorem neg_outs (x : Int) (hx : x.natAbs < T256) : outV (-x) = .tuple #[ivz (-x), .int .i64 0] := by rw [outV, if_pos (by rw [Int.natAbs_neg]; exact hx)]
theorem right_num (z : Int) (hz : z.natAbs < T256) : rightB (decide (z < 0)) (W64 z.natAbs 0 : Nat) (W64 z.natAbs 1 : Nat) (W64 z.natAbs 2 : Nat) (W64 z.natAbs 3 : Nat) = true := by rw [rightB, ivz_right z hz]; rfl
end Go.Proofs.YtpbdhhdmnnelhaaDoor
