/- Contract of package limb's shared at the numbers of the chapter's row. -/
import Derived.Test.YtpbdhhdmnnelhaaDoorP
import Derived.Deep.RegionWith
import Derived.Deep.DeepCutAuto
namespace Go.Proofs.YtpbdhhdmnnelhaaDoor
open Go.RowKit

def w12 : Nat → Nat
  | 0 => 12
  | _ => 0
def w18 : Nat → Nat
  | 0 => 18
  | _ => 0
theorem bits_12 : bitsTo w12 4 = 2 :: [3] := by
  have h0 : ∀ i, wordBits i 0 = [] := wordBits_zero
  have a : wordBits 0 12 = [2, 3] := by
    rw [wordBits_step 0 12 (by decide), wordBits_step 0 _ (by decide), show (12 &&& (12 - 1) &&& ((12 &&& (12 - 1)) - 1)) = 0 by decide, h0]; decide
  simp [bitsTo, w12, h0, a]
theorem bits_18 : bitsTo w18 4 = 1 :: [4] := by
  have h0 : ∀ i, wordBits i 0 = [] := wordBits_zero
  have a : wordBits 0 18 = [1, 4] := by
    rw [wordBits_step 0 18 (by decide), wordBits_step 0 _ (by decide), show (18 &&& (18 - 1) &&& ((18 &&& (18 - 1)) - 1)) = 0 by decide, h0]; decide
  simp [bitsTo, w18, h0, a]
theorem w12_bd : ∀ i, w12 i < 18446744073709551616 := fun i => by cases i <;> simp [w12]
theorem w18_bd : ∀ i, w18 i < 18446744073709551616 := fun i => by cases i <;> simp [w18]
theorem twos_both (b c : Nat) (w : World) (hr : Row w b [.int .u64 12, .int .u64 0, .int .u64 0, .int .u64 0, .int .u64 18, .int .u64 0, .int .u64 0, .int .u64 0]) (ht : TabTz w) (hw0 : 0 < w.heap.size) :
    Calls Tryd.prog 74 #[.slice (some ⟨b, 0, none⟩) 2 c] w fun e w' => e = .returned (.int .i64 1) ∧ Below w.heap.size w w' :=
  twos_two b c 2 1 [3] [4] w12 w18 w12_bd w18_bd bits_12 bits_18 (by decide) (by decide) w hr ht hw0
theorem twos_12 (b c : Nat) (w : World) (hr : Row w b [.int .u64 12, .int .u64 0, .int .u64 0, .int .u64 0]) (ht : TabTz w) (hw0 : 0 < w.heap.size) :
    Calls Tryd.prog 74 #[.slice (some ⟨b, 0, none⟩) 1 c] w fun e w' => e = .returned (.int .i64 2) ∧ Below w.heap.size w w' :=
  twos_one b c 2 [3] w12 w12_bd bits_12 (by decide) w hr ht hw0
theorem twos_18 (b c : Nat) (w : World) (hr : Row w b [.int .u64 18, .int .u64 0, .int .u64 0, .int .u64 0]) (ht : TabTz w) (hw0 : 0 < w.heap.size) :
    Calls Tryd.prog 74 #[.slice (some ⟨b, 0, none⟩) 1 c] w fun e w' => e = .returned (.int .i64 1) ∧ Below w.heap.size w w' :=
  twos_one b c 1 [4] w18 w18_bd bits_18 (by decide) w hr ht hw0

/-- What shared's three magnitudes hold. -/
def Sh (w0 : World) (a b : Int) (W : World) : Prop := Row W w0.heap.size [.int .u64 a, .int .u64 0, .int .u64 0, .int .u64 0] ∧ Row W (w0.heap.size + 1) [.int .u64 b, .int .u64 0, .int .u64 0, .int .u64 0] ∧
  Row W (w0.heap.size + 1 + 1) [.int .u64 0, .int .u64 0, .int .u64 0, .int .u64 0] ∧ Below w0.heap.size w0 W
section
variable {w0 W W1 : World} {a b : Int}
theorem Sh.alloc (h : Sh w0 a b W) (o : Obj) : Sh w0 a b (W.alloc o) := ⟨h.1.alloc o, h.2.1.alloc o, h.2.2.1.alloc o, h.2.2.2.alloc h.2.2.2.size o⟩
theorem Sh.drew (h : Sh w0 a b W) : Sh w0 a b W.drew := ⟨h.1, h.2.1, h.2.2.1, h.2.2.2.drew⟩
theorem Sh.after (h : Sh w0 a b W) (hb : Below W.heap.size W W1) : Sh w0 a b W1 := ⟨h.1.after hb, h.2.1.after hb, h.2.2.1.after hb, h.2.2.2.trans (hb.mono h.2.2.2.size)⟩
theorem Sh.putM (h : Sh w0 a b W) (c : Int) : Sh w0 c b ((((W.setCell ⟨w0.heap.size, 0, none⟩ (.int .u64 c)).setCell ⟨w0.heap.size, 1, none⟩ (.int .u64 0)).setCell ⟨w0.heap.size, 2, none⟩ (.int .u64 0)).setCell ⟨w0.heap.size, 3, none⟩ (.int .u64 0)) :=
  ⟨h.1.put4 _ _ _ _, h.2.1.other4 (by omega) _ _ _ _, h.2.2.1.other4 (by omega) _ _ _ _, below_put4 h.2.2.2 (Nat.le_refl _) _ _ _ _⟩
theorem Sh.putN (h : Sh w0 a b W) (c : Int) : Sh w0 a c ((((W.setCell ⟨w0.heap.size + 1, 0, none⟩ (.int .u64 c)).setCell ⟨w0.heap.size + 1, 1, none⟩ (.int .u64 0)).setCell ⟨w0.heap.size + 1, 2, none⟩ (.int .u64 0)).setCell ⟨w0.heap.size + 1, 3, none⟩ (.int .u64 0)) :=
  ⟨h.1.other4 (by omega) _ _ _ _, h.2.1.put4 _ _ _ _, h.2.2.1.other4 (by omega) _ _ _ _, below_put4 h.2.2.2 (by omega) _ _ _ _⟩
end
set_option maxRecDepth 100000 in
set_option maxHeartbeats 4000000 in
theorem shared_12_18 (w : World) (ht : TabTz w) (hw0 : 0 < w.heap.size) : Calls Tryd.prog 52 #[wv 12 0 0 0, wv 18 0 0 0] w fun e w' => e = .returned (wv 6 0 0 0) ∧ Below w.heap.size w w' := by
  have q1 : ∀ w, (binOp .eql 79 (wv 12 0 0 0) (wv 0 0 0 0)).run Tryd.prog w = .ok (.bool false) w := fun w => eqlArr 79 Tryd.underlying79 12 0 0 0 0 0 0 0 w
  have q2 : ∀ w, (binOp .neq 79 (wv 18 0 0 0) (wv 0 0 0 0)).run Tryd.prog w = .ok (.bool true) w := fun w => neqArr 79 Tryd.underlying79 18 0 0 0 0 0 0 0 w
  have Ht := Lib.hid ht; clear ht
  go_enter Tryd.func52, Tryd.ntmps52
  go_wp2_with fail
  generalize hW : World.alloc _ _ = W0
  have rM : Row W0 w.heap.size [.int .u64 12, .int .u64 0, .int .u64 0, .int .u64 0] := by rw [← hW]; exact (((Row.at rfl _ _).alloc _).alloc _).alloc _
  have rN : Row W0 (w.heap.size + 1) [.int .u64 18, .int .u64 0, .int .u64 0, .int .u64 0] := by rw [← hW]; exact ((Row.at (by simp) _ _).alloc _).alloc _
  have rR : Row W0 (w.heap.size + 1 + 1) [.int .u64 0, .int .u64 0, .int .u64 0, .int .u64 0] := by rw [← hW]; exact (Row.at (by simp) _ _).alloc _
  have rB : Row W0 (w.heap.size + 1 + 1 + 1) [.int .u64 12, .int .u64 0, .int .u64 0, .int .u64 0, .int .u64 18, .int .u64 0, .int .u64 0, .int .u64 0] := by rw [← hW]; exact Row.at (by simp) _ _
  have hB : Below w.heap.size w W0 := by rw [← hW]; exact ((((Below.refl w.heap.size w).alloc (Nat.le_refl _) _).alloc (by simp) _).alloc (by simp; omega) _).alloc (by simp; omega) _
  clear hW
  refine (twos_both _ _ W0 rB (Ht.out.below hw0 hB) (by have := hB.size; omega)).mono ?_
  rintro e w1 ⟨rfl, hb1⟩
  have hS : Sh w 12 18 w1 := Sh.after ⟨rM, rN, rR, hB⟩ hb1
  clear hb1 rB rM rN rR hB
  have lM := hS.1.lt
  have a0 := hS.1.c 0 rfl
  have a1 := hS.1.c 1 rfl
  have a2 := hS.1.c 2 rfl
  have a3 := hS.1.c 3 rfl
  go_wp2_with fail
  go_cut [] (fun wx => Sh w 3 18 wx)
  case first =>
    go_region_with ((first
      | (go_at_call 74; refine (twos_12 _ _ _ (Row.at rfl _ _).drew (Ht.out.below hw0 (hS.2.2.2.alloc hS.2.2.2.size _).drew) (by simp)).mono ?_; rintro e w2 ⟨rfl, hb2⟩; have r2 := ((hS.alloc _).drew).after hb2; have c0 := r2.1.c 0 rfl; have c1 := r2.1.c 1 rfl; have c2 := r2.1.c 2 rfl; have c3 := r2.1.c 3 rfl)
      | (go_at_call 75; refine (down_12 _).mono ?_; rintro e w3 ⟨rfl, hb3⟩; have r3 := r2.after hb3; have c0 := r3.1.c 0 rfl; have c1 := r3.1.c 1 rfl; have c2 := r3.1.c 2 rfl; have c3 := r3.1.c 3 rfl; have f0 := r3.1.f 0 rfl; have f1 := r3.1.f 1 rfl; have f2 := r3.1.f 2 rfl; have f3 := r3.1.f 3 rfl)))
    all_goals (go_wp2_with fail; go_meet; exact r3.putM 3)
  case rest =>
    clear hS a0 a1 a2 a3 lM
    have hS := hcut
    have b0 := hS.2.1.c 0 rfl
    have b1 := hS.2.1.c 1 rfl
    have b2 := hS.2.1.c 2 rfl
    have b3 := hS.2.1.c 3 rfl
    have lN := hS.2.1.lt
    have H3 := Lib.hid (show sizeF 3 0 0 0 = 1 by decide)
    have H9 := Lib.hid (show sizeF 9 0 0 0 = 1 by decide)
    go_wp2_with fail
    refine wp_loop_rounds 1 ?_
    rw [rounds_succ]
    go_wp2_with fail
    go_cut [] (fun wx => Sh w 3 9 wx)
    case first =>
      go_region_with ((first
        | (go_at_call 74; refine (twos_18 _ _ _ (Row.at rfl _ _).drew (Ht.out.below hw0 (hS.2.2.2.alloc hS.2.2.2.size _).drew) (by simp)).mono ?_; rintro e w2 ⟨rfl, hb2⟩; have r2 := ((hS.alloc _).drew).after hb2; have c0 := r2.2.1.c 0 rfl; have c1 := r2.2.1.c 1 rfl; have c2 := r2.2.1.c 2 rfl; have c3 := r2.2.1.c 3 rfl)
        | (go_at_call 75; refine (down_18 _).mono ?_; rintro e w3 ⟨rfl, hb3⟩; have r3 := r2.after hb3; have c0 := r3.2.1.c 0 rfl; have c1 := r3.2.1.c 1 rfl; have c2 := r3.2.1.c 2 rfl; have c3 := r3.2.1.c 3 rfl; have f0 := r3.2.1.f 0 rfl; have f1 := r3.2.1.f 1 rfl; have f2 := r3.2.1.f 2 rfl; have f3 := r3.2.1.f 3 rfl)))
      all_goals (go_wp2_with fail; go_meet; exact r3.putN 9)
    case rest =>
      have hS2 := hcut
      clear hS b0 b1 b2 b3 lN
      have a0 := hS2.1.c 0 rfl
      have a1 := hS2.1.c 1 rfl
      have a2 := hS2.1.c 2 rfl
      have a3 := hS2.1.c 3 rfl
      go_wp2_with fail
      refine (size_any _ _ _ _ _).mono ?_
      rintro e w4 ⟨rfl, hb4⟩
      rw [H3.out]
      have hS3 := hS2.after hb4
      clear hS2 hb4 a0 a1 a2 a3
      have b0 := hS3.2.1.c 0 rfl
      have b1 := hS3.2.1.c 1 rfl
      have b2 := hS3.2.1.c 2 rfl
      have b3 := hS3.2.1.c 3 rfl
      go_wp2_with fail
      refine (size_any _ _ _ _ _).mono ?_
      rintro e w5 ⟨rfl, hb5⟩
      rw [H9.out]
      have hS4 := hS3.after hb5
      clear hS3 hb5 b0 b1 b2 b3
      have a0 := hS4.1.c 0 rfl
      have b0 := hS4.2.1.c 0 rfl
      go_wp2_with fail
      refine (odd_3_9 _ (Ht.out.below hw0 hS4.2.2.2)).mono ?_
      rintro e w6 ⟨rfl, rfl⟩
      have a1 := hS4.1.c 1 rfl
      have a2 := hS4.1.c 2 rfl
      have a3 := hS4.1.c 3 rfl
      have f0 := hS4.1.f 0 rfl
      have f1 := hS4.1.f 1 rfl
      have f2 := hS4.1.f 2 rfl
      have f3 := hS4.1.f 3 rfl
      go_wp2_with fail
      refine (up_3 _).mono ?_
      rintro e w7 ⟨rfl, hb7⟩
      have hS5 := (hS4.putM 3).after hb7
      clear hS4 hb7 a0 a1 a2 a3 b0 f0 f1 f2 f3
      have a0 := hS5.2.2.1.c 0 rfl
      have a1 := hS5.2.2.1.c 1 rfl
      have a2 := hS5.2.2.1.c 2 rfl
      have a3 := hS5.2.2.1.c 3 rfl
      have f0 := hS5.2.2.1.f 0 rfl
      have f1 := hS5.2.2.1.f 1 rfl
      have f2 := hS5.2.2.1.f 2 rfl
      have f3 := hS5.2.2.1.f 3 rfl
      go_wp2
      clear a0 a1 a2 a3 f0 f1 f2 f3
      generalize hW : World.setCell _ _ _ = W8
      have rR : Row W8 (w.heap.size + 1 + 1) [.int .u64 6, .int .u64 0, .int .u64 0, .int .u64 0] := by rw [← hW]; exact hS5.2.2.1.put4 _ _ _ _
      have hB : Below w.heap.size w W8 := by rw [← hW]; exact below_put4 hS5.2.2.2 (by omega) _ _ _ _
      clear hW
      exact bodyPost_ret (v := wv 6 0 0 0) (by simp [results, Tryd.results52, go_sem, rR.c 0 rfl, rR.c 1 rfl, rR.c 2 rfl, rR.c 3 rfl]) rfl ⟨rfl, hB⟩
end Go.Proofs.YtpbdhhdmnnelhaaDoor
