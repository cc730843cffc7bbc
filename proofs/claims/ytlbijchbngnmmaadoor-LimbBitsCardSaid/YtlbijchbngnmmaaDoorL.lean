/- Contract of package limb's Add; the Ints lie in memory. -/
import Derived.Test.YtlbijchbngnmmaaDoorK
namespace Go.Proofs.YtlbijchbngnmmaaDoor
open Go.RowKit

theorem afterR_form (st : StepR) (neg : Nat → Bool) (m : Nat → Nat → Int) (s0 : Bool) (x0 : Nat → Int) (n : Nat) :
    ∃ s x k, afterR st neg m s0 x0 n = .tuple #[intv s x, .int .i64 k] := by
  unfold afterR
  split
  · cases foldR st neg m s0 x0 n with
    | none => exact ⟨false, fun _ => 0, 110, rfl⟩
    | some q => exact ⟨q.1, q.2, 0, rfl⟩
  · exact ⟨false, fun _ => 0, _, rfl⟩
theorem zero_bd : BdF (fun _ => 0) := fun _ => ⟨Int.le_refl _, by show (0 : Int) < B64; decide⟩
theorem of_zero (w : World) : Calls Tryd.prog 13 #[.int .i64 0] w fun e w' => e = .returned (iv false 0 0 0 0) ∧ Below w.heap.size w w' := of_any 0 w
theorem of_one (w : World) : Calls Tryd.prog 13 #[.int .i64 1] w fun e w' => e = .returned (iv false 1 0 0 0) ∧ Below w.heap.size w w' := of_any 1 w

set_option maxHeartbeats 800000 in
theorem add_any (b o n c : Nat) (neg : Nat → Bool) (m : Nat → Nat → Int) (w : World) (hn : n ≤ 1000000000000000000)
    (lb : b < w.heap.size) (hi : IntsAt w b o n neg m) (hm : ∀ k, BdF (m k)) :
    Calls Tryd.prog 22 #[.slice (some ⟨b, o, none⟩) n c] w fun e w' => e = .returned (afterR plusR neg m false (fun _ => 0) n) ∧ Below w.heap.size w w' := by
  have hmf : ∀ (fn : Fn) (first cap : Array Value) (w : World), (Instr.makeFunc fn first cap).run Tryd.prog w = .ok (.func fn first cap) w := fun _ _ _ _ => rfl
  have Hi := Lib.hid hi; clear hi
  have Hm := Lib.hid hm; clear hm
  obtain ⟨s, x, k, hA⟩ := afterR_form plusR neg m false (fun _ => 0) n
  have HA := Lib.hid hA; clear hA
  go_enter Tryd.func22, Tryd.ntmps22
  go_wp2_with fail
  refine (of_zero _).mono ?_
  rintro e w1 ⟨rfl, hb1⟩
  have hB : Below w.heap.size w w1 := ((Below.refl w.heap.size w).alloc (Nat.le_refl _) _).trans (hb1.mono (by simp))
  have rR : Row w1 w.heap.size [.bool false, .int .u64 0, .int .u64 0, .int .u64 0, .int .u64 0] := (Row.at rfl _ _).after hb1
  clear hb1
  go_wp2_with fail
  generalize hW : World.alloc _ _ = W2
  have rN : Row W2 w1.heap.size (numv false (fun _ => 0) 0) := by rw [← hW]; exact Row.at rfl _ _
  have lR := rR.lt
  have hB2 : Below w.heap.size w W2 := by rw [← hW]; exact hB.alloc hB.size _
  have rR2 : Row W2 w.heap.size [.bool false, .int .u64 0, .int .u64 0, .int .u64 0, .int .u64 0] := by rw [← hW]; exact rR.alloc _
  clear hW rR
  have hsz := hB.size
  refine (after_sum w1.heap.size b o n c neg m false (fun _ => 0) W2 hn rN.lt (by have := hB2.size; omega) (by omega) (Hi.out.below hB2 lb) rN zero_bd Hm.out).mono ?_
  rintro e w3 ⟨rfl, hk⟩
  rw [HA.out]
  have rR3 : Row w3 w.heap.size [.bool false, .int .u64 0, .int .u64 0, .int .u64 0, .int .u64 0] :=
    ⟨Nat.lt_of_lt_of_le rR2.lt hk.size, fun i _ hv => ⟨(hk.cell (p := ⟨w.heap.size, i, none⟩) rR2.lt (by simp; omega)).trans (rR2.c i hv), (hk.frozen (p := ⟨w.heap.size, i, none⟩) rR2.lt (by simp; omega)).trans (rR2.f i hv)⟩⟩
  have hB3 : Below w.heap.size w w3 := hB2.trans ((hk.toBelow (by have := rN.lt; omega)).mono hsz)
  clear hk rR2 hB2 rN hB
  have a0 := rR3.c 0 rfl
  have a1 := rR3.c 1 rfl
  have a2 := rR3.c 2 rfl
  have a3 := rR3.c 3 rfl
  have a4 := rR3.c 4 rfl
  have b0 := rR3.f 0 rfl
  have b1 := rR3.f 1 rfl
  have b2 := rR3.f 2 rfl
  have b3 := rR3.f 3 rfl
  have b4 := rR3.f 4 rfl
  go_wp2
  clear a0 a1 a2 a3 a4 b0 b1 b2 b3 b4
  generalize hW : World.setCell _ _ _ = W4
  have rR4 : Row W4 w.heap.size [.bool s, .int .u64 (x 0), .int .u64 (x 1), .int .u64 (x 2), .int .u64 (x 3)] := by rw [← hW]; exact rR3.put5 _ _ _ _ _
  replace hB3 : Below w.heap.size w W4 := by rw [← hW]; exact below_put5 hB3 (Nat.le_refl _) _ _ _ _ _
  clear hW rR3
  exact bodyPost_ret (v := .tuple #[intv s x, .int .i64 k]) (by simp [results, Tryd.results22, go_sem, rR4.c 0 rfl, rR4.c 1 rfl, rR4.c 2 rfl, rR4.c 3 rfl, rR4.c 4 rfl]) rfl ⟨by rw [HA.out], hB3⟩
end Go.Proofs.YtlbijchbngnmmaaDoor
