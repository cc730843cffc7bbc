/- Contracts of the document's answers for layer 1: Right, From. -/
import Derived.Test.YtlbijchbngnmmaaDoorA
import Derived.BigQuiet
import Derived.IntWalk
namespace Go.Proofs.YtlbijchbngnmmaaDoor
open Go.RowKit

def rightB (s : Bool) (a b c d : Int) : Bool := !(s && zeroB a b c d)

set_option maxHeartbeats 400000 in
theorem right_any (s : Bool) (a0 a1 a2 a3 : Int) (w : World) :
    Calls Tryd.prog 15 #[iv s a0 a1 a2 a3] w fun e w' => e = .returned (.bool (rightB s a0 a1 a2 a3)) ∧ Below w.heap.size w w' := by
  have hq : ∀ w, (binOp .neq 23 (wv a0 a1 a2 a3) (wv 0 0 0 0)).run Tryd.prog w = .ok (.bool (!zeroB a0 a1 a2 a3)) w := fun w => neqArr 23 Tryd.underlying23 a0 a1 a2 a3 0 0 0 0 w
  cases s
  · go_enter Tryd.func15, Tryd.ntmps15
    go_wp2_with fail
    go_ret
    exact ⟨rfl, (Below.refl w.heap.size w).alloc (Nat.le_refl _) _⟩
  · go_enter Tryd.func15, Tryd.ntmps15
    go_wp2_with fail
    go_ret
    exact ⟨by rw [rightB, Bool.true_and]; rfl, (Below.refl w.heap.size w).alloc (Nat.le_refl _) _⟩

/-- How many digits are left without the noughts behind. -/
def cutN (x : Nat → Int) : Nat → Nat
  | 0 => 0
  | k + 1 => if x k = 0 then cutN x k else k + 1

set_option maxHeartbeats 400000 in
theorem cut_any (x : Nat → Int) (n b o c : Nat) (w : World) (hn : n ≤ 1000000) (hc : n ≤ c)
    (hx : ∀ i, i < n → w.cell? ⟨b, o + i, none⟩ = some (.int .i64 (x i))) :
    Calls Tryd.prog 55 #[.slice (some ⟨b, o, none⟩) n c] w fun e w' => e = .returned (.slice (some ⟨b, o, none⟩) (cutN x n) c) ∧ w = w' := by
  go_enter Tryd.func55, Tryd.ntmps55
  have Hx := Lib.hid hx; clear hx
  go_wp2
  go_loopw [0] (fun v wr => ∃ k : Nat, k ≤ n ∧ v = .slice (some ⟨b, o, none⟩) k c ∧ Hid (cutN x n = cutN x k) ∧ wr = w) (fun v _ => match v with | .slice _ k _ => k | _ => 0)
  case atStart => exact ⟨n, Nat.le_refl _, rfl, Lib.hid rfl, rfl⟩
  case round =>
    obtain ⟨k, hk, rfl, HO, rfl⟩ := hrel
    cases k with
    | zero =>
      go_wp2
      go_ret
      exact ⟨by rw [HO.out]; rfl, rfl⟩
    | succ k =>
      have hcx := Hx.out k (by omega)
      have e1 : ((k + 1 : Nat) : Int) - 1 = (k : Int) := by omega
      have e2 : IntKind.i64.wrap (((k + 1 : Nat) : Int) - 1) = (k : Int) := by rw [e1]; exact IntWalk.i64_in _ (by omega)
      have hk1 : (k : Int) < (k + 1 : Nat) := by omega
      have hk0 : (0 : Int) ≤ k := by omega
      have hkp : (0 : Int) < (k + 1 : Nat) := by omega
      by_cases hc0 : x k = 0
      · have HO' : Hid (cutN x n = cutN x k) := by rw [HO.out]; exact Lib.hid (by rw [cutN, if_pos hc0])
        have hb : (x k == 0) = true := by simpa using hc0
        clear HO hc0
        go_wp2
        exact ⟨⟨k, by omega, rfl, HO', trivial⟩, Nat.lt_succ_self k⟩
      · have HO' : Hid (cutN x n = k + 1) := by rw [HO.out]; exact Lib.hid (by rw [cutN, if_neg hc0])
        have hb : (x k == 0) = false := by simpa using hc0
        clear HO hc0
        go_wp2
        go_ret
        exact ⟨by rw [HO'.out]; rfl, rfl⟩

/-- cut of a nil slice. -/
theorem cut_nil (w : World) : Calls Tryd.prog 55 #[.slice none 0 0] w fun e w' => e = .returned (.slice none 0 0) ∧ w = w' := by
  go_enter Tryd.func55, Tryd.ntmps55
  go_wp2
  refine wp_loop_rounds 1 ?_
  iterate 1 (rw [rounds_succ]; go_wp2)
  go_ret
  exact ⟨rfl, rfl⟩
end Go.Proofs.YtlbijchbngnmmaaDoor
