/- Contracts of package limb's after for sums, and of Add; the Ints lie in memory. -/
import Derived.Test.YtlbijchbngnmmaaDoorJ
namespace Go.Proofs.YtlbijchbngnmmaaDoor
open Go.RowKit

/-- What a sum's call answers. -/
def afterR (st : StepR) (neg : Nat → Bool) (m : Nat → Nat → Int) (s0 : Bool) (x0 : Nat → Int) (n : Nat) : Value :=
  if errAll neg m n = 0 then (match foldR st neg m s0 x0 n with
    | some (s, x) => .tuple #[intv s x, .int .i64 0]
    | none => .tuple #[iv false 0 0 0 0, .int .i64 110])
  else .tuple #[iv false 0 0 0 0, .int .i64 (errAll neg m n)]
def AfterPost (N : Nat) (w : World) (v : Value) (e : Ending) (w' : World) : Prop := e = .returned v ∧ KB w.heap.size N w w'

set_option maxHeartbeats 1600000 in
theorem after_sum (N b o n c : Nat) (neg : Nat → Bool) (m : Nat → Nat → Int) (s0 : Bool) (x0 : Nat → Int) (w : World) (hn : n ≤ 1000000000000000000)
    (lN : N < w.heap.size) (lb : b < w.heap.size) (nb : b ≠ N) (hi : IntsAt w b o n neg m) (hr : Row w N (numv s0 x0 0)) (hx : BdF x0) (hm : ∀ k, BdF (m k)) :
    Calls Tryd.prog 44 #[.pointer (some ⟨N, 0, none⟩), .func (.func 45) #[.pointer (some ⟨N, 0, none⟩)] #[], .slice (some ⟨b, o, none⟩) n c] w (AfterPost N w (afterR plusR neg m s0 x0 n)) := by
  have hmf : ∀ (fn : Fn) (first cap : Array Value) (w : World), (Instr.makeFunc fn first cap).run Tryd.prog w = .ok (.func fn first cap) w := fun _ _ _ _ => rfl
  have Hi := Lib.hid hi; clear hi
  have Hm := Lib.hid hm; clear hm
  have Hx := Lib.hid hx; clear hx
  go_enter Tryd.func44, Tryd.ntmps44
  go_wp2_with fail
  generalize hW : World.alloc _ _ = W0
  have rS : Row W0 w.heap.size [.func (.func 45) #[.pointer (some ⟨N, 0, none⟩)] #[]] := by rw [← hW]; exact ((Row.at rfl _ _).alloc _).alloc _
  have rL : Row W0 (w.heap.size + 1) [.slice (some ⟨b, o, none⟩) n c] := by rw [← hW]; exact (Row.at (by simp) _ _).alloc _
  have rR : Row W0 (w.heap.size + 1 + 1) [.bool false, .int .u64 0, .int .u64 0, .int .u64 0, .int .u64 0] := by rw [← hW]; exact Row.at (by simp) _ _
  have rN : Row W0 N (numv s0 x0 0) := by rw [← hW]; exact ((hr.alloc _).alloc _).alloc _
  have hB : Below w.heap.size w W0 := by rw [← hW]; exact (((Below.refl w.heap.size w).alloc (Nat.le_refl _) _).alloc (by simp) _).alloc (by simp; omega) _
  clear hW hr
  have hi0 : IntsAt W0 b o n neg m := Hi.out.below hB lb
  refine (checkAll_any neg m n b o c W0 hn (by have := hB.size; omega) hi0).mono ?_
  rintro e w1 ⟨rfl, hb1⟩
  have hi1 : Hid (IntsAt w1 b o n neg m) := Lib.hid (hi0.below hb1 (by have := hB.size; omega))
  replace hB := hB.trans (hb1.mono hB.size)
  replace rS := rS.after hb1
  replace rL := rL.after hb1
  replace rR := rR.after hb1
  replace rN := rN.after hb1
  have lw : w.heap.size + 1 + 1 < w1.heap.size := rR.lt
  clear hb1 hi0 Hi
  by_cases he : errAll neg m n = 0
  · rw [he]
    cases hq : foldR plusR neg m s0 x0 n with
    | none =>
      have HA : Hid (afterR plusR neg m s0 x0 n = .tuple #[iv false 0 0 0 0, .int .i64 110]) := Lib.hid (by rw [afterR, if_pos he, hq])
      clear he
      have HQ := Lib.hid hq; clear hq
      go_wp2_with fail
      refine (caught_sum _ N (foldR plusR neg m s0 x0 n) w1 (by omega) (sum_run N (w.heap.size + 1) w.heap.size b o n c neg m s0 x0 _ hn ((rL.alloc _).c 0 rfl) ((rS.alloc _).c 0 rfl) (by simp; omega) (by simp; omega) (by omega) nb ?_ (rN.alloc _) Hx.out Hm.out)).mono ?_
      · exact hi1.out.below ((Below.refl _ _).alloc (Nat.le_refl _) _) (by omega)
      rw [HQ.out]
      rintro e w2 ⟨hk, rfl⟩
      have hB2 : KB w.heap.size N w w2 := (KB.refl _ _ _ |>.below hB (Nat.le_refl _)).trans hk (by omega)
      have rR2 : Row w2 (w.heap.size + 1 + 1) [.bool false, .int .u64 0, .int .u64 0, .int .u64 0, .int .u64 0] :=
        ⟨Nat.lt_of_lt_of_le lw hk.size, fun i _ hv => ⟨(hk.cell (p := ⟨w.heap.size + 1 + 1, i, none⟩) lw (by simp; omega)).trans (rR.c i hv), (hk.frozen (p := ⟨w.heap.size + 1 + 1, i, none⟩) lw (by simp; omega)).trans (rR.f i hv)⟩⟩
      clear hk rS rL rR rN hB
      have a0 := rR2.c 0 rfl
      have a1 := rR2.c 1 rfl
      have a2 := rR2.c 2 rfl
      have a3 := rR2.c 3 rfl
      have a4 := rR2.c 4 rfl
      have b0 := rR2.f 0 rfl
      have b1 := rR2.f 1 rfl
      have b2 := rR2.f 2 rfl
      have b3 := rR2.f 3 rfl
      have b4 := rR2.f 4 rfl
      go_wp2
      clear a0 a1 a2 a3 a4 b0 b1 b2 b3 b4
      generalize hW : World.setCell _ _ _ = W3
      have rR3 : Row W3 (w.heap.size + 1 + 1) [.bool false, .int .u64 0, .int .u64 0, .int .u64 0, .int .u64 0] := by rw [← hW]; exact rR2.put5 _ _ _ _ _
      replace hB2 : KB w.heap.size N w W3 := by rw [← hW]; exact hB2.put5 (Or.inr (by omega)) _ _ _ _ _
      clear hW rR2
      exact bodyPost_ret (v := .tuple #[iv false 0 0 0 0, .int .i64 110]) (by simp [results, Tryd.results44, go_sem, rR3.c 0 rfl, rR3.c 1 rfl, rR3.c 2 rfl, rR3.c 3 rfl, rR3.c 4 rfl]) rfl ⟨by rw [HA.out], hB2⟩
    | some q =>
      obtain ⟨s, x⟩ := q
      have HA : Hid (afterR plusR neg m s0 x0 n = .tuple #[intv s x, .int .i64 0]) := Lib.hid (by rw [afterR, if_pos he, hq])
      clear he
      have HQ := Lib.hid hq; clear hq
      go_wp2_with fail
      refine (caught_sum _ N (foldR plusR neg m s0 x0 n) w1 (by omega) (sum_run N (w.heap.size + 1) w.heap.size b o n c neg m s0 x0 _ hn ((rL.alloc _).c 0 rfl) ((rS.alloc _).c 0 rfl) (by simp; omega) (by simp; omega) (by omega) nb ?_ (rN.alloc _) Hx.out Hm.out)).mono ?_
      · exact hi1.out.below ((Below.refl _ _).alloc (Nat.le_refl _) _) (by omega)
      rw [HQ.out]
      rintro e w2 ⟨hk, rfl, rN2⟩
      have hB2 : KB w.heap.size N w w2 := (KB.refl _ _ _ |>.below hB (Nat.le_refl _)).trans hk (by omega)
      have rR2 : Row w2 (w.heap.size + 1 + 1) [.bool false, .int .u64 0, .int .u64 0, .int .u64 0, .int .u64 0] :=
        ⟨Nat.lt_of_lt_of_le lw hk.size, fun i _ hv => ⟨(hk.cell (p := ⟨w.heap.size + 1 + 1, i, none⟩) lw (by simp; omega)).trans (rR.c i hv), (hk.frozen (p := ⟨w.heap.size + 1 + 1, i, none⟩) lw (by simp; omega)).trans (rR.f i hv)⟩⟩
      clear hk rS rL rR rN hB
      have a0 := rR2.c 0 rfl
      have a1 := rR2.c 1 rfl
      have a2 := rR2.c 2 rfl
      have a3 := rR2.c 3 rfl
      have a4 := rR2.c 4 rfl
      have b0 := rR2.f 0 rfl
      have b1 := rR2.f 1 rfl
      have b2 := rR2.f 2 rfl
      have b3 := rR2.f 3 rfl
      have b4 := rR2.f 4 rfl
      have n0 := rN2.c 0 rfl
      have n1 := rN2.c 1 rfl
      have n2 := rN2.c 2 rfl
      have n3 := rN2.c 3 rfl
      have n4 := rN2.c 4 rfl
      go_wp2
      clear a0 a1 a2 a3 a4 b0 b1 b2 b3 b4 n0 n1 n2 n3 n4
      generalize hW : World.setCell _ _ _ = W3
      have rR3 : Row W3 (w.heap.size + 1 + 1) [.bool s, .int .u64 (x 0), .int .u64 (x 1), .int .u64 (x 2), .int .u64 (x 3)] := by rw [← hW]; exact rR2.put5 _ _ _ _ _
      replace hB2 : KB w.heap.size N w W3 := by rw [← hW]; exact hB2.put5 (Or.inr (by omega)) _ _ _ _ _
      clear hW rR2 rN2
      exact bodyPost_ret (v := .tuple #[intv s x, .int .i64 0]) (by simp [results, Tryd.results44, go_sem, rR3.c 0 rfl, rR3.c 1 rfl, rR3.c 2 rfl, rR3.c 3 rfl, rR3.c 4 rfl]) rfl ⟨by rw [HA.out], hB2⟩
  · have HA : Hid (afterR plusR neg m s0 x0 n = .tuple #[iv false 0 0 0 0, .int .i64 (errAll neg m n)]) := Lib.hid (by rw [afterR, if_neg he])
    have hne : (errAll neg m n != 0) = true := by simpa using he
    clear he rS rL rN
    have a0 := rR.c 0 rfl
    have a1 := rR.c 1 rfl
    have a2 := rR.c 2 rfl
    have a3 := rR.c 3 rfl
    have a4 := rR.c 4 rfl
    have b0 := rR.f 0 rfl
    have b1 := rR.f 1 rfl
    have b2 := rR.f 2 rfl
    have b3 := rR.f 3 rfl
    have b4 := rR.f 4 rfl
    go_wp2
    clear a0 a1 a2 a3 a4 b0 b1 b2 b3 b4
    generalize hW : World.setCell _ _ _ = W3
    have rR3 : Row W3 (w.heap.size + 1 + 1) [.bool false, .int .u64 0, .int .u64 0, .int .u64 0, .int .u64 0] := by rw [← hW]; exact rR.put5 _ _ _ _ _
    have hB2 : KB w.heap.size N w W3 := by rw [← hW]; exact (KB.refl _ _ _ |>.below hB (Nat.le_refl _)).put5 (Or.inr (by omega)) _ _ _ _ _
    clear hW rR
    exact bodyPost_ret (v := .tuple #[iv false 0 0 0 0, .int .i64 (errAll neg m n)]) (by simp [results, Tryd.results44, go_sem, rR3.c 0 rfl, rR3.c 1 rfl, rR3.c 2 rfl, rR3.c 3 rfl, rR3.c 4 rfl]) rfl ⟨by rw [HA.out], hB2⟩
end Go.Proofs.YtlbijchbngnmmaaDoor
