/- limb's Add and Mul once more, of a slice that may be nil. -/
import Derived.Test.YtmmndklddkmgmaaDoorBO
namespace Go.Proofs.YtmmndklddkmgmaaDoor
open Go.RowKit

set_option maxHeartbeats 400000 in
theorem checkAll_o (A : Option Addr) (neg : Nat → Bool) (m : Nat → Nat → Int) (n b o c : Nat) (w : World) (hn : n ≤ 1000000000000000000) (hlt : b < w.heap.size) (hx : IntsAt w b o n neg m) (hA : 0 < n → A = some ⟨b, o, none⟩) :
    Calls Tryd.prog 50 #[.slice A n c] w fun e w' => e = .returned (.int .i64 (errAll neg m n)) ∧ Below w.heap.size w w' := by
  have HAd := Lib.hid hA; clear hA
  go_enter Tryd.func50, Tryd.ntmps50
  have Hx := Lib.hid hx; clear hx
  go_wp2
  go_loopw [8] (fun i wr => ∃ k : Nat, k ≤ n ∧ i = .int .i64 k ∧ Hid (errAll neg m k = 0) ∧ Below w.heap.size w wr) (fun i _ => n - (intOf i).toNat)
  case atStart => exact ⟨0, Nat.zero_le _, rfl, Lib.hid rfl, Below.refl _ _⟩
  case round =>
    obtain ⟨k, hk, rfl, HO, hB⟩ := hrel
    by_cases hkn : k < n
    · obtain ⟨c0, c1, c2, c3, c4⟩ := (Hx.out.below hB hlt) k hkn
      obtain rfl := HAd.out (by omega)
      have hk1 : (k : Int) < n := by omega
      by_cases hc : errArg (neg k) (m k 0) (m k 1) (m k 2) (m k 3) = 0
      · have HO' : Hid (errAll neg m (k + 1) = 0) := Lib.hid (by rw [errAll, if_pos HO.out, hc])
        go_wp2_with fail
        refine (check_any _ _ _ _ _ _).mono ?_
        rintro e w1 ⟨rfl, hb1⟩
        rw [hc]; clear hc
        go_wp2
        go_roundw
        case rel => exact ⟨k + 1, by omega, by go_num, HO', (hB.alloc hB.size _).trans (hb1.mono (by simp; have := hB.size; omega))⟩
        case measure => simp [intOf]; omega
      · have HO' : Hid (errAll neg m n = errArg (neg k) (m k 0) (m k 1) (m k 2) (m k 3)) := Lib.hid (errAll_some hkn HO.out hc)
        have hne : (errArg (neg k) (m k 0) (m k 1) (m k 2) (m k 3) != 0) = true := by simpa using hc
        clear hc
        go_wp2_with fail
        refine (check_any _ _ _ _ _ _).mono ?_
        rintro e w1 ⟨rfl, hb1⟩
        go_wp2
        go_ret
        exact ⟨by rw [HO'.out]; rfl, (hB.alloc hB.size _).trans (hb1.mono (by simp; have := hB.size; omega))⟩
    · have hkn' : k = n := by omega
      have HN : Hid (errAll neg m n = 0) := Lib.hid (by rw [← hkn']; exact HO.out)
      clear hkn'
      go_wp2
      go_ret
      exact ⟨by rw [HN.out]; rfl, hB⟩
set_option maxHeartbeats 800000 in
theorem sum_run_o (A : Option Addr) (N L S b o n c : Nat) (neg : Nat → Bool) (m : Nat → Nat → Int) (s0 : Bool) (x0 : Nat → Int) (w : World) (hn : n ≤ 1000000000000000000)
    (hL : w.cell? ⟨L, 0, none⟩ = some (.slice A n c)) (hS : w.cell? ⟨S, 0, none⟩ = some (.func (.func 45) #[.pointer (some ⟨N, 0, none⟩)] #[]))
    (lS : S < w.heap.size) (lb : b < w.heap.size) (nS : S ≠ N) (nb : b ≠ N)
    (hi : IntsAt w b o n neg m) (hr : Row w N (numv s0 x0 0)) (hx : BdF x0) (hm : ∀ k, BdF (m k)) (hA : 0 < n → A = some ⟨b, o, none⟩) :
    Calls Tryd.prog 66 #[.pointer (some ⟨L, 0, none⟩), .pointer (some ⟨S, 0, none⟩)] w (NumPost N w (foldR plusR neg m s0 x0 n)) := by
  have Hi := Lib.hid hi; clear hi
  have Hm := Lib.hid hm; clear hm
  have Hx := Lib.hid hx; clear hx
  have HAd := Lib.hid hA; clear hA
  go_enter Tryd.func66, Tryd.ntmps66
  go_wp2
  have HS := Lib.hid hS; clear hS hL
  go_loopw [6] (fun i wr => ∃ k : Nat, k ≤ n ∧ i = .int .i64 k ∧ KB w.heap.size N w wr ∧ ∃ s x, Hid (foldR plusR neg m s0 x0 k = some (s, x)) ∧ Row wr N (numv s x 0) ∧ Hid (BdF x)) (fun i _ => n - (intOf i).toNat)
  case atStart => exact ⟨0, Nat.zero_le _, rfl, KB.refl _ _ _, s0, x0, Lib.hid rfl, hr, Hx⟩
  case round =>
    obtain ⟨k, hk, rfl, hB, s, x, HF, hr', HB⟩ := hrel
    by_cases hkn : k < n
    · obtain ⟨c0, c1, c2, c3, c4⟩ := (Hi.out.kb hB lb nb) k hkn
      obtain rfl := HAd.out (by omega)
      have hk1 : (k : Int) < n := by omega
      have hS' : ∀ ob, (wr.alloc ob).cell? ⟨S, 0, none⟩ = some (.func (.func 45) #[.pointer (some ⟨N, 0, none⟩)] #[]) := fun ob => by
        rw [World.cell?_alloc_past ob S 0 (Nat.lt_of_lt_of_le lS hB.size)]; exact (hB.cell (p := ⟨S, 0, none⟩) lS nS).trans HS.out
      go_wp2_with fail
      refine (plus_any N s (neg k) x (m k) _ (hr'.alloc _) HB.out (Hm.out k)).mono ?_
      rintro e w2 ⟨hk2, h2⟩
      have hB2 : KB w.heap.size N w w2 := (hB.alloc hB.size _).trans hk2 (by have := hB.size; simp; omega)
      clear hk2 c0 c1 c2 c3 c4 hS'
      cases hq : plusR s (neg k) x (m k) with
      | none =>
        rw [hq] at h2
        have HP : Hid (∀ w', KB w.heap.size N w w' → NumPost N w (foldR plusR neg m s0 x0 n) (.panicked [{ v := .iface 40 (.int .i64 110), recovered := false }]) w') := by
          have hf : foldR plusR neg m s0 x0 n = none := foldR_none (k := k + 1) (by omega) (by rw [foldR, HF.out]; exact hq)
          rw [hf]
          exact Lib.hid (fun w' h => ⟨h, rfl⟩)
        clear hq
        obtain rfl := h2
        go_wp2
        exact ⟨rfl, HP.out _ hB2⟩
      | some q =>
        obtain ⟨s', x'⟩ := q
        rw [hq] at h2
        obtain ⟨rfl, h3⟩ := h2
        have HF' : Hid (foldR plusR neg m s0 x0 (k + 1) = some (s', x')) := Lib.hid (by rw [foldR, HF.out]; exact hq)
        have HB' : Hid (BdF x') := Lib.hid (plusR_bd hq)
        clear hq
        go_wp2
        go_roundw
        case rel => exact ⟨k + 1, by omega, by go_num, hB2, s', x', HF', h3, HB'⟩
        case measure => simp [intOf]; omega
    · obtain rfl : k = n := by omega
      have HP : Hid (∀ w', KB w.heap.size N w w' → Row w' N (numv s x 0) → NumPost N w (foldR plusR neg m s0 x0 k) (.returned (.tuple #[])) w') := by
        rw [HF.out]
        exact Lib.hid (fun w' h1 h2 => ⟨h1, rfl, h2⟩)
      go_wp2
      go_end0
      exact HP.out _ hB hr'
set_option maxHeartbeats 1600000 in
theorem after_sum_o (A : Option Addr) (N b o n c : Nat) (neg : Nat → Bool) (m : Nat → Nat → Int) (s0 : Bool) (x0 : Nat → Int) (w : World) (hn : n ≤ 1000000000000000000)
    (lN : N < w.heap.size) (lb : b < w.heap.size) (nb : b ≠ N) (hi : IntsAt w b o n neg m) (hr : Row w N (numv s0 x0 0)) (hx : BdF x0) (hm : ∀ k, BdF (m k)) (hA : 0 < n → A = some ⟨b, o, none⟩) :
    Calls Tryd.prog 44 #[.pointer (some ⟨N, 0, none⟩), .func (.func 45) #[.pointer (some ⟨N, 0, none⟩)] #[], .slice A n c] w (AfterPost N w (afterR plusR neg m s0 x0 n)) := by
  have hmf : ∀ (fn : Fn) (first cap : Array Value) (w : World), (Instr.makeFunc fn first cap).run Tryd.prog w = .ok (.func fn first cap) w := fun _ _ _ _ => rfl
  have Hi := Lib.hid hi; clear hi
  have Hm := Lib.hid hm; clear hm
  have Hx := Lib.hid hx; clear hx
  have HAd := Lib.hid hA; clear hA
  go_enter Tryd.func44, Tryd.ntmps44
  go_wp2_with fail
  generalize hW : World.alloc _ _ = W0
  have rS : Row W0 w.heap.size [.func (.func 45) #[.pointer (some ⟨N, 0, none⟩)] #[]] := by rw [← hW]; exact ((Row.at rfl _ _).alloc _).alloc _
  have rL : Row W0 (w.heap.size + 1) [.slice A n c] := by rw [← hW]; exact (Row.at (by simp) _ _).alloc _
  have rR : Row W0 (w.heap.size + 1 + 1) [.bool false, .int .u64 0, .int .u64 0, .int .u64 0, .int .u64 0] := by rw [← hW]; exact Row.at (by simp) _ _
  have rN : Row W0 N (numv s0 x0 0) := by rw [← hW]; exact ((hr.alloc _).alloc _).alloc _
  have hB : Below w.heap.size w W0 := by rw [← hW]; exact (((Below.refl w.heap.size w).alloc (Nat.le_refl _) _).alloc (by simp) _).alloc (by simp; omega) _
  clear hW hr
  have hi0 : IntsAt W0 b o n neg m := Hi.out.below hB lb
  refine (checkAll_o A neg m n b o c W0 hn (by have := hB.size; omega) hi0 HAd.out).mono ?_
  rintro e w1 ⟨rfl, hb1⟩
  have hi1 : Hid (IntsAt w1 b o n neg m) := Lib.hid (hi0.below hb1 (by have := hB.size; omega))
  replace hB := hB.trans (hb1.mono hB.size)
  replace rS := rS.after hb1
  replace rL := rL.after hb1
  replace rR := rR.after hb1
  replace rN := rN.after hb1
  have lw : w.heap.size + 1 + 1 < w1.heap.size := rR.lt
  clear hb1 hi0 Hi
  by_cases he : errAll neg m n = 0
  · rw [he]
    cases hq : foldR plusR neg m s0 x0 n with
    | none =>
      have HA : Hid (afterR plusR neg m s0 x0 n = .tuple #[iv false 0 0 0 0, .int .i64 110]) := Lib.hid (by rw [afterR, if_pos he, hq])
      clear he
      have HQ := Lib.hid hq; clear hq
      go_wp2_with fail
      refine (caught_sum _ N (foldR plusR neg m s0 x0 n) w1 (by omega) (sum_run_o A N (w.heap.size + 1) w.heap.size b o n c neg m s0 x0 _ hn ((rL.alloc _).c 0 rfl) ((rS.alloc _).c 0 rfl) (by simp; omega) (by simp; omega) (by omega) nb ?_ (rN.alloc _) Hx.out Hm.out HAd.out)).mono ?_
      · exact hi1.out.below ((Below.refl _ _).alloc (Nat.le_refl _) _) (by omega)
      rw [HQ.out]
      rintro e w2 ⟨hk, rfl⟩
      have hB2 : KB w.heap.size N w w2 := (KB.refl _ _ _ |>.below hB (Nat.le_refl _)).trans hk (by omega)
      have rR2 : Row w2 (w.heap.size + 1 + 1) [.bool false, .int .u64 0, .int .u64 0, .int .u64 0, .int .u64 0] :=
        ⟨Nat.lt_of_lt_of_le lw hk.size, fun i _ hv => ⟨(hk.cell (p := ⟨w.heap.size + 1 + 1, i, none⟩) lw (by simp; omega)).trans (rR.c i hv), (hk.frozen (p := ⟨w.heap.size + 1 + 1, i, none⟩) lw (by simp; omega)).trans (rR.f i hv)⟩⟩
      clear hk rS rL rR rN hB
      have a0 := rR2.c 0 rfl
      have a1 := rR2.c 1 rfl
      have a2 := rR2.c 2 rfl
      have a3 := rR2.c 3 rfl
      have a4 := rR2.c 4 rfl
      have b0 := rR2.f 0 rfl
      have b1 := rR2.f 1 rfl
      have b2 := rR2.f 2 rfl
      have b3 := rR2.f 3 rfl
      have b4 := rR2.f 4 rfl
      go_wp2
      clear a0 a1 a2 a3 a4 b0 b1 b2 b3 b4
      generalize hW : World.setCell _ _ _ = W3
      have rR3 : Row W3 (w.heap.size + 1 + 1) [.bool false, .int .u64 0, .int .u64 0, .int .u64 0, .int .u64 0] := by rw [← hW]; exact rR2.put5 _ _ _ _ _
      replace hB2 : KB w.heap.size N w W3 := by rw [← hW]; exact hB2.put5 (Or.inr (by omega)) _ _ _ _ _
      clear hW rR2
      exact bodyPost_ret (v := .tuple #[iv false 0 0 0 0, .int .i64 110]) (by simp [results, Tryd.results44, go_sem, rR3.c 0 rfl, rR3.c 1 rfl, rR3.c 2 rfl, rR3.c 3 rfl, rR3.c 4 rfl]) rfl ⟨by rw [HA.out], hB2⟩
    | some q =>
      obtain ⟨s, x⟩ := q
      have HA : Hid (afterR plusR neg m s0 x0 n = .tuple #[intv s x, .int .i64 0]) := Lib.hid (by rw [afterR, if_pos he, hq])
      clear he
      have HQ := Lib.hid hq; clear hq
      go_wp2_with fail
      refine (caught_sum _ N (foldR plusR neg m s0 x0 n) w1 (by omega) (sum_run_o A N (w.heap.size + 1) w.heap.size b o n c neg m s0 x0 _ hn ((rL.alloc _).c 0 rfl) ((rS.alloc _).c 0 rfl) (by simp; omega) (by simp; omega) (by omega) nb ?_ (rN.alloc _) Hx.out Hm.out HAd.out)).mono ?_
      · exact hi1.out.below ((Below.refl _ _).alloc (Nat.le_refl _) _) (by omega)
      rw [HQ.out]
      rintro e w2 ⟨hk, rfl, rN2⟩
      have hB2 : KB w.heap.size N w w2 := (KB.refl _ _ _ |>.below hB (Nat.le_refl _)).trans hk (by omega)
      have rR2 : Row w2 (w.heap.size + 1 + 1) [.bool false, .int .u64 0, .int .u64 0, .int .u64 0, .int .u64 0] :=
        ⟨Nat.lt_of_lt_of_le lw hk.size, fun i _ hv => ⟨(hk.cell (p := ⟨w.heap.size + 1 + 1, i, none⟩) lw (by simp; omega)).trans (rR.c i hv), (hk.frozen (p := ⟨w.heap.size + 1 + 1, i, none⟩) lw (by simp; omega)).trans (rR.f i hv)⟩⟩
      clear hk rS rL rR rN hB
      have a0 := rR2.c 0 rfl
      have a1 := rR2.c 1 rfl
      have a2 := rR2.c 2 rfl
      have a3 := rR2.c 3 rfl
      have a4 := rR2.c 4 rfl
      have b0 := rR2.f 0 rfl
      have b1 := rR2.f 1 rfl
      have b2 := rR2.f 2 rfl
      have b3 := rR2.f 3 rfl
      have b4 := rR2.f 4 rfl
      have n0 := rN2.c 0 rfl
      have n1 := rN2.c 1 rfl
      have n2 := rN2.c 2 rfl
      have n3 := rN2.c 3 rfl
      have n4 := rN2.c 4 rfl
      go_wp2
      clear a0 a1 a2 a3 a4 b0 b1 b2 b3 b4 n0 n1 n2 n3 n4
      generalize hW : World.setCell _ _ _ = W3
      have rR3 : Row W3 (w.heap.size + 1 + 1) [.bool s, .int .u64 (x 0), .int .u64 (x 1), .int .u64 (x 2), .int .u64 (x 3)] := by rw [← hW]; exact rR2.put5 _ _ _ _ _
      replace hB2 : KB w.heap.size N w W3 := by rw [← hW]; exact hB2.put5 (Or.inr (by omega)) _ _ _ _ _
      clear hW rR2 rN2
      exact bodyPost_ret (v := .tuple #[intv s x, .int .i64 0]) (by simp [results, Tryd.results44, go_sem, rR3.c 0 rfl, rR3.c 1 rfl, rR3.c 2 rfl, rR3.c 3 rfl, rR3.c 4 rfl]) rfl ⟨by rw [HA.out], hB2⟩
  · have HA : Hid (afterR plusR neg m s0 x0 n = .tuple #[iv false 0 0 0 0, .int .i64 (errAll neg m n)]) := Lib.hid (by rw [afterR, if_neg he])
    have hne : (errAll neg m n != 0) = true := by simpa using he
    clear he rS rL rN
    have a0 := rR.c 0 rfl
    have a1 := rR.c 1 rfl
    have a2 := rR.c 2 rfl
    have a3 := rR.c 3 rfl
    have a4 := rR.c 4 rfl
    have b0 := rR.f 0 rfl
    have b1 := rR.f 1 rfl
    have b2 := rR.f 2 rfl
    have b3 := rR.f 3 rfl
    have b4 := rR.f 4 rfl
    go_wp2
    clear a0 a1 a2 a3 a4 b0 b1 b2 b3 b4
    generalize hW : World.setCell _ _ _ = W3
    have rR3 : Row W3 (w.heap.size + 1 + 1) [.bool false, .int .u64 0, .int .u64 0, .int .u64 0, .int .u64 0] := by rw [← hW]; exact rR.put5 _ _ _ _ _
    have hB2 : KB w.heap.size N w W3 := by rw [← hW]; exact (KB.refl _ _ _ |>.below hB (Nat.le_refl _)).put5 (Or.inr (by omega)) _ _ _ _ _
    clear hW rR
    exact bodyPost_ret (v := .tuple #[iv false 0 0 0 0, .int .i64 (errAll neg m n)]) (by simp [results, Tryd.results44, go_sem, rR3.c 0 rfl, rR3.c 1 rfl, rR3.c 2 rfl, rR3.c 3 rfl, rR3.c 4 rfl]) rfl ⟨by rw [HA.out], hB2⟩
set_option maxHeartbeats 800000 in
theorem add_o (A : Option Addr) (b o n c : Nat) (neg : Nat → Bool) (m : Nat → Nat → Int) (w : World) (hn : n ≤ 1000000000000000000)
    (lb : b < w.heap.size) (hi : IntsAt w b o n neg m) (hm : ∀ k, BdF (m k)) (hA : 0 < n → A = some ⟨b, o, none⟩) :
    Calls Tryd.prog 22 #[.slice A n c] w fun e w' => e = .returned (afterR plusR neg m false (fun _ => 0) n) ∧ Below w.heap.size w w' := by
  have hmf : ∀ (fn : Fn) (first cap : Array Value) (w : World), (Instr.makeFunc fn first cap).run Tryd.prog w = .ok (.func fn first cap) w := fun _ _ _ _ => rfl
  have Hi := Lib.hid hi; clear hi
  have Hm := Lib.hid hm; clear hm
  obtain ⟨s, x, k, hA⟩ := afterR_form plusR neg m false (fun _ => 0) n
  have HA := Lib.hid hA; clear hA
  have HAd := Lib.hid hA; clear hA
  go_enter Tryd.func22, Tryd.ntmps22
  go_wp2_with fail
  refine (of_zero _).mono ?_
  rintro e w1 ⟨rfl, hb1⟩
  have hB : Below w.heap.size w w1 := ((Below.refl w.heap.size w).alloc (Nat.le_refl _) _).trans (hb1.mono (by simp))
  have rR : Row w1 w.heap.size [.bool false, .int .u64 0, .int .u64 0, .int .u64 0, .int .u64 0] := (Row.at rfl _ _).after hb1
  clear hb1
  go_wp2_with fail
  generalize hW : World.alloc _ _ = W2
  have rN : Row W2 w1.heap.size (numv false (fun _ => 0) 0) := by rw [← hW]; exact Row.at rfl _ _
  have lR := rR.lt
  have hB2 : Below w.heap.size w W2 := by rw [← hW]; exact hB.alloc hB.size _
  have rR2 : Row W2 w.heap.size [.bool false, .int .u64 0, .int .u64 0, .int .u64 0, .int .u64 0] := by rw [← hW]; exact rR.alloc _
  clear hW rR
  have hsz := hB.size
  refine (after_sum_o A w1.heap.size b o n c neg m false (fun _ => 0) W2 hn rN.lt (by have := hB2.size; omega) (by omega) (Hi.out.below hB2 lb) rN zero_bd Hm.out HAd.out).mono ?_
  rintro e w3 ⟨rfl, hk⟩
  rw [HA.out]
  have rR3 : Row w3 w.heap.size [.bool false, .int .u64 0, .int .u64 0, .int .u64 0, .int .u64 0] :=
    ⟨Nat.lt_of_lt_of_le rR2.lt hk.size, fun i _ hv => ⟨(hk.cell (p := ⟨w.heap.size, i, none⟩) rR2.lt (by simp; omega)).trans (rR2.c i hv), (hk.frozen (p := ⟨w.heap.size, i, none⟩) rR2.lt (by simp; omega)).trans (rR2.f i hv)⟩⟩
  have hB3 : Below w.heap.size w w3 := hB2.trans ((hk.toBelow (by have := rN.lt; omega)).mono hsz)
  clear hk rR2 hB2 rN hB
  have a0 := rR3.c 0 rfl
  have a1 := rR3.c 1 rfl
  have a2 := rR3.c 2 rfl
  have a3 := rR3.c 3 rfl
  have a4 := rR3.c 4 rfl
  have b0 := rR3.f 0 rfl
  have b1 := rR3.f 1 rfl
  have b2 := rR3.f 2 rfl
  have b3 := rR3.f 3 rfl
  have b4 := rR3.f 4 rfl
  go_wp2
  clear a0 a1 a2 a3 a4 b0 b1 b2 b3 b4
  generalize hW : World.setCell _ _ _ = W4
  have rR4 : Row W4 w.heap.size [.bool s, .int .u64 (x 0), .int .u64 (x 1), .int .u64 (x 2), .int .u64 (x 3)] := by rw [← hW]; exact rR3.put5 _ _ _ _ _
  replace hB3 : Below w.heap.size w W4 := by rw [← hW]; exact below_put5 hB3 (Nat.le_refl _) _ _ _ _ _
  clear hW rR3
  exact bodyPost_ret (v := .tuple #[intv s x, .int .i64 k]) (by simp [results, Tryd.results22, go_sem, rR4.c 0 rfl, rR4.c 1 rfl, rR4.c 2 rfl, rR4.c 3 rfl, rR4.c 4 rfl]) rfl ⟨by rw [HA.out], hB3⟩
set_option maxHeartbeats 800000 in
theorem prod_run_o (A : Option Addr) (N L S b o n c : Nat) (neg : Nat → Bool) (m : Nat → Nat → Int) (s0 : Bool) (x0 : Nat → Int) (w : World) (hn : n ≤ 1000000000000000000)
    (hL : w.cell? ⟨L, 0, none⟩ = some (.slice A n c)) (hS : w.cell? ⟨S, 0, none⟩ = some (.func (.func 46) #[.pointer (some ⟨N, 0, none⟩)] #[]))
    (lS : S < w.heap.size) (lb : b < w.heap.size) (nS : S ≠ N) (nb : b ≠ N)
    (hi : IntsAt w b o n neg m) (hr : Row w N (numv s0 x0 0)) (hx : BdF x0) (hm : ∀ k, BdF (m k)) (hA : 0 < n → A = some ⟨b, o, none⟩) :
    Calls Tryd.prog 66 #[.pointer (some ⟨L, 0, none⟩), .pointer (some ⟨S, 0, none⟩)] w (NumPost N w (foldR timesR neg m s0 x0 n)) := by
  have Hi := Lib.hid hi; clear hi
  have Hm := Lib.hid hm; clear hm
  have Hx := Lib.hid hx; clear hx
  have HAd := Lib.hid hA; clear hA
  go_enter Tryd.func66, Tryd.ntmps66
  go_wp2
  have HS := Lib.hid hS; clear hS hL
  go_loopw [6] (fun i wr => ∃ k : Nat, k ≤ n ∧ i = .int .i64 k ∧ KB w.heap.size N w wr ∧ ∃ s x, Hid (foldR timesR neg m s0 x0 k = some (s, x)) ∧ Row wr N (numv s x 0) ∧ Hid (BdF x)) (fun i _ => n - (intOf i).toNat)
  case atStart => exact ⟨0, Nat.zero_le _, rfl, KB.refl _ _ _, s0, x0, Lib.hid rfl, hr, Hx⟩
  case round =>
    obtain ⟨k, hk, rfl, hB, s, x, HF, hr', HB⟩ := hrel
    by_cases hkn : k < n
    · obtain ⟨c0, c1, c2, c3, c4⟩ := (Hi.out.kb hB lb nb) k hkn
      obtain rfl := HAd.out (by omega)
      have hk1 : (k : Int) < n := by omega
      have hS' : ∀ ob, (wr.alloc ob).cell? ⟨S, 0, none⟩ = some (.func (.func 46) #[.pointer (some ⟨N, 0, none⟩)] #[]) := fun ob => by
        rw [World.cell?_alloc_past ob S 0 (Nat.lt_of_lt_of_le lS hB.size)]; exact (hB.cell (p := ⟨S, 0, none⟩) lS nS).trans HS.out
      go_wp2_with fail
      refine (times_any N s (neg k) x (m k) _ (hr'.alloc _) HB.out (Hm.out k)).mono ?_
      rintro e w2 ⟨hk2, h2⟩
      have hB2 : KB w.heap.size N w w2 := (hB.alloc hB.size _).trans hk2 (by have := hB.size; simp; omega)
      clear hk2 c0 c1 c2 c3 c4 hS'
      cases hq : timesR s (neg k) x (m k) with
      | none =>
        rw [hq] at h2
        have HP : Hid (∀ w', KB w.heap.size N w w' → NumPost N w (foldR timesR neg m s0 x0 n) (.panicked [{ v := .iface 40 (.int .i64 110), recovered := false }]) w') := by
          have hf : foldR timesR neg m s0 x0 n = none := foldR_none (k := k + 1) (by omega) (by rw [foldR, HF.out]; exact hq)
          rw [hf]
          exact Lib.hid (fun w' h => ⟨h, rfl⟩)
        clear hq
        obtain rfl := h2
        go_wp2
        exact ⟨rfl, HP.out _ hB2⟩
      | some q =>
        obtain ⟨s', x'⟩ := q
        rw [hq] at h2
        obtain ⟨rfl, h3⟩ := h2
        have HF' : Hid (foldR timesR neg m s0 x0 (k + 1) = some (s', x')) := Lib.hid (by rw [foldR, HF.out]; exact hq)
        have HB' : Hid (BdF x') := Lib.hid (timesR_bd hq)
        clear hq
        go_wp2
        go_roundw
        case rel => exact ⟨k + 1, by omega, by go_num, hB2, s', x', HF', h3, HB'⟩
        case measure => simp [intOf]; omega
    · obtain rfl : k = n := by omega
      have HP : Hid (∀ w', KB w.heap.size N w w' → Row w' N (numv s x 0) → NumPost N w (foldR timesR neg m s0 x0 k) (.returned (.tuple #[])) w') := by
        rw [HF.out]
        exact Lib.hid (fun w' h1 h2 => ⟨h1, rfl, h2⟩)
      go_wp2
      go_end0
      exact HP.out _ hB hr'
set_option maxHeartbeats 1600000 in
theorem after_prod_o (A : Option Addr) (N b o n c : Nat) (neg : Nat → Bool) (m : Nat → Nat → Int) (s0 : Bool) (x0 : Nat → Int) (w : World) (hn : n ≤ 1000000000000000000)
    (lN : N < w.heap.size) (lb : b < w.heap.size) (nb : b ≠ N) (hi : IntsAt w b o n neg m) (hr : Row w N (numv s0 x0 0)) (hx : BdF x0) (hm : ∀ k, BdF (m k)) (hA : 0 < n → A = some ⟨b, o, none⟩) :
    Calls Tryd.prog 44 #[.pointer (some ⟨N, 0, none⟩), .func (.func 46) #[.pointer (some ⟨N, 0, none⟩)] #[], .slice A n c] w (AfterPost N w (afterR timesR neg m s0 x0 n)) := by
  have hmf : ∀ (fn : Fn) (first cap : Array Value) (w : World), (Instr.makeFunc fn first cap).run Tryd.prog w = .ok (.func fn first cap) w := fun _ _ _ _ => rfl
  have Hi := Lib.hid hi; clear hi
  have Hm := Lib.hid hm; clear hm
  have Hx := Lib.hid hx; clear hx
  have HAd := Lib.hid hA; clear hA
  go_enter Tryd.func44, Tryd.ntmps44
  go_wp2_with fail
  generalize hW : World.alloc _ _ = W0
  have rS : Row W0 w.heap.size [.func (.func 46) #[.pointer (some ⟨N, 0, none⟩)] #[]] := by rw [← hW]; exact ((Row.at rfl _ _).alloc _).alloc _
  have rL : Row W0 (w.heap.size + 1) [.slice A n c] := by rw [← hW]; exact (Row.at (by simp) _ _).alloc _
  have rR : Row W0 (w.heap.size + 1 + 1) [.bool false, .int .u64 0, .int .u64 0, .int .u64 0, .int .u64 0] := by rw [← hW]; exact Row.at (by simp) _ _
  have rN : Row W0 N (numv s0 x0 0) := by rw [← hW]; exact ((hr.alloc _).alloc _).alloc _
  have hB : Below w.heap.size w W0 := by rw [← hW]; exact (((Below.refl w.heap.size w).alloc (Nat.le_refl _) _).alloc (by simp) _).alloc (by simp; omega) _
  clear hW hr
  have hi0 : IntsAt W0 b o n neg m := Hi.out.below hB lb
  refine (checkAll_o A neg m n b o c W0 hn (by have := hB.size; omega) hi0 HAd.out).mono ?_
  rintro e w1 ⟨rfl, hb1⟩
  have hi1 : Hid (IntsAt w1 b o n neg m) := Lib.hid (hi0.below hb1 (by have := hB.size; omega))
  replace hB := hB.trans (hb1.mono hB.size)
  replace rS := rS.after hb1
  replace rL := rL.after hb1
  replace rR := rR.after hb1
  replace rN := rN.after hb1
  have lw : w.heap.size + 1 + 1 < w1.heap.size := rR.lt
  clear hb1 hi0 Hi
  by_cases he : errAll neg m n = 0
  · rw [he]
    cases hq : foldR timesR neg m s0 x0 n with
    | none =>
      have HA : Hid (afterR timesR neg m s0 x0 n = .tuple #[iv false 0 0 0 0, .int .i64 110]) := Lib.hid (by rw [afterR, if_pos he, hq])
      clear he
      have HQ := Lib.hid hq; clear hq
      go_wp2_with fail
      refine (caught_sum _ N (foldR timesR neg m s0 x0 n) w1 (by omega) (prod_run_o A N (w.heap.size + 1) w.heap.size b o n c neg m s0 x0 _ hn ((rL.alloc _).c 0 rfl) ((rS.alloc _).c 0 rfl) (by simp; omega) (by simp; omega) (by omega) nb ?_ (rN.alloc _) Hx.out Hm.out HAd.out)).mono ?_
      · exact hi1.out.below ((Below.refl _ _).alloc (Nat.le_refl _) _) (by omega)
      rw [HQ.out]
      rintro e w2 ⟨hk, rfl⟩
      have hB2 : KB w.heap.size N w w2 := (KB.refl _ _ _ |>.below hB (Nat.le_refl _)).trans hk (by omega)
      have rR2 : Row w2 (w.heap.size + 1 + 1) [.bool false, .int .u64 0, .int .u64 0, .int .u64 0, .int .u64 0] :=
        ⟨Nat.lt_of_lt_of_le lw hk.size, fun i _ hv => ⟨(hk.cell (p := ⟨w.heap.size + 1 + 1, i, none⟩) lw (by simp; omega)).trans (rR.c i hv), (hk.frozen (p := ⟨w.heap.size + 1 + 1, i, none⟩) lw (by simp; omega)).trans (rR.f i hv)⟩⟩
      clear hk rS rL rR rN hB
      have a0 := rR2.c 0 rfl
      have a1 := rR2.c 1 rfl
      have a2 := rR2.c 2 rfl
      have a3 := rR2.c 3 rfl
      have a4 := rR2.c 4 rfl
      have b0 := rR2.f 0 rfl
      have b1 := rR2.f 1 rfl
      have b2 := rR2.f 2 rfl
      have b3 := rR2.f 3 rfl
      have b4 := rR2.f 4 rfl
      go_wp2
      clear a0 a1 a2 a3 a4 b0 b1 b2 b3 b4
      generalize hW : World.setCell _ _ _ = W3
      have rR3 : Row W3 (w.heap.size + 1 + 1) [.bool false, .int .u64 0, .int .u64 0, .int .u64 0, .int .u64 0] := by rw [← hW]; exact rR2.put5 _ _ _ _ _
      replace hB2 : KB w.heap.size N w W3 := by rw [← hW]; exact hB2.put5 (Or.inr (by omega)) _ _ _ _ _
      clear hW rR2
      exact bodyPost_ret (v := .tuple #[iv false 0 0 0 0, .int .i64 110]) (by simp [results, Tryd.results44, go_sem, rR3.c 0 rfl, rR3.c 1 rfl, rR3.c 2 rfl, rR3.c 3 rfl, rR3.c 4 rfl]) rfl ⟨by rw [HA.out], hB2⟩
    | some q =>
      obtain ⟨s, x⟩ := q
      have HA : Hid (afterR timesR neg m s0 x0 n = .tuple #[intv s x, .int .i64 0]) := Lib.hid (by rw [afterR, if_pos he, hq])
      clear he
      have HQ := Lib.hid hq; clear hq
      go_wp2_with fail
      refine (caught_sum _ N (foldR timesR neg m s0 x0 n) w1 (by omega) (prod_run_o A N (w.heap.size + 1) w.heap.size b o n c neg m s0 x0 _ hn ((rL.alloc _).c 0 rfl) ((rS.alloc _).c 0 rfl) (by simp; omega) (by simp; omega) (by omega) nb ?_ (rN.alloc _) Hx.out Hm.out HAd.out)).mono ?_
      · exact hi1.out.below ((Below.refl _ _).alloc (Nat.le_refl _) _) (by omega)
      rw [HQ.out]
      rintro e w2 ⟨hk, rfl, rN2⟩
      have hB2 : KB w.heap.size N w w2 := (KB.refl _ _ _ |>.below hB (Nat.le_refl _)).trans hk (by omega)
      have rR2 : Row w2 (w.heap.size + 1 + 1) [.bool false, .int .u64 0, .int .u64 0, .int .u64 0, .int .u64 0] :=
        ⟨Nat.lt_of_lt_of_le lw hk.size, fun i _ hv => ⟨(hk.cell (p := ⟨w.heap.size + 1 + 1, i, none⟩) lw (by simp; omega)).trans (rR.c i hv), (hk.frozen (p := ⟨w.heap.size + 1 + 1, i, none⟩) lw (by simp; omega)).trans (rR.f i hv)⟩⟩
      clear hk rS rL rR rN hB
      have a0 := rR2.c 0 rfl
      have a1 := rR2.c 1 rfl
      have a2 := rR2.c 2 rfl
      have a3 := rR2.c 3 rfl
      have a4 := rR2.c 4 rfl
      have b0 := rR2.f 0 rfl
      have b1 := rR2.f 1 rfl
      have b2 := rR2.f 2 rfl
      have b3 := rR2.f 3 rfl
      have b4 := rR2.f 4 rfl
      have n0 := rN2.c 0 rfl
      have n1 := rN2.c 1 rfl
      have n2 := rN2.c 2 rfl
      have n3 := rN2.c 3 rfl
      have n4 := rN2.c 4 rfl
      go_wp2
      clear a0 a1 a2 a3 a4 b0 b1 b2 b3 b4 n0 n1 n2 n3 n4
      generalize hW : World.setCell _ _ _ = W3
      have rR3 : Row W3 (w.heap.size + 1 + 1) [.bool s, .int .u64 (x 0), .int .u64 (x 1), .int .u64 (x 2), .int .u64 (x 3)] := by rw [← hW]; exact rR2.put5 _ _ _ _ _
      replace hB2 : KB w.heap.size N w W3 := by rw [← hW]; exact hB2.put5 (Or.inr (by omega)) _ _ _ _ _
      clear hW rR2 rN2
      exact bodyPost_ret (v := .tuple #[intv s x, .int .i64 0]) (by simp [results, Tryd.results44, go_sem, rR3.c 0 rfl, rR3.c 1 rfl, rR3.c 2 rfl, rR3.c 3 rfl, rR3.c 4 rfl]) rfl ⟨by rw [HA.out], hB2⟩
  · have HA : Hid (afterR timesR neg m s0 x0 n = .tuple #[iv false 0 0 0 0, .int .i64 (errAll neg m n)]) := Lib.hid (by rw [afterR, if_neg he])
    have hne : (errAll neg m n != 0) = true := by simpa using he
    clear he rS rL rN
    have a0 := rR.c 0 rfl
    have a1 := rR.c 1 rfl
    have a2 := rR.c 2 rfl
    have a3 := rR.c 3 rfl
    have a4 := rR.c 4 rfl
    have b0 := rR.f 0 rfl
    have b1 := rR.f 1 rfl
    have b2 := rR.f 2 rfl
    have b3 := rR.f 3 rfl
    have b4 := rR.f 4 rfl
    go_wp2
    clear a0 a1 a2 a3 a4 b0 b1 b2 b3 b4
    generalize hW : World.setCell _ _ _ = W3
    have rR3 : Row W3 (w.heap.size + 1 + 1) [.bool false, .int .u64 0, .int .u64 0, .int .u64 0, .int .u64 0] := by rw [← hW]; exact rR.put5 _ _ _ _ _
    have hB2 : KB w.heap.size N w W3 := by rw [← hW]; exact (KB.refl _ _ _ |>.below hB (Nat.le_refl _)).put5 (Or.inr (by omega)) _ _ _ _ _
    clear hW rR
    exact bodyPost_ret (v := .tuple #[iv false 0 0 0 0, .int .i64 (errAll neg m n)]) (by simp [results, Tryd.results44, go_sem, rR3.c 0 rfl, rR3.c 1 rfl, rR3.c 2 rfl, rR3.c 3 rfl, rR3.c 4 rfl]) rfl ⟨by rw [HA.out], hB2⟩
set_option maxHeartbeats 800000 in
theorem mul_o (A : Option Addr) (b o n c : Nat) (neg : Nat → Bool) (m : Nat → Nat → Int) (w : World) (hn : n ≤ 1000000000000000000)
    (lb : b < w.heap.size) (hi : IntsAt w b o n neg m) (hm : ∀ k, BdF (m k)) (hA : 0 < n → A = some ⟨b, o, none⟩) :
    Calls Tryd.prog 23 #[.slice A n c] w fun e w' => e = .returned (afterR timesR neg m false oneF n) ∧ Below w.heap.size w w' := by
  have hmf : ∀ (fn : Fn) (first cap : Array Value) (w : World), (Instr.makeFunc fn first cap).run Tryd.prog w = .ok (.func fn first cap) w := fun _ _ _ _ => rfl
  have Hi := Lib.hid hi; clear hi
  have Hm := Lib.hid hm; clear hm
  obtain ⟨s, x, k, hA⟩ := afterR_form timesR neg m false oneF n
  have HA := Lib.hid hA; clear hA
  have HAd := Lib.hid hA; clear hA
  go_enter Tryd.func23, Tryd.ntmps23
  go_wp2_with fail
  refine (of_one _).mono ?_
  rintro e w1 ⟨rfl, hb1⟩
  have hB : Below w.heap.size w w1 := ((Below.refl w.heap.size w).alloc (Nat.le_refl _) _).trans (hb1.mono (by simp))
  have rR : Row w1 w.heap.size [.bool false, .int .u64 0, .int .u64 0, .int .u64 0, .int .u64 0] := (Row.at rfl _ _).after hb1
  clear hb1
  go_wp2_with fail
  generalize hW : World.alloc _ _ = W2
  have rN : Row W2 w1.heap.size (numv false oneF 0) := by rw [← hW]; exact Row.at rfl _ _
  have lR := rR.lt
  have hB2 : Below w.heap.size w W2 := by rw [← hW]; exact hB.alloc hB.size _
  have rR2 : Row W2 w.heap.size [.bool false, .int .u64 0, .int .u64 0, .int .u64 0, .int .u64 0] := by rw [← hW]; exact rR.alloc _
  clear hW rR
  have hsz := hB.size
  refine (after_prod_o A w1.heap.size b o n c neg m false oneF W2 hn rN.lt (by have := hB2.size; omega) (by omega) (Hi.out.below hB2 lb) rN one_bd Hm.out HAd.out).mono ?_
  rintro e w3 ⟨rfl, hk⟩
  rw [HA.out]
  have rR3 : Row w3 w.heap.size [.bool false, .int .u64 0, .int .u64 0, .int .u64 0, .int .u64 0] :=
    ⟨Nat.lt_of_lt_of_le rR2.lt hk.size, fun i _ hv => ⟨(hk.cell (p := ⟨w.heap.size, i, none⟩) rR2.lt (by simp; omega)).trans (rR2.c i hv), (hk.frozen (p := ⟨w.heap.size, i, none⟩) rR2.lt (by simp; omega)).trans (rR2.f i hv)⟩⟩
  have hB3 : Below w.heap.size w w3 := hB2.trans ((hk.toBelow (by have := rN.lt; omega)).mono hsz)
  clear hk rR2 hB2 rN hB
  have a0 := rR3.c 0 rfl
  have a1 := rR3.c 1 rfl
  have a2 := rR3.c 2 rfl
  have a3 := rR3.c 3 rfl
  have a4 := rR3.c 4 rfl
  have b0 := rR3.f 0 rfl
  have b1 := rR3.f 1 rfl
  have b2 := rR3.f 2 rfl
  have b3 := rR3.f 3 rfl
  have b4 := rR3.f 4 rfl
  go_wp2
  clear a0 a1 a2 a3 a4 b0 b1 b2 b3 b4
  generalize hW : World.setCell _ _ _ = W4
  have rR4 : Row W4 w.heap.size [.bool s, .int .u64 (x 0), .int .u64 (x 1), .int .u64 (x 2), .int .u64 (x 3)] := by rw [← hW]; exact rR3.put5 _ _ _ _ _
  replace hB3 : Below w.heap.size w W4 := by rw [← hW]; exact below_put5 hB3 (Nat.le_refl _) _ _ _ _ _
  clear hW rR3
  exact bodyPost_ret (v := .tuple #[intv s x, .int .i64 k]) (by simp [results, Tryd.results23, go_sem, rR4.c 0 rfl, rR4.c 1 rfl, rR4.c 2 rfl, rR4.c 3 rfl, rR4.c 4 rfl]) rfl ⟨by rw [HA.out], hB3⟩
end Go.Proofs.YtmmndklddkmgmaaDoor
