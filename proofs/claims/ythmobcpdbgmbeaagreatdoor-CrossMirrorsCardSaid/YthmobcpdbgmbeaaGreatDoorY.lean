/- Contracts of the document's answers for layer 1: Right, From. -/
import Derived.Test.YthmobcpdbgmbeaaGreatDoorBase
import Derived.BigQuiet
import Derived.IntWalk
import Derived.WalkKit
namespace Go.Proofs.YthmobcpdbgmbeaaGreatDoor
open Go.RowKit
def rightB (s : Bool) (a b c d : Int) : Bool := !(s && zeroB a b c d)
/-- How many digits are left without the noughts behind. -/
def cutN (x : Nat → Int) : Nat → Nat
  | 0 => 0
  | k + 1 => if x k = 0 then cutN x k else k + 1
set_option maxHeartbeats 400000 in
theorem cut_any (x : Nat → Int) (n b o c : Nat) (w : World) (hn : n ≤ 1000000) (hc : n ≤ c)
    (hx : ∀ i, i < n → w.cell? ⟨b, o + i, none⟩ = some (.int .i64 (x i))) :
    Calls Tryz.prog 101 #[.slice (some ⟨b, o, none⟩) n c] w fun e w' => e = .returned (.slice (some ⟨b, o, none⟩) (cutN x n) c) ∧ w = w' := by
  go_enter Tryz.func101, Tryz.ntmps101
  have Hx := Lib.hid hx; clear hx
  go_wp2
  go_loopw [0] (fun v wr => ∃ k : Nat, k ≤ n ∧ v = .slice (some ⟨b, o, none⟩) k c ∧ Hid (cutN x n = cutN x k) ∧ wr = w) (fun v _ => match v with | .slice _ k _ => k | _ => 0)
  case atStart => exact ⟨n, Nat.le_refl _, rfl, Lib.hid rfl, rfl⟩
  case round =>
    obtain ⟨k, hk, rfl, HO, rfl⟩ := hrel
    cases k with
    | zero =>
      go_wp2
      go_ret
      exact ⟨by rw [HO.out]; rfl, rfl⟩
    | succ k =>
      have hcx := Hx.out k (by omega)
      have e1 : ((k + 1 : Nat) : Int) - 1 = (k : Int) := by omega
      have e2 : IntKind.i64.wrap (((k + 1 : Nat) : Int) - 1) = (k : Int) := by rw [e1]; exact IntWalk.i64_in _ (by omega)
      have hk1 : (k : Int) < (k + 1 : Nat) := by omega
      have hk0 : (0 : Int) ≤ k := by omega
      have hkp : (0 : Int) < (k + 1 : Nat) := by omega
      by_cases hc0 : x k = 0
      · have HO' : Hid (cutN x n = cutN x k) := by rw [HO.out]; exact Lib.hid (by rw [cutN, if_pos hc0])
        have hb : (x k == 0) = true := by simpa using hc0
        clear HO hc0
        go_wp2
        exact ⟨⟨k, by omega, rfl, HO', trivial⟩, Nat.lt_succ_self k⟩
      · have HO' : Hid (cutN x n = k + 1) := by rw [HO.out]; exact Lib.hid (by rw [cutN, if_neg hc0])
        have hb : (x k == 0) = false := by simpa using hc0
        clear HO hc0
        go_wp2
        go_ret
        exact ⟨by rw [HO'.out]; rfl, rfl⟩
end Go.Proofs.YthmobcpdbgmbeaaGreatDoor
namespace Go.Proofs.YthmobcpdbgmbeaaGreatDoor
open Go.RowKit
set_option maxHeartbeats 400000 in
theorem big_of (s : Bool) (x : Nat → Int) (n b o c : Nat) (w : World) (hn : n ≤ 1000000) (hc : n ≤ c)
    (hb : b < w.heap.size) (hx : ∀ i, i < n → w.cell? ⟨b, o + i, none⟩ = some (.int .i64 (x i))) :
    Calls Tryz.prog 63 #[.bool s, .slice (some ⟨b, o, none⟩) n c] w fun e w' => e = .returned (.agg #[.bool (s && decide (0 < cutN x n)), .slice (some ⟨b, o, none⟩) (cutN x n) c]) ∧ Below w.heap.size w w' := by
  have HC := Lib.hid (fun W (hW : Below w.heap.size w W) => cut_any x n b o c W hn hc (fun i hi => (hW.cell (p := ⟨b, o + i, none⟩) hb).trans (hx i hi)))
  clear hx
  generalize cutN x n = k at HC ⊢
  go_enter Tryz.func63, Tryz.ntmps63
  go_wp2_with fail
  have hB : Below w.heap.size w (w.alloc (Obj.cells #[.bool false, .slice none 0 0] 47)) := (Below.refl w.heap.size w).alloc (Nat.le_refl _) _
  refine (HC.out _ hB).mono ?_
  rintro e w1 ⟨rfl, rfl⟩
  clear HC
  have rB : Row (w.alloc (Obj.cells #[.bool false, .slice none 0 0] 47)) w.heap.size [.bool false, .slice none 0 0] := Row.at rfl _ _
  generalize (w.alloc (Obj.cells #[.bool false, .slice none 0 0] 47)) = W1 at hB rB ⊢
  have c0 := rB.c 0 rfl
  have c1 := rB.c 1 rfl
  have f0 := rB.f 0 rfl
  have f1 := rB.f 1 rfl
  cases s
  · go_wp2_with fail
    generalize hW2 : World.setCell _ _ _ = W2
    have rR : Row W2 w.heap.size [.bool false, .slice (some ⟨b, o, none⟩) k c] := by rw [← hW2]; exact (rB.set 0 (by simp) _).set 1 (by simp) _
    have hB2 : Below w.heap.size w W2 := by rw [← hW2]; exact below_put1 (below_put1 hB (Nat.le_refl _) 0 _) (Nat.le_refl _) 1 _
    exact bodyPost_ret (v := .agg #[.bool false, .slice (some ⟨b, o, none⟩) k c]) (by simp [results, Tryz.results63, go_sem, rR.c 0 rfl, rR.c 1 rfl]) rfl ⟨by simp, hB2⟩
  · by_cases hk : 0 < k
    · have hki : (0 : Int) < k := by omega
      go_wp2_with fail
      generalize hW2 : World.setCell _ _ _ = W2
      have rR : Row W2 w.heap.size [.bool true, .slice (some ⟨b, o, none⟩) k c] := by rw [← hW2]; exact (rB.set 0 (by simp) _).set 1 (by simp) _
      have hB2 : Below w.heap.size w W2 := by rw [← hW2]; exact below_put1 (below_put1 hB (Nat.le_refl _) 0 _) (Nat.le_refl _) 1 _
      exact bodyPost_ret (v := .agg #[.bool true, .slice (some ⟨b, o, none⟩) k c]) (by simp [results, Tryz.results63, go_sem, rR.c 0 rfl, rR.c 1 rfl]) rfl ⟨by simp [hk], hB2⟩
    · obtain rfl : k = 0 := by omega
      go_wp2_with fail
      generalize hW2 : World.setCell _ _ _ = W2
      have rR : Row W2 w.heap.size [.bool false, .slice (some ⟨b, o, none⟩) 0 c] := by rw [← hW2]; exact (rB.set 0 (by simp) _).set 1 (by simp) _
      have hB2 : Below w.heap.size w W2 := by rw [← hW2]; exact below_put1 (below_put1 hB (Nat.le_refl _) 0 _) (Nat.le_refl _) 1 _
      exact bodyPost_ret (v := .agg #[.bool false, .slice (some ⟨b, o, none⟩) 0 c]) (by simp [results, Tryz.results63, go_sem, rR.c 0 rfl, rR.c 1 rfl]) rfl ⟨by simp, hB2⟩
theorem info64 : (Tryz.prog.info? 2).map (fun i => (i.zero, i.size, i.bytes)) = some (some (.int .i64 0), 1, 8) := by kernel_rfl
/-- Digit k of a word. -/
def dig (x : Int) (k : Nat) : Int := x / 65536 ^ k % 65536
def digL (m : Nat → Int) : Nat → List Value
  | 0 => []
  | k + 1 => digL m k ++ [.int .i64 (dig (m k) 0)] ++ [.int .i64 (dig (m k) 1)] ++ [.int .i64 (dig (m k) 2)] ++ [.int .i64 (dig (m k) 3)]
/-- What stands while From gathers digits: n of them, held by v. -/
def FrS (w : World) (vs : List Value) (n : Nat) (xs : List Value) (v : Value) (wr : World) : Prop :=
  wr.ownsRow (w.heap.size + 2) 2 1 v n xs ∧ Row wr w.heap.size vs ∧ Row wr (w.heap.size + 1) [.bool false, .slice none 0 0] ∧ Below w.heap.size w wr ∧ w.heap.size + 2 ≤ wr.heap.size
theorem Row.grown {wr w1 : World} {b : Nat} {vs : List Value} {row : Option Nat} (h : Row wr b vs) (hg : wr.grownBy w1 row) (hne : some b ≠ row) : Row w1 b vs :=
  ⟨Nat.lt_of_lt_of_le h.1 hg.size, fun i _ hv => ⟨(World.cell?_of_block (hg.block b h.1 hne)).trans (h.c i hv), (World.frozen?_of_block (a := ⟨b, i, none⟩) (hg.block b h.1 hne)).trans (h.f i hv)⟩⟩
theorem FrS.step {w wr w1 : World} {vs xs : List Value} {n : Nat} {v v' d : Value} {o : Obj} (h : FrS w vs n xs v wr)
    (hown : w1.ownsRow (w.heap.size + 2) 2 1 v' (n + 1) (xs ++ [d])) (hg : (wr.alloc o).grownBy w1 v.ownBlock) : FrS w vs (n + 1) (xs ++ [d]) v' w1 := by
  obtain ⟨h1, h2, h3, h4, h5⟩ := h
  have hne : ∀ j, j < w.heap.size + 2 → some j ≠ v.ownBlock := fun j hj e => by have := h1.lt j e.symm; omega
  exact ⟨hown, (h2.alloc o).grown hg (hne _ (by omega)), (h3.alloc o).grown hg (hne _ (by omega)), (h4.alloc (by omega) o).grown hg (by simp; omega) (fun j hj => by have := (h1.lt j hj).1; omega),
    Nat.le_trans h5 (Nat.le_trans (by simp) hg.size)⟩
theorem FrS.own {w wr : World} {vs xs : List Value} {n : Nat} {v : Value} (h : FrS w vs n xs v wr) : wr.ownsRow (w.heap.size + 2) 2 1 v n xs := h.1
theorem FrS.word {w wr : World} {s : Value} {a0 a1 a2 a3 : Int} {xs : List Value} {n : Nat} {v : Value} (h : FrS w [s, .int .u64 a0, .int .u64 a1, .int .u64 a2, .int .u64 a3] n xs v wr) (k : Nat) (hk : k < 4) :
    wr.cell? ⟨w.heap.size, 1 + k, none⟩ = some (.int .u64 (row4 a0 a1 a2 a3 k)) := by
  have r := h.2.1
  match k, hk with
  | 0, _ => exact r.c 1 rfl
  | 1, _ => exact r.c 2 rfl
  | 2, _ => exact r.c 3 rfl
  | 3, _ => exact r.c 4 rfl
/-- Digit i of four words. -/
def digF (m : Nat → Int) (i : Nat) : Int := dig (m (i / 4)) (i % 4)
theorem digL_at (m : Nat → Int) (i : Nat) (hi : i < 16) : (digL m 4)[i]? = some (.int .i64 (digF m i)) := by
  have h : i = 0 ∨ i = 1 ∨ i = 2 ∨ i = 3 ∨ i = 4 ∨ i = 5 ∨ i = 6 ∨ i = 7 ∨ i = 8 ∨ i = 9 ∨ i = 10 ∨ i = 11 ∨ i = 12 ∨ i = 13 ∨ i = 14 ∨ i = 15 := by omega
  rcases h with rfl|rfl|rfl|rfl|rfl|rfl|rfl|rfl|rfl|rfl|rfl|rfl|rfl|rfl|rfl|rfl <;> simp [digL, digF]
theorem FrS.done {w wr : World} {vs : List Value} {m : Nat → Int} {v : Value} (h : FrS w vs (4 * 4) (digL m 4) v wr) :
    ∃ b c, v = .slice (some ⟨b, 0, none⟩) 16 c ∧ 16 ≤ c ∧ w.heap.size + 2 ≤ b ∧ b < wr.heap.size ∧ ∀ i, i < 16 → wr.cell? ⟨b, 0 + i, none⟩ = some (.int .i64 (digF m i)) := by
  obtain ⟨_, ho⟩ := h.1
  rcases ho with ⟨_, h0⟩ | ⟨g, cap, cur, hv, hbs, hg, hn, _, hs, ht⟩
  · omega
  · refine ⟨g, cap, hv, hn, hbs, ?_, fun i hi => ?_⟩
    · exact (Array.getElem?_eq_some_iff.mp hg).1
    · have h1 := digL_at m i hi
      rw [← ht, List.getElem?_take] at h1
      rw [if_pos (by omega)] at h1
      simp [World.cell?, hg]
      simpa using h1
end Go.Proofs.YthmobcpdbgmbeaaGreatDoor
namespace Go.Proofs.YthmobcpdbgmbeaaGreatDoor
open Go.RowKit
end Go.Proofs.YthmobcpdbgmbeaaGreatDoor
namespace Go.Proofs.YthmobcpdbgmbeaaGreatDoor
open Go.RowKit
end Go.Proofs.YthmobcpdbgmbeaaGreatDoor
