/- Contracts of the document's answers for layer 1: Right, From. -/
import Derived.Test.YtpbdhhdmnnelhaaDoorBase
import Derived.BigQuiet
import Derived.IntWalk
import Derived.WalkKit
namespace Go.Proofs.YtpbdhhdmnnelhaaDoor
open Go.RowKit

def rightB (s : Bool) (a b c d : Int) : Bool := !(s && zeroB a b c d)

set_option maxHeartbeats 400000 in
theorem right_any (s : Bool) (a0 a1 a2 a3 : Int) (w : World) :
    Calls Tryd.prog 15 #[iv s a0 a1 a2 a3] w fun e w' => e = .returned (.bool (rightB s a0 a1 a2 a3)) ∧ Below w.heap.size w w' := by
  have hq : ∀ w, (binOp .neq 23 (wv a0 a1 a2 a3) (wv 0 0 0 0)).run Tryd.prog w = .ok (.bool (!zeroB a0 a1 a2 a3)) w := fun w => neqArr 23 Tryd.underlying23 a0 a1 a2 a3 0 0 0 0 w
  cases s
  · go_enter Tryd.func15, Tryd.ntmps15
    go_wp2_with fail
    go_ret
    exact ⟨rfl, (Below.refl w.heap.size w).alloc (Nat.le_refl _) _⟩
  · go_enter Tryd.func15, Tryd.ntmps15
    go_wp2_with fail
    go_ret
    exact ⟨by rw [rightB, Bool.true_and]; rfl, (Below.refl w.heap.size w).alloc (Nat.le_refl _) _⟩

/-- How many digits are left without the noughts behind. -/
def cutN (x : Nat → Int) : Nat → Nat
  | 0 => 0
  | k + 1 => if x k = 0 then cutN x k else k + 1

set_option maxHeartbeats 400000 in
theorem cut_any (x : Nat → Int) (n b o c : Nat) (w : World) (hn : n ≤ 1000000) (hc : n ≤ c)
    (hx : ∀ i, i < n → w.cell? ⟨b, o + i, none⟩ = some (.int .i64 (x i))) :
    Calls Tryd.prog 55 #[.slice (some ⟨b, o, none⟩) n c] w fun e w' => e = .returned (.slice (some ⟨b, o, none⟩) (cutN x n) c) ∧ w = w' := by
  go_enter Tryd.func55, Tryd.ntmps55
  have Hx := Lib.hid hx; clear hx
  go_wp2
  go_loopw [0] (fun v wr => ∃ k : Nat, k ≤ n ∧ v = .slice (some ⟨b, o, none⟩) k c ∧ Hid (cutN x n = cutN x k) ∧ wr = w) (fun v _ => match v with | .slice _ k _ => k | _ => 0)
  case atStart => exact ⟨n, Nat.le_refl _, rfl, Lib.hid rfl, rfl⟩
  case round =>
    obtain ⟨k, hk, rfl, HO, rfl⟩ := hrel
    cases k with
    | zero =>
      go_wp2
      go_ret
      exact ⟨by rw [HO.out]; rfl, rfl⟩
    | succ k =>
      have hcx := Hx.out k (by omega)
      have e1 : ((k + 1 : Nat) : Int) - 1 = (k : Int) := by omega
      have e2 : IntKind.i64.wrap (((k + 1 : Nat) : Int) - 1) = (k : Int) := by rw [e1]; exact IntWalk.i64_in _ (by omega)
      have hk1 : (k : Int) < (k + 1 : Nat) := by omega
      have hk0 : (0 : Int) ≤ k := by omega
      have hkp : (0 : Int) < (k + 1 : Nat) := by omega
      by_cases hc0 : x k = 0
      · have HO' : Hid (cutN x n = cutN x k) := by rw [HO.out]; exact Lib.hid (by rw [cutN, if_pos hc0])
        have hb : (x k == 0) = true := by simpa using hc0
        clear HO hc0
        go_wp2
        exact ⟨⟨k, by omega, rfl, HO', trivial⟩, Nat.lt_succ_self k⟩
      · have HO' : Hid (cutN x n = k + 1) := by rw [HO.out]; exact Lib.hid (by rw [cutN, if_neg hc0])
        have hb : (x k == 0) = false := by simpa using hc0
        clear HO hc0
        go_wp2
        go_ret
        exact ⟨by rw [HO'.out]; rfl, rfl⟩

/-- cut of a nil slice. -/
theorem cut_nil (w : World) : Calls Tryd.prog 55 #[.slice none 0 0] w fun e w' => e = .returned (.slice none 0 0) ∧ w = w' := by
  go_enter Tryd.func55, Tryd.ntmps55
  go_wp2
  refine wp_loop_rounds 1 ?_
  iterate 1 (rw [rounds_succ]; go_wp2)
  go_ret
  exact ⟨rfl, rfl⟩
end Go.Proofs.YtpbdhhdmnnelhaaDoor

/- Contract of the document's From (layer 1): an Int's digits to the base 2^16. -/
namespace Go.Proofs.YtpbdhhdmnnelhaaDoor
open Go.RowKit

set_option maxHeartbeats 400000 in
theorem big_of (s : Bool) (x : Nat → Int) (n b o c : Nat) (w : World) (hn : n ≤ 1000000) (hc : n ≤ c)
    (hb : b < w.heap.size) (hx : ∀ i, i < n → w.cell? ⟨b, o + i, none⟩ = some (.int .i64 (x i))) :
    Calls Tryd.prog 43 #[.bool s, .slice (some ⟨b, o, none⟩) n c] w fun e w' => e = .returned (.agg #[.bool (s && decide (0 < cutN x n)), .slice (some ⟨b, o, none⟩) (cutN x n) c]) ∧ Below w.heap.size w w' := by
  have HC := Lib.hid (fun W (hW : Below w.heap.size w W) => cut_any x n b o c W hn hc (fun i hi => (hW.cell (p := ⟨b, o + i, none⟩) hb).trans (hx i hi)))
  clear hx
  generalize cutN x n = k at HC ⊢
  go_enter Tryd.func43, Tryd.ntmps43
  go_wp2_with fail
  have hB : Below w.heap.size w (w.alloc (Obj.cells #[.bool false, .slice none 0 0] 30)) := (Below.refl w.heap.size w).alloc (Nat.le_refl _) _
  refine (HC.out _ hB).mono ?_
  rintro e w1 ⟨rfl, rfl⟩
  clear HC
  have rB : Row (w.alloc (Obj.cells #[.bool false, .slice none 0 0] 30)) w.heap.size [.bool false, .slice none 0 0] := Row.at rfl _ _
  generalize (w.alloc (Obj.cells #[.bool false, .slice none 0 0] 30)) = W1 at hB rB ⊢
  have c0 := rB.c 0 rfl
  have c1 := rB.c 1 rfl
  have f0 := rB.f 0 rfl
  have f1 := rB.f 1 rfl
  cases s
  · go_wp2_with fail
    generalize hW2 : World.setCell _ _ _ = W2
    have rR : Row W2 w.heap.size [.bool false, .slice (some ⟨b, o, none⟩) k c] := by rw [← hW2]; exact (rB.set 0 (by simp) _).set 1 (by simp) _
    have hB2 : Below w.heap.size w W2 := by rw [← hW2]; exact below_put1 (below_put1 hB (Nat.le_refl _) 0 _) (Nat.le_refl _) 1 _
    exact bodyPost_ret (v := .agg #[.bool false, .slice (some ⟨b, o, none⟩) k c]) (by simp [results, Tryd.results43, go_sem, rR.c 0 rfl, rR.c 1 rfl]) rfl ⟨by simp, hB2⟩
  · by_cases hk : 0 < k
    · have hki : (0 : Int) < k := by omega
      go_wp2_with fail
      generalize hW2 : World.setCell _ _ _ = W2
      have rR : Row W2 w.heap.size [.bool true, .slice (some ⟨b, o, none⟩) k c] := by rw [← hW2]; exact (rB.set 0 (by simp) _).set 1 (by simp) _
      have hB2 : Below w.heap.size w W2 := by rw [← hW2]; exact below_put1 (below_put1 hB (Nat.le_refl _) 0 _) (Nat.le_refl _) 1 _
      exact bodyPost_ret (v := .agg #[.bool true, .slice (some ⟨b, o, none⟩) k c]) (by simp [results, Tryd.results43, go_sem, rR.c 0 rfl, rR.c 1 rfl]) rfl ⟨by simp [hk], hB2⟩
    · obtain rfl : k = 0 := by omega
      go_wp2_with fail
      generalize hW2 : World.setCell _ _ _ = W2
      have rR : Row W2 w.heap.size [.bool false, .slice (some ⟨b, o, none⟩) 0 c] := by rw [← hW2]; exact (rB.set 0 (by simp) _).set 1 (by simp) _
      have hB2 : Below w.heap.size w W2 := by rw [← hW2]; exact below_put1 (below_put1 hB (Nat.le_refl _) 0 _) (Nat.le_refl _) 1 _
      exact bodyPost_ret (v := .agg #[.bool false, .slice (some ⟨b, o, none⟩) 0 c]) (by simp [results, Tryd.results43, go_sem, rR.c 0 rfl, rR.c 1 rfl]) rfl ⟨by simp, hB2⟩

theorem info64 : (Tryd.prog.info? 2).map (fun i => (i.zero, i.size, i.bytes)) = some (some (.int .i64 0), 1, 8) := by kernel_rfl

/-- Digit k of a word. -/
def dig (x : Int) (k : Nat) : Int := x / 65536 ^ k % 65536
def digL (m : Nat → Int) : Nat → List Value
  | 0 => []
  | k + 1 => digL m k ++ [.int .i64 (dig (m k) 0)] ++ [.int .i64 (dig (m k) 1)] ++ [.int .i64 (dig (m k) 2)] ++ [.int .i64 (dig (m k) 3)]

theorem dig_tmod (x : Int) (k : Nat) (hx : 0 ≤ x) : (x / 65536 ^ k).tmod 65536 = dig x k ∧ wrap64 (dig x k) = dig x k := by
  have h1 : 0 ≤ x / 65536 ^ k := Int.ediv_nonneg hx (Int.pow_nonneg (by decide))
  refine ⟨Int.tmod_eq_emod_of_nonneg h1, ?_⟩
  have h2 : 0 ≤ dig x k := Int.emod_nonneg _ (by decide)
  have h3 : dig x k < 65536 := Int.emod_lt_of_pos _ (by decide)
  simp only [wrap64]; omega
/-- What stands while From gathers digits: n of them, held by v. -/
def FrS (w : World) (vs : List Value) (n : Nat) (xs : List Value) (v : Value) (wr : World) : Prop :=
  wr.ownsRow (w.heap.size + 2) 2 1 v n xs ∧ Row wr w.heap.size vs ∧ Row wr (w.heap.size + 1) [.bool false, .slice none 0 0] ∧ Below w.heap.size w wr ∧ w.heap.size + 2 ≤ wr.heap.size

theorem Row.grown {wr w1 : World} {b : Nat} {vs : List Value} {row : Option Nat} (h : Row wr b vs) (hg : wr.grownBy w1 row) (hne : some b ≠ row) : Row w1 b vs :=
  ⟨Nat.lt_of_lt_of_le h.1 hg.size, fun i _ hv => ⟨(World.cell?_of_block (hg.block b h.1 hne)).trans (h.c i hv), (World.frozen?_of_block (a := ⟨b, i, none⟩) (hg.block b h.1 hne)).trans (h.f i hv)⟩⟩

theorem FrS.step {w wr w1 : World} {vs xs : List Value} {n : Nat} {v v' d : Value} {o : Obj} (h : FrS w vs n xs v wr)
    (hown : w1.ownsRow (w.heap.size + 2) 2 1 v' (n + 1) (xs ++ [d])) (hg : (wr.alloc o).grownBy w1 v.ownBlock) : FrS w vs (n + 1) (xs ++ [d]) v' w1 := by
  obtain ⟨h1, h2, h3, h4, h5⟩ := h
  have hne : ∀ j, j < w.heap.size + 2 → some j ≠ v.ownBlock := fun j hj e => by have := h1.lt j e.symm; omega
  exact ⟨hown, (h2.alloc o).grown hg (hne _ (by omega)), (h3.alloc o).grown hg (hne _ (by omega)), (h4.alloc (by omega) o).grown hg (by simp; omega) (fun j hj => by have := (h1.lt j hj).1; omega),
    Nat.le_trans h5 (Nat.le_trans (by simp) hg.size)⟩
theorem FrS.ne {w wr : World} {vs xs : List Value} {n : Nat} {v : Value} (h : FrS w vs n xs v wr) {j : Nat} (hj : j < w.heap.size + 2) : some j ≠ v.ownBlock := fun e => by have := h.1.lt j e.symm; omega
theorem FrS.own {w wr : World} {vs xs : List Value} {n : Nat} {v : Value} (h : FrS w vs n xs v wr) : wr.ownsRow (w.heap.size + 2) 2 1 v n xs := h.1

theorem FrS.word {w wr : World} {s : Value} {a0 a1 a2 a3 : Int} {xs : List Value} {n : Nat} {v : Value} (h : FrS w [s, .int .u64 a0, .int .u64 a1, .int .u64 a2, .int .u64 a3] n xs v wr) (k : Nat) (hk : k < 4) :
    wr.cell? ⟨w.heap.size, 1 + k, none⟩ = some (.int .u64 (row4 a0 a1 a2 a3 k)) := by
  have r := h.2.1
  match k, hk with
  | 0, _ => exact r.c 1 rfl
  | 1, _ => exact r.c 2 rfl
  | 2, _ => exact r.c 3 rfl
  | 3, _ => exact r.c 4 rfl

/-- Digit i of four words. -/
def digF (m : Nat → Int) (i : Nat) : Int := dig (m (i / 4)) (i % 4)
theorem digL_at (m : Nat → Int) (i : Nat) (hi : i < 16) : (digL m 4)[i]? = some (.int .i64 (digF m i)) := by
  have h : i = 0 ∨ i = 1 ∨ i = 2 ∨ i = 3 ∨ i = 4 ∨ i = 5 ∨ i = 6 ∨ i = 7 ∨ i = 8 ∨ i = 9 ∨ i = 10 ∨ i = 11 ∨ i = 12 ∨ i = 13 ∨ i = 14 ∨ i = 15 := by omega
  rcases h with rfl|rfl|rfl|rfl|rfl|rfl|rfl|rfl|rfl|rfl|rfl|rfl|rfl|rfl|rfl|rfl <;> simp [digL, digF]
theorem FrS.done {w wr : World} {vs : List Value} {m : Nat → Int} {v : Value} (h : FrS w vs (4 * 4) (digL m 4) v wr) :
    ∃ b c, v = .slice (some ⟨b, 0, none⟩) 16 c ∧ 16 ≤ c ∧ w.heap.size + 2 ≤ b ∧ b < wr.heap.size ∧ ∀ i, i < 16 → wr.cell? ⟨b, 0 + i, none⟩ = some (.int .i64 (digF m i)) := by
  obtain ⟨_, ho⟩ := h.1
  rcases ho with ⟨_, h0⟩ | ⟨g, cap, cur, hv, hbs, hg, hn, _, hs, ht⟩
  · omega
  · refine ⟨g, cap, hv, hn, hbs, ?_, fun i hi => ?_⟩
    · exact (Array.getElem?_eq_some_iff.mp hg).1
    · have h1 := digL_at m i hi
      rw [← ht, List.getElem?_take] at h1
      rw [if_pos (by omega)] at h1
      simp [World.cell?, hg]
      simpa using h1

/-- A number of the document, as it lies in memory: sign, digits without the noughts behind. -/
def BigAt (w : World) (s : Bool) (x : Nat → Int) (n : Nat) (v : Value) : Prop :=
  ∃ b c, v = .agg #[.bool (s && decide (0 < cutN x n)), .slice (some ⟨b, 0, none⟩) (cutN x n) c] ∧ b < w.heap.size ∧ (∀ i, i < n → w.cell? ⟨b, i, none⟩ = some (.int .i64 (x i))) ∧ n ≤ c

set_option maxRecDepth 100000 in
set_option maxHeartbeats 1000000 in
theorem from_any (s : Bool) (a0 a1 a2 a3 : Int) (w : World) (hb4 : ∀ k, 0 ≤ row4 a0 a1 a2 a3 k ∧ row4 a0 a1 a2 a3 k < 18446744073709551616) :
    Calls Tryd.prog 17 #[iv s a0 a1 a2 a3] w fun e w' => (∃ v, e = .returned v ∧ BigAt w' s (digF (row4 a0 a1 a2 a3)) 16 v) ∧ Below w.heap.size w w' := by
  obtain ⟨i0, hi, hz0, hz1, hz2⟩ := info_parts info64
  have Hb := Lib.hid hb4
  clear hb4
  go_enter Tryd.func17, Tryd.ntmps17
  go_wp2_with fail
  generalize hW : World.alloc _ _ = W0
  have hS : FrS w [.bool s, .int .u64 a0, .int .u64 a1, .int .u64 a2, .int .u64 a3] 0 [] (.slice none 0 0) W0 := by
    rw [← hW]
    exact ⟨World.ownsRow_nil _ _ _ _, (Row.at rfl _ _).alloc _, Row.at (by simp) _ _, ((Below.refl w.heap.size w).alloc (Nat.le_refl _) _).alloc (by simp) _, by simp⟩
  clear hW
  have HS := Lib.hid hS
  clear hS
  go_loopw [3, 4] (fun v i wr => ∃ k : Nat, k ≤ 4 ∧ i = .int .i64 k ∧ Hid (FrS w [.bool s, .int .u64 a0, .int .u64 a1, .int .u64 a2, .int .u64 a3] (4 * k) (digL (row4 a0 a1 a2 a3) k) v wr)) (fun _ i _ => 4 - (intOf i).toNat)
  case atStart => exact ⟨0, by omega, rfl, HS⟩
  case round =>
    obtain ⟨k, hk, rfl, HK⟩ := hrel
    by_cases hk4 : k = 4
    · subst hk4
      have c0 := HK.out.2.1.c 0 rfl
      obtain ⟨b, c, rfl, hc, hbb0, hb, hx⟩ := HK.out.done
      have hB := HK.out.2.2.2.1
      have hsz := HK.out.2.2.2.2
      have rB := HK.out.2.2.1
      clear HK HS
      have HX := Lib.hid hx
      clear hx
      go_wp2_with fail
      refine (big_of s (digF (row4 a0 a1 a2 a3)) 16 b 0 c wr (by omega) hc hb HX.out).mono ?_
      rintro e w1 ⟨rfl, hb1⟩
      replace rB := rB.after hb1
      have c1 := rB.c 0 rfl
      have c2 := rB.c 1 rfl
      have f1 := rB.f 0 rfl
      have f2 := rB.f 1 rfl
      have hbb : b < w1.heap.size := Nat.lt_of_lt_of_le hb hb1.size
      have HX1 : Hid (∀ i, i < 16 → w1.cell? ⟨b, i, none⟩ = some (.int .i64 (digF (row4 a0 a1 a2 a3) i))) := Lib.hid (fun i hi => by have := HX.out i hi; rw [Nat.zero_add] at this; exact (hb1.cell (p := ⟨b, i, none⟩) hb).trans this)
      replace hB := hB.trans (hb1.mono (by omega))
      clear hb1 HX hb
      generalize hbs : (s && decide (0 < cutN (digF (row4 a0 a1 a2 a3)) 16)) = sg
      generalize hkk : cutN (digF (row4 a0 a1 a2 a3)) 16 = kk at hbs
      go_wp2_with fail
      clear c1 c2 f1 f2
      generalize hW2 : World.setCell _ _ _ = W2
      have rR : Row W2 (w.heap.size + 1) [.bool sg, .slice (some ⟨b, 0, none⟩) kk c] := by rw [← hW2]; exact (rB.set 0 (by simp) _).set 1 (by simp) _
      have hB2 : Below w.heap.size w W2 := by rw [← hW2]; exact below_put1 (below_put1 hB (Nat.le_succ _) 0 _) (Nat.le_succ _) 1 _
      have hb2 : b < W2.heap.size := by rw [← hW2]; simpa [World.setCell] using hbb
      have hx2 : ∀ i, i < 16 → W2.cell? ⟨b, i, none⟩ = some (.int .i64 (digF (row4 a0 a1 a2 a3) i)) := fun i hi => by
        rw [← hW2, World.cell?_setCell_other _ _ _ _ (fun e => by have := congrArg Addr.block e; simp at this; omega), World.cell?_setCell_other _ _ _ _ (fun e => by have := congrArg Addr.block e; simp at this; omega)]
        exact HX1.out i hi
      exact bodyPost_ret (v := .agg #[.bool sg, .slice (some ⟨b, 0, none⟩) kk c]) (by simp [results, Tryd.results17, go_sem, rR.c 0 rfl, rR.c 1 rfl]) rfl ⟨⟨_, rfl, b, c, by rw [hkk, hbs], hb2, hx2, hc⟩, hB2⟩
    · have hcx := HK.out.word k (by omega)
      have hlt : (k : Int) < 4 := by omega
      have hge : (0 : Int) ≤ k := by omega
      have hx0 : 0 ≤ row4 a0 a1 a2 a3 k := (Hb.out k).1
      have hx1 : row4 a0 a1 a2 a3 k < 18446744073709551616 := (Hb.out k).2
      have hD := Lib.hid (show digL (row4 a0 a1 a2 a3) (k + 1) = digL (row4 a0 a1 a2 a3) k ++ [.int .i64 (dig (row4 a0 a1 a2 a3 k) 0)] ++ [.int .i64 (dig (row4 a0 a1 a2 a3 k) 1)] ++ [.int .i64 (dig (row4 a0 a1 a2 a3 k) 2)] ++ [.int .i64 (dig (row4 a0 a1 a2 a3 k) 3)] from rfl)
      obtain ⟨t0, u0⟩ := dig_tmod (row4 a0 a1 a2 a3 k) 0 hx0
      obtain ⟨t1, u1⟩ := dig_tmod (row4 a0 a1 a2 a3 k) 1 hx0
      obtain ⟨t2, u2⟩ := dig_tmod (row4 a0 a1 a2 a3 k) 2 hx0
      obtain ⟨t3, u3⟩ := dig_tmod (row4 a0 a1 a2 a3 k) 3 hx0
      rw [show (65536 : Int) ^ 0 = 1 from rfl, Int.ediv_one] at t0
      rw [show (65536 : Int) ^ 1 = 65536 from rfl] at t1
      rw [show (65536 : Int) ^ 2 = 4294967296 from rfl] at t2
      rw [show (65536 : Int) ^ 3 = 281474976710656 from rfl] at t3
      generalize hX : row4 a0 a1 a2 a3 k = x at hcx hx0 hx1 hD t0 t1 t2 t3 u0 u1 u2 u3
      replace hX := Lib.hid hX
      have hk' : k < 4 := by omega
      generalize dig x 0 = d0 at hD t0 u0
      generalize dig x 1 = d1 at hD t1 u1
      generalize dig x 2 = d2 at hD t2 u2
      generalize dig x 3 = d3 at hD t3 u3
      go_wp2
      refine wp_loop_rounds 5 ?_
      rw [rounds_succ]
      go_wp2_with (first
        | (at_builtin; refine wpList_append_own_at _ rfl _ _ 28 rfl (w.heap.size + 2) 2 i0 (.int .i64 0) 1 8 Tryd.underlying28 hi hz0 hz1 hz2 rfl (by decide) _ _ _ rfl (HK.out.own.alloc _) ⟨wr.heap.size, 0, none⟩ 1 1 [.int .i64 d0] rfl rfl ?c1 ?c2 ?c3 ?c4 ?c5 ?_)
        | go_in)
      case c1 => exact cell_one_new _ _ _
      case c2 => exact ints_oneCell .i64 [d0]
      case c3 => unfold maxLen; omega
      case c4 => omega
      case c5 => have := HK.out.2.2.2.2; simp; omega
      intro v1 w1 hown1 hgrow1 _ _
      have H1 := Lib.hid (HK.out.step (v' := v1) (d := .int .i64 d0) (by simpa only [List.append_assoc, List.cons_append, List.nil_append] using hown1) hgrow1)
      replace hcx := H1.out.word k hk'
      rw [hX.out] at hcx
      clear hgrow1 hown1 HK
      go_wp2
      rw [rounds_succ]
      go_wp2_with (first
        | (at_builtin; refine wpList_append_own_at _ rfl _ _ 28 rfl (w.heap.size + 2) 2 i0 (.int .i64 0) 1 8 Tryd.underlying28 hi hz0 hz1 hz2 rfl (by decide) _ _ _ rfl (H1.out.own.alloc _) ⟨w1.heap.size, 0, none⟩ 1 1 [.int .i64 d1] rfl rfl ?c1 ?c2 ?c3 ?c4 ?c5 ?_)
        | go_in)
      case c1 => exact cell_one_new _ _ _
      case c2 => exact ints_oneCell .i64 [d1]
      case c3 => unfold maxLen; omega
      case c4 => omega
      case c5 => have := H1.out.2.2.2.2; simp; omega
      intro v2 w2 hown1 hgrow1 _ _
      have H2 := Lib.hid (H1.out.step (v' := v2) (d := .int .i64 d1) (by simpa only [List.append_assoc, List.cons_append, List.nil_append] using hown1) hgrow1)
      replace hcx := H2.out.word k hk'
      rw [hX.out] at hcx
      clear hgrow1 hown1 H1
      go_wp2
      rw [rounds_succ]
      go_wp2_with (first
        | (at_builtin; refine wpList_append_own_at _ rfl _ _ 28 rfl (w.heap.size + 2) 2 i0 (.int .i64 0) 1 8 Tryd.underlying28 hi hz0 hz1 hz2 rfl (by decide) _ _ _ rfl (H2.out.own.alloc _) ⟨w2.heap.size, 0, none⟩ 1 1 [.int .i64 d2] rfl rfl ?c1 ?c2 ?c3 ?c4 ?c5 ?_)
        | go_in)
      case c1 => exact cell_one_new _ _ _
      case c2 => exact ints_oneCell .i64 [d2]
      case c3 => unfold maxLen; omega
      case c4 => omega
      case c5 => have := H2.out.2.2.2.2; simp; omega
      intro v3 w3 hown1 hgrow1 _ _
      have H3 := Lib.hid (H2.out.step (v' := v3) (d := .int .i64 d2) (by simpa only [List.append_assoc, List.cons_append, List.nil_append] using hown1) hgrow1)
      replace hcx := H3.out.word k hk'
      rw [hX.out] at hcx
      clear hgrow1 hown1 H2
      go_wp2
      rw [rounds_succ]
      go_wp2_with (first
        | (at_builtin; refine wpList_append_own_at _ rfl _ _ 28 rfl (w.heap.size + 2) 2 i0 (.int .i64 0) 1 8 Tryd.underlying28 hi hz0 hz1 hz2 rfl (by decide) _ _ _ rfl (H3.out.own.alloc _) ⟨w3.heap.size, 0, none⟩ 1 1 [.int .i64 d3] rfl rfl ?c1 ?c2 ?c3 ?c4 ?c5 ?_)
        | go_in)
      case c1 => exact cell_one_new _ _ _
      case c2 => exact ints_oneCell .i64 [d3]
      case c3 => unfold maxLen; omega
      case c4 => omega
      case c5 => have := H3.out.2.2.2.2; simp; omega
      intro v4 w4 hown1 hgrow1 _ _
      have H4 := Lib.hid (H3.out.step (v' := v4) (d := .int .i64 d3) (by simpa only [List.append_assoc, List.cons_append, List.nil_append] using hown1) hgrow1)
      replace hcx := H4.out.word k hk'
      rw [hX.out] at hcx
      clear hgrow1 hown1 H3
      go_wp2
      rw [rounds_succ]
      go_wp2
      rw [← hD.out, show 4 * k + 1 + 1 + 1 + 1 = 4 * (k + 1) by omega] at H4
      exact ⟨⟨k + 1, by omega, by simp, H4⟩, by simp [intOf]; omega⟩
end Go.Proofs.YtpbdhhdmnnelhaaDoor

/- Contracts of the document's mags, Cmp (layer 1). -/
namespace Go.Proofs.YtpbdhhdmnnelhaaDoor
open Go.RowKit

/-- The order of two rows of n digits, the last ahead. -/
def ordD (x y : Nat → Int) : Nat → Int
  | 0 => 0
  | k + 1 => if x k < y k then -1 else if y k < x k then 1 else ordD x y k
def magsF (x y : Nat → Int) (n m : Nat) : Int := if n = m then ordD x y n else if n < m then -1 else 1

set_option maxHeartbeats 400000 in
theorem mags_any (x y : Nat → Int) (n m b o c b' o' c' : Nat) (w : World) (hn : n ≤ 1000000) (hm : m ≤ 1000000)
    (hx : ∀ i, i < n → w.cell? ⟨b, o + i, none⟩ = some (.int .i64 (x i))) (hy : ∀ i, i < m → w.cell? ⟨b', o' + i, none⟩ = some (.int .i64 (y i))) :
    Calls Tryd.prog 56 #[.slice (some ⟨b, o, none⟩) n c, .slice (some ⟨b', o', none⟩) m c'] w fun e w' => e = .returned (.int .i64 (magsF x y n m)) ∧ ∃ k, w' = w.drewN k := by
  by_cases hnm : n = m
  · subst hnm
    have HM := Lib.hid (show magsF x y n n = ordD x y n by simp [magsF])
    have Hx := Lib.hid hx; clear hx
    have Hy := Lib.hid hy; clear hy
    rw [HM.out]
    clear HM
    go_enter Tryd.func56, Tryd.ntmps56
    go_wp2
    go_loopw [5] (fun i wr => ∃ k r : Nat, k ≤ n ∧ i = .int .i64 ((k : Int) - 1) ∧ Hid (ordD x y n = ordD x y k) ∧ wr = w.drewN r) (fun i _ => (intOf i + 1).toNat)
    case atStart => exact ⟨n, 0, Nat.le_refl _, rfl, Lib.hid rfl, rfl⟩
    case round =>
      obtain ⟨k, r, hk, rfl, HO, rfl⟩ := hrel
      cases k with
      | zero =>
        go_wp2
        go_ret
        exact ⟨by rw [HO.out]; rfl, r, rfl⟩
      | succ k =>
        have hcx := Hx.out k (by omega)
        have hcy := Hy.out k (by omega)
        have e1 : ((k + 1 : Nat) : Int) - 1 = (k : Int) := by omega
        rw [e1]; clear e1
        have hk1 : (k : Int) < n := by omega
        have hk0 : (0 : Int) ≤ k := by omega
        by_cases hc : x k < y k
        · have HO' : Hid (ordD x y n = -1) := by rw [HO.out]; exact Lib.hid (by rw [ordD, if_pos hc])
          clear HO
          go_wp2
          go_quiet (fail)
          go_wp2
          go_ret
          refine ⟨by rw [HO'.out]; rfl, ?_⟩
          rw [World.drewN_drewN]
          exact ⟨_, rfl⟩
        · by_cases hd : y k < x k
          · have HO' : Hid (ordD x y n = 1) := by rw [HO.out]; exact Lib.hid (by rw [ordD, if_neg hc, if_pos hd])
            have hc' : decide (x k < y k) = false := by simpa using hc
            clear HO
            go_wp2
            go_quiet (fail)
            go_wp2
            go_quiet (fail)
            go_wp2
            go_ret
            refine ⟨by rw [HO'.out]; rfl, ?_⟩
            rw [World.drewN_drewN, World.drewN_drewN]
            exact ⟨_, rfl⟩
          · have HO' : Hid (ordD x y n = ordD x y k) := by rw [HO.out]; exact Lib.hid (by rw [ordD, if_neg hc, if_neg hd])
            have hc' : decide (x k < y k) = false := by simpa using hc
            have hd' : decide (y k < x k) = false := by simpa using hd
            clear HO
            go_wp2
            go_quiet (fail)
            go_wp2
            go_quiet (fail)
            go_wp2
            go_roundw
            case rel => exact ⟨k, _, by omega, rfl, HO', rfl⟩
            case measure => simp [intOf]
  · by_cases hl : n < m
    · have HM := Lib.hid (show magsF x y n m = -1 by simp [magsF, hnm, hl])
      have h1 : (n : Int) ≠ m := by omega
      have h2 : (n : Int) < m := by omega
      rw [HM.out]
      clear HM hx hy
      go_enter Tryd.func56, Tryd.ntmps56
      go_wp2
      go_ret
      exact ⟨rfl, 0, rfl⟩
    · have HM := Lib.hid (show magsF x y n m = 1 by simp [magsF, hnm, hl])
      have h1 : (n : Int) ≠ m := by omega
      have h2 : ¬ (n : Int) < m := by omega
      rw [HM.out]
      clear HM hx hy
      go_enter Tryd.func56, Tryd.ntmps56
      go_wp2
      go_ret
      exact ⟨rfl, 0, rfl⟩

/-- What the document's Cmp tells. -/
def bigC (s t : Bool) (x y : Nat → Int) (n m : Nat) : Int :=
  match s, t with
  | true, true => magsF y x m n
  | true, false => -1
  | false, true => 1
  | false, false => magsF x y n m

set_option maxHeartbeats 400000 in
theorem refcmp_any (s t : Bool) (x y : Nat → Int) (n m b c b' c' : Nat) (w : World) (hn : n ≤ 1000000) (hm : m ≤ 1000000) (hb : b < w.heap.size) (hb' : b' < w.heap.size)
    (hx : ∀ i, i < n → w.cell? ⟨b, i, none⟩ = some (.int .i64 (x i))) (hy : ∀ i, i < m → w.cell? ⟨b', i, none⟩ = some (.int .i64 (y i))) :
    Calls Tryd.prog 35 #[.agg #[.bool s, .slice (some ⟨b, 0, none⟩) n c], .agg #[.bool t, .slice (some ⟨b', 0, none⟩) m c']] w fun e w' => e = .returned (.int .i64 (bigC s t x y n m)) ∧ Below w.heap.size w w' := by
  have H1 := Lib.hid (fun W (hW : Below w.heap.size w W) => mags_any x y n m b 0 c b' 0 c' W hn hm (fun i hi => by rw [Nat.zero_add]; exact (hW.cell (p := ⟨b, i, none⟩) hb).trans (hx i hi)) (fun i hi => by rw [Nat.zero_add]; exact (hW.cell (p := ⟨b', i, none⟩) hb').trans (hy i hi)))
  have H2 := Lib.hid (fun W (hW : Below w.heap.size w W) => mags_any y x m n b' 0 c' b 0 c W hm hn (fun i hi => by rw [Nat.zero_add]; exact (hW.cell (p := ⟨b', i, none⟩) hb').trans (hy i hi)) (fun i hi => by rw [Nat.zero_add]; exact (hW.cell (p := ⟨b, i, none⟩) hb).trans (hx i hi)))
  clear hx hy
  cases s <;> cases t
  · go_enter Tryd.func35, Tryd.ntmps35
    go_wp2_with fail
    generalize hW : World.alloc _ _ = W0
    have hB : Below w.heap.size w W0 := by rw [← hW]; exact ((Below.refl w.heap.size w).alloc (Nat.le_refl _) _).alloc (by simp) _
    clear hW
    refine (H1.out _ hB).mono ?_
    rintro e w1 ⟨rfl, kd, rfl⟩
    go_wp2_with fail
    go_ret
    exact ⟨rfl, below_drewN hB kd⟩
  · go_enter Tryd.func35, Tryd.ntmps35
    go_wp2_with fail
    go_ret
    exact ⟨rfl, ((Below.refl w.heap.size w).alloc (Nat.le_refl _) _).alloc (by simp) _⟩
  · go_enter Tryd.func35, Tryd.ntmps35
    go_wp2_with fail
    go_ret
    exact ⟨rfl, ((Below.refl w.heap.size w).alloc (Nat.le_refl _) _).alloc (by simp) _⟩
  · go_enter Tryd.func35, Tryd.ntmps35
    go_wp2_with fail
    generalize hW : World.alloc _ _ = W0
    have hB : Below w.heap.size w W0 := by rw [← hW]; exact ((Below.refl w.heap.size w).alloc (Nat.le_refl _) _).alloc (by simp) _
    clear hW
    refine (H2.out _ hB).mono ?_
    rintro e w1 ⟨rfl, kd, rfl⟩
    go_wp2_with fail
    go_ret
    exact ⟨rfl, below_drewN hB kd⟩
end Go.Proofs.YtpbdhhdmnnelhaaDoor

/- The order of words is the order of digits. -/
namespace Go.Proofs.YtpbdhhdmnnelhaaDoor
open Go.RowKit

theorem cutN_le (x : Nat → Int) (n : Nat) : cutN x n ≤ n := by
  induction n with
  | zero => exact Nat.le_refl _
  | succ n ih => rw [cutN]; split <;> omega

theorem mags_cut (x y : Nat → Int) (hx : ∀ i, 0 ≤ x i) (hy : ∀ i, 0 ≤ y i) (n : Nat) : magsF x y (cutN x n) (cutN y n) = ordD x y n := by
  induction n with
  | zero => rfl
  | succ n ih =>
    have h1 := cutN_le x n
    have h2 := cutN_le y n
    have p := hx n
    have q := hy n
    by_cases a : x n = 0 <;> by_cases b : y n = 0
    · rw [cutN, if_pos a, cutN, if_pos b, ih, ordD, if_neg (by omega), if_neg (by omega)]
    · rw [cutN, if_pos a, cutN, if_neg b, ordD, if_pos (by omega), magsF, if_neg (by omega), if_pos (by omega)]
    · rw [cutN, if_neg a, cutN, if_pos b, ordD, if_neg (by omega), if_pos (by omega), magsF, if_neg (by omega), if_neg (by omega)]
    · rw [cutN, if_neg a, cutN, if_neg b, magsF, if_pos rfl]

theorem ordD_four (x y x' y' : Nat → Int) (k : Nat) (h : ∀ i, i < 4 → x (k + i) = x' i ∧ y (k + i) = y' i) :
    ordD x y (k + 4) = if ordD x' y' 4 = 0 then ordD x y k else ordD x' y' 4 := by
  obtain ⟨a0, b0⟩ := h 0 (by omega)
  obtain ⟨a1, b1⟩ := h 1 (by omega)
  obtain ⟨a2, b2⟩ := h 2 (by omega)
  obtain ⟨a3, b3⟩ := h 3 (by omega)
  simp only [ordD, a1, b1, a2, b2, a3, b3]
  rw [show x k = x' 0 from a0, show y k = y' 0 from b0]
  (repeat' split) <;> simp_all

theorem dig_nn (x : Int) (k : Nat) : 0 ≤ dig x k := Int.emod_nonneg _ (by decide)
theorem ord_word (a b : Int) (ha : 0 ≤ a) (ha' : a < 18446744073709551616) (hb : 0 ≤ b) (hb' : b < 18446744073709551616) : ordD (dig a) (dig b) 4 = cmpI a b := by
  have E0 : ∀ x : Int, dig x 0 = x % 65536 := fun x => by rw [dig, show (65536 : Int) ^ 0 = 1 from rfl, Int.ediv_one]
  have E1 : ∀ x : Int, dig x 1 = x / 65536 % 65536 := fun _ => rfl
  have E2 : ∀ x : Int, dig x 2 = x / 4294967296 % 65536 := fun x => by rw [dig, show (65536 : Int) ^ 2 = 4294967296 from rfl]
  have E3 : ∀ x : Int, dig x 3 = x / 281474976710656 % 65536 := fun x => by rw [dig, show (65536 : Int) ^ 3 = 281474976710656 from rfl]
  have a0 := E0 a; have a1 := E1 a; have a2 := E2 a; have a3 := E3 a
  have b0 := E0 b; have b1 := E1 b; have b2 := E2 b; have b3 := E3 b
  clear E0 E1 E2 E3
  simp only [ordD, cmpI]
  (repeat' split) <;> omega

theorem ord_digits (a b : Nat → Int) (ha : ∀ i, 0 ≤ a i ∧ a i < 18446744073709551616) (hb : ∀ i, 0 ≤ b i ∧ b i < 18446744073709551616) :
    ordD (digF a) (digF b) 16 = ordF a b 4 := by
  have W : ∀ k, ordD (dig (a k)) (dig (b k)) 4 = cmpI (a k) (b k) := fun k => ord_word _ _ (ha k).1 (ha k).2 (hb k).1 (hb k).2
  have S : ∀ (f : Nat → Int) k i, i < 4 → digF f (4 * k + i) = dig (f k) i := fun f k i hi => by
    unfold digF; rw [show (4 * k + i) / 4 = k by omega, show (4 * k + i) % 4 = i by omega]
  have F : ∀ k, ordD (digF a) (digF b) (4 * k) = ordF a b k := by
    intro k
    induction k with
    | zero => rfl
    | succ k ih => rw [show 4 * (k + 1) = 4 * k + 4 by omega, ordD_four _ _ (dig (a k)) (dig (b k)) (4 * k) (fun i hi => ⟨S a k i hi, S b k i hi⟩), W, ih, ordF]
  exact F 4
end Go.Proofs.YtpbdhhdmnnelhaaDoor
