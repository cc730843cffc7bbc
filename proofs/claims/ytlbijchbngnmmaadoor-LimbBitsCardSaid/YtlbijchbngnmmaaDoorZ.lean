/- Contract of the document's From (layer 1): an Int's digits to the base 2^16. -/
import Derived.Test.YtlbijchbngnmmaaDoorY
import Derived.Test.YtlbijchbngnmmaaDoorD
import Derived.WalkKit
namespace Go.Proofs.YtlbijchbngnmmaaDoor
open Go.RowKit

set_option maxHeartbeats 400000 in
theorem big_of (s : Bool) (x : Nat → Int) (n b o c : Nat) (w : World) (hn : n ≤ 1000000) (hc : n ≤ c)
    (hb : b < w.heap.size) (hx : ∀ i, i < n → w.cell? ⟨b, o + i, none⟩ = some (.int .i64 (x i))) :
    Calls Tryd.prog 43 #[.bool s, .slice (some ⟨b, o, none⟩) n c] w fun e w' => e = .returned (.agg #[.bool (s && decide (0 < cutN x n)), .slice (some ⟨b, o, none⟩) (cutN x n) c]) ∧ Below w.heap.size w w' := by
  have HC := Lib.hid (fun W (hW : Below w.heap.size w W) => cut_any x n b o c W hn hc (fun i hi => (hW.cell (p := ⟨b, o + i, none⟩) hb).trans (hx i hi)))
  clear hx
  generalize cutN x n = k at HC ⊢
  go_enter Tryd.func43, Tryd.ntmps43
  go_wp2_with fail
  have hB : Below w.heap.size w (w.alloc (Obj.cells #[.bool false, .slice none 0 0] 30)) := (Below.refl w.heap.size w).alloc (Nat.le_refl _) _
  refine (HC.out _ hB).mono ?_
  rintro e w1 ⟨rfl, rfl⟩
  clear HC
  have rB : Row (w.alloc (Obj.cells #[.bool false, .slice none 0 0] 30)) w.heap.size [.bool false, .slice none 0 0] := Row.at rfl _ _
  generalize (w.alloc (Obj.cells #[.bool false, .slice none 0 0] 30)) = W1 at hB rB ⊢
  have c0 := rB.c 0 rfl
  have c1 := rB.c 1 rfl
  have f0 := rB.f 0 rfl
  have f1 := rB.f 1 rfl
  cases s
  · go_wp2_with fail
    generalize hW2 : World.setCell _ _ _ = W2
    have rR : Row W2 w.heap.size [.bool false, .slice (some ⟨b, o, none⟩) k c] := by rw [← hW2]; exact (rB.set 0 (by simp) _).set 1 (by simp) _
    have hB2 : Below w.heap.size w W2 := by rw [← hW2]; exact below_put1 (below_put1 hB (Nat.le_refl _) 0 _) (Nat.le_refl _) 1 _
    exact bodyPost_ret (v := .agg #[.bool false, .slice (some ⟨b, o, none⟩) k c]) (by simp [results, Tryd.results43, go_sem, rR.c 0 rfl, rR.c 1 rfl]) rfl ⟨by simp, hB2⟩
  · by_cases hk : 0 < k
    · have hki : (0 : Int) < k := by omega
      go_wp2_with fail
      generalize hW2 : World.setCell _ _ _ = W2
      have rR : Row W2 w.heap.size [.bool true, .slice (some ⟨b, o, none⟩) k c] := by rw [← hW2]; exact (rB.set 0 (by simp) _).set 1 (by simp) _
      have hB2 : Below w.heap.size w W2 := by rw [← hW2]; exact below_put1 (below_put1 hB (Nat.le_refl _) 0 _) (Nat.le_refl _) 1 _
      exact bodyPost_ret (v := .agg #[.bool true, .slice (some ⟨b, o, none⟩) k c]) (by simp [results, Tryd.results43, go_sem, rR.c 0 rfl, rR.c 1 rfl]) rfl ⟨by simp [hk], hB2⟩
    · obtain rfl : k = 0 := by omega
      go_wp2_with fail
      generalize hW2 : World.setCell _ _ _ = W2
      have rR : Row W2 w.heap.size [.bool false, .slice (some ⟨b, o, none⟩) 0 c] := by rw [← hW2]; exact (rB.set 0 (by simp) _).set 1 (by simp) _
      have hB2 : Below w.heap.size w W2 := by rw [← hW2]; exact below_put1 (below_put1 hB (Nat.le_refl _) 0 _) (Nat.le_refl _) 1 _
      exact bodyPost_ret (v := .agg #[.bool false, .slice (some ⟨b, o, none⟩) 0 c]) (by simp [results, Tryd.results43, go_sem, rR.c 0 rfl, rR.c 1 rfl]) rfl ⟨by simp, hB2⟩

theorem info64 : (Tryd.prog.info? 2).map (fun i => (i.zero, i.size, i.bytes)) = some (some (.int .i64 0), 1, 8) := by kernel_rfl

/-- Digit k of a word. -/
def dig (x : Int) (k : Nat) : Int := x / 65536 ^ k % 65536
def digL (m : Nat → Int) : Nat → List Value
  | 0 => []
  | k + 1 => digL m k ++ [.int .i64 (dig (m k) 0)] ++ [.int .i64 (dig (m k) 1)] ++ [.int .i64 (dig (m k) 2)] ++ [.int .i64 (dig (m k) 3)]

theorem dig_tmod (x : Int) (k : Nat) (hx : 0 ≤ x) : (x / 65536 ^ k).tmod 65536 = dig x k ∧ wrap64 (dig x k) = dig x k := by
  have h1 : 0 ≤ x / 65536 ^ k := Int.ediv_nonneg hx (Int.pow_nonneg (by decide))
  refine ⟨Int.tmod_eq_emod_of_nonneg h1, ?_⟩
  have h2 : 0 ≤ dig x k := Int.emod_nonneg _ (by decide)
  have h3 : dig x k < 65536 := Int.emod_lt_of_pos _ (by decide)
  simp only [wrap64]; omega
/-- What stands while From gathers digits: n of them, held by v. -/
def FrS (w : World) (vs : List Value) (n : Nat) (xs : List Value) (v : Value) (wr : World) : Prop :=
  wr.ownsRow (w.heap.size + 2) 2 1 v n xs ∧ Row wr w.heap.size vs ∧ Row wr (w.heap.size + 1) [.bool false, .slice none 0 0] ∧ Below w.heap.size w wr ∧ w.heap.size + 2 ≤ wr.heap.size

theorem Row.grown {wr w1 : World} {b : Nat} {vs : List Value} {row : Option Nat} (h : Row wr b vs) (hg : wr.grownBy w1 row) (hne : some b ≠ row) : Row w1 b vs :=
  ⟨Nat.lt_of_lt_of_le h.1 hg.size, fun i _ hv => ⟨(World.cell?_of_block (hg.block b h.1 hne)).trans (h.c i hv), (World.frozen?_of_block (a := ⟨b, i, none⟩) (hg.block b h.1 hne)).trans (h.f i hv)⟩⟩

theorem FrS.step {w wr w1 : World} {vs xs : List Value} {n : Nat} {v v' d : Value} {o : Obj} (h : FrS w vs n xs v wr)
    (hown : w1.ownsRow (w.heap.size + 2) 2 1 v' (n + 1) (xs ++ [d])) (hg : (wr.alloc o).grownBy w1 v.ownBlock) : FrS w vs (n + 1) (xs ++ [d]) v' w1 := by
  obtain ⟨h1, h2, h3, h4, h5⟩ := h
  have hne : ∀ j, j < w.heap.size + 2 → some j ≠ v.ownBlock := fun j hj e => by have := h1.lt j e.symm; omega
  exact ⟨hown, (h2.alloc o).grown hg (hne _ (by omega)), (h3.alloc o).grown hg (hne _ (by omega)), (h4.alloc (by omega) o).grown hg (by simp; omega) (fun j hj => by have := (h1.lt j hj).1; omega),
    Nat.le_trans h5 (Nat.le_trans (by simp) hg.size)⟩
theorem FrS.ne {w wr : World} {vs xs : List Value} {n : Nat} {v : Value} (h : FrS w vs n xs v wr) {j : Nat} (hj : j < w.heap.size + 2) : some j ≠ v.ownBlock := fun e => by have := h.1.lt j e.symm; omega
theorem FrS.own {w wr : World} {vs xs : List Value} {n : Nat} {v : Value} (h : FrS w vs n xs v wr) : wr.ownsRow (w.heap.size + 2) 2 1 v n xs := h.1

theorem FrS.word {w wr : World} {s : Value} {a0 a1 a2 a3 : Int} {xs : List Value} {n : Nat} {v : Value} (h : FrS w [s, .int .u64 a0, .int .u64 a1, .int .u64 a2, .int .u64 a3] n xs v wr) (k : Nat) (hk : k < 4) :
    wr.cell? ⟨w.heap.size, 1 + k, none⟩ = some (.int .u64 (row4 a0 a1 a2 a3 k)) := by
  have r := h.2.1
  match k, hk with
  | 0, _ => exact r.c 1 rfl
  | 1, _ => exact r.c 2 rfl
  | 2, _ => exact r.c 3 rfl
  | 3, _ => exact r.c 4 rfl

/-- Digit i of four words. -/
def digF (m : Nat → Int) (i : Nat) : Int := dig (m (i / 4)) (i % 4)
theorem digL_at (m : Nat → Int) (i : Nat) (hi : i < 16) : (digL m 4)[i]? = some (.int .i64 (digF m i)) := by
  have h : i = 0 ∨ i = 1 ∨ i = 2 ∨ i = 3 ∨ i = 4 ∨ i = 5 ∨ i = 6 ∨ i = 7 ∨ i = 8 ∨ i = 9 ∨ i = 10 ∨ i = 11 ∨ i = 12 ∨ i = 13 ∨ i = 14 ∨ i = 15 := by omega
  rcases h with rfl|rfl|rfl|rfl|rfl|rfl|rfl|rfl|rfl|rfl|rfl|rfl|rfl|rfl|rfl|rfl <;> simp [digL, digF]
theorem FrS.done {w wr : World} {vs : List Value} {m : Nat → Int} {v : Value} (h : FrS w vs (4 * 4) (digL m 4) v wr) :
    ∃ b c, v = .slice (some ⟨b, 0, none⟩) 16 c ∧ 16 ≤ c ∧ w.heap.size + 2 ≤ b ∧ b < wr.heap.size ∧ ∀ i, i < 16 → wr.cell? ⟨b, 0 + i, none⟩ = some (.int .i64 (digF m i)) := by
  obtain ⟨_, ho⟩ := h.1
  rcases ho with ⟨_, h0⟩ | ⟨g, cap, cur, hv, hbs, hg, hn, _, hs, ht⟩
  · omega
  · refine ⟨g, cap, hv, hn, hbs, ?_, fun i hi => ?_⟩
    · exact (Array.getElem?_eq_some_iff.mp hg).1
    · have h1 := digL_at m i hi
      rw [← ht, List.getElem?_take] at h1
      rw [if_pos (by omega)] at h1
      simp [World.cell?, hg]
      simpa using h1

/-- A number of the document, as it lies in memory: sign, digits without the noughts behind. -/
def BigAt (w : World) (s : Bool) (x : Nat → Int) (n : Nat) (v : Value) : Prop :=
  ∃ b c, v = .agg #[.bool (s && decide (0 < cutN x n)), .slice (some ⟨b, 0, none⟩) (cutN x n) c] ∧ b < w.heap.size ∧ (∀ i, i < n → w.cell? ⟨b, i, none⟩ = some (.int .i64 (x i))) ∧ n ≤ c

set_option maxRecDepth 100000 in
set_option maxHeartbeats 1000000 in
theorem from_any (s : Bool) (a0 a1 a2 a3 : Int) (w : World) (hb4 : ∀ k, 0 ≤ row4 a0 a1 a2 a3 k ∧ row4 a0 a1 a2 a3 k < 18446744073709551616) :
    Calls Tryd.prog 17 #[iv s a0 a1 a2 a3] w fun e w' => (∃ v, e = .returned v ∧ BigAt w' s (digF (row4 a0 a1 a2 a3)) 16 v) ∧ Below w.heap.size w w' := by
  obtain ⟨i0, hi, hz0, hz1, hz2⟩ := info_parts info64
  have Hb := Lib.hid hb4
  clear hb4
  go_enter Tryd.func17, Tryd.ntmps17
  go_wp2_with fail
  generalize hW : World.alloc _ _ = W0
  have hS : FrS w [.bool s, .int .u64 a0, .int .u64 a1, .int .u64 a2, .int .u64 a3] 0 [] (.slice none 0 0) W0 := by
    rw [← hW]
    exact ⟨World.ownsRow_nil _ _ _ _, (Row.at rfl _ _).alloc _, Row.at (by simp) _ _, ((Below.refl w.heap.size w).alloc (Nat.le_refl _) _).alloc (by simp) _, by simp⟩
  clear hW
  have HS := Lib.hid hS
  clear hS
  go_loopw [3, 4] (fun v i wr => ∃ k : Nat, k ≤ 4 ∧ i = .int .i64 k ∧ Hid (FrS w [.bool s, .int .u64 a0, .int .u64 a1, .int .u64 a2, .int .u64 a3] (4 * k) (digL (row4 a0 a1 a2 a3) k) v wr)) (fun _ i _ => 4 - (intOf i).toNat)
  case atStart => exact ⟨0, by omega, rfl, HS⟩
  case round =>
    obtain ⟨k, hk, rfl, HK⟩ := hrel
    by_cases hk4 : k = 4
    · subst hk4
      have c0 := HK.out.2.1.c 0 rfl
      obtain ⟨b, c, rfl, hc, hbb0, hb, hx⟩ := HK.out.done
      have hB := HK.out.2.2.2.1
      have hsz := HK.out.2.2.2.2
      have rB := HK.out.2.2.1
      clear HK HS
      have HX := Lib.hid hx
      clear hx
      go_wp2_with fail
      refine (big_of s (digF (row4 a0 a1 a2 a3)) 16 b 0 c wr (by omega) hc hb HX.out).mono ?_
      rintro e w1 ⟨rfl, hb1⟩
      replace rB := rB.after hb1
      have c1 := rB.c 0 rfl
      have c2 := rB.c 1 rfl
      have f1 := rB.f 0 rfl
      have f2 := rB.f 1 rfl
      have hbb : b < w1.heap.size := Nat.lt_of_lt_of_le hb hb1.size
      have HX1 : Hid (∀ i, i < 16 → w1.cell? ⟨b, i, none⟩ = some (.int .i64 (digF (row4 a0 a1 a2 a3) i))) := Lib.hid (fun i hi => by have := HX.out i hi; rw [Nat.zero_add] at this; exact (hb1.cell (p := ⟨b, i, none⟩) hb).trans this)
      replace hB := hB.trans (hb1.mono (by omega))
      clear hb1 HX hb
      generalize hbs : (s && decide (0 < cutN (digF (row4 a0 a1 a2 a3)) 16)) = sg
      generalize hkk : cutN (digF (row4 a0 a1 a2 a3)) 16 = kk at hbs
      go_wp2_with fail
      clear c1 c2 f1 f2
      generalize hW2 : World.setCell _ _ _ = W2
      have rR : Row W2 (w.heap.size + 1) [.bool sg, .slice (some ⟨b, 0, none⟩) kk c] := by rw [← hW2]; exact (rB.set 0 (by simp) _).set 1 (by simp) _
      have hB2 : Below w.heap.size w W2 := by rw [← hW2]; exact below_put1 (below_put1 hB (Nat.le_succ _) 0 _) (Nat.le_succ _) 1 _
      have hb2 : b < W2.heap.size := by rw [← hW2]; simpa [World.setCell] using hbb
      have hx2 : ∀ i, i < 16 → W2.cell? ⟨b, i, none⟩ = some (.int .i64 (digF (row4 a0 a1 a2 a3) i)) := fun i hi => by
        rw [← hW2, World.cell?_setCell_other _ _ _ _ (fun e => by have := congrArg Addr.block e; simp at this; omega), World.cell?_setCell_other _ _ _ _ (fun e => by have := congrArg Addr.block e; simp at this; omega)]
        exact HX1.out i hi
      exact bodyPost_ret (v := .agg #[.bool sg, .slice (some ⟨b, 0, none⟩) kk c]) (by simp [results, Tryd.results17, go_sem, rR.c 0 rfl, rR.c 1 rfl]) rfl ⟨⟨_, rfl, b, c, by rw [hkk, hbs], hb2, hx2, hc⟩, hB2⟩
    · have hcx := HK.out.word k (by omega)
      have hlt : (k : Int) < 4 := by omega
      have hge : (0 : Int) ≤ k := by omega
      have hx0 : 0 ≤ row4 a0 a1 a2 a3 k := (Hb.out k).1
      have hx1 : row4 a0 a1 a2 a3 k < 18446744073709551616 := (Hb.out k).2
      have hD := Lib.hid (show digL (row4 a0 a1 a2 a3) (k + 1) = digL (row4 a0 a1 a2 a3) k ++ [.int .i64 (dig (row4 a0 a1 a2 a3 k) 0)] ++ [.int .i64 (dig (row4 a0 a1 a2 a3 k) 1)] ++ [.int .i64 (dig (row4 a0 a1 a2 a3 k) 2)] ++ [.int .i64 (dig (row4 a0 a1 a2 a3 k) 3)] from rfl)
      obtain ⟨t0, u0⟩ := dig_tmod (row4 a0 a1 a2 a3 k) 0 hx0
      obtain ⟨t1, u1⟩ := dig_tmod (row4 a0 a1 a2 a3 k) 1 hx0
      obtain ⟨t2, u2⟩ := dig_tmod (row4 a0 a1 a2 a3 k) 2 hx0
      obtain ⟨t3, u3⟩ := dig_tmod (row4 a0 a1 a2 a3 k) 3 hx0
      rw [show (65536 : Int) ^ 0 = 1 from rfl, Int.ediv_one] at t0
      rw [show (65536 : Int) ^ 1 = 65536 from rfl] at t1
      rw [show (65536 : Int) ^ 2 = 4294967296 from rfl] at t2
      rw [show (65536 : Int) ^ 3 = 281474976710656 from rfl] at t3
      generalize hX : row4 a0 a1 a2 a3 k = x at hcx hx0 hx1 hD t0 t1 t2 t3 u0 u1 u2 u3
      replace hX := Lib.hid hX
      have hk' : k < 4 := by omega
      generalize dig x 0 = d0 at hD t0 u0
      generalize dig x 1 = d1 at hD t1 u1
      generalize dig x 2 = d2 at hD t2 u2
      generalize dig x 3 = d3 at hD t3 u3
      go_wp2
      refine wp_loop_rounds 5 ?_
      rw [rounds_succ]
      go_wp2_with (first
        | (at_builtin; refine wpList_append_own_at _ rfl _ _ 28 rfl (w.heap.size + 2) 2 i0 (.int .i64 0) 1 8 Tryd.underlying28 hi hz0 hz1 hz2 rfl (by decide) _ _ _ rfl (HK.out.own.alloc _) ⟨wr.heap.size, 0, none⟩ 1 1 [.int .i64 d0] rfl rfl ?c1 ?c2 ?c3 ?c4 ?c5 ?_)
        | go_in)
      case c1 => exact cell_one_new _ _ _
      case c2 => exact ints_oneCell .i64 [d0]
      case c3 => unfold maxLen; omega
      case c4 => omega
      case c5 => have := HK.out.2.2.2.2; simp; omega
      intro v1 w1 hown1 hgrow1 _ _
      have H1 := Lib.hid (HK.out.step (v' := v1) (d := .int .i64 d0) (by simpa only [List.append_assoc, List.cons_append, List.nil_append] using hown1) hgrow1)
      replace hcx := H1.out.word k hk'
      rw [hX.out] at hcx
      clear hgrow1 hown1 HK
      go_wp2
      rw [rounds_succ]
      go_wp2_with (first
        | (at_builtin; refine wpList_append_own_at _ rfl _ _ 28 rfl (w.heap.size + 2) 2 i0 (.int .i64 0) 1 8 Tryd.underlying28 hi hz0 hz1 hz2 rfl (by decide) _ _ _ rfl (H1.out.own.alloc _) ⟨w1.heap.size, 0, none⟩ 1 1 [.int .i64 d1] rfl rfl ?c1 ?c2 ?c3 ?c4 ?c5 ?_)
        | go_in)
      case c1 => exact cell_one_new _ _ _
      case c2 => exact ints_oneCell .i64 [d1]
      case c3 => unfold maxLen; omega
      case c4 => omega
      case c5 => have := H1.out.2.2.2.2; simp; omega
      intro v2 w2 hown1 hgrow1 _ _
      have H2 := Lib.hid (H1.out.step (v' := v2) (d := .int .i64 d1) (by simpa only [List.append_assoc, List.cons_append, List.nil_append] using hown1) hgrow1)
      replace hcx := H2.out.word k hk'
      rw [hX.out] at hcx
      clear hgrow1 hown1 H1
      go_wp2
      rw [rounds_succ]
      go_wp2_with (first
        | (at_builtin; refine wpList_append_own_at _ rfl _ _ 28 rfl (w.heap.size + 2) 2 i0 (.int .i64 0) 1 8 Tryd.underlying28 hi hz0 hz1 hz2 rfl (by decide) _ _ _ rfl (H2.out.own.alloc _) ⟨w2.heap.size, 0, none⟩ 1 1 [.int .i64 d2] rfl rfl ?c1 ?c2 ?c3 ?c4 ?c5 ?_)
        | go_in)
      case c1 => exact cell_one_new _ _ _
      case c2 => exact ints_oneCell .i64 [d2]
      case c3 => unfold maxLen; omega
      case c4 => omega
      case c5 => have := H2.out.2.2.2.2; simp; omega
      intro v3 w3 hown1 hgrow1 _ _
      have H3 := Lib.hid (H2.out.step (v' := v3) (d := .int .i64 d2) (by simpa only [List.append_assoc, List.cons_append, List.nil_append] using hown1) hgrow1)
      replace hcx := H3.out.word k hk'
      rw [hX.out] at hcx
      clear hgrow1 hown1 H2
      go_wp2
      rw [rounds_succ]
      go_wp2_with (first
        | (at_builtin; refine wpList_append_own_at _ rfl _ _ 28 rfl (w.heap.size + 2) 2 i0 (.int .i64 0) 1 8 Tryd.underlying28 hi hz0 hz1 hz2 rfl (by decide) _ _ _ rfl (H3.out.own.alloc _) ⟨w3.heap.size, 0, none⟩ 1 1 [.int .i64 d3] rfl rfl ?c1 ?c2 ?c3 ?c4 ?c5 ?_)
        | go_in)
      case c1 => exact cell_one_new _ _ _
      case c2 => exact ints_oneCell .i64 [d3]
      case c3 => unfold maxLen; omega
      case c4 => omega
      case c5 => have := H3.out.2.2.2.2; simp; omega
      intro v4 w4 hown1 hgrow1 _ _
      have H4 := Lib.hid (H3.out.step (v' := v4) (d := .int .i64 d3) (by simpa only [List.append_assoc, List.cons_append, List.nil_append] using hown1) hgrow1)
      replace hcx := H4.out.word k hk'
      rw [hX.out] at hcx
      clear hgrow1 hown1 H3
      go_wp2
      rw [rounds_succ]
      go_wp2
      rw [← hD.out, show 4 * k + 1 + 1 + 1 + 1 = 4 * (k + 1) by omega] at H4
      exact ⟨⟨k + 1, by omega, by simp, H4⟩, by simp [intOf]; omega⟩
end Go.Proofs.YtlbijchbngnmmaaDoor
