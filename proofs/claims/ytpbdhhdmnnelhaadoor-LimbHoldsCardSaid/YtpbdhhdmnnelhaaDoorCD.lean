/- Contract of the document's Mul by the numbers' values. -/
import Derived.Test.YtpbdhhdmnnelhaaDoorBA
import Derived.Test.YtpbdhhdmnnelhaaDoorBG
import Derived.Test.YtpbdhhdmnnelhaaDoorBV
import Derived.Test.YtpbdhhdmnnelhaaDoorBX
import Derived.Test.YtpbdhhdmnnelhaaDoorBF
namespace Go.Proofs.YtpbdhhdmnnelhaaDoor
open Go.RowKit

/-- Block b's first N cells are numbers that may be written. -/
def RF (w : World) (b N : Nat) (x : Nat → Nat) : Prop := b < w.heap.size ∧ ∀ i, i < N → w.cell? ⟨b, i, none⟩ = some (.int .i64 (x i : Nat)) ∧ w.frozen? ⟨b, i, none⟩ = false
theorem RF.put {w : World} {b N : Nat} {x : Nat → Nat} (h : RF w b N x) (j v : Nat) (hj : j < N) : RF (w.setCell ⟨b, j, none⟩ (.int .i64 (v : Nat))) b N (fun i => if i = j then v else x i) := by
  refine ⟨by simpa [World.setCell] using h.1, fun i hi => ⟨?_, by rw [World.frozen?_setCell]; exact (h.2 i hi).2⟩⟩
  by_cases e : i = j
  · subst e
    rw [World.cell?_setCell_same' _ _ _ (by rw [(h.2 i hi).1]; rfl)]
    simp
  · rw [World.cell?_setCell_other _ _ _ _ (fun h => e (congrArg Addr.off h).symm), (h.2 i hi).1]
    simp only [if_neg e]
theorem RF.congr {w : World} {b N : Nat} {x y : Nat → Nat} (h : RF w b N x) (hxy : ∀ i, x i = y i) : RF w b N y := ⟨h.1, fun i hi => by rw [← hxy]; exact h.2 i hi⟩
/-- What stands in the document's Mul: its two numbers, its answer's place, its row. -/
def MW (w : World) (s t : Bool) (A B : Option Addr) (n m c c' N : Nat) (x : Nat → Nat) (W : World) : Prop :=
  Row W w.heap.size [.bool s, .slice A n c] ∧ Row W (w.heap.size + 1) [.bool t, .slice B m c'] ∧ Row W (w.heap.size + 2) [.bool false, .slice none 0 0] ∧ RF W (w.heap.size + 3) N x ∧ Below w.heap.size w W
theorem MW.put {w W : World} {s t : Bool} {A B : Option Addr} {n m c c' N : Nat} {x : Nat → Nat} (h : MW w s t A B n m c c' N x W) (j v : Nat) (hj : j < N) :
    MW w s t A B n m c c' N (fun i => if i = j then v else x i) (W.setCell ⟨w.heap.size + 3, j, none⟩ (.int .i64 (v : Nat))) :=
  ⟨h.1.other (p := ⟨w.heap.size + 3, j, none⟩) (by show w.heap.size + 3 ≠ w.heap.size; omega) _, h.2.1.other (p := ⟨w.heap.size + 3, j, none⟩) (by show w.heap.size + 3 ≠ w.heap.size + 1; omega) _,
    h.2.2.1.other (p := ⟨w.heap.size + 3, j, none⟩) (by show w.heap.size + 3 ≠ w.heap.size + 2; omega) _, h.2.2.2.1.put j v hj, below_put1 h.2.2.2.2 (by omega) _ _⟩
theorem MW.congr {w W : World} {s t : Bool} {A B : Option Addr} {n m c c' N : Nat} {x y : Nat → Nat} (h : MW w s t A B n m c c' N x W) (hxy : ∀ i, x i = y i) : MW w s t A B n m c c' N y W :=
  ⟨h.1, h.2.1, h.2.2.1, h.2.2.2.1.congr hxy, h.2.2.2.2⟩
theorem MW.drew {w W : World} {s t : Bool} {A B : Option Addr} {n m c c' N : Nat} {x : Nat → Nat} (h : MW w s t A B n m c c' N x W) : MW w s t A B n m c c' N x W.drew :=
  ⟨h.1.drew, h.2.1.drew, h.2.2.1.drew, h.2.2.2.1, h.2.2.2.2.drew⟩
theorem MW.drewN {w W : World} {s t : Bool} {A B : Option Addr} {n m c c' N : Nat} {x : Nat → Nat} (h : MW w s t A B n m c c' N x W) (k : Nat) : MW w s t A B n m c c' N x (W.drewN k) :=
  ⟨h.1.drewN k, h.2.1.drewN k, h.2.2.1.drewN k, h.2.2.2.1, below_drewN h.2.2.2.2 k⟩
theorem mul_abs (x y : Int) : x * y = if (decide (x < 0) != decide (y < 0)) = true then -((x.natAbs * y.natAbs : Nat) : Int) else ((x.natAbs * y.natAbs : Nat) : Int) := by
  have key : ∀ (a b : Nat) (s t : Bool), (if s = true then -(a : Int) else a) * (if t = true then -(b : Int) else b) = if (s != t) = true then -((a * b : Nat) : Int) else ((a * b : Nat) : Int) := by
    intro a b s t
    cases s <;> cases t <;> simp [Int.neg_mul, Int.mul_neg]
  have hx : ∀ z : Int, z = if decide (z < 0) = true then -(z.natAbs : Int) else z.natAbs := by
    intro z
    by_cases h : z < 0 <;> simp [h] <;> omega
  rw [← key, ← hx x, ← hx y]

set_option maxRecDepth 100000 in
set_option maxHeartbeats 1000000 in
theorem mul_z (x y : Int) (A B : Option Addr) (c c' : Nat) (w : World) (ha : DS w x.natAbs A) (hb : DS w y.natAbs B) (la : L16 x.natAbs ≤ 1000) (lb : L16 y.natAbs ≤ 1000) :
    Calls Tryd.prog 47 #[bigv x A c, bigv y B c'] w (BigPost w (x * y)) := by
  obtain ⟨i0, hi, hz0, hz1, hz2⟩ := info_parts info64
  have HA := Lib.hid (fun W (hW : Below w.heap.size w W) => ha.below hW)
  have HB := Lib.hid (fun W (hW : Below w.heap.size w W) => hb.below hW)
  have HZ := Lib.hid (mul_abs x y)
  have HOf := Lib.hid (fun W (h : DR W (digR (x.natAbs * y.natAbs)) (L16 x.natAbs + L16 y.natAbs + 1) (some ⟨w.heap.size + 3, 0, none⟩)) =>
    of_z (decide (x < 0) != decide (y < 0)) (x.natAbs * y.natAbs) (L16 x.natAbs + L16 y.natAbs + 1) (some ⟨w.heap.size + 3, 0, none⟩) (L16 x.natAbs + L16 y.natAbs + 1) (x * y) W (by rw [mul_abs]) (Nat.le_succ_of_le (L16_mul_le _ _)) (by omega) (Nat.le_refl _) h)
  rw [bigv, bigv]
  clear ha hb
  generalize decide (x < 0) = s at *
  generalize decide (y < 0) = t at *
  generalize x.natAbs = a at *
  generalize y.natAbs = b at *
  generalize hna : L16 a = n at *
  generalize hmb : L16 b = m at *
  have HNA := Lib.hid hna
  have HMB := Lib.hid hmb
  clear hna hmb
  go_enter Tryd.func47, Tryd.ntmps47
  go_wp2_with (first
    | (at_make; refine wpList_make_full _ rfl _ _ 28 rfl w.heap.size 2 i0 (.int .i64 0) 1 Tryd.underlying28 hi hz0 hz1 .i64 .i64 _ _ (n + m + 1) rfl rfl (by omega) (by omega) (by rw [hz2]; omega) (by unfold maxLen; omega) (by simp; omega) ?_)
    | (fail))
  intro w1 hown1 hg1
  have hb1 := (Below.refl _ _).grown hg1 (Nat.le_refl _) (fun j hj => by cases hj)
  have hM : MW w s t A B n m c c' (n + m + 1) (D16 (Pm a b 0)) w1 := by
    rw [show w.heap.size + 1 + 1 + 1 = w.heap.size + 3 from rfl] at hown1
    have hcell : ∀ i, i < n + m + 1 → w1.cell? ⟨w.heap.size + 3, i, none⟩ = some (.int .i64 0) := by
      intro i hi
      rw [hown1.cellAt i (by omega), toList_madeCells_one]
      exact List.getElem?_replicate_of_lt hi
    refine ⟨(((Row.at rfl _ _).alloc _).alloc _).after hb1, ((Row.at (by simp) _ _).alloc _).after hb1, (Row.at (by simp) _ _).after hb1, ⟨block_lt_of_cell (hcell 0 (by omega)), fun i hi => ⟨?_, hown1.frozenAt i⟩⟩, ?_⟩
    · rw [hcell i hi, Pm_first, D16_nought]; rfl
    · exact ((((Below.refl w.heap.size w).alloc (Nat.le_refl _) _).alloc (by simp) _).alloc (by simp; omega) _).trans (hb1.mono (by simp; omega))
  have HM := Lib.hid hM
  clear hM hb1 hown1 hg1
  go_wp2_with fail
  go_loopw [6] (fun v wr => ∃ i : Nat, i ≤ n ∧ v = .int .i64 i ∧ Hid (MW w s t A B n m c c' (n + m + 1) (D16 (Pm a b i)) wr)) (fun v _ => n - (intOf v).toNat)
  case atStart => exact ⟨0, by omega, rfl, HM⟩
  case round =>
    obtain ⟨i, hin, rfl, HK⟩ := hrel
    obtain ⟨wo, rfl⟩ : ∃ wo : World, wo = wr := ⟨_, rfl⟩
    by_cases hil : i < n
    · have q1 := HK.out.1.c 1 rfl
      have hi1 : (i : Int) < n := by omega
      go_wp2_with fail
      go_loopw [7, 8] (fun cy v wr => ∃ k : Nat, k ≤ m ∧ v = .int .i64 k ∧ cy = .int .i64 (cM a b i k : Nat) ∧ Hid (MW w s t A B n m c c' (n + m + 1) (rM a b i k) wr)) (fun _ v _ => m - (intOf v).toNat)
      case atStart => exact ⟨0, by omega, rfl, by rw [cM_first]; rfl, Lib.hid (HK.out.congr (fun j => (rM_first a b i j).symm))⟩
      case round =>
        obtain ⟨k, hkm, rfl, rfl, HI⟩ := hrel
        by_cases hkl : k < m
        · obtain ⟨p, rfl, hpl, hpx⟩ := HA.out wr HI.out.2.2.2.2 (by rw [HNA.out]; omega)
          obtain ⟨q, rfl, hql, hqx⟩ := HB.out wr HI.out.2.2.2.2 (by rw [HMB.out]; omega)
          have cx := hpx i (by rw [HNA.out]; exact hil)
          have cy := hqx k (by rw [HMB.out]; exact hkl)
          have cz := (HI.out.2.2.2.1.2 (i + k) (by omega)).1
          have fz := (HI.out.2.2.2.1.2 (i + k) (by omega)).2
          have ca := HI.out.1.c 1 rfl
          have cb := HI.out.2.1.c 1 rfl
          have hk1 : (k : Int) < m := by omega
          have bz := rM_bd a b i k (i + k)
          have bc := cM_lt a b i k
          have bx := D16_lt a i
          have by' := D16_lt b k
          have bp : ((D16 a i : Nat) : Int) * (D16 b k : Nat) ≤ 4294836225 := by
            have h := Nat.mul_le_mul (show D16 a i ≤ 65535 by omega) (show D16 b k ≤ 65535 by omega)
            rw [← Int.natCast_mul]
            exact Int.ofNat_le.2 h
          have bp0 : 0 ≤ ((D16 a i : Nat) : Int) * (D16 b k : Nat) := Int.mul_nonneg (by omega) (by omega)
          unfold digR at cx cy
          clear hpx hqx HK HM q1
          have HS := Lib.hid (fun j => rM_next a b i k j)
          have HC := Lib.hid (cM_next a b i k)
          rw [← rM_here a b i k] at HS HC
          generalize rM a b i k (i + k) = zz at *
          generalize hcc : cM a b i k = cc at *
          generalize D16 a i = dx at *
          generalize D16 b k = dy at *
          go_wp2_with fail
          go_quiet (fail)
          go_wp2_with fail
          have e1 : ((zz : Int) + dx * dy + cc) % 65536 = (((zz + dx * dy + cc) % 65536 : Nat) : Int) := by simp
          have e2 : ((zz : Int) + dx * dy + cc) / 65536 = (((zz + dx * dy + cc) / 65536 : Nat) : Int) := by simp
          rw [e1, e2]
          exact ⟨⟨k + 1, by omega, rfl, by rw [HC.out], Lib.hid (((HI.out.drewN _).put (i + k) ((zz + dx * dy + cc) % 65536) (by omega)).congr (fun j => (HS.out j).symm))⟩, by simp [intOf]; omega⟩
        · obtain rfl : k = m := by omega
          have cz := (HI.out.2.2.2.1.2 (i + k) (by omega)).1
          have fz := (HI.out.2.2.2.1.2 (i + k) (by omega)).2
          have cb := HI.out.2.1.c 1 rfl
          have HS := Lib.hid (fun j => rM_last a b i j)
          rw [HMB.out, ← rM_here a b i k] at HS
          have bz := rM_bd a b i k (i + k)
          have bc := cM_lt a b i k
          clear HK HM q1
          generalize rM a b i k (i + k) = zz at *
          generalize hcc : cM a b i k = cc at *
          go_wp2_with fail
          go_region
          go_wp2_with fail
          have e1 : (zz : Int) + cc = ((zz + cc : Nat) : Int) := by simp
          rw [e1]
          exact ⟨⟨i + 1, by omega, rfl, Lib.hid (((HI.out.put (i + k) (zz + cc) (by omega)).congr (fun j => HS.out j)).drew)⟩, by simp [intOf]; omega⟩
    · obtain rfl : i = n := by omega
      have q0 := HK.out.1.c 0 rfl
      have q1 := HK.out.1.c 1 rfl
      have q2 := HK.out.2.1.c 0 rfl
      have HD : Hid (DR wo (digR (a * b)) (i + m + 1) (some ⟨w.heap.size + 3, 0, none⟩)) := Lib.hid (fun _ => ⟨w.heap.size + 3, rfl, HK.out.2.2.2.1.1, fun j hj => by
        have h := (HK.out.2.2.2.1.2 j hj).1
        rw [← HNA.out, Pm_last] at h
        exact h⟩)
      go_wp2_with fail
      refine (HOf.out _ HD.out).mono ?_
      rintro e w2 ⟨rfl, hcc, hds, hb2⟩
      have hB2 : Below w.heap.size w w2 := HK.out.2.2.2.2.trans (hb2.mono HK.out.2.2.2.2.size)
      have r2 := HK.out.2.2.1.after hb2
      have u0 := r2.f 0 rfl
      have u1 := r2.f 1 rfl
      have t0 := r2.c 0 rfl
      have t1 := r2.c 1 rfl
      have hne : ∀ p, some (⟨w.heap.size + 3, 0, none⟩ : Addr) = some p → w.heap.size + 1 + 1 ≠ p.block := fun p hp => by cases hp; show w.heap.size + 2 ≠ w.heap.size + 3; omega
      have hD5 := (hds.set (q := ⟨w.heap.size + 1 + 1, 0, none⟩) hne (.bool (decide (x * y < 0)))).set (q := ⟨w.heap.size + 1 + 1, 1, none⟩) hne (.slice (some ⟨w.heap.size + 3, 0, none⟩) (L16 (x * y).natAbs) (i + m + 1))
      have r5 := (r2.set 0 (by simp) (.bool (decide (x * y < 0)))).set 1 (by simp) (.slice (some ⟨w.heap.size + 3, 0, none⟩) (L16 (x * y).natAbs) (i + m + 1))
      rw [show w.heap.size + 2 = w.heap.size + 1 + 1 from rfl] at r5
      have hB5 := below_put1 (below_put1 hB2 (c := w.heap.size + 1 + 1) (by omega) 0 (.bool (decide (x * y < 0)))) (c := w.heap.size + 1 + 1) (by omega) 1 (.slice (some ⟨w.heap.size + 3, 0, none⟩) (L16 (x * y).natAbs) (i + m + 1))
      have HQ := Lib.hid (BigPost.mk hcc hD5 hB5)
      clear hcc hD5 hB5 hds hb2 hB2
      rw [bigv] at HQ ⊢
      generalize decide (x * y < 0) = g at *
      generalize L16 (x * y).natAbs = ll at *
      go_wp2_with fail
      generalize World.setCell _ _ _ = W5 at r5 HQ ⊢
      go_wp2_with fail
      exact bodyPost_ret (v := .agg #[.bool g, .slice (some ⟨w.heap.size + 3, 0, none⟩) ll (i + m + 1)]) (by simp [results, Tryd.results47, go_sem, r5.c 0 rfl, r5.c 1 rfl]) rfl HQ.out
end Go.Proofs.YtpbdhhdmnnelhaaDoor

/- Contract of LimbSums' steps: the document's sum or product, one number after the other. -/
namespace Go.Proofs.YtpbdhhdmnnelhaaDoor
open Go.RowKit

theorem DS.set_bool {w : World} {m : Nat} {A : Option Addr} (h : DS w m A) {X : Nat} {s : Bool} (hX : w.cell? ⟨X, 0, none⟩ = some (.bool s)) (j : Nat) (v : Value) : DS (w.setCell ⟨X, j, none⟩ v) m A := fun hm => by
  obtain ⟨b, e, hl, hc⟩ := h hm
  have hne : X ≠ b := by
    rintro rfl
    rw [hc 0 hm] at hX
    cases hX
  exact (DS.set (fun _ => ⟨b, e, hl, hc⟩ : DS w m A) (q := ⟨X, j, none⟩) (fun p hp => by rw [e] at hp; cases hp; exact hne) v) hm
theorem fits_z (m : Nat) : ((m : Nat) : Int) < B64 ^ 4 ↔ m < T256 := by
  have h : B64 ^ 4 = ((T256 : Nat) : Int) := by decide
  rw [h]; exact Int.ofNat_lt
theorem zfold_some {op : Int → Int → Int} {zs : Nat → Int} {z0 z : Int} {k : Nat} (h : zfold op zs z0 k = some z) (hz : (op z (zs k)).natAbs < T256) : zfold op zs z0 (k + 1) = some (op z (zs k)) := by
  rw [zfold, h]
  exact if_pos ((fits_z _).2 hz)
theorem zfold_stop {op : Int → Int → Int} {zs : Nat → Int} {z0 z : Int} {k n : Nat} (h : zfold op zs z0 k = some z) (hz : ¬ (op z (zs k)).natAbs < T256) (hk : k < n) : zfold op zs z0 n = none := by
  induction n with
  | zero => omega
  | succ n ih =>
    by_cases e : k = n
    · subst e
      rw [zfold, h]
      exact if_neg (fun h1 => hz ((fits_z _).1 h1))
    · rw [zfold, ih (by omega)]
theorem IntsAt.num {w : World} {b o n : Nat} {zs : Nat → Int} (h : IntsAt w b o n (fun i => decide (zs i < 0)) (fun i k => ((W64 (zs i).natAbs k : Nat) : Int))) (k : Nat) (hk : k < n) :
    w.cell? ⟨b, o + k * 5, none⟩ = some (.bool (decide (zs k < 0))) ∧ w.cell? ⟨b, o + k * 5 + 1, none⟩ = some (.int .u64 (W64 (zs k).natAbs 0 : Nat)) ∧ w.cell? ⟨b, o + k * 5 + 2, none⟩ = some (.int .u64 (W64 (zs k).natAbs 1 : Nat)) ∧
      w.cell? ⟨b, o + k * 5 + 3, none⟩ = some (.int .u64 (W64 (zs k).natAbs 2 : Nat)) ∧ w.cell? ⟨b, o + k * 5 + 4, none⟩ = some (.int .u64 (W64 (zs k).natAbs 3 : Nat)) := h k hk
/-- What stands while the numbers are put together: the answer's place, and the number so far. -/
def SX (w : World) (X : Nat) (z : Int) (A : Option Addr) (c : Nat) (W : World) : Prop :=
  Row W w.heap.size [.bool false, .int .u64 0, .int .u64 0, .int .u64 0, .int .u64 0] ∧ Row W X [.bool (decide (z < 0)), .slice A (L16 z.natAbs) c] ∧ DS W z.natAbs A ∧ L16 z.natAbs ≤ c ∧ Below w.heap.size w W ∧ w.heap.size < X
theorem SX.after {w W W1 : World} {X : Nat} {z : Int} {A : Option Addr} {c : Nat} (h : SX w X z A c W) (hb : Below W.heap.size W W1) : SX w X z A c W1 :=
  ⟨h.1.after hb, h.2.1.after hb, h.2.2.1.below hb, h.2.2.2.1, h.2.2.2.2.1.trans (hb.mono h.2.2.2.2.1.size), h.2.2.2.2.2⟩
theorem SX.drew {w W : World} {X : Nat} {z : Int} {A : Option Addr} {c : Nat} (h : SX w X z A c W) : SX w X z A c W.drew := h.after (Below.refl _ _).drew
theorem SX.alloc {w W : World} {X : Nat} {z : Int} {A : Option Addr} {c : Nat} (h : SX w X z A c W) (o : Obj) : SX w X z A c (W.alloc o) := h.after ((Below.refl _ _).alloc (Nat.le_refl _) _)
theorem SX.put {w W : World} {X : Nat} {z y : Int} {A B : Option Addr} {c d : Nat} (h : SX w X z A c W) (hd : DS W y.natAbs B) (hc : L16 y.natAbs ≤ d) :
    SX w X y B d ((W.setCell ⟨X, 0, none⟩ (.bool (decide (y < 0)))).setCell ⟨X, 1, none⟩ (.slice B (L16 y.natAbs) d)) := by
  have hX := h.2.2.2.2.2
  refine ⟨(h.1.other (p := ⟨X, 0, none⟩) (by show X ≠ w.heap.size; omega) _).other (p := ⟨X, 1, none⟩) (by show X ≠ w.heap.size; omega) _, (h.2.1.set 0 (by simp) _).set 1 (by simp) _, ?_, hc, below_put1 (below_put1 h.2.2.2.2.1 (by omega) _ _) (by omega) _ _, hX⟩
  exact (hd.set_bool (h.2.1.c 0 rfl) 0 _).set_bool (X := X) (s := decide (y < 0)) (by rw [World.cell?_setCell_same' _ _ _ (by rw [h.2.1.c 0 rfl]; rfl)]) 1 _
theorem refadd_p (x y : Int) (A B : Option Addr) (c c' : Nat) (w : World) (ha : DS w x.natAbs A) (hb : DS w y.natAbs B) (la : L16 x.natAbs ≤ 1000) (lb : L16 y.natAbs ≤ 1000) :
    Calls Tryd.prog 48 #[bigv x A c, bigv y B c'] w (BigPost w (x + y)) :=
  (refadd_z x y A B c c' w ha hb la lb).mono fun _ _ ⟨A, c, h1, h2, h3, h4, _⟩ => ⟨A, c, h1, h2, h3, h4⟩

set_option maxRecDepth 100000 in
set_option maxHeartbeats 1000000 in
theorem steps_sum (b o n c : Nat) (zs : Nat → Int) (w : World) (hn : n ≤ 1000) (lb : b < w.heap.size)
    (hi : IntsAt w b o n (fun i => decide (zs i < 0)) (fun i k => (W64 (zs i).natAbs k : Nat))) (hz : ∀ i, i < n → (zs i).natAbs < T256) (A : Option Addr) (hA : 0 < n → A = some ⟨b, o, none⟩) :
    Calls Tryd.prog 24 #[.slice A n c, .bool false] w fun e w' => e = .returned (ansz (zfold (fun a b => a + b) zs 0 n)) ∧ Below w.heap.size w w' := by
  have HAd := Lib.hid hA; clear hA
  have Hi := Lib.hid hi; clear hi
  have Hz := Lib.hid hz; clear hz
  go_enter Tryd.func24, Tryd.ntmps24
  go_wp2_with fail
  refine (num_z 0 _ (by decide) (by decide)).mono ?_
  rintro e w1 ⟨A1, c1, rfl, hc1, hd1, hb1⟩
  have r1 : Row w1 w.heap.size [.bool false, .int .u64 0, .int .u64 0, .int .u64 0, .int .u64 0] := (Row.at rfl _ _).after hb1
  have hB1 : Below w.heap.size w w1 := ((Below.refl w.heap.size w).alloc (Nat.le_refl _) _).trans (hb1.mono (by simp))
  have hX : w.heap.size < w1.heap.size := r1.lt
  rw [bigv]
  have hS : SX w w1.heap.size 0 A1 c1 (w1.alloc (.cells #[.bool (decide ((0 : Int) < 0)), .slice A1 (L16 (0 : Int).natAbs) c1] 30)) :=
    ⟨r1.alloc _, Row.at rfl _ _, hd1.below ((Below.refl _ _).alloc (Nat.le_refl _) _), hc1, hB1.alloc hB1.size _, hX⟩
  have HS := Lib.hid hS
  clear hS hd1 hc1 r1 hb1 hB1
  generalize hs0 : decide ((0 : Int) < 0) = s0 at *
  generalize hl0 : L16 (0 : Int).natAbs = l0 at *
  go_wp2_with fail
  generalize hXX : w1.heap.size = X at *
  generalize World.alloc _ _ = W2 at HS ⊢
  clear hXX
  go_loopw [7] (fun v wr => ∃ k : Nat, k ≤ n ∧ v = .int .i64 k ∧ ∃ z A2 c2, Hid (zfold (fun a b => a + b) zs 0 k = some z ∧ z.natAbs < T256) ∧ Hid (SX w X z A2 c2 wr)) (fun v _ => n - (intOf v).toNat)
  case atStart => exact ⟨0, by omega, rfl, 0, A1, c1, Lib.hid ⟨rfl, by decide⟩, HS⟩
  case round =>
    obtain ⟨k, hk, rfl, z, A2, c2, HF, HK⟩ := hrel
    clear HS hs0 hl0
    have q := HK.out.2.1
    have q0 := q.c 0 rfl
    have q1 := q.c 1 rfl
    have lX := q.lt
    clear q
    by_cases hkn : k < n
    · obtain rfl := HAd.out (by omega)
      obtain ⟨d0, d1, d2, d3, d4⟩ := IntsAt.num (Hi.out.below HK.out.2.2.2.2.1 lb) k hkn
      have hk1 : (k : Int) < n := by omega
      have hzk := Hz.out k hkn
      have hl1 := L16_int.1 HF.out.2
      have hl2 := L16_int.1 hzk
      have HFrom := Lib.hid (fun W => from_z (zs k) W hzk)
      have HOp := Lib.hid (fun W A3 c3 (h1 : DS W z.natAbs A2) (h2 : DS W (zs k).natAbs A3) => refadd_p z (zs k) A2 A3 c2 c3 W h1 h2 (by omega) (by omega))
      have HPut := Lib.hid (fun W A3 c3 (h : SX w X z A2 c2 W) (h1 : DS W (z + zs k).natAbs A3) (h2 : L16 (z + zs k).natAbs ≤ c3) => h.put (y := z + zs k) h1 h2)
      have HTo := Lib.hid (fun A3 c3 W (h : DS W (z + zs k).natAbs A3) => to_z (z + zs k) A3 c3 W h)
      have HYes : Hid ((z + zs k).natAbs < T256 → zfold (fun a b => a + b) zs 0 (k + 1) = some (z + zs k)) := Lib.hid (fun h => zfold_some HF.out.1 h)
      have HNo : Hid (¬ (z + zs k).natAbs < T256 → zfold (fun a b => a + b) zs 0 n = none) := Lib.hid (fun h => zfold_stop HF.out.1 h hkn)
      unfold BigPost at HFrom HOp
      simp only [ivz, bigv] at HFrom HOp HTo
      clear hl1 hl2 hzk HF
      generalize hzz : z + zs k = zz at *
      clear hzz
      generalize hls : decide (z < 0) = s at *
      generalize hln : L16 z.natAbs = n1 at *
      generalize decide (zs k < 0) = t at *
      generalize L16 (zs k).natAbs = n2 at *
      generalize (zs k).natAbs = yk at *
      generalize ((W64 yk 0 : Nat) : Int) = y0 at *
      generalize ((W64 yk 1 : Nat) : Int) = y1 at *
      generalize ((W64 yk 2 : Nat) : Int) = y2 at *
      generalize ((W64 yk 3 : Nat) : Int) = y3 at *
      generalize hg : decide (zz < 0) = g at *
      generalize hl3 : L16 zz.natAbs = n3 at *
      go_wp2_with fail
      go_region_with ((first
        | (go_at_call 17; (with_reducible refine (HFrom.out _).mono ?_); rintro e w2 ⟨A3, c3, rfl, hc3, hd3, hb3⟩; have HK3 := Lib.hid (HK.out.drew.after hb3); have HD3 := Lib.hid hd3; have HDz := Lib.hid HK3.out.2.2.1; clear hd3 hb3; have e0 := HK3.out.2.1.c 0 rfl; have e1 := HK3.out.2.1.c 1 rfl; rw [hls] at e0; rw [hln] at e1)
        | (go_at_call 48; (with_reducible refine (HOp.out _ _ _ HDz.out HD3.out).mono ?_); rintro e w4 ⟨A4, c4, rfl, hc4, hd4, hb4⟩; have HK4 := Lib.hid (HK3.out.after hb4); have HD4 := Lib.hid hd4; have HC4 := Lib.hid hc4; clear hd4 hb4 hc4; have f0 := HK4.out.2.1.c 0 rfl; have f1 := HK4.out.2.1.c 1 rfl; have g0 := HK4.out.2.1.f 0 rfl; have g1 := HK4.out.2.1.f 1 rfl; rw [hls] at f0; rw [hln] at f1)))
      all_goals
        have HK5 := Lib.hid (HPut.out w4 A4 c4 HK4.out HD4.out HC4.out)
        clear f0 f1 g0 g1 HPut HK4 HK3 HDz HD3 HD4 e0 e1 HFrom HOp q0 q1
        generalize World.setCell _ _ _ = W5 at HK5 ⊢
        have q0 := HK5.out.2.1.c 0 rfl
        have q1 := HK5.out.2.1.c 1 rfl
        rw [hg] at q0
        rw [hl3] at q1
        go_wp2_with fail
        refine (HTo.out A4 c4 W5 HK5.out.2.2.1).mono ?_
        rintro e w6 ⟨rfl, hb6⟩
        have HK6 := Lib.hid (HK5.out.after hb6)
        clear hb6 HK5 HTo q0 q1
        by_cases hfit : zz.natAbs < T256
        · rw [toV, if_pos hfit, ivz]
          have HY := Lib.hid (HYes.out hfit)
          have HFit := Lib.hid hfit
          clear hfit HYes HNo
          generalize decide (zz < 0) = gg
          generalize ((W64 zz.natAbs 0 : Nat) : Int) = v0
          generalize ((W64 zz.natAbs 1 : Nat) : Int) = v1
          generalize ((W64 zz.natAbs 2 : Nat) : Int) = v2
          generalize ((W64 zz.natAbs 3 : Nat) : Int) = v3
          go_wp2_with fail
          exact ⟨⟨k + 1, by omega, rfl, zz, A4, c4, Lib.hid ⟨HY.out, HFit.out⟩, Lib.hid (HK6.out.alloc _)⟩, by simp [intOf]; omega⟩
        · rw [toV, if_neg hfit]
          have HN : Hid (ansz (zfold (fun a b => a + b) zs 0 n) = .tuple #[iv false 0 0 0 0, .int .i64 110]) := Lib.hid (by rw [HNo.out hfit, ansz, ivz_nought])
          clear hfit HYes HNo
          have rr := HK6.out.1.alloc (.cells #[.bool false, .int .u64 0, .int .u64 0, .int .u64 0, .int .u64 0] 25)
          have hB6 := HK6.out.2.2.2.2.1.alloc HK6.out.2.2.2.2.1.size (.cells #[.bool false, .int .u64 0, .int .u64 0, .int .u64 0, .int .u64 0] 25)
          have a0 := rr.c 0 rfl
          have b0 := rr.f 0 rfl
          have a1 := rr.c 1 rfl
          have b1 := rr.f 1 rfl
          have a2 := rr.c 2 rfl
          have b2 := rr.f 2 rfl
          have a3 := rr.c 3 rfl
          have b3 := rr.f 3 rfl
          have a4 := rr.c 4 rfl
          have b4 := rr.f 4 rfl
          go_wp2_with fail
          clear a0 a1 a2 a3 a4 b0 b1 b2 b3 b4
          generalize hW : World.setCell _ _ _ = W7
          have r7 : Row W7 w.heap.size [.bool false, .int .u64 0, .int .u64 0, .int .u64 0, .int .u64 0] := by rw [← hW]; exact rr.put5 _ _ _ _ _
          have hB7 : Below w.heap.size w W7 := by rw [← hW]; exact below_put5 hB6 (Nat.le_refl _) _ _ _ _ _
          clear hW rr hB6
          exact bodyPost_ret (v := .tuple #[iv false 0 0 0 0, .int .i64 110]) (by simp [results, Tryd.results24, go_sem, r7.c 0 rfl, r7.c 1 rfl, r7.c 2 rfl, r7.c 3 rfl, r7.c 4 rfl]) rfl ⟨by rw [HN.out], hB7⟩
    · obtain rfl : k = n := by omega
      have HO := Lib.hid (fun W (h : DS W z.natAbs A2) => out_z z A2 c2 W h)
      have HR : Hid (ansz (zfold (fun a b => a + b) zs 0 k) = outV z) := Lib.hid (by rw [HF.out.1, ansz, outV, if_pos HF.out.2])
      have eO : outV z = .tuple #[ivz z, .int .i64 0] := by rw [outV, if_pos HF.out.2]
      rw [eO] at HR HO
      simp only [bigv, ivz] at HO HR
      generalize hls : decide (z < 0) = s at *
      generalize hln : L16 z.natAbs = n1 at *
      generalize ((W64 z.natAbs 0 : Nat) : Int) = v0 at *
      generalize ((W64 z.natAbs 1 : Nat) : Int) = v1 at *
      generalize ((W64 z.natAbs 2 : Nat) : Int) = v2 at *
      generalize ((W64 z.natAbs 3 : Nat) : Int) = v3 at *
      clear eO HF
      go_wp2_with fail
      refine (HO.out _ HK.out.2.2.1).mono ?_
      rintro e w2 ⟨rfl, hb2⟩
      have rr := HK.out.1.after hb2
      have hB6 := HK.out.2.2.2.2.1.trans (hb2.mono HK.out.2.2.2.2.1.size)
      clear hb2 HO HK q0 q1
      have a0 := rr.c 0 rfl
      have b0 := rr.f 0 rfl
      have a1 := rr.c 1 rfl
      have b1 := rr.f 1 rfl
      have a2 := rr.c 2 rfl
      have b2 := rr.f 2 rfl
      have a3 := rr.c 3 rfl
      have b3 := rr.f 3 rfl
      have a4 := rr.c 4 rfl
      have b4 := rr.f 4 rfl
      go_wp2_with fail
      clear a0 a1 a2 a3 a4 b0 b1 b2 b3 b4
      generalize hW : World.setCell _ _ _ = W7
      have r7 : Row W7 w.heap.size [.bool s, .int .u64 v0, .int .u64 v1, .int .u64 v2, .int .u64 v3] := by rw [← hW]; exact rr.put5 _ _ _ _ _
      have hB7 : Below w.heap.size w W7 := by rw [← hW]; exact below_put5 hB6 (Nat.le_refl _) _ _ _ _ _
      clear hW rr hB6
      exact bodyPost_ret (v := .tuple #[iv s v0 v1 v2 v3, .int .i64 0]) (by simp [results, Tryd.results24, go_sem, r7.c 0 rfl, r7.c 1 rfl, r7.c 2 rfl, r7.c 3 rfl, r7.c 4 rfl]) rfl ⟨by rw [HR.out], hB7⟩
end Go.Proofs.YtpbdhhdmnnelhaaDoor

/- Contract of LimbSums' steps for products. -/
namespace Go.Proofs.YtpbdhhdmnnelhaaDoor
open Go.RowKit

set_option maxRecDepth 100000 in
set_option maxHeartbeats 1000000 in
theorem steps_prod (b o n c : Nat) (zs : Nat → Int) (w : World) (hn : n ≤ 1000) (lb : b < w.heap.size)
    (hi : IntsAt w b o n (fun i => decide (zs i < 0)) (fun i k => (W64 (zs i).natAbs k : Nat))) (hz : ∀ i, i < n → (zs i).natAbs < T256) (A : Option Addr) (hA : 0 < n → A = some ⟨b, o, none⟩) :
    Calls Tryd.prog 24 #[.slice A n c, .bool true] w fun e w' => e = .returned (ansz (zfold (fun a b => a * b) zs 1 n)) ∧ Below w.heap.size w w' := by
  have HAd := Lib.hid hA; clear hA
  have Hi := Lib.hid hi; clear hi
  have Hz := Lib.hid hz; clear hz
  go_enter Tryd.func24, Tryd.ntmps24
  go_wp2_with fail
  refine (num_z 0 _ (by decide) (by decide)).mono ?_
  rintro e w1 ⟨A1, c1, rfl, hc1, hd1, hb1⟩
  have r1 : Row w1 w.heap.size [.bool false, .int .u64 0, .int .u64 0, .int .u64 0, .int .u64 0] := (Row.at rfl _ _).after hb1
  have hB1 : Below w.heap.size w w1 := ((Below.refl w.heap.size w).alloc (Nat.le_refl _) _).trans (hb1.mono (by simp))
  have hX : w.heap.size < w1.heap.size := r1.lt
  rw [bigv]
  have hS : SX w w1.heap.size 0 A1 c1 (w1.alloc (.cells #[.bool (decide ((0 : Int) < 0)), .slice A1 (L16 (0 : Int).natAbs) c1] 30)) :=
    ⟨r1.alloc _, Row.at rfl _ _, hd1.below ((Below.refl _ _).alloc (Nat.le_refl _) _), hc1, hB1.alloc hB1.size _, hX⟩
  have HS := Lib.hid hS
  clear hS hd1 hc1 r1 hb1 hB1
  generalize hs0 : decide ((0 : Int) < 0) = s0 at *
  generalize hl0 : L16 (0 : Int).natAbs = l0 at *
  go_wp2_with fail
  refine (num_z 1 _ (by decide) (by decide)).mono ?_
  rintro e w3 ⟨A3, c3, rfl, hc3, hd3, hb3⟩
  have HS3 := Lib.hid (HS.out.after hb3)
  have HP3 := Lib.hid (HS3.out.put (y := 1) hd3 hc3)
  have p0 := HS3.out.2.1.c 0 rfl
  have p1 := HS3.out.2.1.c 1 rfl
  have p2 := HS3.out.2.1.f 0 rfl
  have p3 := HS3.out.2.1.f 1 rfl
  rw [hs0] at p0
  rw [hl0] at p1
  clear HS HS3 hd3 hc3 hb3
  rw [bigv]
  generalize hs1 : decide ((1 : Int) < 0) = s1 at *
  generalize hl1 : L16 (1 : Int).natAbs = l1 at *
  go_wp2_with fail
  generalize hXX : w1.heap.size = X at *
  generalize World.setCell _ _ _ = W2 at HP3 ⊢
  clear hXX p0 p1 p2 p3 hs1 hl1
  have HS := HP3
  clear HP3
  go_loopw [7] (fun v wr => ∃ k : Nat, k ≤ n ∧ v = .int .i64 k ∧ ∃ z A2 c2, Hid (zfold (fun a b => a * b) zs 1 k = some z ∧ z.natAbs < T256) ∧ Hid (SX w X z A2 c2 wr)) (fun v _ => n - (intOf v).toNat)
  case atStart => exact ⟨0, by omega, rfl, 1, A3, c3, Lib.hid ⟨rfl, by decide⟩, HS⟩
  case round =>
    obtain ⟨k, hk, rfl, z, A2, c2, HF, HK⟩ := hrel
    clear HS hs0 hl0
    have q := HK.out.2.1
    have q0 := q.c 0 rfl
    have q1 := q.c 1 rfl
    have lX := q.lt
    clear q
    by_cases hkn : k < n
    · obtain rfl := HAd.out (by omega)
      obtain ⟨d0, d1, d2, d3, d4⟩ := IntsAt.num (Hi.out.below HK.out.2.2.2.2.1 lb) k hkn
      have hk1 : (k : Int) < n := by omega
      have hzk := Hz.out k hkn
      have hl1 := L16_int.1 HF.out.2
      have hl2 := L16_int.1 hzk
      have HFrom := Lib.hid (fun W => from_z (zs k) W hzk)
      have HOp := Lib.hid (fun W A3 c3 (h1 : DS W z.natAbs A2) (h2 : DS W (zs k).natAbs A3) => mul_z z (zs k) A2 A3 c2 c3 W h1 h2 (by omega) (by omega))
      have HPut := Lib.hid (fun W A3 c3 (h : SX w X z A2 c2 W) (h1 : DS W (z * zs k).natAbs A3) (h2 : L16 (z * zs k).natAbs ≤ c3) => h.put (y := z * zs k) h1 h2)
      have HTo := Lib.hid (fun A3 c3 W (h : DS W (z * zs k).natAbs A3) => to_z (z * zs k) A3 c3 W h)
      have HYes : Hid ((z * zs k).natAbs < T256 → zfold (fun a b => a * b) zs 1 (k + 1) = some (z * zs k)) := Lib.hid (fun h => zfold_some HF.out.1 h)
      have HNo : Hid (¬ (z * zs k).natAbs < T256 → zfold (fun a b => a * b) zs 1 n = none) := Lib.hid (fun h => zfold_stop HF.out.1 h hkn)
      unfold BigPost at HFrom HOp
      simp only [ivz, bigv] at HFrom HOp HTo
      clear hl1 hl2 hzk HF
      generalize hzz : z * zs k = zz at *
      clear hzz
      generalize hls : decide (z < 0) = s at *
      generalize hln : L16 z.natAbs = n1 at *
      generalize decide (zs k < 0) = t at *
      generalize L16 (zs k).natAbs = n2 at *
      generalize (zs k).natAbs = yk at *
      generalize ((W64 yk 0 : Nat) : Int) = y0 at *
      generalize ((W64 yk 1 : Nat) : Int) = y1 at *
      generalize ((W64 yk 2 : Nat) : Int) = y2 at *
      generalize ((W64 yk 3 : Nat) : Int) = y3 at *
      generalize hg : decide (zz < 0) = g at *
      generalize hl3 : L16 zz.natAbs = n3 at *
      go_wp2_with fail
      go_region_with ((first
        | (go_at_call 17; (with_reducible refine (HFrom.out _).mono ?_); rintro e w2 ⟨A3, c3, rfl, hc3, hd3, hb3⟩; have HK3 := Lib.hid (HK.out.drew.after hb3); have HD3 := Lib.hid hd3; have HDz := Lib.hid HK3.out.2.2.1; clear hd3 hb3; have e0 := HK3.out.2.1.c 0 rfl; have e1 := HK3.out.2.1.c 1 rfl; rw [hls] at e0; rw [hln] at e1)
        | (go_at_call 47; (with_reducible refine (HOp.out _ _ _ HDz.out HD3.out).mono ?_); rintro e w4 ⟨A4, c4, rfl, hc4, hd4, hb4⟩; have HK4 := Lib.hid (HK3.out.after hb4); have HD4 := Lib.hid hd4; have HC4 := Lib.hid hc4; clear hd4 hb4 hc4; have f0 := HK4.out.2.1.c 0 rfl; have f1 := HK4.out.2.1.c 1 rfl; have g0 := HK4.out.2.1.f 0 rfl; have g1 := HK4.out.2.1.f 1 rfl; rw [hls] at f0; rw [hln] at f1)))
      all_goals
        have HK5 := Lib.hid (HPut.out w4 A4 c4 HK4.out HD4.out HC4.out)
        clear f0 f1 g0 g1 HPut HK4 HK3 HDz HD3 HD4 e0 e1 HFrom HOp q0 q1
        generalize World.setCell _ _ _ = W5 at HK5 ⊢
        have q0 := HK5.out.2.1.c 0 rfl
        have q1 := HK5.out.2.1.c 1 rfl
        rw [hg] at q0
        rw [hl3] at q1
        go_wp2_with fail
        refine (HTo.out A4 c4 W5 HK5.out.2.2.1).mono ?_
        rintro e w6 ⟨rfl, hb6⟩
        have HK6 := Lib.hid (HK5.out.after hb6)
        clear hb6 HK5 HTo q0 q1
        by_cases hfit : zz.natAbs < T256
        · rw [toV, if_pos hfit, ivz]
          have HY := Lib.hid (HYes.out hfit)
          have HFit := Lib.hid hfit
          clear hfit HYes HNo
          generalize decide (zz < 0) = gg
          generalize ((W64 zz.natAbs 0 : Nat) : Int) = v0
          generalize ((W64 zz.natAbs 1 : Nat) : Int) = v1
          generalize ((W64 zz.natAbs 2 : Nat) : Int) = v2
          generalize ((W64 zz.natAbs 3 : Nat) : Int) = v3
          go_wp2_with fail
          exact ⟨⟨k + 1, by omega, rfl, zz, A4, c4, Lib.hid ⟨HY.out, HFit.out⟩, Lib.hid (HK6.out.alloc _)⟩, by simp [intOf]; omega⟩
        · rw [toV, if_neg hfit]
          have HN : Hid (ansz (zfold (fun a b => a * b) zs 1 n) = .tuple #[iv false 0 0 0 0, .int .i64 110]) := Lib.hid (by rw [HNo.out hfit, ansz, ivz_nought])
          clear hfit HYes HNo
          have rr := HK6.out.1.alloc (.cells #[.bool false, .int .u64 0, .int .u64 0, .int .u64 0, .int .u64 0] 25)
          have hB6 := HK6.out.2.2.2.2.1.alloc HK6.out.2.2.2.2.1.size (.cells #[.bool false, .int .u64 0, .int .u64 0, .int .u64 0, .int .u64 0] 25)
          have a0 := rr.c 0 rfl
          have b0 := rr.f 0 rfl
          have a1 := rr.c 1 rfl
          have b1 := rr.f 1 rfl
          have a2 := rr.c 2 rfl
          have b2 := rr.f 2 rfl
          have a3 := rr.c 3 rfl
          have b3 := rr.f 3 rfl
          have a4 := rr.c 4 rfl
          have b4 := rr.f 4 rfl
          go_wp2_with fail
          clear a0 a1 a2 a3 a4 b0 b1 b2 b3 b4
          generalize hW : World.setCell _ _ _ = W7
          have r7 : Row W7 w.heap.size [.bool false, .int .u64 0, .int .u64 0, .int .u64 0, .int .u64 0] := by rw [← hW]; exact rr.put5 _ _ _ _ _
          have hB7 : Below w.heap.size w W7 := by rw [← hW]; exact below_put5 hB6 (Nat.le_refl _) _ _ _ _ _
          clear hW rr hB6
          exact bodyPost_ret (v := .tuple #[iv false 0 0 0 0, .int .i64 110]) (by simp [results, Tryd.results24, go_sem, r7.c 0 rfl, r7.c 1 rfl, r7.c 2 rfl, r7.c 3 rfl, r7.c 4 rfl]) rfl ⟨by rw [HN.out], hB7⟩
    · obtain rfl : k = n := by omega
      have HO := Lib.hid (fun W (h : DS W z.natAbs A2) => out_z z A2 c2 W h)
      have HR : Hid (ansz (zfold (fun a b => a * b) zs 1 k) = outV z) := Lib.hid (by rw [HF.out.1, ansz, outV, if_pos HF.out.2])
      have eO : outV z = .tuple #[ivz z, .int .i64 0] := by rw [outV, if_pos HF.out.2]
      rw [eO] at HR HO
      simp only [bigv, ivz] at HO HR
      generalize hls : decide (z < 0) = s at *
      generalize hln : L16 z.natAbs = n1 at *
      generalize ((W64 z.natAbs 0 : Nat) : Int) = v0 at *
      generalize ((W64 z.natAbs 1 : Nat) : Int) = v1 at *
      generalize ((W64 z.natAbs 2 : Nat) : Int) = v2 at *
      generalize ((W64 z.natAbs 3 : Nat) : Int) = v3 at *
      clear eO HF
      go_wp2_with fail
      refine (HO.out _ HK.out.2.2.1).mono ?_
      rintro e w2 ⟨rfl, hb2⟩
      have rr := HK.out.1.after hb2
      have hB6 := HK.out.2.2.2.2.1.trans (hb2.mono HK.out.2.2.2.2.1.size)
      clear hb2 HO HK q0 q1
      have a0 := rr.c 0 rfl
      have b0 := rr.f 0 rfl
      have a1 := rr.c 1 rfl
      have b1 := rr.f 1 rfl
      have a2 := rr.c 2 rfl
      have b2 := rr.f 2 rfl
      have a3 := rr.c 3 rfl
      have b3 := rr.f 3 rfl
      have a4 := rr.c 4 rfl
      have b4 := rr.f 4 rfl
      go_wp2_with fail
      clear a0 a1 a2 a3 a4 b0 b1 b2 b3 b4
      generalize hW : World.setCell _ _ _ = W7
      have r7 : Row W7 w.heap.size [.bool s, .int .u64 v0, .int .u64 v1, .int .u64 v2, .int .u64 v3] := by rw [← hW]; exact rr.put5 _ _ _ _ _
      have hB7 : Below w.heap.size w W7 := by rw [← hW]; exact below_put5 hB6 (Nat.le_refl _) _ _ _ _ _
      clear hW rr hB6
      exact bodyPost_ret (v := .tuple #[iv s v0 v1 v2 v3, .int .i64 0]) (by simp [results, Tryd.results24, go_sem, r7.c 0 rfl, r7.c 1 rfl, r7.c 2 rfl, r7.c 3 rfl, r7.c 4 rfl]) rfl ⟨by rw [HR.out], hB7⟩
end Go.Proofs.YtpbdhhdmnnelhaaDoor
