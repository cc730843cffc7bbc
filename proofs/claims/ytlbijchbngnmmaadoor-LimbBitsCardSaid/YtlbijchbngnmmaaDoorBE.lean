/- Contract of the document's Num by the number's value; the word is one of 64 bits. -/
import Derived.Test.YtlbijchbngnmmaaDoorBD
import Derived.IntWalk
namespace Go.Proofs.YtlbijchbngnmmaaDoor
open Go.RowKit

/-- The first k digits, as cells. -/
def digV (m : Nat) : Nat → List Value
  | 0 => []
  | k + 1 => digV m k ++ [.int .i64 (digR m k)]
theorem digV_len (m k : Nat) : (digV m k).length = k := by
  induction k with
  | zero => rfl
  | succ k ih => simp [digV, ih]
theorem digV_at (m : Nat) {k i : Nat} (h : i < k) : (digV m k)[i]? = some (.int .i64 (digR m i)) := by
  induction k with
  | zero => omega
  | succ k ih =>
    rw [digV]
    by_cases e : i = k
    · subst e; rw [List.getElem?_append_right (by rw [digV_len]; exact Nat.le_refl _), digV_len]; simp
    · rw [List.getElem?_append_left (by rw [digV_len]; omega)]; exact ih (by omega)
/-- What stands while digits are gathered; the first n₀ blocks are of no row, the one at the old top holds what is answered. -/
def NuS (w : World) (t : Nat) (vs : List Value) (n : Nat) (xs : List Value) (v : Value) (wr : World) : Prop :=
  wr.ownsRow (w.heap.size + t) 2 1 v n xs ∧ Row wr w.heap.size vs ∧ Below w.heap.size w wr ∧ w.heap.size + t ≤ wr.heap.size ∧ 0 < t
theorem NuS.step {w wr w1 : World} {t : Nat} {vs xs : List Value} {n : Nat} {v v' d : Value} {o : Obj} (h : NuS w t vs n xs v wr)
    (hown : w1.ownsRow (w.heap.size + t) 2 1 v' (n + 1) (xs ++ [d])) (hg : (wr.alloc o).grownBy w1 v.ownBlock) : NuS w t vs (n + 1) (xs ++ [d]) v' w1 := by
  obtain ⟨h1, h2, h4, h5, h6⟩ := h
  have hne : ∀ j, j < w.heap.size + t → some j ≠ v.ownBlock := fun j hj e => by have := h1.lt j e.symm; omega
  exact ⟨hown, (h2.alloc o).grown hg (hne _ (by omega)), (h4.alloc (by omega) o).grown hg (by simp; omega) (fun j hj => by have := (h1.lt j hj).1; omega),
    Nat.le_trans h5 (Nat.le_trans (by simp) hg.size), h6⟩
theorem NuS.own {w wr : World} {t : Nat} {vs xs : List Value} {n : Nat} {v : Value} (h : NuS w t vs n xs v wr) : wr.ownsRow (w.heap.size + t) 2 1 v n xs := h.1
theorem NuS.size {w wr : World} {t : Nat} {vs xs : List Value} {n : Nat} {v : Value} (h : NuS w t vs n xs v wr) : w.heap.size + t ≤ wr.heap.size := h.2.2.2.1
theorem NuS.row {w wr : World} {t : Nat} {vs xs : List Value} {n : Nat} {v : Value} (h : NuS w t vs n xs v wr) : Row wr w.heap.size vs := h.2.1
theorem NuS.below {w wr : World} {t : Nat} {vs xs : List Value} {n : Nat} {v : Value} (h : NuS w t vs n xs v wr) : Below w.heap.size w wr := h.2.2.1
theorem NuS.form {w wr : World} {t : Nat} {vs : List Value} {x : Nat → Int} {xs : List Value} {n : Nat} {v : Value} (h : NuS w t vs n xs v wr) (hx : ∀ i, i < n → xs[i]? = some (.int .i64 (x i))) :
    ∃ A c, v = .slice A n c ∧ n ≤ c ∧ DR wr x n A ∧ ∀ p, A = some p → w.heap.size + t ≤ p.block := by
  obtain ⟨hl, ho⟩ := h.1
  rcases ho with ⟨hv, h0⟩ | ⟨g, cap, cur, hv, hbs, hg, hn, _, hs, ht⟩
  · exact ⟨none, 0, by rw [hv, h0], by omega, fun hp => by omega, fun p hp => by cases hp⟩
  · refine ⟨some ⟨g, 0, none⟩, cap, hv, hn, fun _ => ⟨g, rfl, (Array.getElem?_eq_some_iff.mp hg).1, fun i hi => ?_⟩, fun p hp => by cases hp; exact hbs⟩
    have h1 := hx i hi
    rw [← ht, List.getElem?_take] at h1
    rw [if_pos (by omega)] at h1
    simp [World.cell?, hg]
    simpa using h1

theorem div_pos_lt {m k : Nat} (hm : m < 18446744073709551616) (h : m / 65536 ^ k ≠ 0) : k < 4 := by
  apply Nat.lt_of_not_le
  intro h4
  apply h
  exact Nat.div_eq_of_lt (Nat.lt_of_lt_of_le hm (Nat.le_trans (by decide) (Nat.pow_le_pow_right (n := 65536) (by decide) h4)))

set_option maxRecDepth 100000 in
set_option maxHeartbeats 800000 in
theorem num_z (n : Int) (w : World) (h1 : -9223372036854775808 ≤ n) (h2 : n ≤ 9223372036854775807) :
    Calls Tryd.prog 12 #[.int .i64 n] w (BigPost w n) := by
  obtain ⟨i0, hi, hz0, hz1, hz2⟩ := info_parts info64
  by_cases hmin : n = -9223372036854775808
  · subst hmin
    clear h1 h2
    go_enter Tryd.func12, Tryd.ntmps12
    go_wp2_with fail
    generalize hW : World.alloc _ _ = W0
    have rR : Row W0 w.heap.size [.bool true, .slice (some ⟨w.heap.size + 1, 0, none⟩) 4 4] := by rw [← hW]; exact (Row.at rfl _ _).alloc _
    have rD : Row W0 (w.heap.size + 1) [.int .i64 0, .int .i64 0, .int .i64 0, .int .i64 32768] := by rw [← hW]; exact Row.at (by simp) _ _
    have hB : Below w.heap.size w W0 := by rw [← hW]; exact ((Below.refl w.heap.size w).alloc (Nat.le_refl _) _).alloc (by simp) _
    have hL : L16 (-9223372036854775808 : Int).natAbs = 4 := by
      show L16 9223372036854775808 = 4
      rw [L16_step (by decide), L16_step (by decide), L16_step (by decide), L16_step (by decide), show 9223372036854775808 / 65536 / 65536 / 65536 / 65536 = 0 from rfl, L16_nought]
    refine bodyPost_ret (v := .agg #[.bool true, .slice (some ⟨w.heap.size + 1, 0, none⟩) 4 4]) (by simp [results, Tryd.results12, go_sem, rR.c 0 rfl, rR.c 1 rfl]) rfl ⟨some ⟨w.heap.size + 1, 0, none⟩, 4, by rw [bigv, hL]; rfl, by rw [hL]; exact Nat.le_refl _, fun _ => ⟨_, rfl, rD.lt, fun i hi => ?_⟩, hB⟩
    rw [hL] at hi
    match i, hi with
    | 0, _ => exact rD.c 0 rfl
    | 1, _ => exact rD.c 1 rfl
    | 2, _ => exact rD.c 2 rfl
    | 3, _ => exact rD.c 3 rfl
  · obtain ⟨m, s, hn, hms⟩ : ∃ (m : Nat) (s : Bool), n = (if s then -(m : Int) else m) ∧ (s = true → 0 < m) := by
      by_cases hneg : n < 0
      · exact ⟨n.natAbs, true, by rw [if_pos rfl]; omega, fun _ => by omega⟩
      · exact ⟨n.natAbs, false, by rw [if_neg (by decide)]; omega, fun h => by cases h⟩
    have hm63 : m ≤ 9223372036854775807 := by
      have : n.natAbs = m := by rw [hn]; split <;> omega
      omega
    have HZ := Lib.hid hn
    have hcase : (s = false ∧ n = m) ∨ (s = true ∧ 0 < m ∧ n = -(m : Int)) := by
      cases s
      · exact .inl ⟨rfl, by simpa using hn⟩
      · exact .inr ⟨rfl, hms rfl, by simpa using hn⟩
    clear hn hms
    rcases hcase with ⟨rfl, rfl⟩ | ⟨rfl, hmp, rfl⟩
    all_goals
      clear h1 h2 hmin
      first
        | (have hmi : ((m : Int) == -9223372036854775808) = false := by rw [beq_eq_false_iff_ne]; omega
           have hm0 : (0 : Int) ≤ m := by omega
           have hm1 : (m : Int) ≤ 9223372036854775807 := by omega
           have hm3 : decide ((m : Int) < 0) = false := by rw [decide_eq_false_iff_not]; omega
           go_enter Tryd.func12, Tryd.ntmps12
           go_wp2_with fail
           generalize hbb : ((m : Int) == -9223372036854775808) = bb
           generalize hsg : decide ((m : Int) < 0) = sg
           have HSG := Lib.hid (hsg.symm.trans hm3)
           clear hbb hsg
           clear hmi hm0 hm1 hm3)
        | (have hmi : (-(m : Int) == -9223372036854775808) = false := by rw [beq_eq_false_iff_ne]; omega
           have hm0 : -9223372036854775807 ≤ -(m : Int) := by omega
           have hm1 : -(m : Int) < 0 := by omega
           have hm3 : decide (-(m : Int) < 0) = true := by simpa using hm1
           have hm4 : wrap64 (- -(m : Int)) = m := by simp only [wrap64]; omega
           go_enter Tryd.func12, Tryd.ntmps12
           go_wp2_with fail
           clear hmi hm0 hm1 hm3 hm4)
      generalize hW : World.alloc _ _ = W0
      have hS : NuS w 1 [.bool false, .slice none 0 0] 0 (digV m 0) (.slice none 0 0) W0 := by
        rw [← hW]
        exact ⟨World.ownsRow_nil _ _ _ _, Row.at rfl _ _, (Below.refl w.heap.size w).alloc (Nat.le_refl _) _, by simp, by omega⟩
      clear hW
      have HS := Lib.hid hS
      clear hS
      go_loopw [0, 4] (fun nn d wr => ∃ k : Nat, k ≤ 4 ∧ nn = .int .i64 ((m / 65536 ^ k : Nat) : Int) ∧ Hid (NuS w 1 [.bool false, .slice none 0 0] k (digV m k) d wr)) (fun nn _ _ => (intOf nn).toNat)
      case atStart => exact ⟨0, by omega, by rw [Nat.pow_zero, Nat.div_one], HS⟩
      case round =>
        obtain ⟨k, hk, rfl, HK⟩ := hrel
        have Hq := Lib.hid (show m / 65536 ^ k = m / 65536 ^ k from rfl)
        have HD := Lib.hid (show D16 m k = m / 65536 ^ k % 65536 from rfl)
        have HN := Lib.hid (show m / 65536 ^ (k + 1) = m / 65536 ^ k / 65536 by rw [Nat.pow_succ, Nat.div_div_eq_div_mul])
        have HL := Lib.hid (fun h : m / 65536 ^ k ≠ 0 => div_pos_lt (by omega) h)
        have HE := Lib.hid (fun h : m / 65536 ^ k = 0 => L16_le (m := m) (n := k) ((Nat.div_eq_zero_iff_lt (Nat.pow_pos (by decide))).1 h))
        have hqm : m / 65536 ^ k ≤ m := Nat.div_le_self _ _
        generalize m / 65536 ^ k = q at *
        clear Hq
        by_cases hq : q = 0
        · subst hq
          obtain ⟨A, c, rfl, hc, hd, hA⟩ := HK.out.form (fun i hi => digV_at m hi)
          have hB := HK.out.below
          have rB := HK.out.row
          have hL := HE.out rfl
          clear HK HS HE HL HN HD
          go_wp2_with fail
          refine (of_z _ m k A c _ wr (by first | exact HZ.out | (have h1 := HZ.out; split <;> omega)) hL (by omega) hc hd).mono ?_
          rintro e w1 ⟨rfl, hcc, hds, hb1⟩
          have rB1 := rB.after hb1
          have hB1 := hB.trans (hb1.mono hB.size)
          clear rB hB hd hL
          have c0 := rB1.c 0 rfl
          have c1 := rB1.c 1 rfl
          have f0 := rB1.f 0 rfl
          have f1 := rB1.f 1 rfl
          have HP := Lib.hid (fun W' (h1 : DS W' _ A) h2 => BigPost.mk (w := w) hcc h1 h2)
          have HA := Lib.hid hA
          have HDS := Lib.hid hds
          clear hA hds hcc hb1 HZ
          rw [bigv] at HP ⊢
          generalize L16 _ = kk at HP ⊢
          generalize decide ((_ : Int) < _) = sg at HP ⊢
          go_wp2_with fail
          clear c0 c1 f0 f1
          generalize hW2 : World.setCell _ _ _ = W2
          have rR : Row W2 w.heap.size [.bool sg, .slice A kk c] := by rw [← hW2]; exact (rB1.set 0 (by simp) _).set 1 (by simp) _
          have hB2 : Below w.heap.size w W2 := by rw [← hW2]; exact below_put1 (below_put1 hB1 (Nat.le_refl _) 0 _) (Nat.le_refl _) 1 _
          have hD2 := Lib.hid ((HDS.out.set (q := ⟨w.heap.size, 0, none⟩) (fun p hp => by have := HA.out p hp; simp; omega) (.bool sg)).set (q := ⟨w.heap.size, 1, none⟩) (fun p hp => by have := HA.out p hp; simp; omega) (.slice A kk c))
          rw [hW2] at hD2
          exact bodyPost_ret (v := .agg #[.bool sg, .slice A kk c]) (by simp [results, Tryd.results12, go_sem, rR.c 0 rfl, rR.c 1 rfl]) rfl (HP.out W2 hD2.out hB2)
        · have hq0 : (0 : Int) < q := by omega
          have hq1 : (q : Int) ≤ 9223372036854775807 := by omega
          have hk4 := HL.out hq
          have hd0 : 0 ≤ digR m k := (digR_bd m k).1
          have hd1 : digR m k < 65536 := (digR_bd m k).2
          have t0 : ((q : Nat) : Int).tmod 65536 = digR m k := by unfold digR; rw [HD.out, Int.tmod_eq_emod_of_nonneg (by omega)]; rfl
          have t1 : ((q : Nat) : Int) % 65536 = digR m k := by unfold digR; rw [HD.out]; rfl
          have u0 : wrap64 (digR m k) = digR m k := by simp only [wrap64]; omega
          have hV := Lib.hid (show digV m (k + 1) = digV m k ++ [.int .i64 (digR m k)] from rfl)
          clear hq HL HE HD
          generalize digR m k = d at *
          go_wp2_with (first
            | (at_builtin; refine wpList_append_own_at _ rfl _ _ 28 rfl (w.heap.size + 1) 2 i0 (.int .i64 0) 1 8 Tryd.underlying28 hi hz0 hz1 hz2 rfl (by decide) _ _ _ rfl (HK.out.own.alloc _) ⟨wr.heap.size, 0, none⟩ 1 1 [.int .i64 d] rfl rfl ?c1 ?c2 ?c3 ?c4 ?c5 ?_)
            | go_in)
          case c1 => exact cell_one_new _ _ _
          case c2 => exact ints_oneCell .i64 [d]
          case c3 => unfold maxLen; omega
          case c4 => omega
          case c5 => have := HK.out.size; simp; omega
          intro v1 w1 hown1 hgrow1 _ _
          have H1 := Lib.hid (HK.out.step (v' := v1) (d := .int .i64 d) hown1 hgrow1)
          clear hgrow1 hown1 HK
          go_wp2
          exact ⟨⟨k + 1, by omega, congrArg (Value.int .i64) (by rw [HN.out]; omega), by rw [hV.out]; exact H1⟩, by simp [intOf]; omega⟩
end Go.Proofs.YtlbijchbngnmmaaDoor
