/- LimbMirrors: what its calls answer at right Ints; where an Int may not be. -/
import Derived.Test.YtpbdhhdmnnelhaaDoorFA
import Derived.Test.YtpbdhhdmnnelhaaDoorEN
import Derived.Test.YtpbdhhdmnnelhaaDoorEV
import Derived.Test.YtpbdhhdmnnelhaaDoorDG
import Derived.Test.YtpbdhhdmnnelhaaDoorDD
namespace Go.Proofs.YtpbdhhdmnnelhaaDoor
open Go.RowKit

/-- Every Int is of a number, or the one that may not be. -/
theorem iv_O (s : Bool) (a b c d : Int) (ha : 0 ≤ a ∧ a < 18446744073709551616) (hb : 0 ≤ b ∧ b < 18446744073709551616) (hc : 0 ≤ c ∧ c < 18446744073709551616) (hd : 0 ≤ d ∧ d < 18446744073709551616) : ∃ o, okO o ∧ iv s a b c d = vO o := by
  cases h : (s && zeroB a b c d)
  · obtain ⟨x, hx, hex, _⟩ := iv_num s a b c d ha hb hc hd h
    exact ⟨some x, hx, hex⟩
  · obtain ⟨h1, h2⟩ := Bool.and_eq_true_iff.1 h
    obtain ⟨rfl, rfl, rfl, rfl⟩ := zeroB_iff.1 h2
    subst h1
    exact ⟨none, trivial, rfl⟩
theorem addP_neg (x y : Int) : (addP (some (-x)) (some (-y))).2 = (addP (some x) (some y)).2 ∧ ((addP (some x) (some y)).2 = 0 → -(addP (some (-x)) (some (-y))).1 = (addP (some x) (some y)).1) := by
  have e : -x + -y = -(x + y) := by omega
  have n : (-(x + y)).natAbs = (x + y).natAbs := Int.natAbs_neg _
  simp only [addP, e, n]
  by_cases h : (x + y).natAbs < T256
  · rw [if_pos h, if_pos h]; exact ⟨rfl, fun _ => Int.neg_neg _⟩
  · rw [if_neg h, if_neg h]; exact ⟨rfl, fun h2 => absurd (show (110 : Int) = 0 from h2) (by decide)⟩
theorem mulP_neg (x y : Int) : (mulP (some (-x)) (some y)).2 = (mulP (some x) (some y)).2 ∧ ((mulP (some x) (some y)).2 = 0 → -(mulP (some (-x)) (some y)).1 = (mulP (some x) (some y)).1) := by
  have e : -x * y = -(x * y) := Int.neg_mul _ _
  have n : (-(x * y)).natAbs = (x * y).natAbs := Int.natAbs_neg _
  simp only [mulP, e, n]
  by_cases h : (x * y).natAbs < T256
  · rw [if_pos h, if_pos h]; exact ⟨rfl, fun _ => Int.neg_neg _⟩
  · rw [if_neg h, if_neg h]; exact ⟨rfl, fun h2 => absurd (show (110 : Int) = 0 from h2) (by decide)⟩
theorem neg_back (z u : Int) (h : -z = u) (w : World) (hz : z.natAbs < T256) : Calls Tryd.prog 26 #[ivz z] w fun e w' => e = .returned (.tuple #[ivz u, .int .i64 0]) ∧ Below w.heap.size w w' := by
  have h1 := neg_z z w hz
  rw [h] at h1
  exact h1
theorem quo_by_zero (x : Int) (w : World) (hx : x.natAbs < T256) : Calls Tryd.prog 30 #[ivz x, ivz 0] w fun e w' => e = .returned (.tuple #[iv false 0 0 0 0, iv false 0 0 0 0, .int .i64 2]) ∧ Below w.heap.size w w' := by
  rw [← ivz_nought]
  exact quo_zero (decide (x < 0)) (W64 x.natAbs 0 : Nat) (W64 x.natAbs 1 : Nat) (W64 x.natAbs 2 : Nat) (W64 x.natAbs 3 : Nat) w (ivz_right x hx)
theorem mirrors_r (x y : Int) (w : World) (ht : Tab10 w) (hz : TabTz w) (hw0 : 0 < w.heap.size) (hx : x.natAbs < T256) (hy : y.natAbs < T256) :
    Calls Tryd.prog 10 #[ivz x, ivz y] w fun e w' => e = .returned (.bool true) ∧ Below w.heap.size w w' := by
  have hg : 0 < w.heap.size := block_lt_of_cell (hz 0 (by decide))
  have hx' : (-x).natAbs < T256 := by rw [Int.natAbs_neg]; exact hx
  have hy' : (-y).natAbs < T256 := by rw [Int.natAbs_neg]; exact hy
  obtain ⟨ha, ha2⟩ := addP_neg x y
  obtain ⟨hm, hm2⟩ := mulP_neg x y
  have A1 := fun b c W hr => add_O (some x) (some y) b c W hx hy hr
  have A2 := fun b c W hr => add_O (some (-x)) (some (-y)) b c W hx' hy' hr
  have M1 := fun b c W hr => mul_O (some x) (some y) b c W hx hy hr
  have M2 := fun b c W hr => mul_O (some (-x)) (some y) b c W hx' hy hr
  rw [ha] at A2
  rw [hm] at M2
  have G1 := fun W (hW : Below w.heap.size w W) => gcd_z x y W hx hy (hz.below hg hW) (Nat.lt_of_lt_of_le hw0 hW.size)
  have G2 := fun W (hW : Below w.heap.size w W) => gcd_z (-x) y W hx' hy (hz.below hg hW) (Nat.lt_of_lt_of_le hw0 hW.size)
  rw [show Int.gcd (-x) y = Int.gcd x y from by show (-x).natAbs.gcd y.natAbs = _; rw [Int.natAbs_neg]; rfl] at G2
  by_cases h0 : y = 0
  · subst h0
    exact mirrors_core _ _ _ _ _ _ _ _ _ _ _ _ _ _ _ _ _ _ _ _ _ _ _ _ _ _ _ _ _ _ _ _ _ _ _ _ _ _ _ _ _ _ _ _ _ _ _ _ _ _ _ _ _ _ _ _ _ _ _ _ _ _ _ _ _ _ _ _ w ht hz hw0
      ⟨fun W => neg_z x W hx, fun W => neg_z 0 W hy, A1, A2, fun h W => neg_back _ _ (ha2 h) W (addP_bd _ _).1, M1, M2, fun h W => neg_back _ _ (hm2 h) W (mulP_bd _ _).1, G1, G2,
        fun W => quo_by_zero x W hx, fun W => quo_by_zero (-x) W hx', fun h => absurd h (by decide)⟩
  · exact mirrors_core _ _ _ _ _ _ _ _ _ _ _ _ _ _ _ _ _ _ _ _ _ _ _ _ _ _ _ _ _ _ _ _ _ _ _ _ _ _ _ _ _ _ _ _ _ _ _ _ _ _ _ _ _ _ _ _ _ _ _ _ _ _ _ _ _ _ _ _ w ht hz hw0
      ⟨fun W => neg_z x W hx, fun W => neg_z y W hy, A1, A2, fun h W => neg_back _ _ (ha2 h) W (addP_bd _ _).1, M1, M2, fun h W => neg_back _ _ (hm2 h) W (mulP_bd _ _).1, G1, G2,
        fun W => quo_z x y W hx hy h0, fun W => quo_z (-x) y W hx' hy h0, fun _ => ⟨fun W => neg_back _ _ (by rw [Int.neg_tdiv, Int.neg_neg]) W (tdiv_lt _ _ hx'), fun W => neg_back _ _ (by rw [Int.neg_tmod, Int.neg_neg]) W (tmod_lt _ _ hx')⟩⟩

set_option maxRecDepth 100000 in
set_option maxHeartbeats 2000000 in
theorem mirrors_wrong (s t u v : Bool) (a0 a1 a2 a3 b0 b1 b2 b3 x0 x1 x2 x3 y0 y1 y2 y3 k1 k2 : Int) (w : World) (ht : Tab10 w) (hz : TabTz w) (hw0 : 0 < w.heap.size)
    (h1 : ∀ W, Calls Tryd.prog 26 #[iv s a0 a1 a2 a3] W fun e w' => e = .returned (.tuple #[iv u x0 x1 x2 x3, .int .i64 k1]) ∧ Below W.heap.size W w')
    (h2 : ∀ W, Calls Tryd.prog 26 #[iv t b0 b1 b2 b3] W fun e w' => e = .returned (.tuple #[iv v y0 y1 y2 y3, .int .i64 k2]) ∧ Below W.heap.size W w')
    (hk : (k1 = 2 ∧ k2 = 0) ∨ (k1 = 0 ∧ k2 = 2) ∨ (k1 = 2 ∧ k2 = 2)) :
    Calls Tryd.prog 10 #[iv s a0 a1 a2 a3, iv t b0 b1 b2 b3] w fun e w' => e = .returned (.bool true) ∧ Below w.heap.size w w' := by
  have Ht := Lib.hid ht
  have Hz := Lib.hid hz
  have hg : 0 < w.heap.size := block_lt_of_cell (Hz.out 0 (by decide))
  have H1 := Lib.hid h1
  have H2 := Lib.hid h2
  clear ht hz h1 h2
  rcases hk with ⟨rfl, rfl⟩ | ⟨rfl, rfl⟩ | ⟨rfl, rfl⟩
  all_goals
    go_enter Tryd.func10, Tryd.ntmps10
    go_wp2_with fail
    have hS : RS w [(w.heap.size, [.bool s, .int .u64 a0, .int .u64 a1, .int .u64 a2, .int .u64 a3]), (w.heap.size + 1, [.bool t, .int .u64 b0, .int .u64 b1, .int .u64 b2, .int .u64 b3])] _ :=
      ((RS.nil w).new (B := w.heap.size) rfl [.bool s, .int .u64 a0, .int .u64 a1, .int .u64 a2, .int .u64 a3] 25).new (B := w.heap.size + 1) (by simp) [.bool t, .int .u64 b0, .int .u64 b1, .int .u64 b2, .int .u64 b3] 25
    generalize World.alloc _ _ = W0 at hS ⊢
    refine (H1.out _).mono ?_
    rintro e w1 ⟨rfl, hb1⟩
    replace hS := hS.after hb1
    clear hb1
    replace hS := hS.new (B := w1.heap.size) rfl [.bool u, .int .u64 x0, .int .u64 x1, .int .u64 x2, .int .u64 x3] 25
    have ea0 := hS.c 1 rfl 0 rfl
    have ea1 := hS.c 1 rfl 1 rfl
    have ea2 := hS.c 1 rfl 2 rfl
    have ea3 := hS.c 1 rfl 3 rfl
    have ea4 := hS.c 1 rfl 4 rfl
    go_wp2_with fail
    clear ea0 ea1 ea2 ea3 ea4
    generalize World.alloc _ _ = W1 at hS ⊢
    generalize w1.heap.size = B1 at hS ⊢
    refine (H2.out _).mono ?_
    rintro e w2 ⟨rfl, hb1⟩
    replace hS := hS.after hb1
    clear hb1
    replace hS := hS.new (B := w2.heap.size) rfl [.bool v, .int .u64 y0, .int .u64 y1, .int .u64 y2, .int .u64 y3] 25
    go_wp2_with fail
    generalize World.alloc _ _ = W2 at hS ⊢
    generalize w2.heap.size = B2 at hS ⊢
    refine (num_any _ _).mono ?_
    rintro e w3 ⟨rfl, hb1⟩
    replace hS := hS.after hb1
    clear hb1
    go_wp2_with fail
    refine (num_any _ _).mono ?_
    rintro e w4 ⟨rfl, hb1⟩
    replace hS := hS.after hb1
    clear hb1
    go_wp2_with fail
    have hb := hS.2
    refine (works_true _ (Ht.out.below hb) (Hz.out.below hg hb) (Nat.lt_of_lt_of_le hw0 hb.size)).mono ?_
    rintro e wz ⟨rfl, hb1⟩
    have HB := Lib.hid (hb.trans (hb1.mono hb.size))
    clear hb hb1 hS
    go_wp2_with fail
    go_ret
    exact ⟨rfl, HB.out⟩
theorem mirrors_true (s t : Bool) (a0 a1 a2 a3 b0 b1 b2 b3 : Int) (w : World) (ht : Tab10 w) (hz : TabTz w) (hw0 : 0 < w.heap.size)
    (ha0 : 0 ≤ a0 ∧ a0 < 18446744073709551616) (ha1 : 0 ≤ a1 ∧ a1 < 18446744073709551616) (ha2 : 0 ≤ a2 ∧ a2 < 18446744073709551616) (ha3 : 0 ≤ a3 ∧ a3 < 18446744073709551616)
    (hb0 : 0 ≤ b0 ∧ b0 < 18446744073709551616) (hb1 : 0 ≤ b1 ∧ b1 < 18446744073709551616) (hb2 : 0 ≤ b2 ∧ b2 < 18446744073709551616) (hb3 : 0 ≤ b3 ∧ b3 < 18446744073709551616) :
    Calls Tryd.prog 10 #[iv s a0 a1 a2 a3, iv t b0 b1 b2 b3] w fun e w' => e = .returned (.bool true) ∧ Below w.heap.size w w' := by
  obtain ⟨o, ho, eo⟩ := iv_O s a0 a1 a2 a3 ha0 ha1 ha2 ha3
  obtain ⟨p, hp, ep⟩ := iv_O t b0 b1 b2 b3 hb0 hb1 hb2 hb3
  rw [eo, ep]
  cases o with
  | some x => cases p with
    | some y => exact mirrors_r x y w ht hz hw0 ho hp
    | none => exact mirrors_wrong _ _ _ _ _ _ _ _ _ _ _ _ _ _ _ _ _ _ _ _ _ _ w ht hz hw0 (fun W => neg_z x W ho) (fun W => neg_bad W) (.inr (.inl ⟨rfl, rfl⟩))
  | none => cases p with
    | some y => exact mirrors_wrong _ _ _ _ _ _ _ _ _ _ _ _ _ _ _ _ _ _ _ _ _ _ w ht hz hw0 (fun W => neg_bad W) (fun W => neg_z y W hp) (.inl ⟨rfl, rfl⟩)
    | none => exact mirrors_wrong _ _ _ _ _ _ _ _ _ _ _ _ _ _ _ _ _ _ _ _ _ _ w ht hz hw0 (fun W => neg_bad W) (fun W => neg_bad W) (.inr (.inr ⟨rfl, rfl⟩))
end Go.Proofs.YtpbdhhdmnnelhaaDoor

/- limb.Parse of a number's text. -/
namespace Go.Proofs.YtpbdhhdmnnelhaaDoor
open Go.RowKit Go.Lib

theorem dig_byte {d : Nat} (h : d < 10) : (UInt8.ofNat (48 + d)).toNat = 48 + d := by
  rw [UInt8.toNat_ofNat']
  omega
theorem dec_ind {P : Nat → List UInt8 → Prop} (h1 : ∀ n, n < 10 → P n [UInt8.ofNat (48 + n)]) (h2 : ∀ n, ¬ n < 10 → P (n / 10) (decDigits (n / 10)) → P n (decDigits (n / 10) ++ [UInt8.ofNat (48 + n % 10)])) (n : Nat) : P n (decDigits n) := by
  induction n using Nat.strongRecOn with
  | ind n ih =>
    by_cases h : n < 10
    · rw [decDigits_one h]; exact h1 n h
    · rw [decDigits, dif_neg h]; exact h2 n h (ih (n / 10) (by omega))
theorem isDig_byte {d : Nat} (h : d < 10) : isDig (UInt8.ofNat (48 + d)) = true := by
  unfold isDig
  rw [dig_byte h, Bool.and_eq_true_iff, decide_eq_true_iff, decide_eq_true_iff]
  omega
theorem dec_dig (n : Nat) : (decDigits n).all isDig = true := by
  refine dec_ind (P := fun _ l => l.all isDig = true) (fun n h => ?_) (fun n _ ih => ?_) n
  · show (isDig (UInt8.ofNat (48 + n)) && true) = true
    rw [isDig_byte h]; rfl
  · simp only [List.all_append, ih, List.all_cons, List.all_nil, Bool.and_true, Bool.true_and]
    exact isDig_byte (Nat.mod_lt _ (by decide))
theorem dec_head (n : Nat) : ∃ d, d < 10 ∧ (decDigits n).head? = some (UInt8.ofNat (48 + d)) ∧ (0 < n → 0 < d) := by
  refine dec_ind (P := fun n l => ∃ d, d < 10 ∧ l.head? = some (UInt8.ofNat (48 + d)) ∧ (0 < n → 0 < d)) (fun n h => ⟨n, h, rfl, id⟩) (fun n h ih => ?_) n
  obtain ⟨d, hd, hl, hp⟩ := ih
  refine ⟨d, hd, ?_, fun _ => hp (by omega)⟩
  rw [List.head?_append, hl]; rfl
theorem dgt_list (l : List UInt8) (k : Nat) : dgt ⟨l.toArray⟩ k = match l[k]? with | some c => c.toNat - 48 | none => 0 := by
  unfold dgt
  by_cases h : k < l.length
  · rw [dif_pos (show k < (⟨l.toArray⟩ : ByteArray).size by simpa [ByteArray.size] using h), List.getElem?_eq_getElem h]
    rfl
  · rw [dif_neg (show ¬ k < (⟨l.toArray⟩ : ByteArray).size by simpa [ByteArray.size] using h), List.getElem?_eq_none (by omega)]
theorem dv_pre (l m : List UInt8) : ∀ k, k ≤ l.length → dv ⟨(l ++ m).toArray⟩ k = dv ⟨l.toArray⟩ k
  | 0, _ => rfl
  | k + 1, h => by
    rw [dv, dv, dv_pre l m k (by omega), dgt_list, dgt_list, List.getElem?_append_left (by omega)]
theorem dv_dec (n : Nat) : dv ⟨(decDigits n).toArray⟩ (decDigits n).length = n := by
  refine dec_ind (P := fun n l => dv ⟨l.toArray⟩ l.length = n) (fun n h => ?_) (fun n _ ih => ?_) n
  · show dv _ 0 * 10 + dgt _ 0 = n
    rw [dgt_list]
    show 0 * 10 + ((UInt8.ofNat (48 + n)).toNat - 48) = n
    rw [dig_byte h]; omega
  · rw [List.length_append]
    show dv _ (decDigits (n / 10)).length * 10 + dgt _ (decDigits (n / 10)).length = n
    rw [dv_pre _ _ _ (Nat.le_refl _), ih, dgt_list, List.getElem?_append_right (Nat.le_refl _), Nat.sub_self]
    show n / 10 * 10 + ((UInt8.ofNat (48 + n % 10)).toNat - 48) = n
    rw [dig_byte (Nat.mod_lt _ (by decide))]; omega
theorem trim_neg (l : List UInt8) : Lib.trimPrefix (45 :: l) [45] = l := by
  unfold Lib.trimPrefix
  rw [if_pos (by simp [Lib.hasPrefix])]; rfl
theorem trim_dec (n : Nat) : Lib.trimPrefix (decDigits n) [45] = decDigits n := by
  obtain ⟨d, hd, hl, _⟩ := dec_head n
  cases h : decDigits n with
  | nil => rfl
  | cons c l =>
    rw [h] at hl
    obtain rfl : c = UInt8.ofNat (48 + d) := by simpa using hl
    have hne : UInt8.ofNat (48 + d) ≠ 45 := fun e => by
      have := congrArg UInt8.toNat e
      rw [dig_byte hd] at this
      have h45 : (45 : UInt8).toNat = 45 := rfl
      omega
    unfold Lib.trimPrefix
    rw [if_neg]
    generalize UInt8.ofNat (48 + d) = c at hne
    simp [Lib.hasPrefix, hne.symm]
theorem trim_text (x : Int) : Lib.trimPrefix (textL x) [45] = decDigits x.natAbs := by
  unfold textL
  split
  · exact trim_neg _
  · exact trim_dec _
theorem isText_text (x : Int) : isTextB (textL x) = true := by
  unfold isTextB
  simp only [trim_text]
  obtain ⟨d, hd, hl, hp⟩ := dec_head x.natAbs
  have hne : (decDigits x.natAbs).isEmpty = false := by
    cases h : decDigits x.natAbs with
    | nil => rw [h] at hl; cases hl
    | cons _ _ => rfl
  rw [dec_dig, hne, hl, Bool.and_true, Bool.false_or]
  by_cases h0 : x = 0
  · subst h0
    rw [show textL 0 = [48] from by simp [textL, decDigits]]
    simp
  · have h48 : (some (UInt8.ofNat (48 + d)) == some (48 : UInt8)) = false := by
      have := hp (by omega)
      have hc : UInt8.ofNat (48 + d) ≠ 48 := fun e => by
        have := congrArg UInt8.toNat e
        rw [dig_byte hd] at this
        have h48 : (48 : UInt8).toNat = 48 := rfl
        omega
      simpa using hc
    rw [h48]; rfl
theorem parse_text (x : Int) (w : World) (hx : x.natAbs < T256) : Calls Tryd.prog 37 #[.string ⟨(textL x).toArray⟩] w fun e w' => e = .returned (.tuple #[ivz x, .int .i64 0]) ∧ Below w.heap.size w w' := by
  have hlen := textL_len hx
  have hdl := dec_len_all hx
  have hneg : (!((⟨(textL x).toArray⟩ : ByteArray).toList == (⟨(decDigits x.natAbs).toArray⟩ : ByteArray).toList)) = decide (x < 0) := by
    rw [ByteArray.toList_eq, ByteArray.toList_eq]
    show (!(textL x == decDigits x.natAbs)) = _
    by_cases h : x < 0
    · rw [decide_eq_true h, textL, if_pos h]
      have : (45 :: decDigits x.natAbs) ≠ decDigits x.natAbs := fun e => by have := congrArg List.length e; simp at this
      simp [this]
    · rw [decide_eq_false h, textL, if_neg h]; simp
  have hv : dv ⟨(decDigits x.natAbs).toArray⟩ (⟨(decDigits x.natAbs).toArray⟩ : ByteArray).size = x.natAbs := dv_dec _
  have h := parse_z ⟨(textL x).toArray⟩ ⟨(decDigits x.natAbs).toArray⟩ w (by show _ = (⟨(Lib.trimPrefix (textL x) [45]).toArray⟩ : ByteArray); rw [trim_text]) (by show (textL x).toArray.size ≤ 1000; simp; omega) (by show (decDigits x.natAbs).toArray.size ≤ 1000; simp; omega)
    (isText_text x) (all_dig.1 (dec_dig _)) (by rw [hneg, hv]; intro h; have := of_decide_eq_true h; omega)
  have ht : textN (decide (x < 0)) ⟨(decDigits x.natAbs).toArray⟩ = x := by
    unfold textN
    rw [hv]
    split
    · rename_i h; have := of_decide_eq_true h; omega
    · rename_i h; have : ¬ x < 0 := fun h2 => h (decide_eq_true h2); omega
  rw [hneg, ht, outV, if_pos hx] at h
  exact h
end Go.Proofs.YtpbdhhdmnnelhaaDoor
