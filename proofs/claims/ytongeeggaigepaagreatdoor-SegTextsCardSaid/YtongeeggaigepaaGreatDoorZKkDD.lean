import Derived.Test.YtongeeggaigepaaGreatDoorZKkDA
import Derived.Test.YtongeeggaigepaaGreatDoorZKkM
import Derived.Test.YtongeeggaigepaaGreatDoorZKkI
import Derived.Deep.LoopGhost
import Derived.Lib.QuietBelow
namespace Go.Proofs.YtongeeggaigepaaGreatDoor
open Go.RowKit Go.Sort Go.Lib
def padD (k r : Nat) : List UInt8 := List.replicate (k - (decDigits r).length) 48 ++ decDigits r
theorem dec_big {u : Nat} (h : ¬ u < 10) : decDigits u = decDigits (u / 10) ++ [UInt8.ofNat (48 + u % 10)] := by rw [decDigits, dif_neg h]
theorem padD_step {k r : Nat} (hk : 1 ≤ k) : padD (k + 1) r = padD k (r / 10) ++ [UInt8.ofNat (48 + r % 10)] := by
 unfold padD
 by_cases h : r < 10
 ·rw [show r / 10 = 0 by omega, show r % 10 = r by omega, decDigits_one h, decDigits_one (show 0 < 10 by decide)]
  simp only [List.length_singleton, Nat.add_sub_cancel]
  obtain ⟨j, rfl⟩ : ∃ j, k = j + 1 := ⟨k - 1, by omega⟩
  rw [Nat.add_sub_cancel, List.replicate_succ']
  rfl
 ·rw [dec_big h]
  simp only [List.length_append, List.length_singleton, Nat.add_sub_add_right, List.append_assoc]
theorem dec_parts : ∀ (k q r : Nat), 0 < q → r < 10 ^ (k + 1) → decDigits (q * 10 ^ (k + 1) + r) = decDigits q ++ padD (k + 1) r
 | 0, q, r, hq, hr => by
   have hr' : r < 10 := by simpa using hr
   rw [Nat.zero_add, Nat.pow_one, dec_big (by omega), show (q * 10 + r) / 10 = q by omega, show (q * 10 + r) % 10 = r by omega]
   unfold padD
   rw [decDigits_one hr']
   rfl
 | k + 1, q, r, hq, hr => by
   have hp : 10 ^ (k + 1 + 1) = 10 ^ (k + 1) * 10 := Nat.pow_succ ..
   rw [hp] at hr ⊢
   rw [← Nat.mul_assoc]
   have h1 : 1 * 10 ^ (k + 1) ≤ q * 10 ^ (k + 1) := Nat.mul_le_mul_right _ hq
   have h2 : 1 ≤ 10 ^ (k + 1) := Nat.pow_pos (by decide)
   have ih := dec_parts k q (r / 10) hq ((Nat.div_lt_iff_lt_mul (by decide)).2 hr)
   generalize hX : q * 10 ^ (k + 1) = X at *
   generalize 10 ^ (k + 1) = Y at *
   rw [dec_big (by omega), show (X * 10 + r) / 10 = X + r / 10 by omega, show (X * 10 + r) % 10 = r % 10 by omega, padD_step (by omega), ← List.append_assoc]
   rw [ih]
set_option maxRecDepth 100000 in
theorem len_tens (w : World) : Calls Tryz.prog 178 #[.int .u64 10000000000000000000] w fun e w' => e = .returned (.int .i64 64) ∧ ∃ k, w' = w.drewN k := by
 go_enter Tryz.func178, Tryz.ntmps178
 go_wp2
 rw [show wrap64 (56 + wrap64 (len8 138)) = 64 by kernel_rfl]
 go_ret
 exact ⟨rfl, 0, rfl⟩
theorem lz_tens (w : World) : Calls Tryz.prog 230 #[.int .u64 ((10000000000000000000 : Nat) : Int)] w fun e w' => e = .returned (.int .i64 ((0 : Nat) : Int)) ∧ ∃ k, w' = w.drewN k := by
 show Calls Tryz.prog 230 #[.int .u64 10000000000000000000] w fun e w' => e = .returned (.int .i64 0) ∧ ∃ k, w' = w.drewN k
 go_enter Tryz.func230, Tryz.ntmps230
 go_wp2_with (go_at_call 178; refine (len_tens _).mono ?_; rintro e w2 ⟨rfl, k, rfl⟩)
 go_ret
 exact ⟨rfl, _, rfl⟩
theorem repeat_noughts (c : Nat) : Lib.repeatL [48] c = List.replicate c 48 := by
 induction c with
 | zero => rfl
 | succ c ih => rw [Lib.repeatL, ih]; rfl
theorem nd_le : ∀ (k r : Nat), r < 10 ^ (k + 1) → nDigits r ≤ k + 1
 | 0, r, h => by rw [nDigits_small (by simpa using h)]; exact Nat.le_refl _
 | k + 1, r, h => by
   by_cases h1 : r < 10
   ·rw [nDigits_small h1]; omega
   ·rw [nDigits_big h1]
    have := nd_le k (r / 10) ((Nat.div_lt_iff_lt_mul (by decide)).2 (by rw [Nat.pow_succ] at h; exact h))
    omega
theorem dec_len {r : Nat} (h : r < 10000000000000000000) : (decDigits r).length ≤ 19 := by
 rw [decDigits_length]
 exact nd_le 18 r (by simpa using h)
set_option maxRecDepth 100000 in
set_option maxHeartbeats 1000000 in
theorem put_any (r T : Nat) (X : List UInt8) (w : World) (hr : r < 10000000000000000000) (hX : X.length ≤ 1000) (ht : Row w T [.string ⟨X.toArray⟩]) (htab : Tab10 w) :
 Calls Tryz.prog 203 #[.int .u64 (r : Nat), .pointer (some ⟨T, 0, none⟩)] w fun e w' => e = .returned (.tuple #[]) ∧ Row w' T [.string ⟨(padD 19 r ++ X).toArray⟩] ∧ KB w.heap.size T w w' := by
 have HF := Lib.hid (fun W h => formatUint r (by omega) W h)
 have hl := dec_len hr
 obtain ⟨S, HS, hS⟩ : ∃ S : ByteArray, Hid (S = ⟨(decDigits r).toArray⟩) ∧ S.size ≤ 19 := ⟨_, Lib.hid rfl, by simpa [ByteArray.size] using hl⟩
 obtain ⟨XS, HX, hXS⟩ : ∃ XS : ByteArray, Hid (XS = ⟨X.toArray⟩) ∧ XS.size ≤ 1000 := ⟨_, Lib.hid rfl, by simpa [ByteArray.size] using hX⟩
 obtain ⟨c, hc⟩ : ∃ c : Nat, c = 19 - S.size := ⟨_, rfl⟩
 have ec : (19 : Int) - (S.size : Int) = (c : Int) := by omega
 have hc19 : c ≤ 19 := by omega
 have ew : IntKind.i64.wrap (c : Int) = (c : Int) := IntWalk.i64_in _ (by omega)
 have HR := Lib.hid (fun W => Tryz.strings_Repeat ⟨#[48]⟩ c W (by omega) (by show 1 * c ≤ _; omega))
 obtain ⟨RS, HRS, hRS⟩ : ∃ RS : ByteArray, Hid (RS = ⟨(Lib.repeatL [48] c).toArray⟩) ∧ RS.size ≤ 19 := ⟨_, Lib.hid rfl, by rw [repeat_noughts]; simp [ByteArray.size]; omega⟩
 have HE : Hid ((RS ++ S) ++ XS = ⟨(padD 19 r ++ X).toArray⟩) := Lib.hid (by
  rw [HRS.out, HS.out, HX.out, repeat_noughts]
  apply ByteArray.ext
  have h19 : c = 19 - (decDigits r).length := by rw [hc, HS.out]; rfl
  simp [padD, h19])
 rw [show (⟨#[48]⟩ : ByteArray).data.toList = [48] from rfl, ← HRS.out] at HR
 rw [← HS.out] at HF
 rw [← HX.out] at ht
 rw [← HE.out]
 have HT := Lib.hid ht
 have Htab := Lib.hid htab
 have lT := ht.lt
 clear ht htab hc hl
 go_enter Tryz.func203, Tryz.ntmps203
 go_wp2_with fail
 refine (HF.out _ Htab.out).mono ?_
 rintro e w1 ⟨rfl, hb1⟩
 have HT1 := Lib.hid (HT.out.after hb1)
 have HB1 := Lib.hid hb1
 clear hb1
 have t0 := HT1.out.c 0 rfl
 have lT1 := HT1.out.lt
 have n1 : (RS ++ S).size ≤ 38 := by rw [ByteArray.size_append]; omega
 go_wp2_with fail
 go_region_with ((first
  | (go_at_call 205; (with_reducible refine (HR.out _).mono ?_); rintro e w2 ⟨rfl, hb2⟩; have HT2 := Lib.hid (HT1.out.drew.after hb2); have HB2 := Lib.hid (HB1.out.drew.trans (hb2.mono HB1.out.drew.size)); clear hb2; have t2 := HT2.out.c 0 rfl; have f2 := HT2.out.f 0 rfl)))
 all_goals
  have r3 : Row (w2.setCell ⟨T, 0, none⟩ (.string (RS ++ S ++ XS))) T [.string (RS ++ S ++ XS)] := HT2.out.set 0 (by simp) _
  have k3 : KB w.heap.size T w (w2.setCell ⟨T, 0, none⟩ (.string (RS ++ S ++ XS))) := ((KB.refl _ _ _).below HB2.out (Nat.le_refl _)).put1 (Or.inl rfl) _ _
  go_end0
  exact ⟨rfl, r3, k3⟩
end Go.Proofs.YtongeeggaigepaaGreatDoor
namespace Go.Proofs.YtongeeggaigepaaGreatDoor
open Go.RowKit Go.Sort Go.Lib
theorem words_nought {m : Nat} (h : m < T256) : (((W64 m 0 : Nat) : Int) == 0 && (((W64 m 1 : Nat) : Int) == 0 && (((W64 m 2 : Nat) : Int) == 0 && ((W64 m 3 : Nat) : Int) == 0))) = decide (m = 0) := by
 have e : valW (nat4 (W64 m 0) (W64 m 1) (W64 m 2) (W64 m 3)) 4 = m := by
  have e : valW (nat4 (W64 m 0) (W64 m 1) (W64 m 2) (W64 m 3)) 4 = valW (W64 m) 4 := rfl
  rw [e, valW_W64, ← T256_w, Nat.mod_eq_of_lt h]
 have hz := zeroB_val (W64 m 0) (W64 m 1) (W64 m 2) (W64 m 3)
 rw [e] at hz
 rw [Bool.eq_iff_iff, decide_eq_true_iff, ← hz]
 simp [zeroB]
theorem dec_len_all {m : Nat} (h : m < T256) : (decDigits m).length ≤ 78 := by
 rw [decDigits_length]
 refine nd_le 77 m (Nat.lt_trans h ?_)
 unfold T256; decide
def GS (w : World) (q : Nat) (X : List UInt8) (W : World) : Prop :=
 Row W w.heap.size [.int .u64 (W64 q 0 : Nat), .int .u64 (W64 q 1 : Nat), .int .u64 (W64 q 2 : Nat), .int .u64 (W64 q 3 : Nat)] ∧ Row W (w.heap.size + 1) [.string ⟨X.toArray⟩] ∧ Below w.heap.size w W
theorem GS.after {w W W1 : World} {q : Nat} {X : List UInt8} (h : GS w q X W) (hb : Below W.heap.size W W1) : GS w q X W1 := ⟨h.1.after hb, h.2.1.after hb, h.2.2.trans (hb.mono h.2.2.size)⟩
theorem GS.alloc {w W : World} {q : Nat} {X : List UInt8} (h : GS w q X W) (o : Obj) : GS w q X (W.alloc o) := h.after ((Below.refl _ _).alloc (Nat.le_refl _) _)
theorem dec_cut {q : Nat} (h : q / 10000000000000000000 ≠ 0) : decDigits q = decDigits (q / 10000000000000000000) ++ padD 19 (q % 10000000000000000000) := by
 have h1 := dec_parts 18 (q / 10000000000000000000) (q % 10000000000000000000) (Nat.pos_of_ne_zero h) (Nat.mod_lt _ (by decide))
 rw [show (10 : Nat) ^ (18 + 1) = 10000000000000000000 by decide, Nat.div_add_mod'] at h1
 exact h1
set_option maxRecDepth 100000 in
set_option maxHeartbeats 2000000 in
theorem digits_any (m : Nat) (w : World) (hm : m < T256) (htab : Tab10 w) :
 Calls Tryz.prog 191 #[wv (W64 m 0 : Nat) (W64 m 1 : Nat) (W64 m 2 : Nat) (W64 m 3 : Nat)] w fun e w' => e = .returned (.string ⟨(decDigits m).toArray⟩) ∧ Below w.heap.size w w' := by
 have hmf : ∀ (fn : Fn) (first cap : Array Value) (w : World), (Instr.makeFunc fn first cap).run Tryz.prog w = .ok (.func fn first cap) w := fun _ _ _ _ => rfl
 have Htab := Lib.hid htab
 have HL := Lib.hid (dec_len_all hm)
 have hS : GS w m [] ((w.alloc (.cells #[.int .u64 (W64 m 0 : Nat), .int .u64 (W64 m 1 : Nat), .int .u64 (W64 m 2 : Nat), .int .u64 (W64 m 3 : Nat)] 179)).alloc (.cells #[.string ⟨#[]⟩] 9)) :=
  ⟨(Row.at rfl _ _).alloc _, Row.at (by simp) _ _, ((Below.refl w.heap.size w).alloc (Nat.le_refl _) _).alloc (by simp) _⟩
 have HS := Lib.hid hS
 have Hm := Lib.hid hm
 clear hS htab hm
 go_enter Tryz.func191, Tryz.ntmps191
 go_wp2_with fail
 generalize World.alloc _ _ = W0 at HS ⊢
 go_loopg [] m (fun g wr => ∃ X : List UInt8, Hid (g < T256 ∧ decDigits m = decDigits g ++ X) ∧ Hid (GS w g X wr))
 case atStart => exact ⟨[], Lib.hid ⟨Hm.out, by simp⟩, HS⟩
 case round =>
  obtain ⟨X, HG, HK⟩ := hrel
  clear HS
  have HP := Lib.hid (fun W => show Calls Tryz.prog 206 #[wv (W64 gk 0 : Nat) (W64 gk 1 : Nat) (W64 gk 2 : Nat) (W64 gk 3 : Nat), .int .u64 10000000000000000000] W fun e w' =>
   e = .returned (.tuple #[wv (W64 (gk / 10000000000000000000) 0 : Nat) (W64 (gk / 10000000000000000000) 1 : Nat) (W64 (gk / 10000000000000000000) 2 : Nat) (W64 (gk / 10000000000000000000) 3 : Nat), .int .u64 (gk % 10000000000000000000 : Nat)]) ∧ Below W.heap.size W w' from
   partedByWord_any gk 10000000000000000000 0 W HG.out.1 (by decide) (by decide) (by decide) (by decide) lz_tens)
  have r0 := HK.out.1.c 0 rfl
  have r1 := HK.out.1.c 1 rfl
  have r2 := HK.out.1.c 2 rfl
  have r3 := HK.out.1.c 3 rfl
  go_wp2_with fail
  refine (HP.out _).mono ?_
  rintro e w1 ⟨rfl, hb1⟩
  have HK1 := Lib.hid (HK.out.after hb1)
  clear hb1 HK r0 r1 r2 r3 HP
  obtain ⟨E, hE⟩ : ∃ E, E = gk / 10000000000000000000 := ⟨_, rfl⟩
  obtain ⟨F, hF⟩ : ∃ F, F = gk % 10000000000000000000 := ⟨_, rfl⟩
  have hFl : F < 10000000000000000000 := by rw [hF]; exact Nat.mod_lt _ (by decide)
  have hEF : gk = E * 10000000000000000000 + F := by rw [hE, hF]; exact (Nat.div_add_mod' _ _).symm
  have hE64 : E < T256 := Nat.lt_of_le_of_lt (by omega) HG.out.1
  have hEq := fun W => eqlArr 179 Tryz.underlying179 (W64 E 0 : Nat) (W64 E 1 : Nat) (W64 E 2 : Nat) (W64 E 3 : Nat) 0 0 0 0 W
  rw [words_nought hE64] at hEq
  have HC := Lib.hid (fun h => dec_cut (q := gk) h)
  rw [← hE, ← hF] at HC ⊢
  have HEF := Lib.hid hEF
  clear hE hF hEF
  have hXl : X.length ≤ 78 := by
   have h1 := HL.out
   rw [HG.out.2, List.length_append] at h1
   omega
  by_cases hz : E = 0
  ·rw [show decide (E = 0) = true by simp [hz]] at hEq
   have HZ := Lib.hid (show gk = F by rw [HEF.out, hz]; omega)
   clear hz
   have ct := HK1.out.2.1.c 0 rfl
   generalize ((W64 E 0 : Nat) : Int) = e0 at *
   generalize ((W64 E 1 : Nat) : Int) = e1 at *
   generalize ((W64 E 2 : Nat) : Int) = e2 at *
   generalize ((W64 E 3 : Nat) : Int) = e3 at *
   go_wp2_with fail
   have HK2 := Lib.hid (HK1.out.alloc (.cells #[.int .u64 e0, .int .u64 e1, .int .u64 e2, .int .u64 e3] 179))
   generalize World.alloc _ _ = W2 at HK2 ⊢
   clear HK1 ct hEq
   have ct := HK2.out.2.1.c 0 rfl
   have ck := cell_regrown ct
   have hlen := dec_len hFl
   obtain ⟨S, HSS, hS⟩ : ∃ S : ByteArray, Hid (S = ⟨(Lib.decDigits F).toArray⟩) ∧ S.size ≤ 20 := ⟨_, Lib.hid rfl, by simp [ByteArray.size]; omega⟩
   have cF : ∀ d os, Calls Tryz.prog 204 #[.int .u64 (F : Nat), .int .i64 10] (grow (redrawn W2 d) os) fun e w'' => e = .returned (.string S) ∧ ∃ p : Regrown, w'' = grow (redrawn W2 p.d) p.os :=
    fun d os => by rw [HSS.out]; exact Calls.regrown_of (formatUint F (by omega) _ ((Htab.out.below HK2.out.2.2).below (below_regrown W2 d os)))
   have HcF := Lib.hid cF; clear cF hlen
   obtain ⟨XS, HX, hXS⟩ : ∃ XS : ByteArray, Hid (XS = ⟨X.toArray⟩) ∧ XS.size ≤ 1000 := ⟨_, Lib.hid rfl, by simp [ByteArray.size]; omega⟩
   rw [← HX.out] at ct ck
   have n1 : ¬ 9223372036854775807 < S.size + XS.size := by omega
   have HE : Hid (S ++ XS = ⟨(decDigits m).toArray⟩) := Lib.hid (by
    rw [HG.out.2, HSS.out, HX.out, HZ.out]
    apply ByteArray.ext
    simp)
   refine wp_region_quiet_below (by kernel_rfl) (by kernel_rfl) ?_
   repeat (first | go_big_quiet_step ((exact HcF.out _ _)) | quiet_step ((exact HcF.out _ _)))
   refine wpQuiet_nil ?_
   intro _ hw'
   obtain ⟨⟨dq, osq⟩, hw''⟩ := hw'
   subst hw''
   go_wp2
   go_ret
   exact ⟨by show Ending.returned (.string (S ++ XS)) = _; rw [HE.out], HK2.out.2.2.trans ((below_regrown W2 dq osq).mono HK2.out.2.2.size)⟩
  ·rw [show decide (E = 0) = false by simp [hz]] at hEq
   have HD := Lib.hid (HC.out hz)
   have HLt : Hid (E < gk) := Lib.hid (by rw [HEF.out]; omega)
   clear hz HC
   have hX1 : X.length ≤ 1000 := by omega
   have HPt := Lib.hid (fun W (h1 : GS w gk X W) => put_any F (w.heap.size + 1) X W hFl hX1 h1.2.1 (Htab.out.below h1.2.2))
   have HE64 := Lib.hid hE64
   clear hE64 hX1 hXl HEF
   have ct := HK1.out.2.1.c 0 rfl
   generalize hl0 : ((W64 E 0 : Nat) : Int) = e0 at *
   generalize hl1 : ((W64 E 1 : Nat) : Int) = e1 at *
   generalize hl2 : ((W64 E 2 : Nat) : Int) = e2 at *
   generalize hl3 : ((W64 E 3 : Nat) : Int) = e3 at *
   have HLs := Lib.hid (And.intro hl0 (And.intro hl1 (And.intro hl2 hl3)))
   clear hl0 hl1 hl2 hl3
   go_wp2_with fail
   have HK2 := Lib.hid (HK1.out.alloc (.cells #[.int .u64 e0, .int .u64 e1, .int .u64 e2, .int .u64 e3] 179))
   have rE : Row (w1.alloc (.cells #[.int .u64 e0, .int .u64 e1, .int .u64 e2, .int .u64 e3] 179)) w1.heap.size [.int .u64 e0, .int .u64 e1, .int .u64 e2, .int .u64 e3] := Row.at rfl _ _
   have lE : w.heap.size + 1 < w1.heap.size := HK1.out.2.1.lt
   generalize World.alloc _ _ = W2 at HK2 rE ⊢
   generalize w1.heap.size = B5 at *
   clear HK1 ct hEq
   refine (HPt.out _ HK2.out).mono ?_
   rintro e w4 ⟨rfl, hr4, hk4⟩
   have r4 := rE.kb hk4 (by omega)
   have rH := HK2.out.1.kb hk4 (by omega)
   have HB4 := Lib.hid (HK2.out.2.2.trans ((hk4.toBelow (by have := HK2.out.2.1.lt; omega)).mono (by omega)))
   have HR4 := Lib.hid hr4
   have HRH := Lib.hid rH
   have c0 := r4.c 0 rfl
   have c1 := r4.c 1 rfl
   have c2 := r4.c 2 rfl
   have c3 := r4.c 3 rfl
   have d0 := rH.c 0 rfl
   have d1 := rH.c 1 rfl
   have d2 := rH.c 2 rfl
   have d3 := rH.c 3 rfl
   have f0 := rH.f 0 rfl
   have f1 := rH.f 1 rfl
   have f2 := rH.f 2 rfl
   have f3 := rH.f 3 rfl
   clear hr4 hk4 rH r4 rE HK2 HPt
   go_wp2_with fail
   go_roundg E
   case measure => exact HLt.out
   case rel =>
    refine ⟨padD 19 F ++ X, Lib.hid ⟨HE64.out, by rw [HG.out.2, HD.out, List.append_assoc]⟩, Lib.hid ⟨?_, ?_, ?_⟩⟩
    ·rw [HLs.out.1, HLs.out.2.1, HLs.out.2.2.1, HLs.out.2.2.2]
     exact HRH.out.put4 _ _ _ _
    ·exact HR4.out.other4 (by omega) _ _ _ _
    ·exact below_put4 HB4.out (Nat.le_refl _) _ _ _ _
end Go.Proofs.YtongeeggaigepaaGreatDoor
namespace Go.Proofs.YtongeeggaigepaaGreatDoor
open Go.RowKit Go.Sort Go.Lib
def textL (z : Int) : List UInt8 := if z < 0 then 45 :: decDigits z.natAbs else decDigits z.natAbs
theorem textL_len {z : Int} (h : z.natAbs < T256) : (textL z).length ≤ 79 := by
 have := dec_len_all h
 unfold textL
 split <;> simp <;> omega
set_option maxHeartbeats 400000 in
theorem text_z (z : Int) (w : World) (hz : z.natAbs < T256) (htab : Tab10 w) :
 Calls Tryz.prog 167 #[ivz z] w fun e w' => e = .returned (.tuple #[.string ⟨(textL z).toArray⟩, .int .i64 0]) ∧ Below w.heap.size w w' := by
 have HE := Lib.hid (errArg_ok (ivz_right z hz))
 have Hd := Lib.hid (fun W (h : Tab10 W) => digits_any z.natAbs W hz h)
 have hlen := dec_len_all hz
 obtain ⟨S, HS, hS⟩ : ∃ S : ByteArray, Hid (S = ⟨(decDigits z.natAbs).toArray⟩) ∧ S.size ≤ 78 := ⟨_, Lib.hid rfl, by simpa [ByteArray.size] using hlen⟩
 have HP : Hid (¬ z < 0 → S = ⟨(textL z).toArray⟩) := Lib.hid (fun h => by rw [HS.out, textL, if_neg h])
 have HN : Hid (z < 0 → (⟨#[45]⟩ : ByteArray) ++ S = ⟨(textL z).toArray⟩) := Lib.hid (fun h => by rw [HS.out, textL, if_pos h]; apply ByteArray.ext; simp)
 have Htab := Lib.hid htab
 rw [← HS.out] at Hd
 rw [ivz]
 clear hlen htab hz
 generalize hs : decide (z < 0) = s at *
 generalize ((W64 z.natAbs 0 : Nat) : Int) = a0 at *
 generalize ((W64 z.natAbs 1 : Nat) : Int) = a1 at *
 generalize ((W64 z.natAbs 2 : Nat) : Int) = a2 at *
 generalize ((W64 z.natAbs 3 : Nat) : Int) = a3 at *
 cases s
 ·have HT := Lib.hid (HP.out (by simpa using hs))
  rw [← HT.out]
  clear hs HP HN HT
  go_enter Tryz.func167, Tryz.ntmps167
  go_wp2_with fail
  refine (check_any _ _ _ _ _ _).mono ?_
  rintro e w1 ⟨rfl, hb1⟩
  rw [HE.out]
  have hB : Below w.heap.size w w1 := ((Below.refl w.heap.size w).alloc (Nat.le_refl _) _).trans (hb1.mono (by simp))
  have rX : Row w1 w.heap.size [.bool false, .int .u64 a0, .int .u64 a1, .int .u64 a2, .int .u64 a3] := (Row.at rfl _ _).after hb1
  have Htab1 : Hid (Tab10 w1) := Lib.hid (Htab.out.below hB)
  clear hb1
  have c0 := rX.c 0 rfl
  have c1 := rX.c 1 rfl
  have c2 := rX.c 2 rfl
  have c3 := rX.c 3 rfl
  have c4 := rX.c 4 rfl
  go_wp2_with fail
  refine (Hd.out _ Htab1.out).mono ?_
  rintro e w2 ⟨rfl, hb2⟩
  clear rX c0 c1 c2 c3 c4
  go_wp2
  go_ret2
  exact ⟨rfl, hB.trans (hb2.mono hB.size)⟩
 ·have HT := Lib.hid (HN.out (by simpa using hs))
  rw [← HT.out]
  clear hs HP HN HT
  go_enter Tryz.func167, Tryz.ntmps167
  go_wp2_with fail
  refine (check_any _ _ _ _ _ _).mono ?_
  rintro e w1 ⟨rfl, hb1⟩
  rw [HE.out]
  have hB : Below w.heap.size w w1 := ((Below.refl w.heap.size w).alloc (Nat.le_refl _) _).trans (hb1.mono (by simp))
  have rX : Row w1 w.heap.size [.bool true, .int .u64 a0, .int .u64 a1, .int .u64 a2, .int .u64 a3] := (Row.at rfl _ _).after hb1
  have Htab1 : Hid (Tab10 w1) := Lib.hid (Htab.out.below hB)
  clear hb1
  have c0 := rX.c 0 rfl
  have c1 := rX.c 1 rfl
  have c2 := rX.c 2 rfl
  have c3 := rX.c 3 rfl
  have c4 := rX.c 4 rfl
  go_wp2_with fail
  refine (Hd.out _ Htab1.out).mono ?_
  rintro e w2 ⟨rfl, hb2⟩
  clear rX c0 c1 c2 c3 c4
  have n1 : ¬ 9223372036854775807 < 1 + S.size := by omega
  go_wp2
  go_ret2
  exact ⟨rfl, hB.trans (hb2.mono hB.size)⟩
end Go.Proofs.YtongeeggaigepaaGreatDoor
