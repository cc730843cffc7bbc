/-
Proved: LimbHolds returns true at every three Ints (limb's sums and products do not hang on the order, a product goes over a sum, a is q times b, and r, Gcd divides both, Parse of Text is the Int), and leaves its arguments alone. Conditions: those of the given card alone.
-/
import Derived.Test.YtpbdhhdmnnelhaaDoorFr
import Derived.Test.YtpbdhhdmnnelhaaDoorFE
import Derived.Test.YtpbdhhdmnnelhaaDoorFC
import Derived.Test.YtpbdhhdmnnelhaaDoorEF
import Derived.Test.YtpbdhhdmnnelhaaDoorX
import Derived.Test.YtpbdhhdmnnelhaaDoorFF
/- LimbHolds' divides at every two Ints. -/
namespace Go.Proofs.YtpbdhhdmnnelhaaDoor
open Go.RowKit

theorem cmp_less (r b : Int) (w : World) (hr : r.natAbs < T256) (hb : b.natAbs < T256) (h : r.natAbs < b.natAbs) :
    Calls Tryd.prog 34 #[iv false (W64 r.natAbs 0 : Nat) (W64 r.natAbs 1 : Nat) (W64 r.natAbs 2 : Nat) (W64 r.natAbs 3 : Nat), iv false (W64 b.natAbs 0 : Nat) (W64 b.natAbs 1 : Nat) (W64 b.natAbs 2 : Nat) (W64 b.natAbs 3 : Nat)] w
      fun e w' => e = .returned (.tuple #[.int .i64 (-1), .int .i64 0]) ∧ Below w.heap.size w w' := by
  have h1 := cmp_any false false (W64 r.natAbs 0 : Nat) (W64 r.natAbs 1 : Nat) (W64 r.natAbs 2 : Nat) (W64 r.natAbs 3 : Nat) (W64 b.natAbs 0 : Nat) (W64 b.natAbs 1 : Nat) (W64 b.natAbs 2 : Nat) (W64 b.natAbs 3 : Nat) w
  have h2 : cmpE false false (W64 r.natAbs 0 : Nat) (W64 r.natAbs 1 : Nat) (W64 r.natAbs 2 : Nat) (W64 r.natAbs 3 : Nat) (W64 b.natAbs 0 : Nat) (W64 b.natAbs 1 : Nat) (W64 b.natAbs 2 : Nat) (W64 b.natAbs 3 : Nat) = .tuple #[.int .i64 (-1), .int .i64 0] := by
    rw [cmpE, if_neg (by simp), cmpS, ordW_num hr hb, cmpI, if_pos (by omega)]
  rw [h2] at h1
  exact h1
theorem ivz_one : iv false 1 0 0 0 = ivz 1 := by
  have h0 : (W64 (1 : Int).natAbs 0 : Int) = 1 := by decide
  have h1 : (W64 (1 : Int).natAbs 1 : Int) = 0 := by decide
  have h2 : (W64 (1 : Int).natAbs 2 : Int) = 0 := by decide
  have h3 : (W64 (1 : Int).natAbs 3 : Int) = 0 := by decide
  rw [ivz, h0, h1, h2, h3]; rfl
theorem gcd_parts (x y : Int) (h : Int.gcd x y ≠ 0) : Int.gcd (x.tdiv (Int.gcd x y : Nat)) (y.tdiv (Int.gcd x y : Nat)) = 1 := by
  show (x.tdiv (Int.gcd x y : Nat)).natAbs.gcd (y.tdiv (Int.gcd x y : Nat)).natAbs = 1
  rw [Int.natAbs_tdiv, Int.natAbs_tdiv, Int.natAbs_natCast]
  show (x.natAbs / x.natAbs.gcd y.natAbs).gcd (y.natAbs / x.natAbs.gcd y.natAbs) = 1
  rw [Nat.gcd_div (Nat.gcd_dvd_left _ _) (Nat.gcd_dvd_right _ _)]
  exact Nat.div_self (Nat.pos_of_ne_zero h)
theorem quo_even (z g : Int) (w : World) (hz : z.natAbs < T256) (hg : g.natAbs < T256) (h0 : g ≠ 0) (hd : g ∣ z) :
    Calls Tryd.prog 30 #[ivz z, ivz g] w fun e w' => e = .returned (.tuple #[ivz (z.tdiv g), iv false 0 0 0 0, .int .i64 0]) ∧ Below w.heap.size w w' := by
  have h := quo_z z g w hz hg h0
  rw [Int.tmod_eq_zero_of_dvd hd, ← ivz_nought] at h
  exact h
theorem tail_z (x y : Int) (w : World) (hx : x.natAbs < T256) (hy : y.natAbs < T256) (hz : TabTz w) (hw0 : 0 < w.heap.size) (hg : 0 < w.heap.size) (h0 : Int.gcd x y ≠ 0) :
    ∃ sd sx su d0 d1 d2 d3 x0 x1 x2 x3 u0 u1 u2 u3, DTail w (decide (x < 0)) (decide (y < 0)) sd sx su (W64 x.natAbs 0 : Nat) (W64 x.natAbs 1 : Nat) (W64 x.natAbs 2 : Nat) (W64 x.natAbs 3 : Nat) (W64 y.natAbs 0 : Nat) (W64 y.natAbs 1 : Nat) (W64 y.natAbs 2 : Nat) (W64 y.natAbs 3 : Nat)
      d0 d1 d2 d3 x0 x1 x2 x3 u0 u1 u2 u3 := by
  have hG : ((Int.gcd x y : Nat) : Int).natAbs < T256 := gcd_lt x y hx hy
  have hG0 : ((Int.gcd x y : Nat) : Int) ≠ 0 := by omega
  refine ⟨_, _, _, _, _, _, _, _, _, _, _, _, _, _, _, fun W hW => gcd_z x y W hx hy (hz.below hg hW) (Nat.lt_of_lt_of_le hw0 hW.size), fun W => ?_,
    fun W => quo_even x _ W hx hG hG0 (Int.gcd_dvd_left ..), fun W => quo_even y _ W hy hG hG0 (Int.gcd_dvd_right ..), fun W hW => ?_⟩
  · have h := is_zero _ hG W
    rw [decide_eq_false hG0] at h
    exact h
  · have h := gcd_z (x.tdiv (Int.gcd x y : Nat)) (y.tdiv (Int.gcd x y : Nat)) W (tdiv_lt _ _ hx) (tdiv_lt _ _ hy) (hz.below hg hW) (Nat.lt_of_lt_of_le hw0 hW.size)
    rw [gcd_parts x y h0] at h
    rw [ivz_one]
    exact h
theorem quo_mul_lt (x y : Int) (hx : x.natAbs < T256) : (x.tdiv y * y).natAbs < T256 := by
  rw [Int.natAbs_mul, Int.natAbs_tdiv]
  exact Nat.lt_of_le_of_lt (Nat.div_mul_le_self _ _) hx
theorem divides_r (x y : Int) (w : World) (hx : x.natAbs < T256) (hy : y.natAbs < T256) (hz : TabTz w) (hw0 : 0 < w.heap.size) (hg : 0 < w.heap.size) :
    Calls Tryd.prog 41 #[ivz x, ivz y] w fun e w' => e = .returned (.bool true) ∧ Below w.heap.size w w' := by
  by_cases h0 : y = 0
  · subst h0
    by_cases hx0 : x = 0
    · subst hx0
      refine divides_nought _ _ _ _ _ _ _ _ _ _ _ _ _ _ _ _ _ _ _ _ w (fun W => quo_by_zero 0 W hx) (fun W hW => ?_)
      have h := gcd_z 0 0 W hx hy (hz.below hg hW) (Nat.lt_of_lt_of_le hw0 hW.size)
      rw [show ((Int.gcd 0 0 : Nat) : Int) = 0 from rfl, ← ivz_nought] at h
      exact h
    · obtain ⟨sd, sx, su, d0, d1, d2, d3, x0, x1, x2, x3, u0, u1, u2, u3, hT⟩ := tail_z x 0 w hx hy hz hw0 hg (by show x.natAbs.gcd 0 ≠ 0; rw [Nat.gcd_zero_right]; omega)
      exact divides_by_nought _ _ _ _ _ _ _ _ _ _ _ _ _ _ _ _ _ _ _ _ _ _ _ _ _ _ _ _ _ _ _ _ _ _ _ w (fun W => quo_by_zero x W hx) hT
  · have hq := tdiv_lt x y hx
    have hr := tmod_lt x y hx
    have hqy := quo_mul_lt x y hx
    have hsum : x.tdiv y * y + x.tmod y = x := by rw [Int.mul_comm]; exact Int.mul_tdiv_add_tmod x y
    have hm : mulP (some (x.tdiv y)) (some y) = (x.tdiv y * y, 0) := by rw [mulP, if_pos hqy]
    have ha : addP (some (x.tdiv y * y)) (some (x.tmod y)) = (x, 0) := by rw [addP, hsum, if_pos hx]
    have hM := fun b c W hr => mul_O (some (x.tdiv y)) (some y) b c W hq hy hr
    have hA := fun b c W hr2 => add_O (some (x.tdiv y * y)) (some (x.tmod y)) b c W hqy hr hr2
    rw [hm] at hM
    rw [ha] at hA
    have hyn : 0 < y.natAbs := by omega
    have hlt : (x.tmod y).natAbs < y.natAbs := by rw [Int.natAbs_tmod]; exact Nat.mod_lt _ hyn
    obtain ⟨sd, sx, su, d0, d1, d2, d3, x0, x1, x2, x3, u0, u1, u2, u3, hT⟩ := tail_z x (y.natAbs : Nat) w hx (by rw [Int.natAbs_natCast]; exact hy) hz hw0 hg (by
      show x.natAbs.gcd y.natAbs ≠ 0
      intro h
      have := Nat.eq_zero_of_gcd_eq_zero_right h
      omega)
    rw [decide_eq_false (by omega : ¬ ((y.natAbs : Nat) : Int) < 0)] at hT
    exact divides_yes _ _ _ _ _ _ _ _ _ _ _ _ _ _ _ _ _ _ _ _ _ _ _ _ _ _ _ _ _ _ _ _ _ _ _ _ _ _ _ _ w (fun W => quo_z x y W hx hy h0) hM hA (fun W => cmp_less _ _ W hr hy hlt) hT
theorem wrong_err (o p : Option Int) (ho : okO o) (hp : okO p) (h : (o.isSome && p.isSome) = false) :
    errAll (fun i => if i = 0 then sgO o else sgO p) (fun i => if i = 0 then row4 (mgO o 0 : Nat) (mgO o 1 : Nat) (mgO o 2 : Nat) (mgO o 3 : Nat) else row4 (mgO p 0 : Nat) (mgO p 1 : Nat) (mgO p 2 : Nat) (mgO p 3 : Nat)) 2 = 2 := by
  rw [errAll_two, right_err, right_err, rightB_O o ho, rightB_O p hp]
  cases o <;> cases p <;> first | rfl | cases h
theorem divides_O (o p : Option Int) (w : World) (ho : okO o) (hp : okO p) (hz : TabTz w) (hw0 : 0 < w.heap.size) (hg : 0 < w.heap.size) :
    Calls Tryd.prog 41 #[vO o, vO p] w fun e w' => e = .returned (.bool true) ∧ Below w.heap.size w w' := by
  cases h : (o.isSome && p.isSome)
  · exact divides_no _ _ _ _ _ _ _ _ _ _ _ _ _ _ _ _ _ _ _ _ _ _ _ _ _ w (fun W => quo_wrong _ _ _ _ _ _ _ _ _ _ W (wrong_err o p ho hp h)) (fun W => gcd_wrong _ _ _ _ _ _ _ _ _ _ W (wrong_err o p ho hp h))
  · cases o with
    | none => cases h
    | some x => cases p with
      | none => cases h
      | some y => exact divides_r x y w ho hp hz hw0 hg
end Go.Proofs.YtpbdhhdmnnelhaaDoor

/- LimbHolds at every three Ints. -/
namespace Go.Proofs.YtpbdhhdmnnelhaaDoor
open Go.RowKit

theorem wrap_small {z : Int} (h0 : 0 ≤ z) (h1 : z ≤ 1000) : wrap64 z = z := by unfold wrap64; omega
theorem sum_two_no {a b : Int} (ha : 0 ≤ a ∧ a ≤ 110) (hb : 0 ≤ b ∧ b ≤ 110) (h : ¬ (a = 0 ∧ b = 0)) : ¬ wrap64 (a + b) = 0 := by
  rw [wrap_small (by omega) (by omega)]; omega
theorem sum_five_no {a b c d e : Int} (ha : 0 ≤ a ∧ a ≤ 110) (hb : 0 ≤ b ∧ b ≤ 110) (hc : 0 ≤ c ∧ c ≤ 110) (hd : 0 ≤ d ∧ d ≤ 110) (he : 0 ≤ e ∧ e ≤ 110) (h : ¬ (a = 0 ∧ b = 0 ∧ c = 0 ∧ d = 0 ∧ e = 0)) :
    ¬ wrap64 (wrap64 (wrap64 (wrap64 (a + b) + c) + d) + e) = 0 := by
  rw [wrap_small (z := a + b) (by omega) (by omega), wrap_small (z := a + b + c) (by omega) (by omega), wrap_small (z := a + b + c + d) (by omega) (by omega), wrap_small (by omega) (by omega)]; omega
/-- What an Int of any kind's text is, and what it is read as. -/
theorem text_O (o : Option Int) (w : World) (ho : okO o) (ht : Tab10 w) : ∃ (T : ByteArray) (e : Int) (z : Int) (f : Int), (∀ W, Below w.heap.size w W → Calls Tryd.prog 36 #[vO o] W fun e' w' => e' = .returned (.tuple #[.string T, .int .i64 e]) ∧ Below W.heap.size W w') ∧
    (∀ W, Calls Tryd.prog 37 #[.string T] W fun e' w' => e' = .returned (.tuple #[ivz z, .int .i64 f]) ∧ Below W.heap.size W w') ∧ ((e = 0 ∧ f = 0 ∧ o = some z) ∨ e = 2) := by
  cases o with
  | some x => exact ⟨_, 0, x, 0, fun W hW => text_z x W ho (ht.below hW), fun W => parse_text x W ho, .inl ⟨rfl, rfl, rfl⟩⟩
  | none =>
    refine ⟨⟨#[]⟩, 2, 0, 111, fun W _ => text_bad W, fun W => ?_, .inr rfl⟩
    have h := parse_bad ⟨#[]⟩ W (by decide) (by rfl)
    rw [ivz_nought] at h
    exact h
theorem holds_O (o p q : Option Int) (w : World) (ho : okO o) (hp : okO p) (hq : okO q) (ht : Tab10 w) (hz : TabTz w) (hw0 : 0 < w.heap.size) :
    Calls Tryd.prog 9 #[vO o, vO p, vO q] w fun e w' => e = .returned (.bool true) ∧ Below w.heap.size w w' := by
  have hg : 0 < w.heap.size := block_lt_of_cell (hz 0 (by decide))
  obtain ⟨T, e, z, f, h1, h2, h3⟩ := text_O o w ho ht
  have hA := addP_bd o p
  have hM1 := mulQ_bd o p q
  have hM2 := mulQ_bd q p o
  have hP := mulP_bd (some (addP o p).1) q
  have hQ := mulP_bd o q
  have hR := mulP_bd p q
  have hS := addP_bd (some (mulP o q).1) (some (mulP p q).1)
  have A2 := fun b c W hr => add_O p o b c W hp ho hr
  rw [addP_comm p o] at A2
  refine holds_core T _ _ _ _ _ _ _ _ _ _ _ _ _ _ _ _ _ _ _ _ _ _ _ _ _ _ _ _ _ _ _ _ _ _ _ _ _ _ _ _ _ _ _ _ _ _ _ _ _ _ _ _ _ _ _ _ _ _ _ _ _ _ _ _ w ht hz hw0
    ⟨fun b c W hr => add_O o p b c W ho hp hr, A2, fun b c W hr => mul3_O o p q b c W ho hp hq hr, fun b c W hr => mul3_O q p o b c W hq hp ho hr,
      fun b c W hr => mul_O (some (addP o p).1) q b c W hA.1 hq hr, fun b c W hr => mul_O o q b c W ho hq hr, fun b c W hr => mul_O p q b c W hp hq hr,
      fun b c W hr => add_O (some (mulP o q).1) (some (mulP p q).1) b c W hQ.1 hR.1 hr, h1, h2, fun W hW => divides_O o p W ho hp (hz.below hg hW) (Nat.lt_of_lt_of_le hw0 hW.size) (Nat.lt_of_lt_of_le hg hW.size)⟩ ?_ ?_ ?_
  · by_cases h : (mulQ o p q).2 = 0 ∧ (mulQ q p o).2 = 0
    · have e := mulQ_rev h.1 h.2
      exact .inl ⟨h.1, h.2, by rw [e], by rw [e], by rw [e], by rw [e], by rw [e]⟩
    · exact .inr (sum_two_no hM1.2 hM2.2 h)
  · by_cases h : (addP o p).2 = 0 ∧ (mulP (some (addP o p).1) q).2 = 0 ∧ (mulP o q).2 = 0 ∧ (mulP p q).2 = 0 ∧ (addP (some (mulP o q).1) (some (mulP p q).1)).2 = 0
    · have e := distr h.1 h.2.1 h.2.2.1 h.2.2.2.1 h.2.2.2.2
      exact .inl ⟨h.1, h.2.1, h.2.2.1, h.2.2.2.1, h.2.2.2.2, by rw [e], by rw [e], by rw [e], by rw [e], by rw [e]⟩
    · exact .inr (sum_five_no hA.2 hP.2 hQ.2 hR.2 hS.2 h)
  · rcases h3 with ⟨h4, h5, rfl⟩ | h4
    · exact .inl ⟨h4, h5, rfl, rfl, rfl, rfl, rfl⟩
    · exact .inr h4
end Go.Proofs.YtpbdhhdmnnelhaaDoor

namespace Go.Proofs.YtpbdhhdmnnelhaaDoor
open Go.ChangeShapes Go.WideShapes Go.ChangeAt Go.RowKit

set_option maxRecDepth 100000 in
theorem contract_holds (H : Type) (enc : TypeId × Value → H) (W : World) (base : Nat) (args : Array Value) (ds gs : List (DataW H)) (before : List MemPlace)
    (hval : ∀ (j : Nat) t v, Tryd.f9.params[j]? = some t → args[j]? = some v → Value.okWide Tryd.prog W .any base t v)
    (hW : DataW.Whole enc Tryd.prog Tryd.f9.params.toList Rows.limbHoldsSpec.vars false W args.toList ds gs before) (hL : laidMetH Tryd.prog Rows.limbHoldsRow.laid W) :
    Calls Tryd.prog 9 args W fun e W' => ∃ v, e = .returned v ∧ Rows.limbHoldsSpec.post enc Tryd.prog Tryd.f9 false true false false W args v W' := by
  have hW' := hW
  obtain ⟨p, q, hA0, hV, rfl, hfz, hnd⟩ := hW
  have hA : DataW.TrodAll enc Tryd.prog W 0 (fun _ => true) true Tryd.f9.params.toList args.toList ds p := hA0
  rw [Tryd.params9] at hA hval
  obtain ⟨v0, vs0, d0, ds0, p0, q0, hargs, rfl, rfl, h0, r0⟩ := trodAll_cons hA
  obtain ⟨v1, vs1, d1, ds1, p1, q1, hargs1, rfl, rfl, h1, r1⟩ := trodAll_cons r0
  obtain ⟨v2, vs2, d2, ds2, p2, q2, hargs2, rfl, rfl, h2, r2⟩ := trodAll_cons r1
  obtain ⟨rfl, rfl, rfl⟩ := trodAll_nil r2
  subst hargs2
  subst hargs1
  obtain rfl : args = #[v0, v1, v2] := by cases args; simp_all
  obtain ⟨rfl, rfl⟩ := trodVars_none hV
  obtain ⟨s, a0, a1, a2, a3, rfl, rfl, rfl, ba0, ba1, ba2, ba3⟩ := open_iv (hval 0 25 v0 rfl rfl) h0
  obtain ⟨t, b0, b1, b2, b3, rfl, rfl, rfl, bb0, bb1, bb2, bb3⟩ := open_iv (hval 1 25 v1 rfl rfl) h1
  obtain ⟨u, c0, c1, c2, c3, rfl, rfl, rfl, bc0, bc1, bc2, bc3⟩ := open_iv (hval 2 25 v2 rfl rfl) h2
  clear hA0
  obtain ⟨hz, ht⟩ := tables hL
  have hw0 : 0 < W.heap.size := Nat.lt_of_le_of_lt (Nat.zero_le _) (block_lt_of_cell (hz 0 (by decide)))
  obtain ⟨o, ho, eo⟩ := iv_O s a0 a1 a2 a3 ba0 ba1 ba2 ba3
  obtain ⟨p, hp, ep⟩ := iv_O t b0 b1 b2 b3 bb0 bb1 bb2 bb3
  obtain ⟨q, hq, eq⟩ := iv_O u c0 c1 c2 c3 bc0 bc1 bc2 bc3
  have hmain := holds_O o p q W ho hp hq ht hz hw0
  rw [← eo, ← ep, ← eq] at hmain
  refine hmain.mono ?_
  rintro e W' ⟨rfl, hb⟩
  exact ⟨_, rfl, post_plain (ds := [datI H s a0 a1 a2 a3, datI H t b0 b1 b2 b3, datI H u c0 c1 c2 c3]) (gs := []) hW' (fun _ _ _ => trodAll_cons_mk (shut_bool Tryd.underlying4 _) trodAll_mk0) (fun _ => trodAll_cons_mk (shut_iv s ba0 ba1 ba2 ba3) (trodAll_cons_mk (shut_iv t bb0 bb1 bb2 bb3) (trodAll_cons_mk (shut_iv u bc0 bc1 bc2 bc3) trodAll_mk0))) (fun _ => rfl) hb (ok_one (by kernel_rfl) rfl (okWide_bool_mk Tryd.underlying4 _))⟩
end Go.Proofs.YtpbdhhdmnnelhaaDoor
namespace Go.Proofs.YtpbdhhdmnnelhaaDoor.fnHolds
open Go.ChangeShapes Go.WideShapes Go.ChangeAt Go.RowKit

abbrev wit : Array Value := #[iv false 0 0 0 0, iv false 0 0 0 0, iv false 0 0 0 0]
theorem laid_met (os : Os) : laidMet Tryd.prog Rows.limbHoldsRow.laid ((laidWorld os).forCall (fun _ _ => 0) ⟨#[], wit, []⟩).memory :=
  laidMet_of_run' 8 (by kernel_rfl) (by kernel_rfl)
theorem reads (os : Os) {H : Type} (enc : TypeId × Value → H) : ∃ places, DataW.whole enc Tryd.prog ((laidWorld os).forCall (fun _ _ => 0) ⟨#[], wit, []⟩).memory Tryd.f9.params.toList Rows.limbHoldsSpec.vars false wit.toList 8 = some ([datI H false 0 0 0 0, datI H false 0 0 0 0, datI H false 0 0 0 0], [], places) :=
  ⟨[], by kernel_rfl⟩

set_option maxRecDepth 100000 in
theorem lifted (os : Os) (started : os.Started) (H : Type) (enc : TypeId × Value → H) (F : Stop.Interp) :
    ReturnsInHanded {} Tryd.checked os 9 .any ((OpenSpec.ofChange Rows.limbHoldsSpec).preRow enc Tryd.prog Tryd.f9 Rows.limbHoldsRow.domain false Rows.limbHoldsRow.laid) (((OpenSpec.ofChange Rows.limbHoldsSpec).at F).post enc Tryd.prog Tryd.f9 false true false false) := by
  obtain ⟨places, hx⟩ := reads os enc
  refine returnsInHanded_of_row (C := Tryd.checked) (s := OpenSpec.ofChange Rows.limbHoldsSpec) own started (by kernel_rfl) Tryd.func9
    (witness_row_at (enc := enc) (C := Tryd.checked) false (laidWorld os) wit rfl (by kernel_rfl) (by kernel_rfl) (by kernel_rfl)
      (OpenSpec.preRow_of_cond 8 hx (by kernel_rfl) (fun k hk => by cases hk) (by kernel_rfl) (laid_met os))) ?_
  intro W base args ds gs before hval hW _ _ _ hL _ _
  exact contract_holds H enc W base args ds gs before hval hW hL

theorem said : Rows.LimbHoldsSaid :=
  OpenClaim.holds_of_cond 9 Tryd.f9 rfl rfl rfl rfl rfl rfl rfl ⟨rfl, rfl, rfl, rfl, rfl⟩ rfl rfl rfl rfl rfl (by kernel_rfl) Tryd.func9 (by kernel_rfl)
    (of_decide_eq_true (by kernel_rfl)) (by unfold Func.isWrapper; first | (rw [if_pos (by decide +kernel)]; kernel_rfl) | (rw [if_neg (by decide +kernel)]; exact ⟨rfl, rfl⟩))
    (fun os started H enc _ F => by rw [OpenClaim.pre_eq_preRow]; exact lifted os started H enc F)

theorem plain (f : FuncId) (fn : Func) (hf : Tryd.pinned.checked.prog.funcNamed "merestone/merestonelaw01.LimbHolds" = some f) (hfn : Tryd.pinned.checked.prog.funcs[f]? = some fn) :
    true = Tryd.pinned.checked.prog.looks [] ∧ ∀ (j : Nat) t, fn.params[j]? = some t → Tryd.pinned.checked.prog.wantsStandIn t = false := by
  obtain rfl : f = 9 := Option.some.inj ((show Tryd.prog.funcNamed "merestone/merestonelaw01.LimbHolds" = some 9 by kernel_rfl).symm.trans hf) |>.symm
  obtain rfl : fn = Tryd.f9 := (Option.some.inj (Tryd.func9.symm.trans hfn)).symm
  refine ⟨by kernel_rfl, fun j t ht => ?_⟩
  rw [Tryd.params9] at ht
  obtain rfl : t = 25 := by simpa using Array.mem_of_getElem? ht
  exact (show Tryd.prog.wantsStandIn 25 = false by kernel_rfl)

/-- The card. -/
theorem card : Rows.LimbHoldsCardSaid :=
  Claim7.holds_tied_plain_at .later [] _ _ _ _ said (fun _ h => by cases h) (by kernel_rfl) (fun _ h => by cases h) limbHolds_row_tie rfl ⟨rfl, rfl⟩ (by kernel_rfl) rfl plain (by kernel_rfl)
end Go.Proofs.YtpbdhhdmnnelhaaDoor.fnHolds
