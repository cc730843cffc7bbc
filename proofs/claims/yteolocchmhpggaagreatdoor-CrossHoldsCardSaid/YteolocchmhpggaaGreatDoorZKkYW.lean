/-
Proved: CrossHolds returns true at every two segments and every point (it does not matter which of two is the first, nor which end is A; where they meet lies on both; a point that lies on both is where they meet, or between the ends of the piece), and leaves its arguments alone. Conditions: those of the given card alone.
-/
import Derived.Test.YteolocchmhpggaaGreatDoorZKkVF
import Derived.Test.YteolocchmhpggaaGreatDoorZKkAD
import Derived.ChangeSame
import Derived.Test.YteolocchmhpggaaGreatDoorZKkYV
namespace Go.Proofs.YteolocchmhpggaaGreatDoor
open Go.ChangeShapes Go.WideShapes Go.ChangeAt Go.RowKit

theorem cellsRat : Tryz.prog.cellsOf 31 = 10 := by kernel_rfl
theorem cellsPoint : Tryz.prog.cellsOf 33 = 20 := by kernel_rfl
theorem iv_numP (s : Bool) (a b c d : Int) (ha : 0 ≤ a ∧ a < 18446744073709551616) (hb : 0 ≤ b ∧ b < 18446744073709551616) (hc : 0 ≤ c ∧ c < 18446744073709551616) (hd : 0 ≤ d ∧ d < 18446744073709551616)
 (h : (s && zeroB a b c d) = false) : ∃ z : Int, z.natAbs < T256 ∧ iv s a b c d = ivz z ∧ s = decide (z < 0) ∧ a = (W64 z.natAbs 0 : Nat) ∧ b = (W64 z.natAbs 1 : Nat) ∧ c = (W64 z.natAbs 2 : Nat) ∧ d = (W64 z.natAbs 3 : Nat) := by
 obtain ⟨a, rfl⟩ := Int.eq_ofNat_of_zero_le ha.1
 obtain ⟨b, rfl⟩ := Int.eq_ofNat_of_zero_le hb.1
 obtain ⟨c, rfl⟩ := Int.eq_ofNat_of_zero_le hc.1
 obtain ⟨d, rfl⟩ := Int.eq_ofNat_of_zero_le hd.1
 have hx : ∀ i, i < 4 → nat4 a b c d i < 18446744073709551616 := fun i hi => by
  match i, hi with
  | 0, _ => show a < _; omega
  | 1, _ => show b < _; omega
  | 2, _ => show c < _; omega
  | 3, _ => show d < _; omega
 have hl := valW_lt 4 hx
 have w0 : W64 (valW (nat4 a b c d) 4) 0 = a := W64_val 4 hx 0 (by omega)
 have w1 : W64 (valW (nat4 a b c d) 4) 1 = b := W64_val 4 hx 1 (by omega)
 have w2 : W64 (valW (nat4 a b c d) 4) 2 = c := W64_val 4 hx 2 (by omega)
 have w3 : W64 (valW (nat4 a b c d) 4) 3 = d := W64_val 4 hx 3 (by omega)
 rw [← T256_w] at hl
 have hz : s = true → valW (nat4 a b c d) 4 ≠ 0 := fun hs h0 => by
  rw [hs, (zeroB_val a b c d).2 h0] at h; cases h
 generalize valW (nat4 a b c d) 4 = m at hl w0 w1 w2 w3 hz
 have hn : (if s then -(m : Int) else (m : Int)).natAbs = m := by split <;> omega
 refine ⟨if s then -(m : Int) else m, by rw [hn]; exact hl, ?_, ?_, by rw [hn, w0], by rw [hn, w1], by rw [hn, w2], by rw [hn, w3]⟩
 ·have hs : decide ((if s then -(m : Int) else (m : Int)) < 0) = s := by
   cases s
   ·simp
   ·simp; exact Nat.pos_of_ne_zero (hz rfl)
  unfold ivz
  rw [hn, hs, w0, w1, w2, w3]
 ·cases s
  ·simp
  ·simp; exact Nat.pos_of_ne_zero (hz rfl)
/-- Every Int is of a number, or the one that may not be. -/
theorem int_O (s : Bool) (a b c d : Int) (ha : 0 ≤ a ∧ a < 18446744073709551616) (hb : 0 ≤ b ∧ b < 18446744073709551616) (hc : 0 ≤ c ∧ c < 18446744073709551616) (hd : 0 ≤ d ∧ d < 18446744073709551616) :
 ∃ o : Option Int, oM o < T256 ∧ s = oS o ∧ a = (W64 (oM o) 0 : Nat) ∧ b = (W64 (oM o) 1 : Nat) ∧ c = (W64 (oM o) 2 : Nat) ∧ d = (W64 (oM o) 3 : Nat) := by
 cases h : (s && zeroB a b c d)
 ·obtain ⟨x, hx, _, e⟩ := iv_numP s a b c d ha hb hc hd h
  exact ⟨some x, hx, e⟩
 ·obtain ⟨h1, h2⟩ := Bool.and_eq_true_iff.1 h
  obtain ⟨rfl, rfl, rfl, rfl⟩ := zeroB_iff.1 h2
  exact ⟨none, by decide, h1, by decide, by decide, by decide, by decide⟩
/-- The datum of an Int, of a fraction, of a point. -/
def datO (H : Type) (o : Option Int) : DataW H := datI H (oS o) (W64 (oM o) 0 : Nat) (W64 (oM o) 1 : Nat) (W64 (oM o) 2 : Nat) (W64 (oM o) 3 : Nat)
def datR (H : Type) (a b : Option Int) : DataW H := .agg [datO H a, datO H b]
def datP (H : Type) (a b c d : Option Int) : DataW H := .agg [datR H a b, datR H c d]
theorem open_int5 {H : Type} {enc : TypeId × Value → H} {w : World} {base : Nat} {spare : Nat → Bool} {held : Bool} {fuel : Nat} {c0 c1 c2 c3 c4 : Value} {y : DataW H × List MemPlace}
 (h : DataW.trod enc Tryz.prog w base spare held fuel 29 [c0, c1, c2, c3, c4] = some y) :
 ∃ o : Option Int, oM o < T256 ∧ [c0, c1, c2, c3, c4] = (oA o).toList ∧ y = (datO H o, []) := by
 obtain ⟨xs, n, _, hx, _, hlen, hg⟩ := DataW.trod_struct Tryz.underlying29 h
 match xs, hlen with
 | [y0, y1], _ =>
   have g0 : DataW.trod enc Tryz.prog w base spare held n 4 (([c0, c1, c2, c3, c4].drop 0).take (Tryz.prog.cellsOf 4)) = some y0 := hg 0 _ rfl
   have g1 : DataW.trod enc Tryz.prog w base spare held n 27 (([c0, c1, c2, c3, c4].drop 1).take (Tryz.prog.cellsOf 27)) = some y1 := hg 1 _ rfl
   rw [cellsB] at g0
   rw [cellsMag] at g1
   obtain ⟨s, es, ey⟩ := DataW.trod_bool Tryz.underlying4 (x := y0) g0
   obtain ⟨a, b, c, e, e1, e2, e3, e4, ez, wa, wb, wc, we⟩ := open_mag (y := y1) g1
   subst ey ez e1 e2 e3 e4
   simp at es
   subst es
   obtain ⟨o, ho, rfl, rfl, rfl, rfl, rfl⟩ := int_O s a b c e (wf_bd wa) (wf_bd wb) (wf_bd wc) (wf_bd we)
   exact ⟨o, ho, rfl, hx⟩
theorem open_rat10 {H : Type} {enc : TypeId × Value → H} {w : World} {base : Nat} {spare : Nat → Bool} {held : Bool} {fuel : Nat} {c0 c1 c2 c3 c4 c5 c6 c7 c8 c9 : Value} {y : DataW H × List MemPlace}
 (h : DataW.trod enc Tryz.prog w base spare held fuel 31 [c0, c1, c2, c3, c4, c5, c6, c7, c8, c9] = some y) :
 ∃ a b : Option Int, oM a < T256 ∧ oM b < T256 ∧ [c0, c1, c2, c3, c4] = (oA a).toList ∧ [c5, c6, c7, c8, c9] = (oA b).toList ∧ y = (datR H a b, []) := by
 obtain ⟨xs, n, _, hx, _, hlen, hg⟩ := DataW.trod_struct Tryz.underlying31 h
 match xs, hlen with
 | [y0, y1], _ =>
   have g0 : DataW.trod enc Tryz.prog w base spare held n 29 (([c0, c1, c2, c3, c4, c5, c6, c7, c8, c9].drop 0).take (Tryz.prog.cellsOf 29)) = some y0 := hg 0 _ rfl
   have g1 : DataW.trod enc Tryz.prog w base spare held n 29 (([c0, c1, c2, c3, c4, c5, c6, c7, c8, c9].drop 5).take (Tryz.prog.cellsOf 29)) = some y1 := hg 1 _ rfl
   rw [cellsInt] at g0 g1
   obtain ⟨a, ha, ea, rfl⟩ := open_int5 (y := y0) g0
   obtain ⟨b, hb, eb, rfl⟩ := open_int5 (y := y1) g1
   exact ⟨a, b, ha, hb, ea, eb, hx⟩
set_option maxRecDepth 100000 in
theorem open_pt {H : Type} {enc : TypeId × Value → H} {w : World} {base b0 : Nat} {spare : Nat → Bool} {held : Bool} {r : Reach} {v : Value} {d : DataW H} {p : List MemPlace}
 (hv : Value.okWide Tryz.prog w r b0 33 v) (h : DataW.Trod enc Tryz.prog w base spare held 33 v d p) :
 ∃ (a b c e : Option Int), v = .agg (pO a b c e) ∧ d = datP H a b c e ∧ p = [] ∧ oM a < T256 ∧ oM b < T256 ∧ oM c < T256 ∧ oM e < T256 := by
 obtain ⟨cs, rfl, hsz⟩ := okWide_struct Tryz.underlying33 hv
 obtain ⟨l⟩ := cs
 match l, hsz.trans cellsPoint with
 | [c0, c1, c2, c3, c4, c5, c6, c7, c8, c9, d0, d1, d2, d3, d4, d5, d6, d7, d8, d9], _ =>
   obtain ⟨fuel, hf⟩ := h
   obtain ⟨xs, n, _, hx, _, hlen, hg⟩ := DataW.trod_struct Tryz.underlying33 hf
   match xs, hlen with
   | [y0, y1], _ =>
     have g0 : DataW.trod enc Tryz.prog w base spare held n 31 (((Value.agg #[c0, c1, c2, c3, c4, c5, c6, c7, c8, c9, d0, d1, d2, d3, d4, d5, d6, d7, d8, d9]).cells.toList.drop 0).take (Tryz.prog.cellsOf 31)) = some y0 := hg 0 _ rfl
     have g1 : DataW.trod enc Tryz.prog w base spare held n 31 (((Value.agg #[c0, c1, c2, c3, c4, c5, c6, c7, c8, c9, d0, d1, d2, d3, d4, d5, d6, d7, d8, d9]).cells.toList.drop 10).take (Tryz.prog.cellsOf 31)) = some y1 := hg 1 _ rfl
     rw [cellsRat] at g0 g1
     obtain ⟨a, b, ha, hb, ea, eb, rfl⟩ := open_rat10 (y := y0) g0
     obtain ⟨c, e, hc, he, ec, ee, rfl⟩ := open_rat10 (y := y1) g1
     simp only [oA, List.cons.injEq, and_true] at ea eb ec ee
     obtain ⟨rfl, rfl, rfl, rfl, rfl⟩ := ea
     obtain ⟨rfl, rfl, rfl, rfl, rfl⟩ := eb
     obtain ⟨rfl, rfl, rfl, rfl, rfl⟩ := ec
     obtain ⟨rfl, rfl, rfl, rfl, rfl⟩ := ee
     simp only [Prod.mk.injEq] at hx
     exact ⟨a, b, c, e, rfl, hx.1, hx.2, ha, hb, hc, he⟩
theorem wf_W64 (m k : Nat) : (Lit.int .u64 (W64 m k : Nat)).wf = true := WalkArith.wf_u64 (n := ((W64 m k : Nat) : Int)) (by have := W64_bd m k; omega)
set_option maxRecDepth 100000 in
theorem shut_int5 {H : Type} {enc : TypeId × Value → H} {w : World} {base : Nat} {spare : Nat → Bool} {held : Bool} (a : Option Int) :
 DataW.trod enc Tryz.prog w base spare held 3 29 (oA a).toList = some (datO H a, []) := by
 have w0 := wf_W64 (oM a) 0
 have w1 := wf_W64 (oM a) 1
 have w2 := wf_W64 (oM a) 2
 have w3 := wf_W64 (oM a) 3
 unfold oA datO datI
 generalize oS a = s
 generalize ((W64 (oM a) 0 : Nat) : Int) = x0 at *
 generalize ((W64 (oM a) 1 : Nat) : Int) = x1 at *
 generalize ((W64 (oM a) 2 : Nat) : Int) = x2 at *
 generalize ((W64 (oM a) 3 : Nat) : Int) = x3 at *
 simp [DataW.trod, Tryz.underlying29, Tryz.underlying27, Tryz.underlying26, Tryz.underlying4, cellsInt, cellsMag, cellsW, cellsB, w0, w1, w2, w3, show List.range 4 = [0, 1, 2, 3] from rfl]
theorem shut_rat10 {H : Type} {enc : TypeId × Value → H} {w : World} {base : Nat} {spare : Nat → Bool} {held : Bool} (a b : Option Int) :
 DataW.trod enc Tryz.prog w base spare held 4 31 ((oA a).toList ++ (oA b).toList) = some (datR H a b, []) := by
 refine trod_struct2_mk (y0 := (datO H a, [])) (y1 := (datO H b, [])) Tryz.underlying31 (by rw [cellsRat]; rfl) ?_ ?_
 ·exact (show DataW.trod enc Tryz.prog w base spare held 3 29 ((((oA a).toList ++ (oA b).toList).drop 0).take (Tryz.prog.cellsOf 29)) = some (datO H a, []) by rw [cellsInt]; exact shut_int5 a)
 ·exact (show DataW.trod enc Tryz.prog w base spare held 3 29 ((((oA a).toList ++ (oA b).toList).drop 5).take (Tryz.prog.cellsOf 29)) = some (datO H b, []) by rw [cellsInt]; exact shut_int5 b)
theorem shut_pt {H : Type} {enc : TypeId × Value → H} {w : World} {base : Nat} {spare : Nat → Bool} {held : Bool} (a b c e : Option Int) :
 DataW.Trod enc Tryz.prog w base spare held 33 (.agg (pO a b c e)) (datP H a b c e) [] := by
 refine ⟨5, ?_⟩
 show DataW.trod enc Tryz.prog w base spare held 5 33 (((oA a).toList ++ (oA b).toList) ++ ((oA c).toList ++ (oA e).toList)) = some (.agg [datR H a b, datR H c e], [] ++ [])
 refine trod_struct2_mk (y0 := (datR H a b, [])) (y1 := (datR H c e, [])) Tryz.underlying33 (by rw [cellsPoint]; rfl) ?_ ?_
 ·exact (show DataW.trod enc Tryz.prog w base spare held 4 31 (((((oA a).toList ++ (oA b).toList) ++ ((oA c).toList ++ (oA e).toList)).drop 0).take (Tryz.prog.cellsOf 31)) = some (datR H a b, []) by rw [cellsRat]; exact shut_rat10 a b)
 ·exact (show DataW.trod enc Tryz.prog w base spare held 4 31 (((((oA a).toList ++ (oA b).toList) ++ ((oA c).toList ++ (oA e).toList)).drop 10).take (Tryz.prog.cellsOf 31)) = some (datR H c e, []) by rw [cellsRat]; exact shut_rat10 c e)
end Go.Proofs.YteolocchmhpggaaGreatDoor
namespace Go.Proofs.YteolocchmhpggaaGreatDoor.fnHolds
open Go.ChangeShapes Go.WideShapes Go.ChangeAt Go.RowKit

set_option maxRecDepth 100000 in
theorem contract (H : Type) (enc : TypeId × Value → H) (W : World) (base : Nat) (args : Array Value) (ds gs : List (DataW H)) (before : List MemPlace)
 (hval : ∀ (j : Nat) t v, Tryz.f3.params[j]? = some t → args[j]? = some v → Value.okWide Tryz.prog W .any base t v)
 (hW : DataW.Whole enc Tryz.prog Tryz.f3.params.toList Rows.crossHoldsSpec.vars false W args.toList ds gs before) (hL : laidMetH Tryz.prog Rows.crossHoldsRow.laid W) :
 Calls Tryz.prog 3 args W fun e W' => ∃ v, e = .returned v ∧ Rows.crossHoldsSpec.post enc Tryz.prog Tryz.f3 false true false false W args v W' := by
 have hW' := hW
 obtain ⟨p, q, hA0, hV, rfl, hfz, hnd⟩ := hW
 have hA : DataW.TrodAll enc Tryz.prog W 0 (fun _ => true) true Tryz.f3.params.toList args.toList ds p := hA0
 rw [Tryz.params3] at hA hval
 obtain ⟨v0, vs0, d0, ds0, p0, q0, hargs, rfl, rfl, h0, r0⟩ := trodAll_cons hA
 obtain ⟨v1, vs1, d1, ds1, p1, q1, hargs1, rfl, rfl, h1, r1⟩ := trodAll_cons r0
 obtain ⟨v2, vs2, d2, ds2, p2, q2, hargs2, rfl, rfl, h2, r2⟩ := trodAll_cons r1
 obtain ⟨rfl, rfl, rfl⟩ := trodAll_nil r2
 subst hargs2
 subst hargs1
 obtain rfl : args = #[v0, v1, v2] := by cases args; simp_all
 obtain ⟨rfl, rfl⟩ := trodVars_none hV
 obtain ⟨ax, ay, bx, bY, rfl, rfl, rfl, wa⟩ := open_seg (hval 0 25 v0 rfl rfl) h0
 obtain ⟨cx, cy, dx, dY, rfl, rfl, rfl, wb⟩ := open_seg (hval 1 25 v1 rfl rfl) h1
 obtain ⟨a, b, c, d, rfl, rfl, rfl, ha, hb, hc, hd⟩ := open_pt (hval 2 33 v2 rfl rfl) h2
 clear hA0
 have hz := tables hL
 have hw0 : 0 < W.heap.size := Nat.lt_of_le_of_lt (Nat.zero_le _) (block_lt_of_cell (hz 0 (by decide)))
 refine (holds_true ⟨ax, ay, bx, bY⟩ ⟨cx, cy, dx, dY⟩ a b c d W ha hb hc hd hz hw0).mono ?_
 rintro e W' ⟨rfl, hb⟩
 exact ⟨_, rfl, post_plain (ds := [datS H ax ay bx bY, datS H cx cy dx dY, datP H a b c d]) (gs := []) hW' (fun _ _ _ => trodAll_cons_mk (shut_bool Tryz.underlying4 _) trodAll_mk0) (fun _ => trodAll_cons_mk (shut_seg wa) (trodAll_cons_mk (shut_seg wb) (trodAll_cons_mk (shut_pt a b c d) trodAll_mk0))) (fun _ => rfl) hb (ok_one (by kernel_rfl) rfl (okWide_bool_mk Tryz.underlying4 _))⟩

abbrev wit : Array Value := #[.agg #[.int .i64 0, .int .i64 0, .int .i64 0, .int .i64 0], .agg #[.int .i64 0, .int .i64 0, .int .i64 0, .int .i64 0], .agg zero_point]
theorem laid_met (os : Os) : laidMet Tryz.prog Rows.crossHoldsRow.laid ((laidWorld os).forCall (fun _ _ => 0) ⟨#[], wit, []⟩).memory :=
 laidMet_of_run' 8 (by kernel_rfl) (by kernel_rfl)
theorem reads (os : Os) {H : Type} (enc : TypeId × Value → H) : ∃ places, DataW.whole enc Tryz.prog ((laidWorld os).forCall (fun _ _ => 0) ⟨#[], wit, []⟩).memory Tryz.f3.params.toList Rows.crossHoldsSpec.vars false wit.toList 8 = some ([datS H 0 0 0 0, datS H 0 0 0 0, .agg [.agg [datI H false 0 0 0 0, datI H false 0 0 0 0], .agg [datI H false 0 0 0 0, datI H false 0 0 0 0]]], [], places) :=
 ⟨[], by kernel_rfl⟩

set_option maxRecDepth 100000 in
theorem lifted (os : Os) (started : os.Started) (H : Type) (enc : TypeId × Value → H) (F : Stop.Interp) :
 ReturnsInHanded {} Tryz.checked os 3 .any ((OpenSpec.ofChange Rows.crossHoldsSpec).preRow enc Tryz.prog Tryz.f3 Rows.crossHoldsRow.domain false Rows.crossHoldsRow.laid) (((OpenSpec.ofChange Rows.crossHoldsSpec).at F).post enc Tryz.prog Tryz.f3 false true false false) := by
 obtain ⟨places, hx⟩ := reads os enc
 refine returnsInHanded_of_row (C := Tryz.checked) (s := OpenSpec.ofChange Rows.crossHoldsSpec) own started (by kernel_rfl) Tryz.func3
  (witness_row_at (enc := enc) (C := Tryz.checked) false (laidWorld os) wit rfl (by kernel_rfl) (by kernel_rfl) (by kernel_rfl)
    (OpenSpec.preRow_of_cond 8 hx (by kernel_rfl) (fun k hk => by cases hk) (by kernel_rfl) (laid_met os))) ?_
 intro W base args ds gs before hval hW _ _ _ hL _ _
 exact contract H enc W base args ds gs before hval hW hL

theorem said : Rows.CrossHoldsSaid :=
 OpenClaim.holds_of_cond 3 Tryz.f3 rfl rfl rfl rfl rfl rfl rfl ⟨rfl, rfl, rfl, rfl, rfl⟩ rfl rfl rfl rfl rfl (by kernel_rfl) Tryz.func3 (by kernel_rfl)
  (of_decide_eq_true (by kernel_rfl)) (by unfold Func.isWrapper; first | (rw [if_pos (by decide +kernel)]; kernel_rfl) | (rw [if_neg (by decide +kernel)]; exact ⟨rfl, rfl⟩))
  (fun os started H enc _ F => by rw [OpenClaim.pre_eq_preRow]; exact lifted os started H enc F)

theorem plain (f : FuncId) (fn : Func) (hf : Tryz.pinned.checked.prog.funcNamed "merestone/merestonelaw05.CrossHolds" = some f) (hfn : Tryz.pinned.checked.prog.funcs[f]? = some fn) :
 true = Tryz.pinned.checked.prog.looks [] ∧ ∀ (j : Nat) t, fn.params[j]? = some t → Tryz.pinned.checked.prog.wantsStandIn t = false := by
 obtain rfl : f = 3 := Option.some.inj ((show Tryz.prog.funcNamed "merestone/merestonelaw05.CrossHolds" = some 3 by kernel_rfl).symm.trans hf) |>.symm
 obtain rfl : fn = Tryz.f3 := (Option.some.inj (Tryz.func3.symm.trans hfn)).symm
 refine ⟨by kernel_rfl, fun j t ht => ?_⟩
 rw [Tryz.params3] at ht
 have h := Array.mem_of_getElem? ht
 simp only [Array.mem_def, List.mem_cons, List.not_mem_nil, or_false] at h
 rcases h with rfl | rfl | rfl
 ·exact (show Tryz.prog.wantsStandIn 25 = false by kernel_rfl)
 ·exact (show Tryz.prog.wantsStandIn 25 = false by kernel_rfl)
 ·exact (show Tryz.prog.wantsStandIn 33 = false by kernel_rfl)

/-- The card. -/
theorem card : Rows.CrossHoldsCardSaid :=
 Claim7.holds_tied_plain_at .later [] _ _ _ _ said (fun _ h => by cases h) (by kernel_rfl) (fun _ h => by cases h) crossHolds_row_tie rfl ⟨rfl, rfl⟩ (by kernel_rfl) rfl plain (by kernel_rfl)
end Go.Proofs.YteolocchmhpggaaGreatDoor.fnHolds
