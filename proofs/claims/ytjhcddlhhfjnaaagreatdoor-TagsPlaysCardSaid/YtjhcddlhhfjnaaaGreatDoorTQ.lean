/- Contract of Tags.Text. -/
import Derived.Test.YtjhcddlhhfjnaaaGreatDoorTP
import Derived.Lib.ItoaLen
import Derived.Lib.Join
namespace Go.Proofs.YtjhcddlhhfjnaaaGreatDoor
open Go.RowKit Go.Sort Go.Shelf
attribute [local go_sem] Oper.semAt_some

/-- The text of numbers. -/
def textB (l : List Int) : ByteArray := ⟨(Lib.join ((l.map itoaB).map (·.data.toList)) [32]).toArray⟩
theorem format_any (n : Int) (w : World) (h0 : -9223372036854775808 ≤ n) (h1 : n ≤ 9223372036854775807) (hv : VarS w) :
    Calls Tryz.prog 43 #[.int .i64 n, .int .i64 10] w fun e w' => e = .returned (.string (itoaB n)) ∧ Below w.heap.size w w' :=
  (Tryz.strconv_FormatInt_10 n h0 h1 w hv.tab).mono (by
    rintro e w' ⟨rfl, k, os, rfl⟩
    exact ⟨rfl, below_regrown w _ os⟩)
theorem lens_le : ∀ (l : List (List UInt8)), (∀ x ∈ l, x.length ≤ 21) → Lib.lens l ≤ 21 * l.length
  | [], _ => Nat.zero_le _
  | x :: r, h => by
    have h1 := h x (by simp)
    have h2 := lens_le r (fun y hy => h y (List.mem_cons_of_mem _ hy))
    have e : Lib.lens (x :: r) = x.length + Lib.lens r := by simp [Lib.lens]
    rw [e, List.length_cons]; omega
theorem join_le (l : List (List UInt8)) (h : ∀ x ∈ l, x.length ≤ 21) : (Lib.join l [32]).length ≤ 22 * l.length := by
  cases l with
  | nil => exact Nat.zero_le _
  | cons x r =>
    have h1 := lens_le _ h
    have e := Lib.join_length x r [32]
    simp only [List.length_cons, List.length_nil] at h1 e ⊢
    omega
/-- Join of a slice of words, between which a blank is put. -/
theorem join_any (l : List ByteArray) (A : Option Addr) (N cap : Nat) (w : World) (hN : N = l.length) (hc : N ≤ cap) (hC : CellsS w A (strCs l)) (hb : N ≤ 1000000) (hl : ∀ x ∈ l, x.data.toList.length ≤ 21) :
    Calls Tryz.prog 44 #[.slice A N cap, .string ⟨#[32]⟩] w fun e w' => e = .returned (.string ⟨(Lib.join (l.map (·.data.toList)) [32]).toArray⟩) ∧ Below w.heap.size w w' := by
  rcases Nat.eq_zero_or_pos N with h0 | h0
  · have e : l = [] := List.eq_nil_of_length_eq_zero (by omega)
    subst e
    subst h0
    refine (Tryz.strings_Join_none A cap ⟨#[32]⟩ w).mono ?_
    rintro e w' ⟨rfl, rfl⟩
    exact ⟨rfl, Below.refl _ _⟩
  · obtain ⟨b, o, rfl, hh⟩ := hC (by rw [strCs_len]; omega)
    subst hN
    exact Tryz.strings_Join b o cap l ⟨#[32]⟩ w (fun j x hx => hh.2 j _ (by simp [strCs, hx])) hh.1 (by omega) hc (Nat.le_trans (join_le _ (fun x hx => by
      obtain ⟨y, hy, rfl⟩ := List.mem_map.1 hx
      exact hl y hy)) (by rw [List.length_map]; omega))
theorem words_len : ∀ (l : List (Int × Int)), (∀ p ∈ l, p.2 ≤ 255) → (wordsL l).length ≤ 255 * l.length
  | [], _ => Nat.le_refl _
  | p :: r, h => by
    have ih := words_len r (fun q hq => h q (List.mem_cons_of_mem _ hq))
    have hp := h p (by simp)
    unfold wordsL at *
    rw [List.length_map] at *
    rw [expand, List.length_append, List.length_replicate, List.length_cons]
    omega
set_option maxRecDepth 100000 in
set_option maxHeartbeats 6400000 in
theorem text_any (cs : List (Int × Int)) (A : Option Addr) (N c : Nat) (w : World) (hN : N = cs.length) (hA : CellsS w A (cntCs cs)) (hg : Good cs) (hv : VarS w) :
    Calls Tryz.prog 22 #[.agg #[.slice A N c]] w fun e w' => e = .returned (.string (textB (expand cs))) ∧ Below w.heap.size w w' := by
  have HU := Lib.hid (fun E W (hE : Row W E [.slice A N c]) (hA : CellsS W A (cntCs cs)) => all1_v 7 E cs A N c W hN (by have := hg.len; omega) hE hA)
  have HA := Lib.hid hA
  have HN := Lib.hid hN
  have HG := Lib.hid hg
  have HV := Lib.hid hv
  have hb : N ≤ 64 := by have := hg.len; omega
  clear hA hN hg hv
  refine (callsIn_wide (n := 9)).1 ?_
  refine callsIn_of_wp_marks Tryz.func22 rfl trivial ?_ rfl
  simp only [Tryz.ntmps22, List.size_toArray, List.length_cons, List.length_nil, Nat.reduceAdd, Nat.reduceSub, Array.replicate_succ, Array.replicate_zero, List.push_toArray, List.append_toArray, List.nil_append, List.cons_append]
  refine wpIn_wide.2 ?_
  go_wp2_with fail
  generalize hW : World.alloc _ _ = W0
  have hR1 : Row W0 w.heap.size [.slice A N c] := by rw [← hW]; exact (Row.at rfl [_] _).alloc _
  have hR3 : Row W0 (w.heap.size + 1) [.slice none 0 0] := by rw [← hW]; exact Row.at (by simp) _ _
  have hB : Below w.heap.size w W0 := by rw [← hW]; exact ((Below.refl _ _).alloc (Nat.le_refl _) _).alloc (by simp) _
  clear hW
  have x0 := hR1.c 0 rfl
  go_wp2_with fail
  refine (all_any A N c _).mono ?_
  rintro e W1 ⟨E, rfl, hEs, hRE, hb⟩
  replace hR3 := hR3.after hb
  replace hB := hB.trans (hb.mono hB.size)
  have hG : GatS 9 w (w.heap.size + 1) (strCs (wordsL [])) W1 := ⟨hB, hR3.1, Nat.le_succ _, none, 0, 0, hR3, Own.nil _ _ _ _⟩
  clear hb x0 hR1
  go_wp2_with fail
  refine (wpIn_wide (n := 9)).1 ?_
  refine wpIn_range_v (α := Int × Int) rfl (by omega) (gf := 49) (lb := #[.pointer (some ⟨E, 0, none⟩)]) rfl trivial (enters_of Tryz.func49 (by kernel_rfl) rfl)
    (HU.out E W1 hRE (HA.out.after hB)) (fun b h => by cases h) KeepsO.trans (fun l W o o' h _ _ => KeepsO.turn W o' (fun h0 a ha => CellsS.far (HA.out.after hB) h (by rw [cntCs_len, ← HN.out]; omega) a ha)) (fun _ _ h => KeepsO.below h) (Below.refl _ _) (fun _ => rfl)
    (fun pre W => GatS 9 w (w.heap.size + 1) (strCs (wordsL pre)) W) (fun _ _ _ => False)
    (fun _ X Y h hg => h.steady hg) (fun _ _ X Y h _ => h.elim) (fun pre W l o o' hl h1 h2 h => h.turn h1 h2 (by have := hR3.1; omega)) (fun _ _ _ _ _ _ _ _ _ h => h.elim) hG
    (fun x a' _ => a' = { tmps := #[.agg #[.slice A N c], .pointer (some ⟨w.heap.size, 0, none⟩), .string ⟨#[]⟩, .pointer (some ⟨w.heap.size + 1, 0, none⟩), .int .i64 x.1, .int .i64 x.2, .agg #[.slice A N c], .func (.func 49) #[] #[.pointer (some ⟨E, 0, none⟩)], .int .i64 x.1, .int .i64 x.2, undef, undef, undef, undef, undef, undef, undef, undef, undef], defers := [] })
    (fun x a' W lo o h1 h2 e => e) ?assign ?body ?done ?stop
  case assign =>
    intro l' pre x W K hI hW hK
    clear hI
    unfold encC
    gi_wp2
    exact hK _ _ (Below.refl _ _) rfl
  case body =>
    rintro l' pre x a' W hI hW hp rfl
    have hxm : x ∈ cs := hp.subset (by simp)
    have hxn := HG.out.num x hxm
    have hxt := HG.out.times x hxm
    obtain ⟨h1, h2, h3, A1, N1, cap1, h4, h5⟩ := hI
    have hr3 := hR3.1
    obtain ⟨t, ht⟩ : ∃ t : Nat, x.2 = t := ⟨x.2.toNat, by omega⟩
    have hT : Hid (wordsL (pre ++ [x]) = wordsL pre ++ List.replicate t (itoaB x.1)) := Lib.hid (by rw [wordsL_snoc, ht]; rfl)
    have ht1 : 1 ≤ t := by omega
    have ht2 : t ≤ 255 := by omega
    have HF := Lib.hid (fun W' (hb' : Below W.heap.size W W') => format_any x.1 W' (by omega) (by omega) ((HV.out.after h1).after hb'))
    have HRp := Lib.hid (fun q W' (hr : Row W' q [.string (itoaB x.1)]) => repeat_any (itoaB x.1) t q W' ht1 ht2 hr)
    have hx2 : x = (x.1, (t : Int)) := by rw [← ht]
    generalize x.1 = xn at *
    subst hx2
    have hlenW : N1 ≤ 20000 := by
      have e1 := h5.len
      rw [strCs_len] at e1
      have e2 : (wordsL pre).length ≤ 255 * pre.length := words_len pre (fun p hp' => (HG.out.times p (hp.subset (by simp [hp']))).2)
      have e3 := hp.length_le
      have e4 := HN.out
      simp at e3; omega
    have HB := Lib.hid (And.intro h1 (And.intro h4 h5))
    clear ht h1 h4 h5 hxm hxt
    gi_wp2_with (fail)
    refine wpIn_region_mid (by kernel_rfl) (by kernel_rfl) (fun i => match i with
      | 0 => some (.slice A1 N1 cap1)
      | 1 => some (.int .i64 xn)
      | 2 => some (.string (itoaB xn))
      | 4 => some (.int .i64 t)
      | _ => none) (TxS W (w.heap.size + 1) A1 N1 (strCs (wordsL pre)) (itoaB xn) t) (by kernel_rfl) ⟨fun _ => (Below.refl _ _).drew, fun h => by simp at h, fun h => by simp at h, fun h => by simp at h, fun h => by simp at h, fun h => by simp at h, fun h => by simp at h, fun h => by simp at h, fun h => by simp at h, fun h => by simp at h⟩ ?_ ?_
    · intro listed a W' i o' hI ho h0 hdep K hK'
      have hi' : i < 8 := (Array.getElem?_eq_some_iff.1 ho).1
      have hM := hI.world
      have hls : listed.size = 8 := hI.lsize
      have Hsz : Hid (a.tmps.size = 19) := Lib.hid hI.size
      have hcase : i = 0 ∨ i = 1 ∨ i = 2 ∨ i = 3 ∨ i = 4 ∨ i = 5 ∨ i = 6 ∨ i = 7 := by omega
      clear hi'
      rcases hcase with rfl | rfl | rfl | rfl | rfl | rfl | rfl | rfl
      · obtain rfl := Option.some.inj (show some _ = some o' from ho)
        have q3 : a.tmps[3]?.getD undef = .pointer (some ⟨w.heap.size + 1, 0, none⟩) := hI.old 3 (noDst_spec (by kernel_rfl))
        have z0 := (HB.out.2.1.below (hM.pre (hM.six (.inr (.inr (.inr rfl))) (getD_no h0))) HB.out.2.1.1).c 0 rfl
        clear hdep hI ho
        go_simp
        exact hK' (.slice A1 N1 cap1) _ (fun u hu => Option.some.inj (show some _ = some u from hu)) (hM.next 0 10 _ (by decide) (by decide) (.inl rfl))
      · obtain rfl := Option.some.inj (show some _ = some o' from ho)
        have q4 : a.tmps[4]?.getD undef = .int .i64 xn := hI.old 4 (noDst_spec (by kernel_rfl))
        clear hdep hI ho
        go_simp
        exact hK' (.int .i64 xn) _ (fun u hu => Option.some.inj (show some _ = some u from hu)) (hM.next 1 11 _ (by decide) (by decide) (.inl rfl))
      · obtain rfl := Option.some.inj (show some _ = some o' from ho)
        have d1 : listed.getD 1 false = true := hdep ⟨1, .data⟩ (by simp) rfl
        have q11 : a.tmps[11]?.getD undef = .int .i64 xn := hI.val 1 _ 11 _ rfl rfl rfl d1
        have h6 := hM.six (.inl rfl) (getD_no h0)
        clear hdep hI ho
        go_simp
        refine (HF.out _ (hM.pre h6)).mono ?_
        rintro e W2 ⟨rfl, hb⟩
        exact hK' (.string (itoaB xn)) _ (fun u hu => Option.some.inj (show some _ = some u from hu)) (hM.next 2 12 _ (by decide) (by decide) (.inr ⟨h6, hb⟩))
      · obtain rfl := Option.some.inj (show some _ = some o' from ho)
        have d2 : listed.getD 2 false = true := hdep ⟨2, .data⟩ (by simp) rfl
        have q12 : a.tmps[12]?.getD undef = .string (itoaB xn) := hI.val 2 _ 12 _ rfl rfl rfl d2
        clear hdep hI ho
        go_simp
        exact hK' (.slice (some ⟨W'.heap.size, 0, none⟩) 1 1) _ (fun u hu => absurd (show (none : Option Value) = some u from hu) (by simp)) (hM.box (getD_no h0) d2 (by have := Hsz.out; omega) _)
      · obtain rfl := Option.some.inj (show some _ = some o' from ho)
        have q5 : a.tmps[5]?.getD undef = .int .i64 t := hI.old 5 (noDst_spec (by kernel_rfl))
        clear hdep hI ho
        go_simp
        exact hK' (.int .i64 t) _ (fun u hu => Option.some.inj (show some _ = some u from hu)) (hM.next 4 14 _ (by decide) (by decide) (.inl rfl))
      · obtain rfl := Option.some.inj (show some _ = some o' from ho)
        have d3 : listed.getD 3 false = true := hdep ⟨3, .data⟩ (by simp) rfl
        have d4 : listed.getD 4 false = true := hdep ⟨4, .data⟩ (by simp) rfl
        have q14 : a.tmps[14]?.getD undef = .int .i64 t := hI.val 4 _ 14 _ rfl rfl rfl d4
        obtain ⟨qb, hqb, hrow⟩ := hM.q d3
        have q13 : a.tmps[13]?.getD undef = .slice (some ⟨qb, 0, none⟩) 1 1 := hqb
        have h6 := hM.six (.inr (.inr (.inl rfl))) (getD_no h0)
        clear hdep hI ho
        go_simp
        refine (HRp.out qb _ (hrow h6)).mono ?_
        rintro e W2 ⟨R, NR, cr, rfl, hNR, hCR, _, _, hb⟩
        obtain rfl : NR = t := by rw [hNR, List.length_replicate]
        exact hK' (.slice R NR cr) _ (fun u hu => absurd (show (none : Option Value) = some u from hu) (by simp)) (hM.rep (getD_no h0) d3 (by have := Hsz.out; omega) hCR hb)
      · obtain rfl := Option.some.inj (show some _ = some o' from ho)
        have d0 : listed.getD 0 false = true := hdep ⟨0, .data⟩ (by simp) rfl
        have d5 : listed.getD 5 false = true := hdep ⟨5, .data⟩ (by simp) rfl
        have q10 : a.tmps[10]?.getD undef = .slice A1 N1 cap1 := hI.val 0 _ 10 _ rfl rfl rfl d0
        obtain ⟨R, cr, hqr, hcr⟩ := hM.r d5
        have q15 : a.tmps[15]?.getD undef = .slice R t cr := hqr
        have h6 := getD_no h0
        have hpre := hM.pre h6
        clear hdep hI ho
        refine wp_app (.tmp 10) (.tmp 15) elemStr rfl (w.heap.size + 1 + 1) A1 N1 cap1 (strCs (wordsL pre)) R t cr (strCs (List.replicate t (itoaB xn))) (by go_simp) (by go_simp) (HB.out.2.2.after hpre) (hcr h6) (by rw [strCs_len, List.length_replicate]) (strCs_one _) (by omega) (Nat.le_trans HB.out.2.1.1 hpre.size) ?_
        intro A2 cap2 W2 hO2 hg2 hb2
        exact hK' _ _ (fun u hu => absurd (show (none : Option Value) = some u from hu) (by simp)) (hM.app h6 d5 d0 (by omega) (by have := Hsz.out; omega) hg2 hO2)
      · obtain rfl := Option.some.inj (show some _ = some o' from ho)
        have q3 : a.tmps[3]?.getD undef = .pointer (some ⟨w.heap.size + 1, 0, none⟩) := hI.old 3 (noDst_spec (by kernel_rfl))
        have d6 : listed.getD 6 false = true := hdep ⟨6, .data⟩ (by simp) rfl
        have h7 := getD_no h0
        obtain ⟨A2, cap2, hq16, hA2⟩ := hM.ap d6 h7
        have q16 : a.tmps[16]?.getD undef = .slice A2 (N1 + t) cap2 := hq16
        obtain ⟨X, hX, hgX, hOX⟩ := hA2
        have hrow := gat_box HB.out.2.1 HB.out.2.2 hX hgX
        have z0 := hrow.c 0 rfl
        have g0 := hrow.f 0 rfl
        clear hdep hI ho
        go_simp
        exact hK' undef _ (fun u hu => absurd (show (none : Option Value) = some u from hu) (by simp)) (hM.put d6 (by omega) ⟨X, hX, hgX, hOX⟩)
    · intro listed a W' hI hall
      obtain ⟨A2, cap2, W2, ⟨X, hX, hgX, hOX⟩, rfl⟩ := hI.world.fin (hall 7 (by decide))
      have hst := gat_step (k := N) (A := A) (B := W1.heap.size) (b := w.heap.size + 1) HB.out.1 (Nat.le_succ _) HB.out.2.1 HB.out.2.2 hX hgX hOX (by omega) (fun h0 a ha => by
        obtain ⟨b', o', e', hl'⟩ := HA.out (by rw [cntCs_len, ← HN.out]; omega)
        rw [ha] at e'; cases e'; exact hl'.1)
      refine ⟨hst.1, hst.2.1, ?_⟩
      show GatS 9 w (w.heap.size + 1) (strCs (wordsL (pre ++ [(xn, (t : Int))]))) _
      rw [hT.out, strCs_append]
      exact hst.2.2
  case stop => exact fun _ _ _ _ _ _ h => h.elim
  case done =>
    rintro D V hD ⟨h1, h2, h3, A1, N1, cap1, h4, h5⟩ hK
    have hr3 := hR3.1
    have e1 : N1 = (wordsL cs).length := by have := h5.len; rw [strCs_len] at this; omega
    have e2 := words_len cs (fun p hp' => (HG.out.times p hp').2)
    have HJ := Lib.hid (join_any (wordsL cs) A1 N1 cap1 V e1 h5.le_cap h5.cells (by have := HN.out; omega) (fun x hx => by
      obtain ⟨m, hm, rfl⟩ := List.mem_map.1 hx
      obtain ⟨p, hp, rfl⟩ := expand_mem hm
      have := HG.out.num p hp
      exact Lib.itoa_length_le p.1 (by omega) (by omega)))
    have HT : Hid (Ending.returned (.string ⟨(Lib.join ((wordsL cs).map (·.data.toList)) [32]).toArray⟩) = Ending.returned (.string (textB (expand cs)))) := Lib.hid rfl
    have y0 := h4.c 0 rfl
    have hD1 : D < V.heap.size := (Array.getElem?_eq_some_iff.1 hK).1
    have HI := Lib.hid (And.intro h1 hK)
    clear h1 h2 h3 h4 h5 hK e1 e2 hR3 hRE
    generalize (⟨(Lib.join ((wordsL cs).map (·.data.toList)) [32]).toArray⟩ : ByteArray) = tx at HJ HT
    go_wp2_with fail
    refine HJ.out.mono ?_
    rintro e W2 ⟨rfl, hb2⟩
    have hM : Marks W1.heap.size [D] W2 := ⟨hD, (hb2.block D hD1).trans HI.out.2, by simp, trivial⟩
    have hB2 := HI.out.1.trans (hb2.mono HI.out.1.size)
    have HM := Lib.hid (And.intro hM hB2)
    clear y0 hb2 hM hB2 HJ
    go_wp2_with fail
    refine leaves_marks [D] W2 HM.out.1 fun V5 hV => ?_
    exact ⟨.string tx, by simp [results, Tryz.results22, go_sem], HT.out, HM.out.2.trans (hV.mono (by omega))⟩
end Go.Proofs.YtjhcddlhhfjnaaaGreatDoor
