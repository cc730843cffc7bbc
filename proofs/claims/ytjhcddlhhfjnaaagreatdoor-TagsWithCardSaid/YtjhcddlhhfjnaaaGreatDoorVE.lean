/- The document's With over plain lists. -/
import Derived.Test.YtjhcddlhhfjnaaaGreatDoorVD
import Derived.Deep.RegionHeld3
namespace Go.Proofs.YtjhcddlhhfjnaaaGreatDoor
open Go.RowKit Go.Sort

/-- Numbers added one by one to a list: the first error, or the list. -/
def raddAll (t : List Int) : List Int → Int × List Int
  | [] => (0, t)
  | n :: r => if rmoreE t n = 0 then raddAll (rmoreL t n) r else (rmoreE t n, [])
theorem insL_len (n : Int) : ∀ l : List Int, (insL n l).length = l.length + 1
  | [] => rfl
  | x :: r => by
    rw [insL]
    split
    · rfl
    · simp [insL_len n r]
theorem rmoreL_len (l : List Int) (n : Int) : (rmoreL l n).length ≤ l.length + 1 := by
  unfold rmoreL
  split
  · omega
  · split
    · omega
    · rw [insL_len]; omega
structure WS (w : World) (x y : List Int) (B : Option Addr) (NB cb k : Nat) (t : List Int) (A1 : Option Addr) (N1 c1 : Nat) (wr : World) : Prop where
  par : Row wr (w.heap.size + 1) [.slice B NB cb]
  res : Row wr (w.heap.size + 1 + 1) [.slice none 0 0]
  box : Row wr (w.heap.size + 1 + 1 + 1) [.slice A1 N1 c1]
  len : N1 = t.length
  cells : CellsS wr A1 (intCs t)
  cap : N1 ≤ c1
  far : 0 < t.length → ∀ a, A1 = some a → a.block ≠ w.heap.size + 1 + 1 ∧ a.block ≠ w.heap.size + 1 + 1 + 1
  done : raddAll x y = raddAll t (y.drop k)
  bnd : t.length ≤ x.length + k
  below : Below w.heap.size w wr
/-- The document's tags as an answer, with an error. -/
def RWPost (w : World) (err : Int) (l : List Int) (e : Ending) (w' : World) : Prop :=
  ∃ A N cap, e = .returned (.tuple #[.agg #[.slice A N cap], .int .i64 err]) ∧ N = l.length ∧ CellsS w' A (intCs l) ∧ N ≤ cap ∧ Below w.heap.size w w'
def KW (W0 W : World) : Prop := Below W0.heap.size W0 W
theorem KW.drew {W0 W : World} (h : KW W0 W) : KW W0 W.drew := Below.drew h
theorem KW.alloc {W0 W : World} (h : KW W0 W) (o : Obj) : KW W0 (W.alloc o) := Below.alloc h h.size o
theorem KW.size {W0 W : World} (h : KW W0 W) : W0.heap.size ≤ W.heap.size := Below.size h
theorem KW.put {W0 W : World} {b : Nat} (h : KW W0 W) (hb : W0.heap.size ≤ b) (v : Value) : KW W0 (W.setCell ⟨b, 0, none⟩ v) := below_put1 h hb 0 v
theorem KW.after {W0 W W1 : World} (h : KW W0 W) (hb : Below W.heap.size W W1) : KW W0 W1 := Below.trans h (hb.mono h.size)
set_option maxRecDepth 100000 in
set_option maxHeartbeats 6400000 in
theorem rwith_any (x y : List Int) (A B : Option Addr) (N c NB cb : Nat) (w : World) (hN : N = x.length) (hNB : NB = y.length) (hb : N ≤ 40000) (hbb : NB ≤ 40000) (hc : N ≤ c) (hA : CellsS w A (intCs x)) (hB : CellsS w B (intCs y)) :
    Calls Tryz.prog 19 #[.agg #[.slice A N c], .agg #[.slice B NB cb]] w (RWPost w (raddAll x y).1 (raddAll x y).2) := by
  have HA := Lib.hid hA
  have HY := Lib.hid hB
  have HN := Lib.hid (And.intro hN (And.intro hNB hc))
  clear hA hB hN hNB hc
  obtain ⟨ad, had⟩ : ∃ ad, raddAll x y = ad := ⟨_, rfl⟩
  rw [had]
  have HAD := Lib.hid had
  clear had
  go_enter Tryz.func19, Tryz.ntmps19
  go_wp2_with fail
  generalize hW : World.alloc _ _ = W0
  have HS0 : Hid (WS w x y B NB cb 0 x A N c W0) := by
    rw [← hW]
    have hz : ∀ a, A = some a → 0 < x.length → a.block < w.heap.size := fun a ha h0 => by
      obtain ⟨b, o, e, hl⟩ := HA.out (by rw [intCs_len]; omega)
      rw [ha] at e; cases e; exact hl.1
    have hBB : Below w.heap.size w ((((w.alloc (.cells #[.slice A N c] 31)).alloc (.cells #[.slice B NB cb] 31)).alloc (.cells #[.slice none 0 0] 31)).alloc (.cells #[.slice A N c] 31)) := ((((Below.refl _ _).alloc (Nat.le_refl _) _).alloc (by simp) _).alloc (by simp; omega) _).alloc (by simp; omega) _
    exact Lib.hid ⟨((Row.at (by simp) [_] _).alloc _).alloc _, (Row.at (by simp) [_] _).alloc _, Row.at (by simp) [_] _, HN.out.1, HA.out.after hBB, HN.out.2.2, fun h0 a ha => by have := hz a ha h0; omega, rfl, Nat.le_refl _, hBB⟩
  clear hW
  go_loopw [7] (fun i wr => ∃ (k : Nat) (t : List Int) (A1 : Option Addr) (N1 c1 : Nat), k ≤ NB ∧ i = .int .i64 k ∧ Hid (WS w x y B NB cb k t A1 N1 c1 wr)) (fun i _ => NB - (intOf i).toNat)
  case atStart => exact ⟨0, x, A, N, c, Nat.zero_le _, rfl, HS0⟩
  case round =>
    obtain ⟨k, t, A1, N1, c1, hk, rfl, HS⟩ := hrel
    clear HS0
    have x3 := HS.out.par.c 0 rfl
    by_cases hkn : k < NB
    · obtain ⟨p, hpk⟩ : ∃ p, y[k]? = some p := ⟨_, List.getElem?_eq_getElem (by rw [← HN.out.2.1]; exact hkn)⟩
      obtain ⟨b, o, rfl, hl⟩ := HY.out (by rw [intCs_len, ← HN.out.2.1]; omega)
      have HC := Lib.hid (hl.after HS.out.below)
      have HD : Hid (y.drop k = p :: y.drop (k + 1)) := Lib.hid (by
        obtain ⟨h1, h2⟩ := List.getElem?_eq_some_iff.1 hpk
        rw [List.drop_eq_getElem_cons h1, h2])
      have hk1 : (k : Int) < NB := by omega
      have z6 : ∀ W, KW wr W → W.cell? ⟨w.heap.size + 1 + 1 + 1, 0, none⟩ = some (.slice A1 N1 c1) := fun W h => (HS.out.box.after h).c 0 rfl
      have z3 : ∀ W, KW wr W → W.cell? ⟨w.heap.size + 1, 0, none⟩ = some (.slice (some ⟨b, o, none⟩) NB cb) := fun W h => (HS.out.par.after h).c 0 rfl
      have z1 : ∀ W, KW wr W → W.cell? ⟨b, o + k, none⟩ = some (.int .i64 p) := fun W h => (HC.out.after h).2 _ _ (intCs_get hpk)
      have HM := Lib.hid (fun W (h : KW wr W) => rmore_any t p A1 N1 c1 W HS.out.len (by have := HS.out.bnd; have := HS.out.len; have := HN.out.1; omega) HS.out.cap (HS.out.cells.after h))
      clear hl hpk
      by_cases he : rmoreE t p = 0
      · rw [he] at HM
        have HE0 := Lib.hid he
        clear he
        have h00 : KW wr wr := Below.refl _ _
        have hs : KW wr wr.drew := KW.drew h00
        go_wp2_with fail
        go_region_held3 (fun w' : World => KW wr w')
          (repeat (first
            | (with_reducible assumption)
            | (with_reducible refine KW.put ?_ (KW.size (by with_reducible assumption)) _)
            | (with_reducible refine KW.drew ?_)
            | (with_reducible refine KW.alloc ?_ _)
            | (with_reducible refine KW.after ?_ hb)))
          (first
            | (go_at_call 13; (with_reducible refine (HM.out _ (by with_reducible assumption)).mono ?_); rintro e w2 ⟨A2, N2, c2, rfl, hN2, hC2, hc2, hf2, hb⟩; (first | (have r8 : Row w2 wr.heap.size [.slice none 0 0] := Row.after (w := (wr.alloc (.cells #[.slice none 0 0] 31)).drew) (Row.drew (Row.at rfl [_] _)) hb; have y8 := r8.c 0 rfl; have f8 := r8.f 0 rfl) | skip); have H2 := Lib.hid (And.intro hN2 (And.intro hC2 (And.intro hc2 hf2))); clear hN2 hC2 hc2 hf2))
        · have rb : Row (w2.alloc (.cells #[.slice A2 N2 c2] 31)) (w2.heap.size) [.slice A2 N2 c2] := Row.at rfl [_] _
          have hk' : KW wr (w2.alloc (.cells #[.slice A2 N2 c2] 31)) := by assumption
          have rc : CellsS (w2.alloc (.cells #[.slice A2 N2 c2] 31)) A2 (intCs (rmoreL t p)) := H2.out.2.1.after ((Below.refl _ _).alloc (Nat.le_refl _) _)
          have hf : ∀ a, A2 = some a → wr.heap.size ≤ a.block := H2.out.2.2.2 trivial
          have HV := Lib.hid (And.intro rb (And.intro hk' (And.intro rc (And.intro hf (And.intro H2.out.1 H2.out.2.2.1)))))
          clear rc hf
          have y8' := rb.c 0 rfl
          clear rb hk' hb z6 z3 z1 HM h00 hs
          generalize w2.alloc (.cells #[.slice A2 N2 c2] 31) = V at *
          generalize w2.heap.size = b8 at *
          obtain ⟨rb, hk', rc, hf, hN2, hc2⟩ := HV.out
          have q6 := HS.out.box.after hk'
          have y6 := q6.c 0 rfl
          have g6 := q6.f 0 rfl
          have HS2 : Hid (WS w x y (some ⟨b, o, none⟩) NB cb (k + 1) (rmoreL t p) A2 N2 c2 (V.setCell ⟨w.heap.size + 1 + 1 + 1, 0, none⟩ (.slice A2 N2 c2))) := by
            have hl := HS.out.box.1
            refine Lib.hid ⟨(HS.out.par.after hk').other (by simp <;> omega) _, (HS.out.res.after hk').other (by simp <;> omega) _, q6.set 0 (by simp) _, hN2, rc.put (fun _ a ha => by have := hf a ha; show a.block ≠ w.heap.size + 1 + 1 + 1; omega), hc2, fun _ a ha => by have := hf a ha; omega, ?_, ?_, below_put1 (HS.out.below.trans (hk'.mono HS.out.below.size)) (by omega) 0 _⟩
            · rw [HS.out.done, HD.out, raddAll, if_pos HE0.out]
            · have := rmoreL_len t p; have := HS.out.bnd; omega
          clear rb hk' rc hf hN2 hc2 q6 HV HS HD HC
          go_wp2_with fail
          go_roundw
          case rel => exact ⟨k + 1, rmoreL t p, A2, N2, c2, by omega, by go_num, HS2⟩
          case measure => simp [intOf]; omega
        · have rb : Row (w2.setCell ⟨wr.heap.size, 0, none⟩ (.slice A2 N2 c2)) (wr.heap.size) [.slice A2 N2 c2] := r8.set 0 (by simp) _
          have hk' : KW wr (w2.setCell ⟨wr.heap.size, 0, none⟩ (.slice A2 N2 c2)) := by assumption
          have rc : CellsS (w2.setCell ⟨wr.heap.size, 0, none⟩ (.slice A2 N2 c2)) A2 (intCs (rmoreL t p)) := H2.out.2.1.put (fun _ a ha => by have h : wr.heap.size + 1 ≤ a.block := (by simpa using H2.out.2.2.2 trivial a ha); show a.block ≠ wr.heap.size; omega)
          have hf : ∀ a, A2 = some a → wr.heap.size ≤ a.block := fun a ha => by have h : wr.heap.size + 1 ≤ a.block := (by simpa using H2.out.2.2.2 trivial a ha); omega
          have HV := Lib.hid (And.intro rb (And.intro hk' (And.intro rc (And.intro hf (And.intro H2.out.1 H2.out.2.2.1)))))
          clear rc hf
          have y8' := rb.c 0 rfl
          clear r8 y8 f8
          clear rb hk' hb z6 z3 z1 HM h00 hs
          generalize w2.setCell ⟨wr.heap.size, 0, none⟩ (.slice A2 N2 c2) = V at *
          obtain ⟨rb, hk', rc, hf, hN2, hc2⟩ := HV.out
          have q6 := HS.out.box.after hk'
          have y6 := q6.c 0 rfl
          have g6 := q6.f 0 rfl
          have HS2 : Hid (WS w x y (some ⟨b, o, none⟩) NB cb (k + 1) (rmoreL t p) A2 N2 c2 (V.setCell ⟨w.heap.size + 1 + 1 + 1, 0, none⟩ (.slice A2 N2 c2))) := by
            have hl := HS.out.box.1
            refine Lib.hid ⟨(HS.out.par.after hk').other (by simp <;> omega) _, (HS.out.res.after hk').other (by simp <;> omega) _, q6.set 0 (by simp) _, hN2, rc.put (fun _ a ha => by have := hf a ha; show a.block ≠ w.heap.size + 1 + 1 + 1; omega), hc2, fun _ a ha => by have := hf a ha; omega, ?_, ?_, below_put1 (HS.out.below.trans (hk'.mono HS.out.below.size)) (by omega) 0 _⟩
            · rw [HS.out.done, HD.out, raddAll, if_pos HE0.out]
            · have := rmoreL_len t p; have := HS.out.bnd; omega
          clear rb hk' rc hf hN2 hc2 q6 HV HS HD HC
          go_wp2_with fail
          go_roundw
          case rel => exact ⟨k + 1, rmoreL t p, A2, N2, c2, by omega, by go_num, HS2⟩
          case measure => simp [intOf]; omega
      · have HE0 : Hid (ad = (rmoreE t p, [])) := Lib.hid (by rw [← HAD.out, HS.out.done, HD.out, raddAll, if_neg he])
        generalize rmoreE t p = er at HM HE0 he
        have he' : (er == 0) = false := by simpa using he
        have h00 : KW wr wr := Below.refl _ _
        have hs : KW wr wr.drew := KW.drew h00
        go_wp2_with fail
        go_region_held3 (fun w' : World => KW wr w')
          (repeat (first
            | (with_reducible assumption)
            | (with_reducible refine KW.put ?_ (KW.size (by with_reducible assumption)) _)
            | (with_reducible refine KW.drew ?_)
            | (with_reducible refine KW.alloc ?_ _)
            | (with_reducible refine KW.after ?_ hb)))
          (first
            | (go_at_call 13; (with_reducible refine (HM.out _ (by with_reducible assumption)).mono ?_); rintro e w2 ⟨A2, N2, c2, rfl, hN2, hC2, hc2, hf2, hb⟩; (first | (have r8 : Row w2 wr.heap.size [.slice none 0 0] := Row.after (w := (wr.alloc (.cells #[.slice none 0 0] 31)).drew) (Row.drew (Row.at rfl [_] _)) hb; have y8 := r8.c 0 rfl; have f8 := r8.f 0 rfl) | skip); have H2 := Lib.hid (And.intro hN2 (And.intro hC2 (And.intro hc2 hf2))); clear hN2 hC2 hc2 hf2))
        · have rb : Row (w2.alloc (.cells #[.slice A2 N2 c2] 31)) (w2.heap.size) [.slice A2 N2 c2] := Row.at rfl [_] _
          have hk' : KW wr (w2.alloc (.cells #[.slice A2 N2 c2] 31)) := by assumption
          have HV := Lib.hid (And.intro rb hk')
          have y8' := rb.c 0 rfl
          clear rb hk' hb z6 z3 z1 HM h00 hs
          generalize w2.alloc (.cells #[.slice A2 N2 c2] 31) = V at *
          generalize w2.heap.size = b8 at *
          obtain ⟨rb, hk'⟩ := HV.out
          have q5 := HS.out.res.after hk'
          have y5 := q5.c 0 rfl
          have g5 := q5.f 0 rfl
          have r5 : Row (V.setCell ⟨w.heap.size + 1 + 1, 0, none⟩ (.slice none 0 0)) (w.heap.size + 1 + 1) [.slice none 0 0] := q5.set 0 (by simp) _
          have z5 := r5.c 0 rfl
          have hBB : Below w.heap.size w (V.setCell ⟨w.heap.size + 1 + 1, 0, none⟩ (.slice none 0 0)) := below_put1 (HS.out.below.trans (hk'.mono HS.out.below.size)) (by omega) 0 _
          have HP : Hid (RWPost w ad.1 ad.2 (.returned (.tuple #[.agg #[.slice none 0 0], .int .i64 er])) (V.setCell ⟨w.heap.size + 1 + 1, 0, none⟩ (.slice none 0 0))) := by
            rw [HE0.out]
            exact Lib.hid ⟨none, 0, 0, rfl, rfl, CellsS.nil _ _, Nat.le_refl _, hBB⟩
          clear rb hk' q5 r5 HV hBB HS HD HC
          go_wp2_with fail
          exact bodyPost_ret (v := .tuple #[.agg #[.slice none 0 0], .int .i64 er]) (by simp [results, Tryz.results19, go_sem, z5]) rfl HP.out
        · have rb : Row (w2.setCell ⟨wr.heap.size, 0, none⟩ (.slice A2 N2 c2)) (wr.heap.size) [.slice A2 N2 c2] := r8.set 0 (by simp) _
          have hk' : KW wr (w2.setCell ⟨wr.heap.size, 0, none⟩ (.slice A2 N2 c2)) := by assumption
          have HV := Lib.hid (And.intro rb hk')
          have y8' := rb.c 0 rfl
          clear r8 y8 f8
          clear rb hk' hb z6 z3 z1 HM h00 hs
          generalize w2.setCell ⟨wr.heap.size, 0, none⟩ (.slice A2 N2 c2) = V at *
          obtain ⟨rb, hk'⟩ := HV.out
          have q5 := HS.out.res.after hk'
          have y5 := q5.c 0 rfl
          have g5 := q5.f 0 rfl
          have r5 : Row (V.setCell ⟨w.heap.size + 1 + 1, 0, none⟩ (.slice none 0 0)) (w.heap.size + 1 + 1) [.slice none 0 0] := q5.set 0 (by simp) _
          have z5 := r5.c 0 rfl
          have hBB : Below w.heap.size w (V.setCell ⟨w.heap.size + 1 + 1, 0, none⟩ (.slice none 0 0)) := below_put1 (HS.out.below.trans (hk'.mono HS.out.below.size)) (by omega) 0 _
          have HP : Hid (RWPost w ad.1 ad.2 (.returned (.tuple #[.agg #[.slice none 0 0], .int .i64 er])) (V.setCell ⟨w.heap.size + 1 + 1, 0, none⟩ (.slice none 0 0))) := by
            rw [HE0.out]
            exact Lib.hid ⟨none, 0, 0, rfl, rfl, CellsS.nil _ _, Nat.le_refl _, hBB⟩
          clear rb hk' q5 r5 HV hBB HS HD HC
          go_wp2_with fail
          exact bodyPost_ret (v := .tuple #[.agg #[.slice none 0 0], .int .i64 er]) (by simp [results, Tryz.results19, go_sem, z5]) rfl HP.out
    · obtain rfl : k = NB := by omega
      have hend : y.drop k = [] := List.drop_of_length_le (by rw [← HN.out.2.1]; exact Nat.le_refl _)
      have x6 := HS.out.box.c 0 rfl
      have x5 := HS.out.res.c 0 rfl
      have g5 := HS.out.res.f 0 rfl
      have z5 := (HS.out.res.set 0 (by simp) (.slice A1 N1 c1)).c 0 rfl
      have HP : Hid (RWPost w ad.1 ad.2 (.returned (.tuple #[.agg #[.slice A1 N1 c1], .int .i64 0])) (wr.setCell ⟨w.heap.size + 1 + 1, 0, none⟩ (.slice A1 N1 c1))) := by
        have h : ad = (0, t) := by rw [← HAD.out, HS.out.done, hend, raddAll]
        rw [h]
        exact Lib.hid ⟨A1, N1, c1, rfl, HS.out.len, HS.out.cells.put (fun h0 a ha => by rw [intCs_len] at h0; exact (HS.out.far (by omega) a ha).1), HS.out.cap, below_put1 HS.out.below (by omega) 0 _⟩
      clear hend HS
      go_wp2_with fail
      exact bodyPost_ret (v := .tuple #[.agg #[.slice A1 N1 c1], .int .i64 0]) (by simp [results, Tryz.results19, go_sem, z5]) rfl HP.out
end Go.Proofs.YtjhcddlhhfjnaaaGreatDoor
