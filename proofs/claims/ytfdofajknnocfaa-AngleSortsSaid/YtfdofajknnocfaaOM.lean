/- The iterator that pairs hands back. -/
import Derived.Test.YtfdofajknnocfaaOL
import Derived.Test.YtfdofajknnocfaaOH
import Derived.RangeFuncBound
import Derived.RangeFuncCalls
import Derived.Shelf.Abstract
import Derived.Shelf.RegionOpen
import Derived.OwnWalkIn
import Derived.TacticsInMore
import Derived.LoopNIn
import Derived.LoopIn
namespace Go.Proofs.Ytfdofajknnocfaa
open Go.RowKit Go.Shelf
attribute [local go_sem] Oper.semAt_some

/-- An arm's value, by its way. -/
def armP (p : Int × Int) : Value := .agg #[.int .i64 p.1, .int .i64 p.2, .int .i64 (quart p.1 p.2)]
/-- What the iterator of a quarter's pairs reads. -/
def PairS (C Q q : Nat) (A : Nat → Option Addr) (N cap : Nat → Nat) (L : Nat → List (Int × Int)) (W : World) : Prop :=
  Row W C [.slice (A 0) (N 0) (cap 0), .slice (A 1) (N 1) (cap 1), .slice (A 2) (N 2) (cap 2), .slice (A 3) (N 3) (cap 3)] ∧ Row W Q [.int .i64 (q : Nat)] ∧ ∀ q, q < 4 → QRead W (A q) (N q) (cap q) (L q)
theorem PairS.after {C Q q : Nat} {A : Nat → Option Addr} {N cap : Nat → Nat} {L : Nat → List (Int × Int)} {W W1 : World} (h : PairS C Q q A N cap L W) (hb : Below W.heap.size W W1) : PairS C Q q A N cap L W1 :=
  ⟨h.1.after hb, h.2.1.after hb, fun q hq => QRead.after (h.2.2 q hq) hb⟩
theorem PairS.cell {C Q q : Nat} {A : Nat → Option Addr} {N cap : Nat → Nat} {L : Nat → List (Int × Int)} {W : World} (h : PairS C Q q A N cap L W) (hq : q < 4) : W.cell? ⟨C, q, none⟩ = some (.slice (A q) (N q) (cap q)) := by
  match q, hq with
  | 0, _ => exact h.1.c 0 rfl
  | 1, _ => exact h.1.c 1 rfl
  | 2, _ => exact h.1.c 2 rfl
  | 3, _ => exact h.1.c 3 rfl
/-- What a yield came to, by its answer. -/
def YieldR {α : Type} (J Jx : List α → World → Prop) (Kp : World → World → Prop) (l : List α) (W W' : World) (b : Bool) : Prop := Kp W W' ∧ (if b then J l W' else Jx l W')
set_option maxRecDepth 100000 in
set_option maxHeartbeats 4000000 in
theorem pairs1_in (n l C Q q : Nat) (hq : q < 4) (A : Nat → Option Addr) (N cap : Nat → Nat) (L : Nat → List (Int × Int)) (f : Int × Int)
    (h20 : N q ≤ 20) (hf : 0 < N q → ∃ k, k < 4 ∧ (∀ i, i < k → N ((q + 1 + i) % 4) = 0) ∧ 0 < N ((q + 1 + k) % 4) ∧ (L ((q + 1 + k) % 4)).headD f = f)
    (Kp : World → World → Prop) (hK : ∀ X Y, Kp X Y → PairS C Q q A N cap L X → PairS C Q q A N cap L Y) (J Jx : List ((Int × Int) × (Int × Int)) → World → Prop)
    (hJb : ∀ pre X Y, J pre X → Below X.heap.size X Y → J pre Y)
    (hY : ∀ pre x W, J pre W → (pre ++ [x]) <+: prs f (L q) → YieldAt Fence.wide n Try.prog l #[armP x.1, armP x.2] W fun e W' => ∃ b : Bool, e = .returned (.bool b) ∧ YieldR J Jx Kp (pre ++ [x]) W W' b)
    (W : World) (hS : PairS C Q q A N cap L W) (hJ0 : J [] W) :
    CallsIn Fence.wide (n + 1) Try.prog 59 #[.func (.yield l) #[] #[], .pointer (some ⟨C, 0, none⟩), .pointer (some ⟨Q, 0, none⟩)] W fun e W' => (∃ v, e = .returned v) ∧
      ((∃ ys, ys = prs f (L q) ∧ J ys W') ∨ (∃ pre, pre <+: prs f (L q) ∧ Jx pre W')) := by
  have HY := Lib.hid hY; clear hY
  have HS := Lib.hid hS; clear hS
  refine callsIn_of_wp Try.func59 rfl trivial ?_ rfl
  simp only [Try.ntmps59, List.size_toArray, List.length_cons, List.length_nil, Nat.reduceAdd, Nat.reduceSub, Array.replicate_succ, Array.replicate_zero, List.push_toArray, List.append_toArray, List.nil_append, List.cons_append]
  have d0 := HS.out.cell hq
  obtain ⟨Aq, hAq⟩ : ∃ x, x = A q := ⟨_, rfl⟩
  obtain ⟨cq, hCq⟩ : ∃ x, x = cap q := ⟨_, rfl⟩
  rw [← hAq, ← hCq] at d0
  have HAq := Lib.hid hAq
  have HCq := Lib.hid hCq
  clear hAq hCq
  have d1 := HS.out.2.1.c 0 rfl
  have hq' : (q : Int) < 4 := by omega
  gi_wp2
  clear d0 d1
  gi_loopw [13] (fun i wr => ∃ (j : Nat), j ≤ N q ∧ i = .int .i64 j ∧ J ((prs f (L q)).take j) wr ∧ Hid (PairS C Q q A N cap L wr)) (fun i _ => N q - (intOf i).toNat)
  case atStart => exact ⟨0, Nat.zero_le _, rfl, hJ0, HS⟩
  case round =>
    obtain ⟨j, hj, rfl, hJ, HSr⟩ := hrel
    clear HS hJ0
    by_cases hjn : j < N q
    · have hj1 : (j : Int) < N q := by omega
      obtain ⟨g, hA0, hl⟩ := (HSr.out.2.2 q hq).2.2 (by omega)
      have hA : Aq = some ⟨g, 0, none⟩ := HAq.out.trans hA0
      subst hA
      clear hA0
      obtain ⟨p, hp⟩ : ∃ p, (L q)[j]? = some p := ⟨_, List.getElem?_eq_getElem (by rw [← (HSr.out.2.2 q hq).1]; exact hjn)⟩
      obtain ⟨z0, z1, z2⟩ := hl.2 j p hp
      rw [Nat.zero_add] at z0 z1 z2
      have HPp := Lib.hid hp
      have hcap := (HSr.out.2.2 q hq).2.1.2
      rw [← HCq.out] at hcap
      have hwr : wrap64 ((j : Int) + 1) = ((j + 1 : Nat) : Int) := by unfold wrap64; omega
      by_cases hjl : j + 1 < N q
      · obtain ⟨r, hr⟩ : ∃ r, (L q)[j + 1]? = some r := ⟨_, List.getElem?_eq_getElem (by rw [← (HSr.out.2.2 q hq).1]; exact hjl)⟩
        have HPr := Lib.hid hr
        obtain ⟨y0, y1, y2⟩ := hl.2 (j + 1) r hr
        rw [Nat.zero_add] at y0 y1 y2
        have hc1 : ¬ (cq = j + 1) := by omega
        have hc2 : ¬ (N q - (j + 1) = 0) := by omega
        have HL := Lib.hid hl
        clear hl
        gi_wp2_with fail
        generalize hW2 : wr.alloc _ = W2
        have hB2 : Below wr.heap.size wr W2 := by rw [← hW2]; exact (Below.refl _ _).alloc (Nat.le_refl _) _
        have hR2 : Row W2 wr.heap.size [.int .i64 p.1, .int .i64 p.2, .int .i64 (quart p.1 p.2)] := by rw [← hW2]; exact Row.new _ _ _
        have lw := hR2.1
        have x0 := hR2.c 0 rfl
        have x1 := hR2.c 1 rfl
        have x2 := hR2.c 2 rfl
        have bg := HL.out.1
        have y0' := (hB2.cell (p := ⟨g, (j + 1) * 3, none⟩) bg).trans y0
        have y1' := (hB2.cell (p := ⟨g, (j + 1) * 3 + 1, none⟩) bg).trans y1
        have y2' := (hB2.cell (p := ⟨g, (j + 1) * 3 + 2, none⟩) bg).trans y2
        have hBd : Below wr.heap.size wr W2.drew := hB2.drew
        have HT : Hid ((prs f (L q)).take (j + 1) = (prs f (L q)).take j ++ [(p, r)]) := Lib.hid (by rw [List.take_add_one, prs_get f (L q) j p HPp.out, HPr.out]; rfl)
        obtain ⟨fn, tmps, assign, body, hy, hR⟩ := HY.out _ (p, r) W2.drew (hJb _ _ _ hJ hBd) (HT.out ▸ List.take_prefix _ _)
        unfold armP at hy
        clear y0 y1 y2 z0 z1 z2 hW2 hR2
        have HSd : Hid (PairS C Q q A N cap L W2.drew) := Lib.hid (HSr.out.after hBd)
        have HR := Lib.hid hR
        clear hR
        gi_region_with (refine HR.out.mono ?_; rintro e W3 ⟨b, rfl, hb⟩)
        all_goals
          clear HR
          cases b with
          | true =>
            obtain ⟨hk3, hJ3⟩ : Kp _ _ ∧ J _ _ := hb
            have HS3 : Hid (PairS C Q q A N cap L W3) := Lib.hid (hK _ _ hk3 HSd.out)
            rw [← HT.out] at hJ3
            clear hk3
            gi_wp2
            go_roundw
            case rel => exact ⟨j + 1, by omega, by go_num, hJ3, HS3⟩
            case measure => simp [intOf]; omega
          | false =>
            have hJx3 : Jx _ _ := hb.2
            gi_wp2
            refine bodyPost_ret (results_none rfl _ _ _) rfl ?_
            exact ⟨⟨_, rfl⟩, .inr ⟨_, by rw [← HT.out]; exact List.take_prefix _ _, hJx3⟩⟩
      · obtain ⟨k, hk, hk0, hkN, hkf⟩ := hf (by omega)
        obtain ⟨u, hu⟩ : ∃ u, u = (q + 1 + k) % 4 := ⟨_, rfl⟩
        have hu4 : u < 4 := by rw [hu]; exact Nat.mod_lt _ (by decide)
        have hFA := fun W => from_any A N cap k (q + 1) W (by omega) hk0 hkN
        rw [← hu] at hkN hkf hFA
        obtain ⟨g', hu1, hul⟩ := (HSr.out.2.2 u hu4).2.2 hkN
        have hL0 : (L u)[0]? = some f := by
          have := (HSr.out.2.2 u hu4).1
          rcases hLu : L u with _ | ⟨c, r⟩
          · rw [hLu] at this; simp at this; omega
          · rw [hLu] at hkf; simp at hkf; rw [hkf]; rfl
        obtain ⟨y0, y1, y2⟩ := hul.2 0 f hL0
        have bg := hul.1
        simp only [Nat.zero_mul, Nat.zero_add] at y0 y1 y2
        have hFA2 : ∀ W, Calls Try.prog 60 #[circV A N cap, .int .i64 ((q + 1 : Nat) : Int)] W fun e w' => e = .returned (.slice (some ⟨g', 0, none⟩) (N u) (cap u)) ∧ Below W.heap.size W w' := fun W => (hFA W).mono (by
          rintro e w' ⟨rfl, h⟩
          exact ⟨by unfold sliceQ; rw [hu1], h⟩)
        unfold circV at hFA2
        have hqq : ((q + 1 : Nat) : Int) = (q : Int) + 1 := by omega
        rw [hqq] at hFA2
        have HF := Lib.hid hFA2
        clear hFA hFA2 hqq hu1 hul hkf hL0 hk0 hu hk
        have HT : Hid ((prs f (L q)).take (j + 1) = (prs f (L q)).take j ++ [(p, f)]) := Lib.hid (by rw [List.take_add_one, prs_get f (L q) j p HPp.out, List.getElem?_eq_none (by rw [← (HSr.out.2.2 q hq).1]; omega)]; rfl)
        have hN0 : N q - (j + 1) = 0 := by omega
        by_cases hcq : cq = j + 1
        · subst hcq
          have r0 := HSr.out.1.c 0 rfl
          have r1 := HSr.out.1.c 1 rfl
          have r2 := HSr.out.1.c 2 rfl
          have r3 := HSr.out.1.c 3 rfl
          have rq := HSr.out.2.1.c 0 rfl
          have lC := HSr.out.1.1
          have lQ := HSr.out.2.1.1
          gi_wp2_with fail
          clear r0 r1 r2 r3 rq lC lQ
          generalize hW2 : wr.alloc _ = W2
          have hB2 : Below wr.heap.size wr W2 := by rw [← hW2]; exact (Below.refl _ _).alloc (Nat.le_refl _) _
          have hR2 : Row W2 wr.heap.size [.int .i64 p.1, .int .i64 p.2, .int .i64 (quart p.1 p.2)] := by rw [← hW2]; exact Row.new _ _ _
          clear z0 z1 z2 hW2 hl
          refine ⟨trivial, callsIn_wide.2 ((HF.out W2).mono ?_)⟩
          rintro e W4 ⟨rfl, hB4⟩
          have hB24 : Below wr.heap.size wr W4 := hB2.trans (hB4.mono hB2.size)
          have hR4 := hR2.after hB4
          clear hR2 hB4 hB2
          have lw := hR4.1
          have x0 := hR4.c 0 rfl
          have x1 := hR4.c 1 rfl
          have x2 := hR4.c 2 rfl
          have y0' := (hB24.cell (p := ⟨g', 0, none⟩) bg).trans y0
          have y1' := (hB24.cell (p := ⟨g', 0 + 1, none⟩) bg).trans y1
          have y2' := (hB24.cell (p := ⟨g', 0 + 2, none⟩) bg).trans y2
          simp only [Nat.zero_add] at y0' y1' y2'
          have hBd : Below wr.heap.size wr W4.drew := hB24.drew
          obtain ⟨fn, tmps, assign, body, hy, hR⟩ := HY.out _ (p, f) W4.drew (hJb _ _ _ hJ hBd) (HT.out ▸ List.take_prefix _ _)
          unfold armP at hy
          clear y0 y1 y2 hR4
          have HSd : Hid (PairS C Q q A N cap L W4.drew) := Lib.hid (HSr.out.after hBd)
          have HR := Lib.hid hR
          clear hR
          gi_wp2_with fail
          gi_region_with (refine HR.out.mono ?_; rintro e W3 ⟨b, rfl, hb⟩)
          all_goals
            clear HR
            cases b with
            | true =>
              obtain ⟨hk3, hJ3⟩ : Kp _ _ ∧ J _ _ := hb
              have HS3 : Hid (PairS C Q q A N cap L W3) := Lib.hid (hK _ _ hk3 HSd.out)
              rw [← HT.out] at hJ3
              clear hk3
              gi_wp2
              go_roundw
              case rel => exact ⟨j + 1, by omega, by go_num, hJ3, HS3⟩
              case measure => simp [intOf]; omega
            | false =>
              have hJx3 : Jx _ _ := hb.2
              gi_wp2
              refine bodyPost_ret (results_none rfl _ _ _) rfl ?_
              exact ⟨⟨_, rfl⟩, .inr ⟨_, by rw [← HT.out]; exact List.take_prefix _ _, hJx3⟩⟩
        · have r0 := HSr.out.1.c 0 rfl
          have r1 := HSr.out.1.c 1 rfl
          have r2 := HSr.out.1.c 2 rfl
          have r3 := HSr.out.1.c 3 rfl
          have rq := HSr.out.2.1.c 0 rfl
          have lC := HSr.out.1.1
          have lQ := HSr.out.2.1.1
          gi_wp2_with fail
          clear r0 r1 r2 r3 rq lC lQ
          generalize hW2 : wr.alloc _ = W2
          have hB2 : Below wr.heap.size wr W2 := by rw [← hW2]; exact (Below.refl _ _).alloc (Nat.le_refl _) _
          have hR2 : Row W2 wr.heap.size [.int .i64 p.1, .int .i64 p.2, .int .i64 (quart p.1 p.2)] := by rw [← hW2]; exact Row.new _ _ _
          clear z0 z1 z2 hW2 hl
          refine ⟨trivial, callsIn_wide.2 ((HF.out W2).mono ?_)⟩
          rintro e W4 ⟨rfl, hB4⟩
          have hB24 : Below wr.heap.size wr W4 := hB2.trans (hB4.mono hB2.size)
          have hR4 := hR2.after hB4
          clear hR2 hB4 hB2
          have lw := hR4.1
          have x0 := hR4.c 0 rfl
          have x1 := hR4.c 1 rfl
          have x2 := hR4.c 2 rfl
          have y0' := (hB24.cell (p := ⟨g', 0, none⟩) bg).trans y0
          have y1' := (hB24.cell (p := ⟨g', 0 + 1, none⟩) bg).trans y1
          have y2' := (hB24.cell (p := ⟨g', 0 + 2, none⟩) bg).trans y2
          simp only [Nat.zero_add] at y0' y1' y2'
          have hBd : Below wr.heap.size wr W4.drew := hB24.drew
          obtain ⟨fn, tmps, assign, body, hy, hR⟩ := HY.out _ (p, f) W4.drew (hJb _ _ _ hJ hBd) (HT.out ▸ List.take_prefix _ _)
          unfold armP at hy
          clear y0 y1 y2 hR4
          have HSd : Hid (PairS C Q q A N cap L W4.drew) := Lib.hid (HSr.out.after hBd)
          have HR := Lib.hid hR
          clear hR
          gi_wp2_with fail
          gi_region_with (refine HR.out.mono ?_; rintro e W3 ⟨b, rfl, hb⟩)
          all_goals
            clear HR
            cases b with
            | true =>
              obtain ⟨hk3, hJ3⟩ : Kp _ _ ∧ J _ _ := hb
              have HS3 : Hid (PairS C Q q A N cap L W3) := Lib.hid (hK _ _ hk3 HSd.out)
              rw [← HT.out] at hJ3
              clear hk3
              gi_wp2
              go_roundw
              case rel => exact ⟨j + 1, by omega, by go_num, hJ3, HS3⟩
              case measure => simp [intOf]; omega
            | false =>
              have hJx3 : Jx _ _ := hb.2
              gi_wp2
              refine bodyPost_ret (results_none rfl _ _ _) rfl ?_
              exact ⟨⟨_, rfl⟩, .inr ⟨_, by rw [← HT.out]; exact List.take_prefix _ _, hJx3⟩⟩
    · obtain rfl : j = N q := by omega
      gi_wp2
      go_end0
      refine ⟨⟨_, rfl⟩, .inl ⟨_, rfl, ?_⟩⟩
      rwa [List.take_of_length_le (by rw [prs_len, (HSr.out.2.2 q hq).1]; exact Nat.le_refl _)] at hJ
end Go.Proofs.Ytfdofajknnocfaa
