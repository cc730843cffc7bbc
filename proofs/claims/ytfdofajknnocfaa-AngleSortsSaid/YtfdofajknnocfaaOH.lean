/- Contracts of angle's told at a circle, and of Round: whoever goes over the ways later has them as they are now. -/
import Derived.Test.YtfdofajknnocfaaOG
namespace Go.Proofs.Ytfdofajknnocfaa
open Go.RowKit Go.Sort

/-- What told answers of a circle. -/
def TCirc (w : World) (z : Bool) (ws : List (Int × Int)) (e : Ending) (w' : World) : Prop :=
  ∃ (A : Nat → Option Addr) (N cap : Nat → Nat), e = .returned (.tuple #[.agg #[.slice (A 0) (N 0) (cap 0), .slice (A 1) (N 1) (cap 1), .slice (A 2) (N 2) (cap 2), .slice (A 3) (N 3) (cap 3)], .int .i64 (errI z)]) ∧
    (∀ q, q < 4 → QRead w' (A q) (N q) (cap q) (if z then Ins.srt Ins.ltT (partQ ws q) else [])) ∧ Below w.heap.size w w'

set_option maxHeartbeats 6400000 in
set_option maxRecDepth 100000 in
theorem told_circle (ws : List (Int × Int)) (X Y : Nat → Int) (b o n c : Nat) (w : World) (hn : n ≤ 1000000000) (hx : WaysAt w b o n X Y)
    (hK : allM X Y n = true → ∀ W B, ArmsAt W B 0 n X Y (fun i => quart (X i) (Y i)) → Calls Try.prog 38 #[.slice (some ⟨B, 0, none⟩) n n] W (CirclePost W ws)) :
    Calls Try.prog 53 #[.func (.func 38) #[] #[], .slice (some ⟨b, o, none⟩) n c] w (TCirc w (allM X Y n) ws) := by
  obtain ⟨i0, hi, hz0, hz1, hz2⟩ := info_parts infoArm
  have Hx := Lib.hid hx; clear hx
  have HK := Lib.hid hK; clear hK
  go_enter Try.func53, Try.ntmps53
  go_wp2
  have hR0 : Row (w.alloc (.cells #[.slice none 0 0, .slice none 0 0, .slice none 0 0, .slice none 0 0] 59)) w.heap.size [.slice none 0 0, .slice none 0 0, .slice none 0 0, .slice none 0 0] := Row.at rfl _ _
  have hBw : Below w.heap.size w (w.alloc (.cells #[.slice none 0 0, .slice none 0 0, .slice none 0 0, .slice none 0 0] 59)) := (Below.refl _ _).alloc (Nat.le_refl _) _
  generalize World.alloc _ _ = W0 at hR0 hBw ⊢
  have HR := Lib.hid hR0
  have HBw := Lib.hid hBw
  have HX0 := Lib.hid (Hx.out.below hBw)
  have hRl := hR0.lt
  clear hR0 hBw
  refine wp_scope_jumps 0 (Wrong W0 (.func (.func 38) #[] #[]) (.slice (some ⟨b, o, none⟩) n c) (.pointer (some ⟨w.heap.size, 0, none⟩)) X Y n) (fun _ _ => 0) rfl ?_ ?_
  · go_wp2_with (first
      | (at_make; refine wpList_make_full _ rfl _ _ 48 rfl W0.heap.size 50 i0 (armV 0 0 0) 3 Try.underlying48 hi hz0 hz1 .i64 .i64 _ _ n rfl rfl rfl rfl (by rw [hz2]; omega) (by unfold maxLen; omega) (by simp) ?_)
      | (fail))
    intro w1 hown1 hg1
    have hb1 := (Below.refl W0.heap.size W0).grown hg1 (Nat.le_refl _) (fun j hj => by cases hj)
    have hF : Fill W0.heap.size n 0 X Y w1 := by
      refine ⟨?_, fun j hj => ⟨?_, hown1.frozenAt j⟩, fun i hi => absurd hi (by omega)⟩
      · obtain ⟨_, h | ⟨g, cap, cur, hv, _, hg, _⟩⟩ := hown1
        · cases h.1
        · cases hv
          exact (Array.getElem?_eq_some_iff.1 hg).1
      · rw [hown1.cellAt j hj, List.getElem?_eq_getElem (by rw [Array.length_toList, size_madeCells]; exact hj)]
        rfl
    clear hown1 hg1 hi hz0 hz1 hz2
    go_wp2_with fail
    go_loopw [14] (fun i wr => ∃ k : Nat, k ≤ n ∧ i = .int .i64 k ∧ Fill W0.heap.size n k X Y wr ∧ Hid (allM X Y k = true) ∧ Below W0.heap.size W0 wr) (fun i _ => n - (intOf i).toNat)
    case atStart => exact ⟨0, Nat.zero_le _, rfl, hF, Lib.hid rfl, hb1⟩
    case round =>
      obtain ⟨k, hk, rfl, hF, HM, hB⟩ := hrel
      clear hb1
      by_cases hkn : k < n
      · obtain ⟨c0, c1⟩ := (HX0.out.below hB).2 k hkn
        have hk1 : (k : Int) < n := by omega
        go_wp2_with fail
        have hT : TS W0 W0.heap.size n k X Y wr.heap.size (wr.alloc (.cells #[.int .i64 (X k), .int .i64 (Y k)] 23)) :=
          ⟨hF.alloc _, Row.at rfl (wayL (X k) (Y k)) _, hB.alloc hB.size _, by have := hF.1; omega, Nat.le_refl _⟩
        refine (may_any _ _ _).mono ?_
        rintro e w2 ⟨rfl, hb⟩
        have hT := hT.after hb
        clear hb c0 c1 hF hB
        cases hm : mayB (X k) (Y k)
        · have HA := Lib.hid (allM_no hkn hm)
          have hB := hT.2.2.1
          clear hm hT
          go_wp2
          go_step3
          exact ⟨rfl, HA.out, hB, _, _, _, _, _, _, _, _, _, _, _, _, _, _, _, _, _, _, _, _, _, _, _, _, _, _, _, _, _, _, rfl⟩
        · have HM' : Hid (allM X Y (k + 1) = true) := Lib.hid (by rw [allM, HM.out, hm]; rfl)
          clear hm HM
          go_wp2_with fail
          obtain ⟨D, hD⟩ : ∃ D, D = wr.heap.size := ⟨_, rfl⟩
          rw [← hD] at hT ⊢
          clear hD
          have a0 : ∀ W, TS W0 W0.heap.size n k X Y D W → W.cell? ⟨D, 0, none⟩ = some (.int .i64 (X k)) := fun W h => h.2.1.c 0 rfl
          have a1 : ∀ W, TS W0 W0.heap.size n k X Y D W → W.cell? ⟨D, 1, none⟩ = some (.int .i64 (Y k)) := fun W h => h.2.1.c 1 rfl
          have hs : TS W0 W0.heap.size n k X Y D w2.drew := hT.drew
          have k0 : ∀ W, TS W0 W0.heap.size n k X Y D W → W.cell? ⟨W0.heap.size, k * 3, none⟩ = some (cellV W W0.heap.size (k * 3)) := fun W h => cellV_of (h.1.2.1 _ (by omega)).1
          have f0 : ∀ W, TS W0 W0.heap.size n k X Y D W → W.frozen? ⟨W0.heap.size, k * 3, none⟩ = false := fun W h => (h.1.2.1 _ (by omega)).2
          have k1 : ∀ W, TS W0 W0.heap.size n k X Y D W → W.cell? ⟨W0.heap.size, k * 3 + 1, none⟩ = some (cellV W W0.heap.size (k * 3 + 1)) := fun W h => cellV_of (h.1.2.1 _ (by omega)).1
          have f1 : ∀ W, TS W0 W0.heap.size n k X Y D W → W.frozen? ⟨W0.heap.size, k * 3 + 1, none⟩ = false := fun W h => (h.1.2.1 _ (by omega)).2
          have k2 : ∀ W, TS W0 W0.heap.size n k X Y D W → W.cell? ⟨W0.heap.size, k * 3 + 2, none⟩ = some (cellV W W0.heap.size (k * 3 + 2)) := fun W h => cellV_of (h.1.2.1 _ (by omega)).1
          have f2 : ∀ W, TS W0 W0.heap.size n k X Y D W → W.frozen? ⟨W0.heap.size, k * 3 + 2, none⟩ = false := fun W h => (h.1.2.1 _ (by omega)).2
          go_region_held3 (fun w' : World => TS W0 W0.heap.size n k X Y D w')
            (repeat (first
              | (with_reducible assumption)
              | (with_reducible refine TS.put ?_ _ (by omega) _)
              | (with_reducible refine TS.drew ?_)
              | (with_reducible refine TS.after ?_ hb)))
            (first
              | (go_at_call 44; refine (quarter_any _ _ _).mono ?_; (try clear hb); rintro e w' ⟨rfl, hb⟩))
          have hq := ‹TS W0 W0.heap.size n k X Y D _›
          have hF := hq.1.next hkn
          have hB := hq.2.2.1
          clear hq a0 a1 k0 k1 k2 f0 f1 f2 hT hs
          generalize World.setCell _ _ _ = W4 at hF hB ⊢
          go_wp2
          go_roundw
          case rel => exact ⟨k + 1, by omega, by go_num, hF, HM', hB⟩
          case measure => simp [intOf]; omega
      · obtain rfl : k = n := by omega
        have hA : ArmsAt wr W0.heap.size 0 k X Y (fun i => quart (X i) (Y i)) := ⟨hF.1, fun i hi => by simpa using hF.2.2 i hi⟩
        have HC := Lib.hid (HK.out HM.out wr _ hA)
        have HM' := HM
        clear hA hF HM HK
        go_wp2_with fail
        refine HC.out.mono ?_
        rintro e w2 ⟨A, N, cap, rfl, hq, hge, hb⟩
        have hB2 := hB.trans (hb.mono hB.size)
        have hR := HR.out.after hB2
        have r0 := hR.c 0 rfl
        have r1 := hR.c 1 rfl
        have r2 := hR.c 2 rfl
        have r3 := hR.c 3 rfl
        have f0 := hR.f 0 rfl
        have f1 := hR.f 1 rfl
        have f2 := hR.f 2 rfl
        have f3 := hR.f 3 rfl
        have hQ4 : ∀ q, q < 4 → QRead _ (A q) (N q) (cap q) (Ins.srt Ins.ltT (partQ ws q)) := fun q hq' => by
          have hn : ∀ a, A q = some a → a.block ≠ w.heap.size := fun a ha => by have := hge q hq' a ha; have := hB.size; omega
          exact ((((hq q hq').set hn 0 (.slice (A 0) (N 0) (cap 0))).set hn 1 (.slice (A 1) (N 1) (cap 1))).set hn 2 (.slice (A 2) (N 2) (cap 2))).set hn 3 (.slice (A 3) (N 3) (cap 3))
        have hR4 := hR.put4 (.slice (A 0) (N 0) (cap 0)) (.slice (A 1) (N 1) (cap 1)) (.slice (A 2) (N 2) (cap 2)) (.slice (A 3) (N 3) (cap 3))
        have hB4 := below_put4 (HBw.out.trans (hB2.mono (Nat.le_of_lt hRl))) (Nat.le_refl w.heap.size) (.slice (A 0) (N 0) (cap 0)) (.slice (A 1) (N 1) (cap 1)) (.slice (A 2) (N 2) (cap 2)) (.slice (A 3) (N 3) (cap 3))
        clear hb HC hq hge hR hB2
        go_wp2
        clear r0 r1 r2 r3 f0 f1 f2 f3
        rw [jump_ret]
        generalize World.setCell _ _ _ = W4 at hR4 hB4 hQ4 ⊢
        have HP : Hid (TCirc w (allM X Y k) ws (.returned (.tuple #[.agg #[.slice (A 0) (N 0) (cap 0), .slice (A 1) (N 1) (cap 1), .slice (A 2) (N 2) (cap 2), .slice (A 3) (N 3) (cap 3)], .int .i64 0])) W4) := Lib.hid (by
          rw [HM'.out]; exact ⟨A, N, cap, rfl, hQ4, hB4⟩)
        exact bodyPost_ret (v := .tuple #[.agg #[.slice (A 0) (N 0) (cap 0), .slice (A 1) (N 1) (cap 1), .slice (A 2) (N 2) (cap 2), .slice (A 3) (N 3) (cap 3)], .int .i64 0]) (by simp [results, Try.results53, go_sem, hR4.c 0 rfl, hR4.c 1 rfl, hR4.c 2 rfl, hR4.c 3 rfl]) rfl HP.out
  · rintro a W ⟨HA, HB, u2, u3, u6, u7, u8, u9, u10, u11, u12, u13, u14, u15, u16, u17, u18, u19, u20, u21, u22, u23, u24, u25, u26, u27, u28, u29, u30, u31, u32, u33, rfl⟩
    have hR := HR.out.after HB
    have r0 := hR.c 0 rfl
    have r1 := hR.c 1 rfl
    have r2 := hR.c 2 rfl
    have r3 := hR.c 3 rfl
    have f0 := hR.f 0 rfl
    have f1 := hR.f 1 rfl
    have f2 := hR.f 2 rfl
    have f3 := hR.f 3 rfl
    have HA' := Lib.hid HA
    have hR4 := hR.put4 (.slice none 0 0) (.slice none 0 0) (.slice none 0 0) (.slice none 0 0)
    have hB4 := below_put4 (HBw.out.trans (HB.mono (Nat.le_of_lt hRl))) (Nat.le_refl w.heap.size) (.slice none 0 0) (.slice none 0 0) (.slice none 0 0) (.slice none 0 0)
    clear HA HK hR HB
    go_wp2
    clear r0 r1 r2 r3 f0 f1 f2 f3
    rw [jump_ret]
    generalize World.setCell _ _ _ = W4 at hR4 hB4 ⊢
    have HP : Hid (TCirc w (allM X Y n) ws (.returned (.tuple #[.agg #[.slice none 0 0, .slice none 0 0, .slice none 0 0, .slice none 0 0], .int .i64 2])) W4) := Lib.hid (by
      rw [HA'.out]; exact ⟨fun _ => none, fun _ => 0, fun _ => 0, rfl, fun q _ => ⟨rfl, ⟨fun _ => ⟨rfl, rfl⟩, Nat.le_refl _⟩, fun h => absurd h (Nat.lt_irrefl 0)⟩, hB4⟩)
    exact bodyPost_ret (v := .tuple #[.agg #[.slice none 0 0, .slice none 0 0, .slice none 0 0, .slice none 0 0], .int .i64 2]) (by simp [results, Try.results53, go_sem, hR4.c 0 rfl, hR4.c 1 rfl, hR4.c 2 rfl, hR4.c 3 rfl]) rfl HP.out

/-- What Round answers: a function that goes over the ways, as they were sorted at once. -/
def RoundPost (w : World) (z : Bool) (ws : List (Int × Int)) (e : Ending) (w' : World) : Prop :=
  ∃ (C : Nat) (A : Nat → Option Addr) (N cap : Nat → Nat), e = .returned (.func (.func 54) #[] #[.pointer (some ⟨C, 0, none⟩)]) ∧ w.heap.size ≤ C ∧
    Row w' C [.slice (A 0) (N 0) (cap 0), .slice (A 1) (N 1) (cap 1), .slice (A 2) (N 2) (cap 2), .slice (A 3) (N 3) (cap 3)] ∧
    (∀ q, q < 4 → QRead w' (A q) (N q) (cap q) (if z then Ins.srt Ins.ltT (partQ ws q) else [])) ∧ Below w.heap.size w w'
theorem QRead.after {w w1 : World} {A : Option Addr} {N cap : Nat} {l : List (Int × Int)} (h : QRead w A N cap l) (hb : Below w.heap.size w w1) : QRead w1 A N cap l := by
  obtain ⟨h1, h2, h3⟩ := h
  refine ⟨h1, h2, fun h0 => ?_⟩
  obtain ⟨g, hA, hl⟩ := h3 h0
  exact ⟨g, hA, hl.below hb hl.1⟩
set_option maxHeartbeats 1600000 in
set_option maxRecDepth 100000 in
theorem round_any (ws : List (Int × Int)) (b o c : Nat) (w : World) (hn : ws.length ≤ 20) (hx : WaysL w b o ws) :
    Calls Try.prog 42 #[.slice (some ⟨b, o, none⟩) ws.length c] w (RoundPost w (allW ws) ws) := by
  have HT := Lib.hid (told_circle ws _ _ b o ws.length c w (by omega) (ways_at hx) (fun hz W B hA => circle_any ws B 0 ws.length W hn (arms_l hA) (allW_ok.1 hz)))
  have hmf : ∀ (fn : Fn) (first cap : Array Value) (w : World), (Instr.makeFunc fn first cap).run Try.prog w = .ok (.func fn first cap) w := fun _ _ _ _ => rfl
  clear hx
  have HP : Hid (∀ e w', TCirc w (allM (fun i => (atW ws i).1) (fun i => (atW ws i).2) ws.length) ws e w' → TCirc w (allW ws) ws e w') := Lib.hid (fun e w' h => h)
  generalize ws.length = n at HT HP hn ⊢
  go_enter Try.func42, Try.ntmps42
  go_wp2_with fail
  refine HT.out.mono ?_
  intro e w2 ht
  obtain ⟨A, N, cap, rfl, hq, hb⟩ := HP.out _ _ ht
  have hR := Row.at (w := w2) rfl [.slice (A 0) (N 0) (cap 0), .slice (A 1) (N 1) (cap 1), .slice (A 2) (N 2) (cap 2), .slice (A 3) (N 3) (cap 3)] 59
  have hB2 : Below w2.heap.size w2 (w2.alloc (.cells #[.slice (A 0) (N 0) (cap 0), .slice (A 1) (N 1) (cap 1), .slice (A 2) (N 2) (cap 2), .slice (A 3) (N 3) (cap 3)] 59)) := (Below.refl _ _).alloc (Nat.le_refl _) _
  have HR : Hid (RoundPost w (allW ws) ws (.returned (.func (.func 54) #[] #[.pointer (some ⟨w2.heap.size, 0, none⟩)])) (w2.alloc (.cells #[.slice (A 0) (N 0) (cap 0), .slice (A 1) (N 1) (cap 1), .slice (A 2) (N 2) (cap 2), .slice (A 3) (N 3) (cap 3)] 59))) := Lib.hid
    ⟨w2.heap.size, A, N, cap, rfl, hb.size, hR, fun q hq' => (hq q hq').after hB2, hb.trans (hB2.mono hb.size)⟩
  clear ht hq hb hR hB2 HT HP
  go_wp2
  go_ret
  exact HR.out
end Go.Proofs.Ytfdofajknnocfaa
