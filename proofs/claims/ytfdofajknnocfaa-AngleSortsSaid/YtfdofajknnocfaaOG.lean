/- Contract of angle's Sort. -/
import Derived.Test.YtfdofajknnocfaaOF
import Derived.Test.YtfdofajknnocfaaNY
import Derived.ScopeJumps
import Derived.WalkMore
namespace Go.Proofs.Ytfdofajknnocfaa
open Go.RowKit Go.Sort

/-- What told answers of a sort. -/
def TSort (w : World) (z : Bool) (R : List (Int × Int)) (e : Ending) (w' : World) : Prop :=
  ∃ A N cap, e = .returned (.tuple #[.slice A N cap, .int .i64 (errI z)]) ∧ OwnW w' w.heap.size A (if z then R else []) N cap ∧ Below w.heap.size w w'

set_option maxHeartbeats 6400000 in
set_option maxRecDepth 100000 in
theorem told_ways (K : FuncId) (R : List (Int × Int)) (X Y : Nat → Int) (b o n c : Nat) (w : World) (hn : n ≤ 1000000000) (hx : WaysAt w b o n X Y)
    (eK : ∀ (args : Array Value) (w : World), (callFunc K args).run Try.prog w = .ok (.enter K args) w)
    (hK : allM X Y n = true → ∀ W, Below w.heap.size w W → ArmsAt W w.heap.size 0 n X Y (fun i => quart (X i) (Y i)) → Calls Try.prog K #[.slice (some ⟨w.heap.size, 0, none⟩) n n] W (SortPost W R)) :
    Calls Try.prog 36 #[.func (.func K) #[] #[], .slice (some ⟨b, o, none⟩) n c] w (TSort w (allM X Y n) R) := by
  obtain ⟨i0, hi, hz0, hz1, hz2⟩ := info_parts infoArm
  have Hx := Lib.hid hx; clear hx
  have HK := Lib.hid hK; clear hK
  go_enter Try.func36, Try.ntmps36
  go_wp2
  refine wp_scope_jumps 0 (Wrong w (.func (.func K) #[] #[]) (.slice (some ⟨b, o, none⟩) n c) (.slice none 0 0) X Y n) (fun _ _ => 0) rfl ?_ ?_
  · go_wp2_with (first
      | (at_make; refine wpList_make_full _ rfl _ _ 48 rfl w.heap.size 50 i0 (armV 0 0 0) 3 Try.underlying48 hi hz0 hz1 .i64 .i64 _ _ n rfl rfl rfl rfl (by rw [hz2]; omega) (by unfold maxLen; omega) (by simp) ?_)
      | (fail))
    intro w1 hown1 hg1
    have hb1 := (Below.refl w.heap.size w).grown hg1 (Nat.le_refl _) (fun j hj => by cases hj)
    have hF : Fill w.heap.size n 0 X Y w1 := by
      refine ⟨?_, fun j hj => ⟨?_, hown1.frozenAt j⟩, fun i hi => absurd hi (by omega)⟩
      · obtain ⟨_, h | ⟨g, cap, cur, hv, _, hg, _⟩⟩ := hown1
        · cases h.1
        · cases hv
          exact (Array.getElem?_eq_some_iff.1 hg).1
      · rw [hown1.cellAt j hj, List.getElem?_eq_getElem (by rw [Array.length_toList, size_madeCells]; exact hj)]
        rfl
    clear hown1 hg1 hi hz0 hz1 hz2
    go_wp2_with fail
    go_loopw [14] (fun i wr => ∃ k : Nat, k ≤ n ∧ i = .int .i64 k ∧ Fill w.heap.size n k X Y wr ∧ Hid (allM X Y k = true) ∧ Below w.heap.size w wr) (fun i _ => n - (intOf i).toNat)
    case atStart => exact ⟨0, Nat.zero_le _, rfl, hF, Lib.hid rfl, hb1⟩
    case round =>
      obtain ⟨k, hk, rfl, hF, HM, hB⟩ := hrel
      clear hb1
      by_cases hkn : k < n
      · obtain ⟨c0, c1⟩ := (Hx.out.below hB).2 k hkn
        have hk1 : (k : Int) < n := by omega
        go_wp2_with fail
        have hT : TS w w.heap.size n k X Y wr.heap.size (wr.alloc (.cells #[.int .i64 (X k), .int .i64 (Y k)] 23)) :=
          ⟨hF.alloc _, Row.at rfl (wayL (X k) (Y k)) _, hB.alloc hB.size _, by have := hF.1; omega, Nat.le_refl _⟩
        refine (may_any _ _ _).mono ?_
        rintro e w2 ⟨rfl, hb⟩
        have hT := hT.after hb
        clear hb c0 c1 hF hB
        cases hm : mayB (X k) (Y k)
        · have HA := Lib.hid (allM_no hkn hm)
          have hB := hT.2.2.1
          clear hm hT
          go_wp2
          go_step3
          exact ⟨rfl, HA.out, hB, _, _, _, _, _, _, _, _, _, _, _, _, _, _, _, _, _, _, _, _, _, _, _, _, _, _, _, _, _, _, rfl⟩
        · have HM' : Hid (allM X Y (k + 1) = true) := Lib.hid (by rw [allM, HM.out, hm]; rfl)
          clear hm HM
          go_wp2_with fail
          obtain ⟨D, hD⟩ : ∃ D, D = wr.heap.size := ⟨_, rfl⟩
          rw [← hD] at hT ⊢
          clear hD
          have a0 : ∀ W, TS w w.heap.size n k X Y D W → W.cell? ⟨D, 0, none⟩ = some (.int .i64 (X k)) := fun W h => h.2.1.c 0 rfl
          have a1 : ∀ W, TS w w.heap.size n k X Y D W → W.cell? ⟨D, 1, none⟩ = some (.int .i64 (Y k)) := fun W h => h.2.1.c 1 rfl
          have hs : TS w w.heap.size n k X Y D w2.drew := hT.drew
          have k0 : ∀ W, TS w w.heap.size n k X Y D W → W.cell? ⟨w.heap.size, k * 3, none⟩ = some (cellV W w.heap.size (k * 3)) := fun W h => cellV_of (h.1.2.1 _ (by omega)).1
          have f0 : ∀ W, TS w w.heap.size n k X Y D W → W.frozen? ⟨w.heap.size, k * 3, none⟩ = false := fun W h => (h.1.2.1 _ (by omega)).2
          have k1 : ∀ W, TS w w.heap.size n k X Y D W → W.cell? ⟨w.heap.size, k * 3 + 1, none⟩ = some (cellV W w.heap.size (k * 3 + 1)) := fun W h => cellV_of (h.1.2.1 _ (by omega)).1
          have f1 : ∀ W, TS w w.heap.size n k X Y D W → W.frozen? ⟨w.heap.size, k * 3 + 1, none⟩ = false := fun W h => (h.1.2.1 _ (by omega)).2
          have k2 : ∀ W, TS w w.heap.size n k X Y D W → W.cell? ⟨w.heap.size, k * 3 + 2, none⟩ = some (cellV W w.heap.size (k * 3 + 2)) := fun W h => cellV_of (h.1.2.1 _ (by omega)).1
          have f2 : ∀ W, TS w w.heap.size n k X Y D W → W.frozen? ⟨w.heap.size, k * 3 + 2, none⟩ = false := fun W h => (h.1.2.1 _ (by omega)).2
          go_region_held3 (fun w' : World => TS w w.heap.size n k X Y D w')
            (repeat (first
              | (with_reducible assumption)
              | (with_reducible refine TS.put ?_ _ (by omega) _)
              | (with_reducible refine TS.drew ?_)
              | (with_reducible refine TS.after ?_ hb)))
            (first
              | (go_at_call 44; refine (quarter_any _ _ _).mono ?_; (try clear hb); rintro e w' ⟨rfl, hb⟩))
          have hq := ‹TS w w.heap.size n k X Y D _›
          have hF := hq.1.next hkn
          have hB := hq.2.2.1
          clear hq a0 a1 k0 k1 k2 f0 f1 f2 hT hs
          generalize World.setCell _ _ _ = W4 at hF hB ⊢
          go_wp2
          go_roundw
          case rel => exact ⟨k + 1, by omega, by go_num, hF, HM', hB⟩
          case measure => simp [intOf]; omega
      · obtain rfl : k = n := by omega
        have hA : ArmsAt wr w.heap.size 0 k X Y (fun i => quart (X i) (Y i)) := ⟨hF.1, fun i hi => by simpa using hF.2.2 i hi⟩
        have HC := Lib.hid (HK.out HM.out wr hB hA)
        have HP : Hid (∀ A N cap w2, OwnW w2 wr.heap.size A R N cap → Below w.heap.size w w2 → TSort w (allM X Y k) R (.returned (.tuple #[.slice A N cap, .int .i64 0])) w2) := Lib.hid (fun A N cap w2 h1 h2 => by
          rw [HM.out]; exact ⟨A, N, cap, rfl, OwnW.base h1 hB.size, h2⟩)
        clear hA hF HM HK
        go_wp2_with fail
        refine HC.out.mono ?_
        rintro e w2 ⟨A, N, cap, rfl, hown, hb⟩
        have hB := hB.trans (hb.mono hB.size)
        have HR := Lib.hid (HP.out A N cap w2 hown hB)
        clear hb HC hown HP
        go_wp2
        rw [jump_ret]
        go_ret2
        exact HR.out
  · rintro a W ⟨HA, HB, u2, u3, u6, u7, u8, u9, u10, u11, u12, u13, u14, u15, u16, u17, u18, u19, u20, u21, u22, u23, u24, u25, u26, u27, u28, u29, u30, u31, u32, u33, rfl⟩
    have HR : Hid (TSort w (allM X Y n) R (.returned (.tuple #[.slice none 0 0, .int .i64 2])) W) := Lib.hid (by
      rw [HA]; exact ⟨none, 0, 0, rfl, OwnW.start _ _, HB⟩)
    clear HA HK
    go_wp2
    rw [jump_ret]
    go_ret2
    exact HR.out

theorem ways_at {w : World} {b o : Nat} {ws : List (Int × Int)} (h : WaysL w b o ws) : WaysAt w b o ws.length (fun i => (atW ws i).1) (fun i => (atW ws i).2) :=
  ⟨h.1, fun i hi => h.2 i (atW ws i) (by rw [atW, List.getElem?_eq_getElem hi]; rfl)⟩
theorem arms_l {w : World} {b : Nat} {ws : List (Int × Int)} (h : ArmsAt w b 0 ws.length (fun i => (atW ws i).1) (fun i => (atW ws i).2) (fun i => quart (atW ws i).1 (atW ws i).2)) : ArmsL w b 0 ws :=
  ⟨h.1, fun i p hp => by
    have hi := (List.getElem?_eq_some_iff.1 hp).1
    have e : atW ws i = p := by rw [atW, hp]; rfl
    have := h.2 i hi
    simp only [e] at this
    exact this⟩
/-- May all be? -/
def allW (ws : List (Int × Int)) : Bool := allM (fun i => (atW ws i).1) (fun i => (atW ws i).2) ws.length
theorem allW_ok {ws : List (Int × Int)} : allW ws = true ↔ ∀ p, p ∈ ws → Ins.OkP p := by
  unfold allW
  rw [allM_iff]
  constructor
  · intro h p hp
    obtain ⟨i, hi, rfl⟩ := List.mem_iff_getElem.1 hp
    have e : atW ws i = ws[i] := by rw [atW, List.getElem?_eq_getElem hi]; rfl
    have := h i hi
    rw [e] at this
    exact Rnd.may_ok.1 this
  · intro h i hi
    have e : atW ws i = ws[i] := by rw [atW, List.getElem?_eq_getElem hi]; rfl
    rw [e]
    exact Rnd.may_ok.2 (h _ (List.getElem_mem hi))
theorem key_same (p : Int × Int) (h : Ins.OkP p) : keyQ p = Ins.keyT p := by unfold keyQ Ins.keyT; rw [Ins.nrm_id h]
theorem sorted_all (ws : List (Int × Int)) (h : ∀ p, p ∈ ws → Ins.OkP p) : Ins.srt Ins.ltT (partQ ws 0) ++ Ins.srt Ins.ltT (partQ ws 1) ++ Ins.srt Ins.ltT (partQ ws 2) ++ Ins.srt Ins.ltT (partQ ws 3) = Ins.srt ltR ws :=
  (Ins.sort_parts ws h keyQ key_same).symm
set_option maxHeartbeats 1600000 in
set_option maxRecDepth 100000 in
theorem sort1 (ws : List (Int × Int)) (B : Nat) (w : World) (hn : ws.length ≤ 20) (hok : ∀ p, p ∈ ws → Ins.OkP p) (h : ArmsL w B 0 ws) :
    Calls Try.prog 37 #[.slice (some ⟨B, 0, none⟩) ws.length ws.length] w (SortPost w (Ins.srt ltR ws)) := by
  have HC := Lib.hid (circle_any ws B 0 ws.length w hn h hok)
  have HS := Lib.hid (sorted_all ws hok)
  have HL : Hid (∀ q N, N = (Ins.srt Ins.ltT (partQ ws q)).length → N ≤ 20) := Lib.hid (fun q N hN => by
    have hs : ∀ m out : List (Int × Int), (m.foldl (fun out x => Ins.ins Ins.ltT x out) out).length = out.length + m.length := by
      intro m
      induction m with
      | nil => intro out; rfl
      | cons x r ih =>
        intro out
        have hi : ∀ o : List (Int × Int), (Ins.ins Ins.ltT x o).length = o.length + 1 := by
          intro o
          induction o with
          | nil => rfl
          | cons y o ih2 => unfold Ins.ins; split <;> simp [ih2]
        rw [List.foldl_cons, ih, hi, List.length_cons]; omega
    have h2 := hs (partQ ws q) []
    have h3 : (partQ ws q).length ≤ ws.length := List.length_filter_le _ _
    have h4 : (Ins.srt Ins.ltT (partQ ws q)).length = (partQ ws q).length := by simpa [Ins.srt] using h2
    omega)
  clear h hok
  generalize ws.length = n at HC hn
  go_enter Try.func37, Try.ntmps37
  go_wp2_with fail
  refine HC.out.mono ?_
  rintro e w1 ⟨A, N, cap, rfl, hq, _, hb⟩
  have HW := Lib.hid (ways_any (A 0) (A 1) (A 2) (A 3) (N 0) (N 1) (N 2) (N 3) (cap 0) (cap 1) (cap 2) (cap 3) _ _ _ _ w1 (hq 0 (by omega)) (hq 1 (by omega)) (hq 2 (by omega)) (hq 3 (by omega))
    ⟨HL.out 0 _ (hq 0 (by omega)).1, HL.out 1 _ (hq 1 (by omega)).1, HL.out 2 _ (hq 2 (by omega)).1, HL.out 3 _ (hq 3 (by omega)).1⟩)
  have HB := Lib.hid hb
  clear hq hb HC HL
  go_wp2_with fail
  refine HW.out.mono ?_
  rintro e w2 ⟨A', N', cap', rfl, hown, hb⟩
  have HP : Hid (SortPost w (Ins.srt ltR ws) (.returned (.slice A' N' cap')) w2) := Lib.hid (by
    rw [HS.out] at hown
    exact ⟨A', N', cap', rfl, OwnW.base hown HB.out.size, HB.out.trans (hb.mono HB.out.size)⟩)
  clear hown hb HW HB HS
  go_wp2
  go_ret
  exact HP.out
set_option maxHeartbeats 1600000 in
set_option maxRecDepth 100000 in
theorem sort_any (ws : List (Int × Int)) (b o c : Nat) (w : World) (hn : ws.length ≤ 20) (hx : WaysL w b o ws) :
    Calls Try.prog 20 #[.slice (some ⟨b, o, none⟩) ws.length c] w (TSort w (allW ws) (Ins.srt ltR ws)) := by
  have HT := Lib.hid (told_ways 37 (Ins.srt ltR ws) _ _ b o ws.length c w (by omega) (ways_at hx) (fun _ _ => Try.call37 _ _) (fun hz W _ hA => sort1 ws _ W hn (allW_ok.1 hz) (arms_l hA)))
  clear hx
  have HP : Hid (∀ e w', TSort w (allM (fun i => (atW ws i).1) (fun i => (atW ws i).2) ws.length) (Ins.srt ltR ws) e w' → TSort w (allW ws) (Ins.srt ltR ws) e w') := Lib.hid (fun e w' h => h)
  generalize ws.length = n at HT HP hn ⊢
  go_enter Try.func20, Try.ntmps20
  go_wp2_with fail
  refine HT.out.mono ?_
  rintro e w2 ⟨A, N, cap, rfl, hown, hb⟩
  have HR := Lib.hid (HP.out _ _ ⟨A, N, cap, rfl, hown, hb⟩)
  clear hown hb HT HP
  go_wp2
  go_ret2
  exact HR.out
end Go.Proofs.Ytfdofajknnocfaa
