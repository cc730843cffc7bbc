/- Package angle's told: what is asked of ways that lie in memory, or ErrArg; no condition but that there are not too many. -/
import Derived.Test.YtfdofajknnocfaaND
import Derived.IntWalk
import Derived.Deep.MidRow
import Derived.ScopeJumps
import Derived.WalkMore
namespace Go.Proofs.Ytfdofajknnocfaa
open Go.RowKit Go.Sort

/-- n ways lie in memory from there on. -/
def WaysAt (w : World) (b o n : Nat) (X Y : Nat → Int) : Prop :=
  b < w.heap.size ∧ ∀ i, i < n → w.cell? ⟨b, o + i * 2, none⟩ = some (.int .i64 (X i)) ∧ w.cell? ⟨b, o + i * 2 + 1, none⟩ = some (.int .i64 (Y i))
theorem WaysAt.below {w w1 : World} {b o n : Nat} {X Y : Nat → Int} (h : WaysAt w b o n X Y) (hb : Below w.heap.size w w1) : WaysAt w1 b o n X Y := by
  refine ⟨Nat.lt_of_lt_of_le h.1 hb.size, fun i hi => ?_⟩
  have hc := (bcell hb).1
  rw [hc b _ h.1, hc b _ h.1]
  exact h.2 i hi
/-- A block of n arms, whose first k are those of the ways. -/
def Fill (b n k : Nat) (X Y : Nat → Int) (W : World) : Prop :=
  b < W.heap.size ∧ (∀ j, j < n * 3 → (W.cell? ⟨b, j, none⟩).isSome = true ∧ W.frozen? ⟨b, j, none⟩ = false) ∧
    ∀ i, i < k → W.cell? ⟨b, i * 3, none⟩ = some (.int .i64 (X i)) ∧ W.cell? ⟨b, i * 3 + 1, none⟩ = some (.int .i64 (Y i)) ∧ W.cell? ⟨b, i * 3 + 2, none⟩ = some (.int .i64 (quart (X i) (Y i)))
section
variable {b n k : Nat} {X Y : Nat → Int} {W W1 : World}
theorem Fill.after (h : Fill b n k X Y W) (hb : Below W.heap.size W W1) : Fill b n k X Y W1 := by
  have hc := (bcell hb).1
  have hf := (bcell hb).2
  refine ⟨Nat.lt_of_lt_of_le h.1 hb.size, fun j hj => ?_, fun i hi => ?_⟩
  · rw [hc b _ h.1, hf b _ h.1]; exact h.2.1 j hj
  · rw [hc b _ h.1, hc b _ h.1, hc b _ h.1]; exact h.2.2 i hi
theorem Fill.drew (h : Fill b n k X Y W) : Fill b n k X Y W.drew := h
theorem Fill.alloc (h : Fill b n k X Y W) (o : Obj) : Fill b n k X Y (W.alloc o) := h.after ((Below.refl _ _).alloc (Nat.le_refl _) _)
theorem isSome_set (w : World) (a b : Addr) (v : Value) : ((w.setCell a v).cell? b).isSome = (w.cell? b).isSome := by
  unfold World.cell? World.setCell
  simp only [Array.getElem?_modify]
  by_cases e : a.block = b.block
  · rw [if_pos e]
    cases w.heap[b.block]? with
    | none => rfl
    | some o =>
      cases o with
      | cells c t f =>
        simp only [Option.map_some]
        by_cases e2 : b.spot.isSome = true
        · simp [e2]
        · simp only [e2]
          by_cases e3 : a.spot.isSome = true
          · simp [e3]
          · simp [e3]
            by_cases e4 : b.off < c.size
            · simp [e4]
            · simp [e4]
      | _ => rfl
  · rw [if_neg e]
def Some5 (w : World) (b : Nat) : Prop := b < w.heap.size ∧ ∀ i, i < 5 → (w.cell? ⟨b, i, none⟩).isSome = true ∧ w.frozen? ⟨b, i, none⟩ = false
/-- What a cell holds. -/
def cellV (w : World) (b j : Nat) : Value := (w.cell? ⟨b, j, none⟩).getD undef
theorem cellV_of {w : World} {b j : Nat} (h : (w.cell? ⟨b, j, none⟩).isSome = true) : w.cell? ⟨b, j, none⟩ = some (cellV w b j) := by
  obtain ⟨u, hu⟩ := Option.isSome_iff_exists.1 h
  rw [cellV, hu]; rfl
theorem Fill.put (h : Fill b n k X Y W) (j : Nat) (hj : k * 3 ≤ j) (v : Value) : Fill b n k X Y (W.setCell ⟨b, j, none⟩ v) := by
  have ho : ∀ i, i < k * 3 → (W.setCell ⟨b, j, none⟩ v).cell? ⟨b, i, none⟩ = W.cell? ⟨b, i, none⟩ := fun i hi => World.cell?_setCell_other _ _ _ _ (fun e => by have := congrArg Addr.off e; simp at this; omega)
  refine ⟨by simpa [World.setCell] using h.1, fun i hi => ⟨by rw [isSome_set]; exact (h.2.1 i hi).1, by rw [World.frozen?_setCell]; exact (h.2.1 i hi).2⟩, fun i hi => ?_⟩
  rw [ho _ (by omega), ho _ (by omega), ho _ (by omega)]
  exact h.2.2 i hi
theorem Fill.next (h : Fill b n k X Y (((W.setCell ⟨b, k * 3, none⟩ (.int .i64 (X k))).setCell ⟨b, k * 3 + 1, none⟩ (.int .i64 (Y k))).setCell ⟨b, k * 3 + 2, none⟩ (.int .i64 (quart (X k) (Y k))))) (hk : k < n) :
    Fill b n (k + 1) X Y (((W.setCell ⟨b, k * 3, none⟩ (.int .i64 (X k))).setCell ⟨b, k * 3 + 1, none⟩ (.int .i64 (Y k))).setCell ⟨b, k * 3 + 2, none⟩ (.int .i64 (quart (X k) (Y k)))) := by
  refine ⟨h.1, h.2.1, fun i hi => ?_⟩
  by_cases e : i = k
  · subst e
    have hs : ∀ j, j < n * 3 → (W.cell? ⟨b, j, none⟩).isSome = true := fun j hj => by
      have := (h.2.1 j hj).1
      rwa [isSome_set, isSome_set, isSome_set] at this
    refine ⟨?_, ?_, ?_⟩
    · rw [World.cell?_setCell_other _ _ _ _ (by simp), World.cell?_setCell_other _ _ _ _ (by simp), World.cell?_setCell_same' _ _ _ (hs _ (by omega))]
    · rw [World.cell?_setCell_other _ _ _ _ (by simp), World.cell?_setCell_same' _ _ _ (by rw [isSome_set]; exact hs _ (by omega))]
    · rw [World.cell?_setCell_same' _ _ _ (by rw [isSome_set, isSome_set]; exact hs _ (by omega))]
  · exact h.2.2 i (by omega)
end
/-- While an arm is laid: the arms so far, the way's box, the old blocks. -/
def TS (w : World) (b n k : Nat) (X Y : Nat → Int) (D : Nat) (W : World) : Prop := Fill b n k X Y W ∧ Row W D (wayL (X k) (Y k)) ∧ Below w.heap.size w W ∧ b ≠ D ∧ w.heap.size ≤ b
section
variable {w W W1 : World} {b n k D : Nat} {X Y : Nat → Int}
theorem TS.drew (h : TS w b n k X Y D W) : TS w b n k X Y D W.drew := ⟨h.1.drew, h.2.1.drew, h.2.2.1.drew, h.2.2.2⟩
theorem TS.after (h : TS w b n k X Y D W) (hb : Below W.heap.size W W1) : TS w b n k X Y D W1 := ⟨h.1.after hb, h.2.1.after hb, h.2.2.1.trans (hb.mono h.2.2.1.size), h.2.2.2⟩
theorem TS.put (h : TS w b n k X Y D W) (j : Nat) (hj : k * 3 ≤ j) (v : Value) : TS w b n k X Y D (W.setCell ⟨b, j, none⟩ v) :=
  ⟨h.1.put j hj v, h.2.1.other (p := ⟨b, j, none⟩) h.2.2.2.1 _, below_put1 h.2.2.1 h.2.2.2.2 _ _, h.2.2.2⟩
end
/-- May the first n be? -/
def allM (X Y : Nat → Int) : Nat → Bool
  | 0 => true
  | k + 1 => allM X Y k && mayB (X k) (Y k)
theorem allM_no {X Y : Nat → Int} {k n : Nat} (hk : k < n) (h : mayB (X k) (Y k) = false) : allM X Y n = false := by
  induction n with
  | zero => omega
  | succ n ih =>
    by_cases e : k = n
    · subst e; rw [allM, h, Bool.and_false]
    · rw [allM, ih (by omega), Bool.false_and]
theorem allM_iff {X Y : Nat → Int} {n : Nat} : allM X Y n = true ↔ ∀ i, i < n → mayB (X i) (Y i) = true := by
  induction n with
  | zero => simp [allM]
  | succ n ih =>
    rw [allM, Bool.and_eq_true_iff, ih]
    exact ⟨fun ⟨h1, h2⟩ i hi => by by_cases e : i = n; · subst e; exact h2
                                   · exact h1 i (by omega), fun h => ⟨fun i hi => h i (by omega), h n (by omega)⟩⟩
def toldV (z : Bool) (v v0 : Value) : Value := .tuple #[if z then v else v0, .int .i64 (if z then 0 else 2)]
theorem infoArm : (Try.prog.info? 50).map (fun i => (i.zero, i.size, i.bytes)) = some (some (armV 0 0 0), 3, 24) := by kernel_rfl
section
variable {l : Nat} {J : Act → World → Prop} {Q : Exit → Act → World → Prop} {a : Act} {w : World}
theorem jump_ret : Exit.jump l J Q .ret a w = Q .ret a w := rfl
theorem jump_goto : Exit.jump l J Q (.goto l) a w = (l = l ∧ J a w) := rfl
end
/-- What holds where told jumps: a way that may not be. -/
def Wrong (w : World) (F S V0 : Value) (X Y : Nat → Int) (n : Nat) (a : Act) (W : World) : Prop :=
  allM X Y n = false ∧ Below w.heap.size w W ∧ ∃ u2 u3 u6 u7 u8 u9 u10 u11 u12 u13 u14 u15 u16 u17 u18 u19 u20 u21 u22 u23 u24 u25 u26 u27 u28 u29 u30 u31 u32 u33 : Value, a = { tmps := #[F, S, u2, u3, V0, .int .i64 0, u6, u7, u8, u9, u10, u11, u12, u13, u14, u15, u16, u17, u18, u19, u20, u21, u22, u23, u24, u25, u26, u27, u28, u29, u30, u31, u32, u33], defers := [] }

set_option maxHeartbeats 6400000 in
set_option maxRecDepth 100000 in
theorem told_int (K : FuncId) (v : Int) (X Y : Nat → Int) (b o n c : Nat) (w : World) (hn : n ≤ 1000000000) (hx : WaysAt w b o n X Y)
    (eK : ∀ (args : Array Value) (w : World), (callFunc K args).run Try.prog w = .ok (.enter K args) w)
    (hK : allM X Y n = true → ∀ W, Below w.heap.size w W → ArmsAt W w.heap.size 0 n X Y (fun i => quart (X i) (Y i)) → Calls Try.prog K #[.slice (some ⟨w.heap.size, 0, none⟩) n n] W fun e w' => e = .returned (.int .i64 v) ∧ Below W.heap.size W w') :
    Calls Try.prog 25 #[.func (.func K) #[] #[], .slice (some ⟨b, o, none⟩) n c] w fun e w' => e = .returned (toldV (allM X Y n) (.int .i64 v) (.int .i64 0)) ∧ Below w.heap.size w w' := by
  obtain ⟨i0, hi, hz0, hz1, hz2⟩ := info_parts infoArm
  have Hx := Lib.hid hx; clear hx
  have HK := Lib.hid hK; clear hK
  have HT : Hid (∀ z, allM X Y n = z → toldV (allM X Y n) (.int .i64 v) (.int .i64 0) = toldV z (.int .i64 v) (.int .i64 0)) := Lib.hid (fun z h => by rw [h])
  go_enter Try.func25, Try.ntmps25
  go_wp2
  refine wp_scope_jumps 0 (Wrong w (.func (.func K) #[] #[]) (.slice (some ⟨b, o, none⟩) n c) (.int .i64 0) X Y n) (fun _ _ => 0) rfl ?_ ?_
  · go_wp2_with (first
      | (at_make; refine wpList_make_full _ rfl _ _ 48 rfl w.heap.size 50 i0 (armV 0 0 0) 3 Try.underlying48 hi hz0 hz1 .i64 .i64 _ _ n rfl rfl rfl rfl (by rw [hz2]; omega) (by unfold maxLen; omega) (by simp) ?_)
      | (fail))
    intro w1 hown1 hg1
    have hb1 := (Below.refl w.heap.size w).grown hg1 (Nat.le_refl _) (fun j hj => by cases hj)
    have hF : Fill w.heap.size n 0 X Y w1 := by
      refine ⟨?_, fun j hj => ⟨?_, hown1.frozenAt j⟩, fun i hi => absurd hi (by omega)⟩
      · obtain ⟨_, h | ⟨g, cap, cur, hv, _, hg, _⟩⟩ := hown1
        · cases h.1
        · cases hv
          exact (Array.getElem?_eq_some_iff.1 hg).1
      · rw [hown1.cellAt j hj, List.getElem?_eq_getElem (by rw [Array.length_toList, size_madeCells]; exact hj)]
        rfl
    clear hown1 hg1 hi hz0 hz1 hz2
    go_wp2_with fail
    go_loopw [14] (fun i wr => ∃ k : Nat, k ≤ n ∧ i = .int .i64 k ∧ Fill w.heap.size n k X Y wr ∧ Hid (allM X Y k = true) ∧ Below w.heap.size w wr) (fun i _ => n - (intOf i).toNat)
    case atStart => exact ⟨0, Nat.zero_le _, rfl, hF, Lib.hid rfl, hb1⟩
    case round =>
      obtain ⟨k, hk, rfl, hF, HM, hB⟩ := hrel
      clear hb1
      by_cases hkn : k < n
      · obtain ⟨c0, c1⟩ := (Hx.out.below hB).2 k hkn
        have hk1 : (k : Int) < n := by omega
        go_wp2_with fail
        have hT : TS w w.heap.size n k X Y wr.heap.size (wr.alloc (.cells #[.int .i64 (X k), .int .i64 (Y k)] 23)) :=
          ⟨hF.alloc _, Row.at rfl (wayL (X k) (Y k)) _, hB.alloc hB.size _, by have := hF.1; omega, Nat.le_refl _⟩
        refine (may_any _ _ _).mono ?_
        rintro e w2 ⟨rfl, hb⟩
        have hT := hT.after hb
        clear hb c0 c1 hF hB
        cases hm : mayB (X k) (Y k)
        · have HA := Lib.hid (allM_no hkn hm)
          have hB := hT.2.2.1
          clear hm hT
          go_wp2
          go_step3
          exact ⟨rfl, HA.out, hB, _, _, _, _, _, _, _, _, _, _, _, _, _, _, _, _, _, _, _, _, _, _, _, _, _, _, _, _, _, _, rfl⟩
        · have HM' : Hid (allM X Y (k + 1) = true) := Lib.hid (by rw [allM, HM.out, hm]; rfl)
          clear hm HM
          go_wp2_with fail
          obtain ⟨D, hD⟩ : ∃ D, D = wr.heap.size := ⟨_, rfl⟩
          rw [← hD] at hT ⊢
          clear hD
          have a0 : ∀ W, TS w w.heap.size n k X Y D W → W.cell? ⟨D, 0, none⟩ = some (.int .i64 (X k)) := fun W h => h.2.1.c 0 rfl
          have a1 : ∀ W, TS w w.heap.size n k X Y D W → W.cell? ⟨D, 1, none⟩ = some (.int .i64 (Y k)) := fun W h => h.2.1.c 1 rfl
          have hs : TS w w.heap.size n k X Y D w2.drew := hT.drew
          have k0 : ∀ W, TS w w.heap.size n k X Y D W → W.cell? ⟨w.heap.size, k * 3, none⟩ = some (cellV W w.heap.size (k * 3)) := fun W h => cellV_of (h.1.2.1 _ (by omega)).1
          have f0 : ∀ W, TS w w.heap.size n k X Y D W → W.frozen? ⟨w.heap.size, k * 3, none⟩ = false := fun W h => (h.1.2.1 _ (by omega)).2
          have k1 : ∀ W, TS w w.heap.size n k X Y D W → W.cell? ⟨w.heap.size, k * 3 + 1, none⟩ = some (cellV W w.heap.size (k * 3 + 1)) := fun W h => cellV_of (h.1.2.1 _ (by omega)).1
          have f1 : ∀ W, TS w w.heap.size n k X Y D W → W.frozen? ⟨w.heap.size, k * 3 + 1, none⟩ = false := fun W h => (h.1.2.1 _ (by omega)).2
          have k2 : ∀ W, TS w w.heap.size n k X Y D W → W.cell? ⟨w.heap.size, k * 3 + 2, none⟩ = some (cellV W w.heap.size (k * 3 + 2)) := fun W h => cellV_of (h.1.2.1 _ (by omega)).1
          have f2 : ∀ W, TS w w.heap.size n k X Y D W → W.frozen? ⟨w.heap.size, k * 3 + 2, none⟩ = false := fun W h => (h.1.2.1 _ (by omega)).2
          go_region_held3 (fun w' : World => TS w w.heap.size n k X Y D w')
            (repeat (first
              | (with_reducible assumption)
              | (with_reducible refine TS.put ?_ _ (by omega) _)
              | (with_reducible refine TS.drew ?_)
              | (with_reducible refine TS.after ?_ hb)))
            (first
              | (go_at_call 44; refine (quarter_any _ _ _).mono ?_; (try clear hb); rintro e w' ⟨rfl, hb⟩))
          have hq := ‹TS w w.heap.size n k X Y D _›
          have hF := hq.1.next hkn
          have hB := hq.2.2.1
          clear hq a0 a1 k0 k1 k2 f0 f1 f2 hT hs
          generalize World.setCell _ _ _ = W4 at hF hB ⊢
          go_wp2
          go_roundw
          case rel => exact ⟨k + 1, by omega, by go_num, hF, HM', hB⟩
          case measure => simp [intOf]; omega
      · obtain rfl : k = n := by omega
        have hA : ArmsAt wr w.heap.size 0 k X Y (fun i => quart (X i) (Y i)) := ⟨hF.1, fun i hi => by simpa using hF.2.2 i hi⟩
        have HC := Lib.hid (HK.out HM.out wr hB hA)
        have HV := Lib.hid (HT.out true HM.out)
        clear hA hF HM HT HK
        go_wp2_with fail
        refine HC.out.mono ?_
        rintro e w2 ⟨rfl, hb⟩
        have hB := hB.trans (hb.mono hB.size)
        clear hb HC
        go_wp2
        rw [jump_ret]
        go_ret2
        exact ⟨by rw [HV.out]; rfl, hB⟩
  · rintro a W ⟨HA, HB, u2, u3, u6, u7, u8, u9, u10, u11, u12, u13, u14, u15, u16, u17, u18, u19, u20, u21, u22, u23, u24, u25, u26, u27, u28, u29, u30, u31, u32, u33, rfl⟩
    have HV := Lib.hid (HT.out false HA)
    clear HA HT HK
    go_wp2
    rw [jump_ret]
    go_ret2
    exact ⟨by rw [HV.out]; rfl, HB⟩

set_option maxHeartbeats 6400000 in
set_option maxRecDepth 100000 in
theorem told_bool (K : FuncId) (v : Bool) (X Y : Nat → Int) (b o n c : Nat) (w : World) (hn : n ≤ 1000000000) (hx : WaysAt w b o n X Y)
    (eK : ∀ (args : Array Value) (w : World), (callFunc K args).run Try.prog w = .ok (.enter K args) w)
    (hK : allM X Y n = true → ∀ W, Below w.heap.size w W → ArmsAt W w.heap.size 0 n X Y (fun i => quart (X i) (Y i)) → Calls Try.prog K #[.slice (some ⟨w.heap.size, 0, none⟩) n n] W fun e w' => e = .returned (.bool v) ∧ Below W.heap.size W w') :
    Calls Try.prog 28 #[.func (.func K) #[] #[], .slice (some ⟨b, o, none⟩) n c] w fun e w' => e = .returned (toldV (allM X Y n) (.bool v) (.bool false)) ∧ Below w.heap.size w w' := by
  obtain ⟨i0, hi, hz0, hz1, hz2⟩ := info_parts infoArm
  have Hx := Lib.hid hx; clear hx
  have HK := Lib.hid hK; clear hK
  have HT : Hid (∀ z, allM X Y n = z → toldV (allM X Y n) (.bool v) (.bool false) = toldV z (.bool v) (.bool false)) := Lib.hid (fun z h => by rw [h])
  go_enter Try.func28, Try.ntmps28
  go_wp2
  refine wp_scope_jumps 0 (Wrong w (.func (.func K) #[] #[]) (.slice (some ⟨b, o, none⟩) n c) (.bool false) X Y n) (fun _ _ => 0) rfl ?_ ?_
  · go_wp2_with (first
      | (at_make; refine wpList_make_full _ rfl _ _ 48 rfl w.heap.size 50 i0 (armV 0 0 0) 3 Try.underlying48 hi hz0 hz1 .i64 .i64 _ _ n rfl rfl rfl rfl (by rw [hz2]; omega) (by unfold maxLen; omega) (by simp) ?_)
      | (fail))
    intro w1 hown1 hg1
    have hb1 := (Below.refl w.heap.size w).grown hg1 (Nat.le_refl _) (fun j hj => by cases hj)
    have hF : Fill w.heap.size n 0 X Y w1 := by
      refine ⟨?_, fun j hj => ⟨?_, hown1.frozenAt j⟩, fun i hi => absurd hi (by omega)⟩
      · obtain ⟨_, h | ⟨g, cap, cur, hv, _, hg, _⟩⟩ := hown1
        · cases h.1
        · cases hv
          exact (Array.getElem?_eq_some_iff.1 hg).1
      · rw [hown1.cellAt j hj, List.getElem?_eq_getElem (by rw [Array.length_toList, size_madeCells]; exact hj)]
        rfl
    clear hown1 hg1 hi hz0 hz1 hz2
    go_wp2_with fail
    go_loopw [14] (fun i wr => ∃ k : Nat, k ≤ n ∧ i = .int .i64 k ∧ Fill w.heap.size n k X Y wr ∧ Hid (allM X Y k = true) ∧ Below w.heap.size w wr) (fun i _ => n - (intOf i).toNat)
    case atStart => exact ⟨0, Nat.zero_le _, rfl, hF, Lib.hid rfl, hb1⟩
    case round =>
      obtain ⟨k, hk, rfl, hF, HM, hB⟩ := hrel
      clear hb1
      by_cases hkn : k < n
      · obtain ⟨c0, c1⟩ := (Hx.out.below hB).2 k hkn
        have hk1 : (k : Int) < n := by omega
        go_wp2_with fail
        have hT : TS w w.heap.size n k X Y wr.heap.size (wr.alloc (.cells #[.int .i64 (X k), .int .i64 (Y k)] 23)) :=
          ⟨hF.alloc _, Row.at rfl (wayL (X k) (Y k)) _, hB.alloc hB.size _, by have := hF.1; omega, Nat.le_refl _⟩
        refine (may_any _ _ _).mono ?_
        rintro e w2 ⟨rfl, hb⟩
        have hT := hT.after hb
        clear hb c0 c1 hF hB
        cases hm : mayB (X k) (Y k)
        · have HA := Lib.hid (allM_no hkn hm)
          have hB := hT.2.2.1
          clear hm hT
          go_wp2
          go_step3
          exact ⟨rfl, HA.out, hB, _, _, _, _, _, _, _, _, _, _, _, _, _, _, _, _, _, _, _, _, _, _, _, _, _, _, _, _, _, _, rfl⟩
        · have HM' : Hid (allM X Y (k + 1) = true) := Lib.hid (by rw [allM, HM.out, hm]; rfl)
          clear hm HM
          go_wp2_with fail
          obtain ⟨D, hD⟩ : ∃ D, D = wr.heap.size := ⟨_, rfl⟩
          rw [← hD] at hT ⊢
          clear hD
          have a0 : ∀ W, TS w w.heap.size n k X Y D W → W.cell? ⟨D, 0, none⟩ = some (.int .i64 (X k)) := fun W h => h.2.1.c 0 rfl
          have a1 : ∀ W, TS w w.heap.size n k X Y D W → W.cell? ⟨D, 1, none⟩ = some (.int .i64 (Y k)) := fun W h => h.2.1.c 1 rfl
          have hs : TS w w.heap.size n k X Y D w2.drew := hT.drew
          have k0 : ∀ W, TS w w.heap.size n k X Y D W → W.cell? ⟨w.heap.size, k * 3, none⟩ = some (cellV W w.heap.size (k * 3)) := fun W h => cellV_of (h.1.2.1 _ (by omega)).1
          have f0 : ∀ W, TS w w.heap.size n k X Y D W → W.frozen? ⟨w.heap.size, k * 3, none⟩ = false := fun W h => (h.1.2.1 _ (by omega)).2
          have k1 : ∀ W, TS w w.heap.size n k X Y D W → W.cell? ⟨w.heap.size, k * 3 + 1, none⟩ = some (cellV W w.heap.size (k * 3 + 1)) := fun W h => cellV_of (h.1.2.1 _ (by omega)).1
          have f1 : ∀ W, TS w w.heap.size n k X Y D W → W.frozen? ⟨w.heap.size, k * 3 + 1, none⟩ = false := fun W h => (h.1.2.1 _ (by omega)).2
          have k2 : ∀ W, TS w w.heap.size n k X Y D W → W.cell? ⟨w.heap.size, k * 3 + 2, none⟩ = some (cellV W w.heap.size (k * 3 + 2)) := fun W h => cellV_of (h.1.2.1 _ (by omega)).1
          have f2 : ∀ W, TS w w.heap.size n k X Y D W → W.frozen? ⟨w.heap.size, k * 3 + 2, none⟩ = false := fun W h => (h.1.2.1 _ (by omega)).2
          go_region_held3 (fun w' : World => TS w w.heap.size n k X Y D w')
            (repeat (first
              | (with_reducible assumption)
              | (with_reducible refine TS.put ?_ _ (by omega) _)
              | (with_reducible refine TS.drew ?_)
              | (with_reducible refine TS.after ?_ hb)))
            (first
              | (go_at_call 44; refine (quarter_any _ _ _).mono ?_; (try clear hb); rintro e w' ⟨rfl, hb⟩))
          have hq := ‹TS w w.heap.size n k X Y D _›
          have hF := hq.1.next hkn
          have hB := hq.2.2.1
          clear hq a0 a1 k0 k1 k2 f0 f1 f2 hT hs
          generalize World.setCell _ _ _ = W4 at hF hB ⊢
          go_wp2
          go_roundw
          case rel => exact ⟨k + 1, by omega, by go_num, hF, HM', hB⟩
          case measure => simp [intOf]; omega
      · obtain rfl : k = n := by omega
        have hA : ArmsAt wr w.heap.size 0 k X Y (fun i => quart (X i) (Y i)) := ⟨hF.1, fun i hi => by simpa using hF.2.2 i hi⟩
        have HC := Lib.hid (HK.out HM.out wr hB hA)
        have HV := Lib.hid (HT.out true HM.out)
        clear hA hF HM HT HK
        go_wp2_with fail
        refine HC.out.mono ?_
        rintro e w2 ⟨rfl, hb⟩
        have hB := hB.trans (hb.mono hB.size)
        clear hb HC
        go_wp2
        rw [jump_ret]
        go_ret2
        exact ⟨by rw [HV.out]; rfl, hB⟩
  · rintro a W ⟨HA, HB, u2, u3, u6, u7, u8, u9, u10, u11, u12, u13, u14, u15, u16, u17, u18, u19, u20, u21, u22, u23, u24, u25, u26, u27, u28, u29, u30, u31, u32, u33, rfl⟩
    have HV := Lib.hid (HT.out false HA)
    clear HA HT HK
    go_wp2
    rw [jump_ret]
    go_ret2
    exact ⟨by rw [HV.out]; rfl, HB⟩
end Go.Proofs.Ytfdofajknnocfaa
