/- Contracts of slices.Grow and slices.Concat as angle's Next calls them, and of Next. -/
import Derived.Test.YtfdofajknnocfaaNF
import Derived.Lib.AppendZerosOnto
import Derived.OwnWalk
namespace Go.Proofs.Ytfdofajknnocfaa
open Go.RowKit Go.Sort

theorem infoWay : (Try.prog.info? 23).map (fun i => (i.zero, i.size, i.bytes)) = some (some (wayV 0 0), 2, 16) := by kernel_rfl
/-- What Grow answers: a new row of so much room. -/
def GrowPost (w : World) (n : Nat) (e : Ending) (w' : World) : Prop :=
  ∃ cap, e = .returned (.slice (some ⟨w.heap.size, 0, none⟩) 0 cap) ∧ n ≤ cap ∧ w'.ownsRow w.heap.size 23 2 (.slice (some ⟨w.heap.size, 0, none⟩) 0 cap) 0 [] ∧ Below w.heap.size w w'
set_option maxHeartbeats 1600000 in
set_option maxRecDepth 100000 in
theorem grow_nil (n : Nat) (w : World) (h0 : 0 < n) (hn : n ≤ 2000000000) :
    Calls Try.prog 52 #[.slice none 0 0, .int .i64 n] w (GrowPost w n) := by
  obtain ⟨i0, hi, hz, hz1, hz2⟩ := info_parts infoWay
  have hold : (Builtin.firstCells i0.size 0 (.slice none 0 0)).run Try.prog w.drew = .ok ([] : List Value).toArray w.drew := run_firstCells_none w.drew i0.size 0 0 0
  have hrz : ∀ ty, (Builtin.append_ #[39, 3] ty #[.slice none 0 0, .int .i64 n]).run Try.prog w =
      .ok (.slice (some ⟨w.heap.size, 0, none⟩) n (grownCap w n 0 23)) (w.drew.alloc (.cells (([] : List Value).toArray ++ Builtin.zeroCells (wayV 0 0).cells n ++ Builtin.zeroCells (wayV 0 0).cells (grownCap w n 0 23 - n)) 23)) := fun ty => by
    have h := Lib.run_append_grow_zeros w 39 3 ty 23 i0 (wayV 0 0) .i64 .i64 Try.underlying39 Try.underlying3 hi hz none 0 0 [] hold n h0 (by omega) (by omega) (by omega) (by rw [hz2]; omega)
      (growslice_fits (by omega) (by rw [hz2]; omega))
    simpa using h
  have hG := grownCap_ge w n 0 23
  have hG63 := grownCap_le_maxLen w n 0 23 (by unfold maxLen; omega)
  generalize grownCap w n 0 23 = G at hrz hG hG63
  have hown : (w.drew.alloc (.cells (([] : List Value).toArray ++ Builtin.zeroCells (wayV 0 0).cells n ++ Builtin.zeroCells (wayV 0 0).cells (G - n)) 23)).ownsRow w.heap.size 23 2 (.slice (some ⟨w.heap.size, 0, none⟩) 0 G) 0 [] := by
    refine ⟨rfl, Or.inr ⟨w.heap.size, G, _, rfl, Nat.le_refl _, heap_alloc_new w.drew _, Nat.zero_le _, hG63, ?_, rfl⟩⟩
    simp [Builtin.zeroCells, Value.cells]
    omega
  have hB : Below w.heap.size w (w.drew.alloc (.cells (([] : List Value).toArray ++ Builtin.zeroCells (wayV 0 0).cells n ++ Builtin.zeroCells (wayV 0 0).cells (G - n)) 23)) := (Below.refl w.heap.size w).drew.alloc (Nat.le_refl _) _
  generalize w.drew.alloc _ = W at hrz hown hB
  have HP : Hid (GrowPost w n (.returned (.slice (some ⟨w.heap.size, 0, none⟩) 0 G)) W) := Lib.hid ⟨G, rfl, hG, hown, hB⟩
  unfold maxLen at hG63
  clear hown hB hold hi hz hz1 hz2
  have hn1 : ((n : Int) - 0) = n := by omega
  go_enter Try.func52, Try.ntmps52
  go_wp2_with (at_builtin; refine Lib.wpList_append_run _ rfl _ _ _ _ rfl _ _ rfl rfl _ _ (hrz _) ?_)
  all_goals
    go_ret
    exact HP.out

/-- The cells of the first n ways. -/
def wayC (X Y : Nat → Int) : Nat → List Value
  | 0 => []
  | n + 1 => wayC X Y n ++ [.int .i64 (X n), .int .i64 (Y n)]
theorem wayC_len (X Y : Nat → Int) : ∀ n, (wayC X Y n).length = n * 2
  | 0 => rfl
  | n + 1 => by rw [wayC, List.length_append, wayC_len X Y n]; simp; omega
theorem wayC_get {X Y : Nat → Int} {i n : Nat} (h : i < n) : (wayC X Y n)[i * 2]? = some (.int .i64 (X i)) ∧ (wayC X Y n)[i * 2 + 1]? = some (.int .i64 (Y i)) := by
  induction n with
  | zero => omega
  | succ n ih =>
    rw [wayC]
    by_cases e : i = n
    · subst e
      have hl := wayC_len X Y i
      rw [List.getElem?_append_right (by omega), List.getElem?_append_right (by omega), hl, show i * 2 - i * 2 = 0 by omega, show i * 2 + 1 - i * 2 = 1 by omega]
      exact ⟨rfl, rfl⟩
    · have hl := wayC_len X Y n
      rw [List.getElem?_append_left (by omega), List.getElem?_append_left (by omega)]
      exact ih (by omega)
theorem wayC_of {X Y : Nat → Int} {n j : Nat} {v : Value} (h : (wayC X Y n)[j]? = some v) : ∃ i, i < n ∧ (j = i * 2 ∧ v = .int .i64 (X i) ∨ j = i * 2 + 1 ∧ v = .int .i64 (Y i)) := by
  have hj := (List.getElem?_eq_some_iff.1 h).1
  rw [wayC_len] at hj
  refine ⟨j / 2, by omega, ?_⟩
  have hg := wayC_get (X := X) (Y := Y) (i := j / 2) (n := n) (by omega)
  rcases Nat.mod_two_eq_zero_or_one j with e | e
  · refine Or.inl ⟨by omega, ?_⟩
    rw [show j / 2 * 2 = j by omega, h] at hg
    exact Option.some.inj hg.1
  · refine Or.inr ⟨by omega, ?_⟩
    rw [show j / 2 * 2 + 1 = j by omega, h] at hg
    exact Option.some.inj hg.2
theorem wayC_one {X Y : Nat → Int} {n : Nat} {v : Value} (h : v ∈ wayC X Y n) : v.oneCell' = true := by
  obtain ⟨j, hj⟩ := List.mem_iff_getElem?.1 h
  obtain ⟨i, _, ⟨_, rfl⟩ | ⟨_, rfl⟩⟩ := wayC_of hj <;> rfl
theorem WaysAt.cells {W : World} {b o n : Nat} {X Y : Nat → Int} (h : WaysAt W b o n X Y) (j : Nat) (v : Value) (hj : (wayC X Y n)[j]? = some v) : W.cell? ((⟨b, o, none⟩ : Addr).add j) = some v := by
  have ea : ∀ k, (⟨b, o, none⟩ : Addr).add k = ⟨b, o + k, none⟩ := fun k => by simp [Addr.add]
  obtain ⟨i, hi, ⟨rfl, rfl⟩ | ⟨rfl, rfl⟩⟩ := wayC_of hj
  · rw [ea]; exact (h.2 i hi).1
  · rw [ea]; exact (h.2 i hi).2
def consF (x : Int) (X : Nat → Int) : Nat → Int
  | 0 => x
  | i + 1 => X i
theorem wayC_cons (x y : Int) (X Y : Nat → Int) : ∀ n, wayC (fun _ => x) (fun _ => y) 1 ++ wayC X Y n = wayC (consF x X) (consF y Y) (n + 1)
  | 0 => rfl
  | n + 1 => by
    have h := wayC_cons x y X Y n
    rw [show wayC X Y (n + 1) = wayC X Y n ++ [.int .i64 (X n), .int .i64 (Y n)] from rfl, ← List.append_assoc, h]; rfl
/-- What Concat answers: both behind each other, in a new row. -/
def ConcatPost (w : World) (n : Nat) (X Y : Nat → Int) (e : Ending) (w' : World) : Prop :=
  ∃ G cap, e = .returned (.slice (some ⟨G, 0, none⟩) n cap) ∧ WaysAt w' G 0 n X Y ∧ Below w.heap.size w w'
set_option maxHeartbeats 1600000 in
set_option maxRecDepth 100000 in
theorem concat_two (x y : Int) (X Y : Nat → Int) (L p b o n c : Nat) (w : World) (hn : n ≤ 1000000000) (hr : Row w L [.slice (some ⟨p, 0, none⟩) 1 1, .slice (some ⟨b, o, none⟩) n c])
    (h1 : WaysAt w p 0 1 (fun _ => x) (fun _ => y)) (h2 : WaysAt w b o n X Y) :
    Calls Try.prog 41 #[.slice (some ⟨L, 0, none⟩) 2 2] w (ConcatPost w (n + 1) (consF x X) (consF y Y)) := by
  obtain ⟨i0, hi, hz, hz1, hz2⟩ := info_parts infoWay
  have H1 := Lib.hid (fun W (hb : Below w.heap.size w W) => (h1.below hb).cells)
  have H2 := Lib.hid (fun W (hb : Below w.heap.size w W) => (h2.below hb).cells)
  have c0 := hr.c 0 rfl
  have c1 := hr.c 1 rfl
  have Hr := Lib.hid hr
  clear h1 h2 hr
  go_enter Try.func41, Try.ntmps41
  go_wp2
  refine wp_loop_rounds 3 ?_
  iterate 3 (rw [rounds_succ]; go_wp2_with fail)
  rw [show ((1 : Int) + (n : Int)) = ((n + 1 : Nat) : Int) by omega]
  refine (grow_nil (n + 1) _ (by omega) (by omega)).mono ?_
  rintro e w1 ⟨cap, rfl, hcap, hown, hb⟩
  have hr1 := Hr.out.after hb
  have c0 := hr1.c 0 rfl
  have c1 := hr1.c 1 rfl
  have hG : w.heap.size < w1.heap.size := by
    obtain ⟨_, h | ⟨g, cap', cur, hv, _, hg, _⟩⟩ := hown
    · cases h.1
    · cases hv
      exact (Array.getElem?_eq_some_iff.1 hg).1
  go_wp2
  refine wp_loop_rounds 3 ?_
  rw [rounds_succ]
  go_wp2_with (at_builtin; refine wpList_append_fits _ rfl _ _ 39 rfl w.heap.size 23 i0 2 Try.underlying39 hi hz1 w.heap.size 0 cap [] rfl hown ⟨p, 0, none⟩ 1 1 (wayC (fun _ => x) (fun _ => y) 1) rfl rfl (H1.out _ hb) (fun u hu => wayC_one hu) (by omega) ?_)
  intro w2 hown2 hg2
  have hb2 := hb.grown hg2 hb.size (fun j hj => by cases hj; exact Nat.le_refl _)
  have hr2 := Hr.out.after hb2
  have c0 := hr2.c 0 rfl
  have c1 := hr2.c 1 rfl
  go_wp2_with fail
  rw [rounds_succ]
  go_wp2_with (at_builtin; refine wpList_append_fits _ rfl _ _ 39 rfl w.heap.size 23 i0 2 Try.underlying39 hi hz1 w.heap.size 1 cap _ rfl hown2 ⟨b, o, none⟩ n c (wayC X Y n) rfl (wayC_len X Y n) (H2.out _ hb2) (fun u hu => wayC_one hu) (by omega) ?_)
  intro w3 hown3 hg3
  have hb3 := hb2.grown hg3 hb2.size (fun j hj => by cases hj; exact Nat.le_refl _)
  have hr3 := Hr.out.after hb3
  have c0 := hr3.c 0 rfl
  have c1 := hr3.c 1 rfl
  have hW : WaysAt w3 w.heap.size 0 (n + 1) (consF x X) (consF y Y) := by
    rw [wayC_cons] at hown3
    refine ⟨?_, fun i hi => ?_⟩
    · obtain ⟨_, h | ⟨g, cap', cur, hv, _, hg, _⟩⟩ := hown3
      · cases h.1
      · cases hv
        exact (Array.getElem?_eq_some_iff.1 hg).1
    · have e : 1 + n = n + 1 := by omega
      rw [e] at hown3
      rw [Nat.zero_add, hown3.cellAt _ (by omega), hown3.cellAt _ (by omega)]
      exact wayC_get hi
  have HP : Hid (ConcatPost w (n + 1) (consF x X) (consF y Y) (.returned (.slice (some ⟨w.heap.size, 0, none⟩) (1 + n) cap)) w3) := Lib.hid (by rw [Nat.add_comm 1 n]; exact ⟨_, _, rfl, hW, hb3⟩)
  clear hW hown hown2 hown3 hg2 hg3 hb hb2 hb3 hr1 hr2 hr3
  go_wp2_with fail
  rw [rounds_succ]
  go_wp2_with fail
  go_ret
  exact HP.out

set_option maxHeartbeats 1600000 in
set_option maxRecDepth 100000 in
theorem next1 (X Y Q : Nat → Int) (B n : Nat) (w : World) (hn : n ≤ 1000000000) (h : ArmsAt w B 0 (n + 1) X Y Q) :
    Calls Try.prog 40 #[.slice (some ⟨B, 0, none⟩) (n + 1) (n + 1)] w fun e w' => e = .returned (.int .i64 (firstI (fun i j => aheadI (ordW (X (i + 1)) (Y (i + 1)) (Q (i + 1)) (X 0) (Y 0) (Q 0)) (ordW (X (j + 1)) (Y (j + 1)) (Q (j + 1)) (X 0) (Y 0) (Q 0)) (ordW (X (i + 1)) (Y (i + 1)) (Q (i + 1)) (X (j + 1)) (Y (j + 1)) (Q (j + 1)))) n)) ∧ Below w.heap.size w w' := by
  obtain ⟨c0, c1, c2⟩ := h.get 0 0 (by omega) rfl
  have d0 := cell_regrown c0
  have d1 := cell_regrown c1
  have d2 := cell_regrown c2
  by_cases h0 : n = 0
  · subst h0
    have HN := Lib.hid (fun (W : World) (hb : Below w.heap.size w W) => next_any (fun i => X (i + 1)) (fun i => Y (i + 1)) (fun i => Q (i + 1)) (X 0) (Y 0) (Q 0) B 0 0 0 W (by omega) ⟨(h.below hb).1, fun i hi => absurd hi (by omega)⟩)
    clear h c0 c1 c2
    generalize firstI _ 0 = r at HN ⊢
    have C1 := Lib.hid (fun d os => Calls.regrown_of (HN.out (grow (redrawn w d) os) (below_regrown w d os)))
    clear HN
    go_enter Try.func40, Try.ntmps40
    go_wp2_with fail
    refine wp_region_quiet_below (by kernel_rfl) (by kernel_rfl) ?_
    repeat (first | go_big_quiet_step (with_reducible exact C1.out _ _) | quiet_step (with_reducible exact C1.out _ _))
    refine wpQuiet_nil ?_
    intro _ hw'
    obtain ⟨⟨dq, osq⟩, hw''⟩ := hw'
    subst hw''
    go_wp2
    go_ret
    exact ⟨rfl, below_regrown w dq osq⟩
  · obtain ⟨k, rfl⟩ : ∃ k, n = k + 1 := ⟨n - 1, by omega⟩
    have HN := Lib.hid (fun (W : World) (hb : Below w.heap.size w W) => next_any (fun i => X (i + 1)) (fun i => Y (i + 1)) (fun i => Q (i + 1)) (X 0) (Y 0) (Q 0) B 3 (k + 1) (k + 1) W (by omega) (ArmsAt.rest (n := k + 1) (h.below hb)))
    clear h c0 c1 c2 h0
    generalize firstI _ (k + 1) = r at HN ⊢
    have C1 := Lib.hid (fun d os => Calls.regrown_of (HN.out (grow (redrawn w d) os) (below_regrown w d os)))
    clear HN
    go_enter Try.func40, Try.ntmps40
    go_wp2_with fail
    refine wp_region_quiet_below (by kernel_rfl) (by kernel_rfl) ?_
    repeat (first | go_big_quiet_step (with_reducible exact C1.out _ _) | quiet_step (with_reducible exact C1.out _ _))
    refine wpQuiet_nil ?_
    intro _ hw'
    obtain ⟨⟨dq, osq⟩, hw''⟩ := hw'
    subst hw''
    go_wp2
    go_ret
    exact ⟨rfl, below_regrown w dq osq⟩
theorem next_step (x y : Int) (X Y : Nat → Int) (B n : Nat) (w : World) (hn : n ≤ 1000000000) (h : ArmsAt w B 0 (n + 1) (consF x X) (consF y Y) (fun i => quart (consF x X i) (consF y Y i))) :
    Calls Try.prog 40 #[.slice (some ⟨B, 0, none⟩) (n + 1) (n + 1)] w fun e w' => e = .returned (.int .i64 (firstI (aheadA x y X Y) n)) ∧ Below w.heap.size w w' := by
  have := next1 (consF x X) (consF y Y) (fun i => quart (consF x X i) (consF y Y i)) B n w hn h
  refine this.mono fun e w' h' => ⟨h'.1.trans ?_, h'.2⟩
  exact congrArg (fun k : Nat => Ending.returned (Value.int IntKind.i64 (k : Int))) (firstI_congr (n := n) (fun _ _ _ _ => rfl) n (Nat.le_refl _))
/-- The error of Next. -/
def nextE (z : Bool) (n : Nat) : Int := if z then (if n = 0 then 5 else 0) else 2
set_option maxHeartbeats 1600000 in
set_option maxRecDepth 100000 in
theorem nextw_any (x y : Int) (X Y : Nat → Int) (b o n c : Nat) (w : World) (hn : n ≤ 100000000) (hx : WaysAt w b o n X Y) :
    Calls Try.prog 21 #[wayV x y, .slice (some ⟨b, o, none⟩) n c] w fun e w' => e = .returned (.tuple #[.int .i64 (toldI (allM (consF x X) (consF y Y) (n + 1)) (firstI (aheadA x y X Y) n)), .int .i64 (nextE (allM (consF x X) (consF y Y) (n + 1)) n)]) ∧ Below w.heap.size w w' := by
  have HT : Hid (∀ W G cap, WaysAt W G 0 (n + 1) (consF x X) (consF y Y) → Calls Try.prog 25 #[.func (.func 40) #[] #[], .slice (some ⟨G, 0, none⟩) (n + 1) cap] W fun e w' => e = .returned (.tuple #[.int .i64 (toldI (allM (consF x X) (consF y Y) (n + 1)) (firstI (aheadA x y X Y) n)), .int .i64 (errI (allM (consF x X) (consF y Y) (n + 1)))]) ∧ Below W.heap.size W w') := by
    refine Lib.hid (fun W G cap h => ?_)
    have := told_int 40 (firstI (aheadA x y X Y) n) (consF x X) (consF y Y) G 0 (n + 1) cap W (by omega) h (fun _ _ => Try.call40 _ _) (fun _ W' _ hA => next_step x y X Y _ n W' (by omega) hA)
    rw [toldV_int] at this
    exact this
  have HC : Hid (∀ W L p, Below w.heap.size w W → Row W p [.int .i64 x, .int .i64 y] → Row W L [.slice (some ⟨p, 0, none⟩) 1 1, .slice (some ⟨b, o, none⟩) n c] → Calls Try.prog 41 #[.slice (some ⟨L, 0, none⟩) 2 2] W (ConcatPost W (n + 1) (consF x X) (consF y Y))) :=
    Lib.hid (fun W L p hb hp hr => concat_two x y X Y L p b o n c W (by omega) hr (ways1 hp) (hx.below hb))
  clear hx
  have HF : Hid (n = 0 → firstI (aheadA x y X Y) n = 0) := Lib.hid (fun h => by rw [h]; rfl)
  generalize firstI (aheadA x y X Y) n = r at HT HF ⊢
  generalize allM (consF x X) (consF y Y) (n + 1) = z at HT ⊢
  obtain ⟨k, hk⟩ : ∃ k, toldI z r = k := ⟨_, rfl⟩
  obtain ⟨m, hm⟩ : ∃ m, errI z = m := ⟨_, rfl⟩
  rw [hk, hm] at HT
  rw [hk]
  have HK := Lib.hid hk
  have HM := Lib.hid hm
  clear hk hm
  go_enter Try.func21, Try.ntmps21
  go_wp2_with fail
  generalize hW : World.alloc _ _ = W0
  have hB : Below w.heap.size w W0 := by rw [← hW]; exact (((Below.refl _ _).alloc (Nat.le_refl _) _).alloc (by simp) _).alloc (by simp; omega) _
  have hR : Row W0 (w.heap.size + 1) [.int .i64 x, .int .i64 y] := by rw [← hW]; exact (Row.at (by simp) [.int .i64 x, .int .i64 y] _).alloc _
  have hL : Row W0 (w.heap.size + 1 + 1) [.slice (some ⟨w.heap.size + 1, 0, none⟩) 1 1, .slice (some ⟨b, o, none⟩) n c] := by rw [← hW]; exact Row.at (by simp) [.slice (some ⟨w.heap.size + 1, 0, none⟩) 1 1, .slice (some ⟨b, o, none⟩) n c] _
  clear hW
  refine (HC.out _ _ _ hB hR hL).mono ?_
  rintro e w1 ⟨G, cap, rfl, hG, hb⟩
  have hB := hB.trans (hb.mono hB.size)
  clear hb hR hL HC
  go_wp2_with fail
  refine (HT.out _ _ _ hG).mono ?_
  rintro e w2 ⟨rfl, hb⟩
  have hB := hB.trans (hb.mono hB.size)
  clear hb hG HT
  cases z
  · have e1 : Hid (m = 2) := Lib.hid HM.out.symm
    have e2 := Lib.hid (show nextE false n = m by rw [e1.out]; rfl)
    have h0 : (m == 0) = false := by rw [e1.out]; rfl
    clear HM
    go_wp2
    go_ret2
    exact ⟨by rw [e2.out]; rfl, hB⟩
  · obtain rfl : m = 0 := HM.out.symm
    clear HM
    by_cases hn0 : n = 0
    · have e2 := Lib.hid (show nextE true n = 5 by rw [nextE, if_pos rfl, if_pos hn0])
      have e3 : Hid (k = 0) := Lib.hid (by rw [← HK.out, HF.out hn0]; rfl)
      have h1 : ((n : Int) == 0) = true := by rw [hn0]; rfl
      have h2 : (n == 0) = true := by rw [hn0]; rfl
      clear hn0
      go_wp2
      go_ret2
      exact ⟨by rw [e2.out, e3.out]; rfl, hB⟩
    · have e2 := Lib.hid (show nextE true n = 0 by rw [nextE, if_pos rfl, if_neg hn0])
      have h1 : ((n : Int) == 0) = false := by simpa using hn0
      clear hn0
      go_wp2
      go_ret2
      exact ⟨by rw [e2.out]; rfl, hB⟩
end Go.Proofs.Ytfdofajknnocfaa
