/- Contract of law07.rounds: Round goes over the document's pairs, and may be left. -/
import Derived.Test.YtfdofajknnocfaaPC
import Derived.Test.YtfdofajknnocfaaPQ
namespace Go.Proofs.Ytfdofajknnocfaa
open Go.RowKit Go.Shelf
attribute [local go_sem] Oper.semAt_some

theorem srt_len {lt : Int × Int → Int × Int → Bool} (l : List (Int × Int)) : (Ins.srt lt l).length = l.length := by
  have hi : ∀ (x : Int × Int) (o : List (Int × Int)), (Ins.ins lt x o).length = o.length + 1 := by
    intro x o
    induction o with
    | nil => rfl
    | cons y o ih2 => unfold Ins.ins; split <;> simp [ih2]
  have hs : ∀ m out : List (Int × Int), (m.foldl (fun out x => Ins.ins lt x out) out).length = out.length + m.length := by
    intro m
    induction m with
    | nil => intro out; rfl
    | cons x r ih => intro out; rw [List.foldl_cons, ih, hi, List.length_cons]; omega
  simpa [Ins.srt] using hs l []
/-- The quarters as Round has them. -/
noncomputable def quartL (ws : List (Int × Int)) (q : Nat) : List (Int × Int) := if allW ws then Ins.srt Ins.ltT (partQ ws q) else []
/-- What the ways are, sorted; none, if one of them may not be. -/
def sortL (ws : List (Int × Int)) : List (Int × Int) := if allW ws then Ins.srt ltR ws else []
theorem whole_quart (ws : List (Int × Int)) : wholeL (quartL ws) = sortL ws := by
  unfold wholeL quartL sortL
  cases h : allW ws
  · rfl
  · simp only [if_true]; exact sorted_all ws (allW_ok.1 h)
theorem quart_len (ws : List (Int × Int)) (hn : ws.length ≤ 20) (q : Nat) : (quartL ws q).length ≤ 20 := by
  unfold quartL
  split
  · rw [srt_len]; exact Nat.le_trans (List.length_filter_le _ _) hn
  · simp
theorem sort_len (ws : List (Int × Int)) (hn : ws.length ≤ 20) : (sortL ws).length ≤ 20 := by
  unfold sortL
  split
  · rw [srt_len]; exact hn
  · simp
theorem pair_at (S : List (Int × Int)) (i : Nat) (hi : i < S.length) : ∃ p q, (prs (S.headD (0, 0)) S)[i]? = some (p, q) ∧ S[i]? = some p ∧ S[(i + 1) % S.length]? = some q := by
  have hm : (i + 1) % S.length < S.length := Nat.mod_lt _ (by omega)
  exact ⟨S[i], S[(i + 1) % S.length]'hm, prs_round (0, 0) S i hi, List.getElem?_eq_getElem hi, List.getElem?_eq_getElem hm⟩

theorem wr_small (i : Nat) (h : i ≤ 1000) : wrap64 ((i : Int) + 1) = (i : Int) + 1 ∧ IntKind.i64.wrap ((i : Int) + 1) = (i : Int) + 1 := ⟨by unfold wrap64; omega, wrap_small _ (by omega) (by omega)⟩
theorem below_drewN (W : World) (n : Nat) : Below W.heap.size W (W.drewN n) := ⟨rfl, rfl, rfl, Nat.le_refl _, fun _ _ => rfl⟩
theorem keeps_below {W V : World} (h : Below W.heap.size W V) : KeepsOthers W V := ⟨h.size, fun k _ hk _ => (h.block k (Array.getElem?_eq_some_iff.1 hk).1).trans hk⟩
theorem WaysL.under {w w1 : World} {b o S : Nat} {ws : List (Int × Int)} (h : WaysL w b o ws) (hS : b < S) (hb : Below S w w1) : WaysL w1 b o ws := by
  have c : ∀ j v, w.cell? ⟨b, j, none⟩ = some v → w1.cell? ⟨b, j, none⟩ = some v := fun j v h => (hb.cell (p := ⟨b, j, none⟩) hS).trans h
  exact ⟨Nat.lt_of_lt_of_le h.1 hb.size, fun i p hi => ⟨c _ _ (h.2 i p hi).1, c _ _ (h.2 i p hi).2⟩⟩
theorem WaysL.put {w : World} {b o a : Nat} {ws : List (Int × Int)} (h : WaysL w b o ws) (hb : b ≠ a) (v : Value) : WaysL (w.setCell ⟨a, 0, none⟩ v) b o ws := by
  have hh : (w.setCell ⟨a, 0, none⟩ v).heap[b]? = w.heap[b]? := Below.heap_setCell _ _ _ _ hb
  have c : ∀ j u, w.cell? ⟨b, j, none⟩ = some u → (w.setCell ⟨a, 0, none⟩ v).cell? ⟨b, j, none⟩ = some u := fun j u h => (World.cell?_of_block (a := ⟨b, j, none⟩) hh).trans h
  exact ⟨by have := h.1; simpa [World.setCell] using this, fun i p hi => ⟨c _ _ (h.2 i p hi).1, c _ _ (h.2 i p hi).2⟩⟩
theorem Marks.put {B b : Nat} {X : World} (v : Value) : ∀ {l : List Nat}, Marks B l X → (∀ D ∈ l, D ≠ b) → Marks B l (X.setCell ⟨b, 0, none⟩ v)
  | [], _, _ => trivial
  | D :: _, ⟨h1, h2, h3, h4⟩, hs => ⟨h1, (Below.heap_setCell _ _ _ _ (hs D (by simp))).trans h2, h3, h4.put v (fun E hE => hs E (by simp [hE]))⟩
theorem KpF.put {m B b : Nat} (W : World) (v : Value) (hm : m ≤ b) (hb : b < B) : KpF m B W (W.setCell ⟨b, 0, none⟩ v) :=
  ⟨by simp [World.setCell], fun k o hk hc => (Below.heap_setCell _ _ _ _ (fun e => by have e : k = b := e; subst e; omega)).trans hk⟩

/-- What a turn of rounds leaves alone: all that lay when Round had answered, the turn's number, what is deferred. -/
def RoE (m : World) (bT : Nat) (t : Int) (DS : List Nat) (W : World) : Prop := Below m.heap.size m W ∧ Row W bT [.int .i64 t] ∧ Marks m.heap.size DS W
section
variable {m X Y : World} {bT : Nat} {t : Int} {DS : List Nat}
theorem RoE.under {s : Nat} (h : RoE m bT t DS X) (h1 : m.heap.size ≤ s) (h2 : bT < s) (h3 : ∀ D ∈ DS, D < s) (hb : Below s X Y) : RoE m bT t DS Y := by
  obtain ⟨a1, a2, a3⟩ := h
  exact ⟨a1.trans (hb.mono h1), a2.below hb h2, a3.below h3 hb⟩
theorem RoE.after (h : RoE m bT t DS X) (hb : Below X.heap.size X Y) : RoE m bT t DS Y := h.under h.1.size h.2.1.1 h.2.2.lt hb
theorem RoE.put (h : RoE m bT t DS X) {b : Nat} (h1 : m.heap.size ≤ b) (h2 : bT ≠ b) (h3 : ∀ D ∈ DS, D ≠ b) (v : Value) : RoE m bT t DS (X.setCell ⟨b, 0, none⟩ v) := by
  obtain ⟨a1, a2, a3⟩ := h
  exact ⟨below_put1 a1 h1 _ _, a2.other (p := ⟨b, 0, none⟩) (Ne.symm h2) _, a3.put v h3⟩
end
theorem SeqU.later {α : Type} {F : Fence} {n : Nat} {P : Program} {g : Nat} {lb : Array Value} {encs : α → Array Value} {Kp : Nat → World → World → Prop} {T : List α} {w w' : World} (h : SeqU F n P g lb encs Kp T w) (hb : Below w.heap.size w w') : SeqU F n P g lb encs Kp T w' :=
  fun l J Jx W hW hJ hJx hY h0 => h l J Jx W (hb.trans (hW.mono hb.size)) hJ hJx hY h0
theorem prefix_at {α : Type} {pre T : List α} {x : α} (h : (pre ++ [x]) <+: T) : T[pre.length]? = some x := by
  obtain ⟨r, rfl⟩ := h
  simp
/-- Between the rounds of a turn. -/
def RoJ (E : World → Prop) (many : Int) (bN : Nat) (t : Int) (pre : List ((Int × Int) × (Int × Int))) (W : World) : Prop :=
  E W ∧ Row W bN [.int .i64 (pre.length : Nat)] ∧ (t = 0 → pre = [] ∨ (pre.length : Int) < many)
/-- A turn that is left, since there are enough. -/
def RoX (E : World → Prop) (many : Int) (bN : Nat) (t : Int) (c : Code) (pre : List ((Int × Int) × (Int × Int))) (W : World) : Prop :=
  c = .exit 2 ∧ t = 0 ∧ (∃ p x, pre = p ++ [x] ∧ (p = [] ∨ (p.length : Int) < many)) ∧ many ≤ (pre.length : Nat) ∧ E W ∧ Row W bN [.int .i64 (pre.length : Nat)]
theorem ro_done {n : Nat} {many : Int} {T : List ((Int × Int) × (Int × Int))} (hn : T.length = n) (h : T = [] ∨ (T.length : Int) < many) : ((T.length : Nat) : Int) = min ((n : Nat) : Int) (max 1 many) := by
  rcases h with h | h
  · subst h; simp at hn; subst hn; simp; omega
  · omega
theorem RoX.left {E : World → Prop} {W : World} {many t : Int} {T pre : List ((Int × Int) × (Int × Int))} {bN n : Nat} {c : Code} (h : RoX E many bN t c pre W) (hn : T.length = n) (hp : pre <+: T) :
    c = .exit 2 ∧ t = 0 ∧ ∃ N : Nat, (N : Int) = min ((n : Nat) : Int) (max 1 many) ∧ E W ∧ Row W bN [.int .i64 (N : Nat)] := by
  obtain ⟨rfl, h0, ⟨p, x, rfl, hpm⟩, hpl, hE, hN⟩ := h
  refine ⟨rfl, h0, _, ?_, hE, hN⟩
  have hl := hp.length_le
  simp only [List.length_append, List.length_cons, List.length_nil] at hl hpl ⊢
  rcases hpm with h | h
  · subst h; simp at hl hpl ⊢; omega
  · omega

set_option maxRecDepth 100000 in
set_option maxHeartbeats 8000000 in
theorem rounds_any (ws : List (Int × Int)) (b o c nS wc : Nat) (Wa : Option Addr) (many : Int) (w : World) (hn : ws.length ≤ 20) (hx : WaysL w b o ws) (hnS : (sortL ws).length = nS)
    (hwa : 0 < nS → ∃ g, Wa = some ⟨g, 0, none⟩ ∧ WaysL w g 0 (sortL ws)) :
    Calls Try.prog 24 #[.slice (some ⟨b, o, none⟩) ws.length c, .slice Wa nS wc, .int .i64 many] w fun e w' => e = .returned (.bool true) ∧ Below w.heap.size w w' := by
  have hS20 : nS ≤ 20 := by rw [← hnS]; exact sort_len ws hn
  have HQL := Lib.hid (quart_len ws hn)
  have HRN := Lib.hid (fun W (h : Below w.heap.size w W) => round_any ws b o c W hn (hx.below h))
  have HWH := Lib.hid (whole_quart ws)
  have HTl : Hid ((prs ((sortL ws).headD (0, 0)) (sortL ws)).length = nS) := Lib.hid (by rw [prs_len]; exact hnS)
  have HTa : Hid (∀ i, i < nS → ∃ p q, (prs ((sortL ws).headD (0, 0)) (sortL ws))[i]? = some (p, q) ∧ (sortL ws)[i]? = some p ∧ (sortL ws)[(i + 1) % nS]? = some q) := Lib.hid (by rw [← hnS]; exact pair_at (sortL ws))
  have HWa := Lib.hid hwa
  clear hx hnS hwa hn
  generalize ws.length = n at HRN ⊢
  refine (callsIn_wide (n := 12)).1 ?_
  refine callsIn_of_wp_marks Try.func24 rfl trivial ?_ rfl
  simp only [Try.ntmps24, List.size_toArray, List.length_cons, List.length_nil, Nat.reduceAdd, Nat.reduceSub, Array.replicate_succ, Array.replicate_zero, List.push_toArray, List.append_toArray, List.nil_append, List.cons_append]
  refine wpIn_wide.2 ?_
  go_wp2_with fail
  generalize hW : World.alloc _ _ = W0
  have hB0 : Below w.heap.size w W0 := by rw [← hW]; exact (((Below.refl _ _).alloc (Nat.le_refl _) _).alloc (by simp) _).alloc (by simp; omega) _
  have r0 : Row W0 w.heap.size [.slice Wa nS wc] := by rw [← hW]; exact ((Row.at rfl _ _).alloc _).alloc _
  have r1 : Row W0 (w.heap.size + 1) [.int .i64 many] := by rw [← hW]; exact (Row.at (by simp) _ _).alloc _
  have r2 : Row W0 (w.heap.size + 2) [.bool false] := by rw [← hW]; exact Row.at (by simp) _ _
  have hz0 : w.heap.size + 3 ≤ W0.heap.size := r2.1
  clear hW
  refine (HRN.out W0 hB0).mono ?_
  rintro e w4 ⟨C, A, N, cap, rfl, hC, rC, hq, hb⟩
  replace hB0 := hB0.trans (hb.mono hB0.size)
  replace r0 := r0.after hb
  replace r1 := r1.after hb
  replace r2 := r2.after hb
  replace hz0 := Nat.le_trans hz0 hb.size
  have HSEQ := Lib.hid (round1_u 7 C A N cap (quartL ws) (0, 0) w4 rC hq (fun q hq' => by rw [(hq q hq').1]; exact HQL.out q))
  rw [HWH.out] at HSEQ
  clear hb rC hq HQL HRN HWH hC
  replace HWa := Lib.hid (fun h0 => (HWa.out h0).elim fun g hg => (⟨g, hg.1, hg.2.below hB0⟩ : ∃ g, Wa = some ⟨g, 0, none⟩ ∧ WaysL w4 g 0 (sortL ws)))
  generalize prs ((sortL ws).headD (0, 0)) (sortL ws) = T at *
  generalize sortL ws = S at *
  go_wp2_with fail
  refine wp_loop_rounds 3 ?_
  rw [rounds_succ]
  go_wp2_with fail
  generalize hW : World.alloc _ _ = W1
  have hbT : Row W1 (w4.heap.size) [.int .i64 0] := by rw [← hW]; exact (Row.at (by simp) _ _).alloc _
  have hbN : Row W1 (w4.heap.size + 1) [.int .i64 0] := by rw [← hW]; exact Row.at (by simp) _ _
  have hB1 : Below w4.heap.size w4 W1 := by rw [← hW]; exact ((Below.refl _ _).alloc (Nat.le_refl _) _).alloc (by simp) _
  have hE : RoE w4 w4.heap.size 0 [] W1 := ⟨hB1, hbT, trivial⟩
  clear hB1
  clear hW
  have hlW : w4.heap.size + 1 < W1.heap.size := hbN.1
  refine (wpIn_wide (n := 9)).1 ?_
  refine wpIn_range_u (α := (Int × Int) × (Int × Int)) rfl (by omega) (gf := 54) (lb := #[.pointer (some ⟨C, 0, none⟩)]) rfl trivial (enters_of Try.func54 (by kernel_rfl) rfl)
    (HSEQ.out.later hE.1) KpF.trans (fun _ _ W o o' _ h2 h hc => KpF.turn W o o' h2 h hc) (fun _ _ _ h => KpF.below h) (Below.refl _ _) (fun _ => rfl)
    (RoJ (RoE w4 (w4.heap.size) 0 []) many (w4.heap.size + 1) 0) (RoX (RoE w4 (w4.heap.size) 0 []) many (w4.heap.size + 1) 0)
    (fun pre X Y h hb => ⟨h.1.under hE.1.size hbT.1 hE.2.2.lt hb, h.2.1.below hb hbN.1, h.2.2⟩)
    (fun c pre X Y h hb => ⟨h.1, h.2.1, h.2.2.1, h.2.2.2.1, h.2.2.2.2.1.under hE.1.size hbT.1 hE.2.2.lt hb, h.2.2.2.2.2.below hb hbN.1⟩)
    ⟨hE, hbN, fun _ => .inl rfl⟩
    (fun x a' W => ∃ Ba Bb, W1.heap.size + 2 ≤ Ba ∧ W1.heap.size + 2 ≤ Bb ∧ Row W Ba [.int .i64 x.1.1, .int .i64 x.1.2] ∧ Row W Bb [.int .i64 x.2.1, .int .i64 x.2.2] ∧ a' = { tmps := #[.slice (some ⟨b, o, none⟩) n c, .slice Wa nS wc, .int .i64 many, undef, .pointer (some ⟨w.heap.size, 0, none⟩), .pointer (some ⟨w.heap.size + 1, 0, none⟩), .pointer (some ⟨w.heap.size + 1 + 1, 0, none⟩), .func (.func 54) #[] #[.pointer (some ⟨C, 0, none⟩)], .pointer (some ⟨w4.heap.size, 0, none⟩), .pointer (some ⟨w4.heap.size + 1, 0, none⟩), .pointer (some ⟨Ba, 0, none⟩), .pointer (some ⟨Bb, 0, none⟩), .slice (some ⟨b, o, none⟩) n c, .func (.func 54) #[] #[.pointer (some ⟨C, 0, none⟩)], .int .i64 0, .bool true, undef, undef, .func (.func 54) #[] #[.pointer (some ⟨C, 0, none⟩)], .agg #[.int .i64 x.1.1, .int .i64 x.1.2], .agg #[.int .i64 x.2.1, .int .i64 x.2.2], undef, undef, undef, undef, undef, undef, undef, undef, undef, undef, undef, undef, undef, undef, undef, undef, undef, undef, undef, undef, undef, undef, undef, undef, undef, undef, undef, undef, undef, undef, undef, undef, undef, undef, undef, undef, undef, undef, undef, undef, undef, undef, undef, undef, undef, undef, undef, undef, undef, undef, undef, undef, undef, undef, undef], defers := [] })
    (fun x a' W lo o h1 h2 ⟨Ba, Bb, ha, hb, r1, r2, e⟩ => ⟨Ba, Bb, ha, hb, r1.turn (by omega) o, r2.turn (by omega) o, e⟩) ?assign0 ?body0 ?done0 ?stop0
  case assign0 =>
    intro l' pre x W K hI hW hK
    clear hI
    unfold encW
    gi_wp2
    refine hK _ _ ?_ ⟨W.heap.size, W.heap.size + 1, hW, by omega, ?_, ?_, rfl⟩
    · exact ((Below.refl _ _).alloc (Nat.le_refl _) _).alloc (by simp) _
    · exact (Row.new _ _ _).alloc _
    · exact Row.at (by simp) _ _
  case body0 =>
    rintro l' pre x a' W ⟨hE2, hNW, hT0⟩ hW hp ⟨Ba, Bb, hBa, hBb, q1, q2, rfl⟩
    have hl : pre.length < nS := by have := hp.length_le; rw [HTl.out] at this; simp at this; omega
    obtain ⟨p, q, hTi, hSi, hSj⟩ := HTa.out _ hl
    obtain rfl : x = (p, q) := by have := prefix_at hp; rw [hTi] at this; exact (Option.some.inj this).symm
    obtain ⟨g, rfl, hw⟩ := HWa.out (by omega)
    have hw2 := hw.below hE2.1
    obtain ⟨z0, z1⟩ := hw2.2 _ p hSi
    obtain ⟨y0, y1⟩ := hw2.2 _ q hSj
    rw [Nat.zero_add] at z0 z1 y0 y1
    have e4 := (r0.after hE2.1).c 0 rfl
    have e5 := (r1.after hE2.1).c 0 rfl
    have e8 := hE2.2.1.c 0 rfl
    have e9 := hNW.c 0 rfl
    have f9 := hNW.f 0 rfl
    have a0 := q1.c 0 rfl
    have a1 := q1.c 1 rfl
    have d0 := q2.c 0 rfl
    have d1 := q2.c 1 rfl
    have HNW := Lib.hid hNW
    have HE := Lib.hid hE2
    have HT0 := Lib.hid hT0
    have hlN : w4.heap.size + 1 < W.heap.size := hNW.1
    clear hE2 hNW q1 q2 hw hw2 hTi hSi hSj hp hT0 hE hbT hbN
    obtain ⟨i, hi⟩ : ∃ i, i = pre.length := ⟨_, rfl⟩
    rw [← hi] at z0 z1 y0 y1 e9 hl
    obtain ⟨j, hj⟩ : ∃ j, j = (i + 1) % nS := ⟨_, rfl⟩
    rw [← hj] at y0 y1
    have hj0 : (j : Int) < nS := by have := Nat.mod_lt (i + 1) (show 0 < nS by omega); rw [← hj] at this; omega
    have hrem : Int.tmod ((i : Int) + 1) (nS : Int) = (j : Int) := by rw [Int.tmod_eq_emod_of_nonneg (by omega), hj, Int.natCast_emod, Int.natCast_add]; rfl
    have hi0 : (i : Int) < nS := by omega
    have hS20' : (nS : Int) ≤ 20 := by omega
    have hn0 : nS ≠ 0 := by omega
    have hj00 : (0 : Int) ≤ j := by omega
    have hdec : decide (nS ≤ i) = false := by simp; omega
    have hlj : j < nS := by omega
    have hi20 : i ≤ 1000 := by omega
    have hwr : wrap64 ((i : Int) + 1) = (i : Int) + 1 := (wr_small i hi20).1
    have hwr2 : IntKind.i64.wrap ((i : Int) + 1) = (i : Int) + 1 := (wr_small i hi20).2
    have HI := Lib.hid hi
    clear hi hj
    have n1 := neqWay p.1 p.2 p.1 p.2
    have n2 := neqWay q.1 q.2 q.1 q.2
    rw [show (!(p.1 == p.1 && p.2 == p.2)) = false by simp] at n1
    rw [show (!(q.1 == q.1 && q.2 == q.2)) = false by simp] at n2
    gi_wp2_with fail
    refine wpIn_region_quiet_round (by kernel_rfl) (by kernel_rfl) (by kernel_rfl) ?_
    repeat (quiet_step_in (fail))
    refine wpQuietIn_nil ?_
    rintro _ ⟨nq, rfl⟩
    have hBV := below_drewN W nq
    replace HE := Lib.hid (HE.out.after hBV)
    replace HNW := HNW.out.after hBV
    have HKO := Lib.hid (keeps_below hBV)
    have HKF := Lib.hid (KpF.below (m := w4.heap.size) (B := W1.heap.size + 2) hBV)
    generalize W.drewN nq = V at *
    clear e4 e5 e8 e9 f9 a0 a1 d0 d1 z0 z1 y0 y1 n1 n2 hdec hrem hBV
    have e5 := (r1.after HE.out.1).c 0 rfl
    have e8 := HE.out.2.1.c 0 rfl
    have e9 := HNW.c 0 rfl
    have f9 := HNW.f 0 rfl
    have hNW' := HNW.set 0 (by simp) (.int .i64 ((pre.length : Int) + 1))
    have eL : [Value.int .i64 ((pre.length : Nat) : Int)].set 0 (.int .i64 ((pre.length : Int) + 1)) = [.int .i64 (((pre ++ [(p, q)]).length : Nat) : Int)] := by simp
    rw [eL, ← HI.out] at hNW'
    rw [← HI.out] at e9
    replace HNW := Lib.hid hNW'
    clear eL hNW'
    have hfin : ∀ u, KeepsFrom W1.heap.size W (V.setCell ⟨w4.heap.size + 1, 0, none⟩ u) ∧ KpF w4.heap.size (W1.heap.size + 2) W (V.setCell ⟨w4.heap.size + 1, 0, none⟩ u) ∧ RoE w4 (w4.heap.size) 0 [] (V.setCell ⟨w4.heap.size + 1, 0, none⟩ u) := fun u =>
      ⟨(HKO.out.trans (KeepsOthers.setCell _ _ _)).from _, HKF.out.trans (KpF.put V u (by omega) (by omega)), HE.out.put (by omega) (by omega) (fun _ h => absurd h (by simp)) u⟩
    have HF := Lib.hid hfin
    have HL : Hid ((i : Int) + 1 = ((pre ++ [(p, q)]).length : Nat)) := Lib.hid (by rw [HI.out]; simp)
    have HLp := Lib.hid (show (i : Int) = (pre.length : Nat) by rw [HI.out])
    clear hfin
    by_cases hbr : many ≤ (i : Int) + 1
    · gi_wp2_with fail
      exact ⟨(HF.out _).1, (HF.out _).2.1, rfl, rfl, ⟨pre, (p, q), rfl, HT0.out (by first | rfl | trivial)⟩, by rw [← HL.out]; exact hbr, (HF.out _).2.2, HNW.out⟩
    · gi_wp2_with fail
      exact ⟨(HF.out _).1, (HF.out _).2.1, (HF.out _).2.2, HNW.out, fun _ => .inr (by rw [← HL.out]; omega)⟩
  all_goals
    first
      | (rintro D0 V0 hD ⟨hE2, hNW, hT0⟩ hK
         obtain ⟨N0, hN, hNW⟩ : ∃ N0 : Nat, (N0 : Int) = min ((nS : Nat) : Int) (max 1 many) ∧ Row V0 (w4.heap.size + 1) [.int .i64 (N0 : Nat)] := ⟨_, ro_done HTl.out (hT0 rfl), hNW⟩
         clear hT0)
      | (rintro D0 cx pre V0 hD hp hX hK
         obtain ⟨rfl, _, N0, hN, hE2, hNW⟩ := hX.left HTl.out hp
         clear hX hp
         refine wpIn_wide.2 ?_)
    have hcmp : ((N0 : Int) != min ((nS : Nat) : Int) (max 1 many)) = false := by rw [← hN]; simp
    have e4 := (r0.after hE2.1).c 0 rfl
    have e5 := (r1.after hE2.1).c 0 rfl
    have e8 := hE2.2.1.c 0 rfl
    have e9 := hNW.c 0 rfl
    have lD := (Array.getElem?_eq_some_iff.1 hK).1
    have hwD : w4.heap.size ≤ D0 := Nat.le_trans hE.1.size hD
    have HE0 := Lib.hid hE2.1
    have HK0 := Lib.hid hK
    clear hE hbT hbN hD hE2 hK hN hNW
    go_wp2_with fail
    clear e4 e5 e8 e9 hcmp
    rw [rounds_succ]
    go_wp2_with fail
    generalize hW : World.alloc _ _ = W1
    have hbT : Row W1 (V0.heap.size) [.int .i64 1] := by rw [← hW]; exact (Row.at (by simp) _ _).alloc _
    have hbN : Row W1 (V0.heap.size + 1) [.int .i64 0] := by rw [← hW]; exact Row.at (by simp) _ _
    have hB1 : Below V0.heap.size V0 W1 := by rw [← hW]; exact ((Below.refl _ _).alloc (Nat.le_refl _) _).alloc (by simp) _
    have hE : RoE w4 (V0.heap.size) 1 [D0] W1 := ⟨HE0.out.trans (hB1.mono HE0.out.size), hbT, ⟨hwD, (hB1.block D0 lD).trans HK0.out, by simp, trivial⟩⟩
    have hw0 := HE0.out.size
    clear hB1 HE0 HK0
    clear hW
    have hlW : V0.heap.size + 1 < W1.heap.size := hbN.1
    refine (wpIn_wide (n := 9)).1 ?_
    refine wpIn_range_u (α := (Int × Int) × (Int × Int)) rfl (by omega) (gf := 54) (lb := #[.pointer (some ⟨C, 0, none⟩)]) rfl trivial (enters_of Try.func54 (by kernel_rfl) rfl)
      (HSEQ.out.later hE.1) KpF.trans (fun _ _ W o o' _ h2 h hc => KpF.turn W o o' h2 h hc) (fun _ _ _ h => KpF.below h) (Below.refl _ _) (fun _ => rfl)
      (RoJ (RoE w4 (V0.heap.size) 1 [D0]) many (V0.heap.size + 1) 1) (RoX (RoE w4 (V0.heap.size) 1 [D0]) many (V0.heap.size + 1) 1)
      (fun pre X Y h hb => ⟨h.1.under hE.1.size hbT.1 hE.2.2.lt hb, h.2.1.below hb hbN.1, h.2.2⟩)
      (fun c pre X Y h hb => ⟨h.1, h.2.1, h.2.2.1, h.2.2.2.1, h.2.2.2.2.1.under hE.1.size hbT.1 hE.2.2.lt hb, h.2.2.2.2.2.below hb hbN.1⟩)
      ⟨hE, hbN, fun _ => .inl rfl⟩
      (fun x a' W => ∃ Ba Bb, W1.heap.size + 2 ≤ Ba ∧ W1.heap.size + 2 ≤ Bb ∧ Row W Ba [.int .i64 x.1.1, .int .i64 x.1.2] ∧ Row W Bb [.int .i64 x.2.1, .int .i64 x.2.2] ∧ a' = { tmps := #[.slice (some ⟨b, o, none⟩) n c, .slice Wa nS wc, .int .i64 many, undef, .pointer (some ⟨w.heap.size, 0, none⟩), .pointer (some ⟨w.heap.size + 1, 0, none⟩), .pointer (some ⟨w.heap.size + 1 + 1, 0, none⟩), .func (.func 54) #[] #[.pointer (some ⟨C, 0, none⟩)], .pointer (some ⟨V0.heap.size, 0, none⟩), .pointer (some ⟨V0.heap.size + 1, 0, none⟩), .pointer (some ⟨Ba, 0, none⟩), .pointer (some ⟨Bb, 0, none⟩), .slice (some ⟨b, o, none⟩) n c, .func (.func 54) #[] #[.pointer (some ⟨C, 0, none⟩)], .int .i64 1, .bool true, .int .i64 0, .int .i64 1, .func (.func 54) #[] #[.pointer (some ⟨C, 0, none⟩)], .agg #[.int .i64 x.1.1, .int .i64 x.1.2], .agg #[.int .i64 x.2.1, .int .i64 x.2.2], undef, undef, undef, undef, undef, undef, undef, undef, undef, undef, undef, undef, undef, undef, undef, undef, undef, undef, undef, undef, undef, undef, undef, undef, undef, undef, undef, undef, undef, undef, undef, undef, undef, .int .i64 0, .bool true, .bool true, .int .i64 N0, .slice Wa nS wc, .int .i64 nS, .int .i64 many, .int .i64 (max 1 many), .int .i64 (min (nS : Int) (max 1 many)), .bool false, .bool false, .bool false, .int .i64 0, .bool false, .bool false, undef, undef, undef, undef, .bool false, .bool false, .int .i64 0], defers := [] })
      (fun x a' W lo o h1 h2 ⟨Ba, Bb, ha, hb, r1, r2, e⟩ => ⟨Ba, Bb, ha, hb, r1.turn (by omega) o, r2.turn (by omega) o, e⟩) ?assign1 ?body1 ?done1 ?stop1
    case assign1 =>
      intro l' pre x W K hI hW hK
      clear hI
      unfold encW
      gi_wp2
      refine hK _ _ ?_ ⟨W.heap.size, W.heap.size + 1, hW, by omega, ?_, ?_, rfl⟩
      · exact ((Below.refl _ _).alloc (Nat.le_refl _) _).alloc (by simp) _
      · exact (Row.new _ _ _).alloc _
      · exact Row.at (by simp) _ _
    case body1 =>
      rintro l' pre x a' W ⟨hE2, hNW, hT0⟩ hW hp ⟨Ba, Bb, hBa, hBb, q1, q2, rfl⟩
      have hl : pre.length < nS := by have := hp.length_le; rw [HTl.out] at this; simp at this; omega
      obtain ⟨p, q, hTi, hSi, hSj⟩ := HTa.out _ hl
      obtain rfl : x = (p, q) := by have := prefix_at hp; rw [hTi] at this; exact (Option.some.inj this).symm
      obtain ⟨g, rfl, hw⟩ := HWa.out (by omega)
      have hw2 := hw.below hE2.1
      obtain ⟨z0, z1⟩ := hw2.2 _ p hSi
      obtain ⟨y0, y1⟩ := hw2.2 _ q hSj
      rw [Nat.zero_add] at z0 z1 y0 y1
      have e4 := (r0.after hE2.1).c 0 rfl
      have e5 := (r1.after hE2.1).c 0 rfl
      have e8 := hE2.2.1.c 0 rfl
      have e9 := hNW.c 0 rfl
      have f9 := hNW.f 0 rfl
      have a0 := q1.c 0 rfl
      have a1 := q1.c 1 rfl
      have d0 := q2.c 0 rfl
      have d1 := q2.c 1 rfl
      have HNW := Lib.hid hNW
      have HE := Lib.hid hE2
      have HT0 := Lib.hid hT0
      have hlN : V0.heap.size + 1 < W.heap.size := hNW.1
      clear hE2 hNW q1 q2 hw hw2 hTi hSi hSj hp hT0 hE hbT hbN
      obtain ⟨i, hi⟩ : ∃ i, i = pre.length := ⟨_, rfl⟩
      rw [← hi] at z0 z1 y0 y1 e9 hl
      obtain ⟨j, hj⟩ : ∃ j, j = (i + 1) % nS := ⟨_, rfl⟩
      rw [← hj] at y0 y1
      have hj0 : (j : Int) < nS := by have := Nat.mod_lt (i + 1) (show 0 < nS by omega); rw [← hj] at this; omega
      have hrem : Int.tmod ((i : Int) + 1) (nS : Int) = (j : Int) := by rw [Int.tmod_eq_emod_of_nonneg (by omega), hj, Int.natCast_emod, Int.natCast_add]; rfl
      have hi0 : (i : Int) < nS := by omega
      have hS20' : (nS : Int) ≤ 20 := by omega
      have hn0 : nS ≠ 0 := by omega
      have hj00 : (0 : Int) ≤ j := by omega
      have hdec : decide (nS ≤ i) = false := by simp; omega
      have hlj : j < nS := by omega
      have hi20 : i ≤ 1000 := by omega
      have hwr : wrap64 ((i : Int) + 1) = (i : Int) + 1 := (wr_small i hi20).1
      have hwr2 : IntKind.i64.wrap ((i : Int) + 1) = (i : Int) + 1 := (wr_small i hi20).2
      have HI := Lib.hid hi
      clear hi hj
      have n1 := neqWay p.1 p.2 p.1 p.2
      have n2 := neqWay q.1 q.2 q.1 q.2
      rw [show (!(p.1 == p.1 && p.2 == p.2)) = false by simp] at n1
      rw [show (!(q.1 == q.1 && q.2 == q.2)) = false by simp] at n2
      gi_wp2_with fail
      refine wpIn_region_quiet_round (by kernel_rfl) (by kernel_rfl) (by kernel_rfl) ?_
      repeat (quiet_step_in (fail))
      refine wpQuietIn_nil ?_
      rintro _ ⟨nq, rfl⟩
      have hBV := below_drewN W nq
      replace HE := Lib.hid (HE.out.after hBV)
      replace HNW := HNW.out.after hBV
      have HKO := Lib.hid (keeps_below hBV)
      have HKF := Lib.hid (KpF.below (m := w4.heap.size) (B := W1.heap.size + 2) hBV)
      generalize W.drewN nq = V at *
      clear e4 e5 e8 e9 f9 a0 a1 d0 d1 z0 z1 y0 y1 n1 n2 hdec hrem hBV
      have e5 := (r1.after HE.out.1).c 0 rfl
      have e8 := HE.out.2.1.c 0 rfl
      have e9 := HNW.c 0 rfl
      have f9 := HNW.f 0 rfl
      have hNW' := HNW.set 0 (by simp) (.int .i64 ((pre.length : Int) + 1))
      have eL : [Value.int .i64 ((pre.length : Nat) : Int)].set 0 (.int .i64 ((pre.length : Int) + 1)) = [.int .i64 (((pre ++ [(p, q)]).length : Nat) : Int)] := by simp
      rw [eL, ← HI.out] at hNW'
      rw [← HI.out] at e9
      replace HNW := Lib.hid hNW'
      clear eL hNW'
      have hfin : ∀ u, KeepsFrom W1.heap.size W (V.setCell ⟨V0.heap.size + 1, 0, none⟩ u) ∧ KpF w4.heap.size (W1.heap.size + 2) W (V.setCell ⟨V0.heap.size + 1, 0, none⟩ u) ∧ RoE w4 (V0.heap.size) 1 [D0] (V.setCell ⟨V0.heap.size + 1, 0, none⟩ u) := fun u =>
        ⟨(HKO.out.trans (KeepsOthers.setCell _ _ _)).from _, HKF.out.trans (KpF.put V u (by omega) (by omega)), HE.out.put (by omega) (by omega) (fun D hD => by simp at hD; omega) u⟩
      have HF := Lib.hid hfin
      have HL : Hid ((i : Int) + 1 = ((pre ++ [(p, q)]).length : Nat)) := Lib.hid (by rw [HI.out]; simp)
      have HLp := Lib.hid (show (i : Int) = (pre.length : Nat) by rw [HI.out])
      clear hfin
      gi_wp2_with fail
      exact ⟨(HF.out _).1, (HF.out _).2.1, (HF.out _).2.2, HNW.out, fun h => absurd h (by decide)⟩
    case stop1 =>
      rintro D cx pre V hD hp hX hK
      exact absurd hX.2.1 (by decide)
    case done1 =>
      rintro D V hD ⟨hE2, hNW, _⟩ hK
      rw [HTl.out] at hNW
      have e4 := (r0.after hE2.1).c 0 rfl
      have e5 := (r1.after hE2.1).c 0 rfl
      have e8 := hE2.2.1.c 0 rfl
      have e9 := hNW.c 0 rfl
      have hM : Marks w4.heap.size [D, D0] V := ⟨Nat.le_trans (Nat.le_trans hw0 (by omega)) hD, hK, fun E hE' => by simp at hE'; subst hE'; omega, hE2.2.2⟩
      have HM := Lib.hid hM
      have HE := Lib.hid hE2.1
      have r6 : Row V (w.heap.size + 1 + 1) [.bool false] := r2.after hE2.1
      have e6 := r6.c 0 rfl
      have f6 := r6.f 0 rfl
      have l6 := r6.1
      have HR6 := Lib.hid r6
      have hz2 : w.heap.size + 1 + 1 < w4.heap.size := by omega
      clear hE hbT hbN hD hE2 hK hNW hM r6
      go_wp2_with fail
      clear e4 e5 e8 e9
      rw [rounds_succ]
      go_wp2_with fail
      clear e6 f6
      have hDw := HM.out.1
      have hM2 := HM.out.put (b := w.heap.size + 1 + 1) (.bool true) (by intro E hE; simp at hE; omega)
      have r7 := HR6.out.set 0 (by simp) (.bool true)
      have hb7 : Below w.heap.size w (V.setCell ⟨w.heap.size + 1 + 1, 0, none⟩ (.bool true)) := below_put1 (hB0.trans (HE.out.mono hB0.size)) (by omega) _ _
      have hl7 : w.heap.size ≤ (V.setCell ⟨w.heap.size + 1 + 1, 0, none⟩ (.bool true)).heap.size := Nat.le_trans (by omega) r7.1
      generalize V.setCell ⟨w.heap.size + 1 + 1, 0, none⟩ (.bool true) = V3 at *
      generalize hVV : World.alloc _ _ = V4
      have hB3 : Below V3.heap.size V3 V4 := by rw [← hVV]; exact (Below.refl _ _).alloc (Nat.le_refl _) _
      have hM3 := hM2.below hM2.lt hB3
      replace r7 := r7.after hB3
      replace hb7 := hb7.trans (hB3.mono hl7)
      refine leaves_marks [D, D0] V4 hM3 fun V5 hV => ?_
      have c1 := (r7.below hV hz2).c 0 rfl
      exact ⟨.bool true, by simp [results, Try.results24, go_sem, c1], rfl, hb7.trans (hV.mono hB0.size)⟩
end Go.Proofs.Ytfdofajknnocfaa
