/- TagsLeaves walked: a range over All, left or not, twice. -/
import Derived.Test.YtjhcddlhhfjnaaaDoorVS
namespace Go.Proofs.YtjhcddlhhfjnaaaDoor
open Go.RowKit Go.Sort Go.Shelf
attribute [local go_sem] Oper.semAt_some
theorem Marks.put {B b : Nat} {X : World} (v : Value) : ∀ {l : List Nat}, Marks B l X → (∀ D ∈ l, D ≠ b) → Marks B l (X.setCell ⟨b, 0, none⟩ v)
  | [], _, _ => trivial
  | D :: _, ⟨h1, h2, h3, h4⟩, hs => ⟨h1, (Below.heap_setCell _ _ _ _ (hs D (by simp))).trans h2, h3, h4.put v (fun E hE => hs E (by simp [hE]))⟩
theorem SeqU.later {α : Type} {F : Fence} {n : Nat} {P : Program} {g : Nat} {lb : Array Value} {encs : α → Array Value} {Kp : Nat → World → World → Prop} {T : List α} {w w' : World} (h : SeqU F n P g lb encs Kp T w) (hb : Below w.heap.size w w') : SeqU F n P g lb encs Kp T w' :=
  fun l J Jx W hW hJ hJx hY h0 => h l J Jx W (hb.trans (hW.mono hb.size)) hJ hJx hY h0
/-- What a turn leaves alone: all that lay ahead of the turns, the turn's number, what is deferred. -/
def RoE (m : World) (bT : Nat) (t : Int) (DS : List Nat) (W : World) : Prop := Below m.heap.size m W ∧ Row W bT [.int .i64 t] ∧ Marks m.heap.size DS W
section
variable {m X Y : World} {bT : Nat} {t : Int} {DS : List Nat}
theorem RoE.under {s : Nat} (h : RoE m bT t DS X) (h1 : m.heap.size ≤ s) (h2 : bT < s) (h3 : ∀ D ∈ DS, D < s) (hb : Below s X Y) : RoE m bT t DS Y := by
  obtain ⟨a1, a2, a3⟩ := h
  exact ⟨a1.trans (hb.mono h1), a2.below hb h2, a3.below h3 hb⟩
theorem RoE.after (h : RoE m bT t DS X) (hb : Below X.heap.size X Y) : RoE m bT t DS Y := h.under h.1.size h.2.1.1 h.2.2.lt hb
theorem RoE.put (h : RoE m bT t DS X) {b : Nat} (h1 : m.heap.size ≤ b) (h2 : bT ≠ b) (h3 : ∀ D ∈ DS, D ≠ b) (v : Value) : RoE m bT t DS (X.setCell ⟨b, 0, none⟩ v) := by
  obtain ⟨a1, a2, a3⟩ := h
  exact ⟨below_put1 a1 h1 _ _, a2.other (p := ⟨b, 0, none⟩) (Ne.symm h2) _, a3.put v h3⟩
end
/-- Between the rounds of a turn. -/
def RoJ (E : World → Prop) (many : Int) (bN : Nat) (t : Int) (pre : List (Int × Int)) (W : World) : Prop :=
  E W ∧ Row W bN [.int .i64 (pre.length : Nat)] ∧ (t = 0 → pre = [] ∨ (pre.length : Int) < many)
/-- A turn that is left, since there are enough. -/
def RoX (E : World → Prop) (many : Int) (bN : Nat) (t : Int) (c : Code) (pre : List (Int × Int)) (W : World) : Prop :=
  c = .exit 2 ∧ t = 0 ∧ (∃ p x, pre = p ++ [x] ∧ (p = [] ∨ (p.length : Int) < many)) ∧ many ≤ (pre.length : Nat) ∧ E W ∧ Row W bN [.int .i64 (pre.length : Nat)]
theorem ro_done {n : Nat} {many : Int} {T : List (Int × Int)} (hn : T.length = n) (h : T = [] ∨ (T.length : Int) < many) : ((T.length : Nat) : Int) = min ((n : Nat) : Int) (max 1 many) := by
  rcases h with h | h
  · subst h; simp at hn; subst hn; simp; omega
  · omega
theorem RoX.left {E : World → Prop} {W : World} {many t : Int} {T pre : List (Int × Int)} {bN n : Nat} {c : Code} (h : RoX E many bN t c pre W) (hn : T.length = n) (hp : pre <+: T) :
    c = .exit 2 ∧ t = 0 ∧ ∃ N : Nat, (N : Int) = min ((n : Nat) : Int) (max 1 many) ∧ E W ∧ Row W bN [.int .i64 (N : Nat)] := by
  obtain ⟨rfl, h0, ⟨p, x, rfl, hpm⟩, hpl, hE, hN⟩ := h
  refine ⟨rfl, h0, _, ?_, hE, hN⟩
  have hl := hp.length_le
  simp only [List.length_append, List.length_cons, List.length_nil] at hl hpl ⊢
  rcases hpm with h | h
  · subst h; simp at hl hpl ⊢; omega
  · omega
theorem wr_next1 (k : Nat) (h : k < 1000000) : IntKind.i64.wrap ((k : Int) + 1) = (k : Int) + 1 := by
  simp [IntKind.wrap, IntKind.signed, IntKind.bits]
  omega
set_option maxRecDepth 100000 in
theorem leaves_many (A : Option Addr) (n c : Nat) (many : Int) (w : World) (hv : VarS w) (hs : 20 < n) :
    Calls Tryd.prog 3 #[.slice A n c, .int .i64 many] w fun e w' => e = .returned (.bool true) ∧ Below w.heap.size w w' := by
  have HW := Lib.hid (fun W (hW : Below w.heap.size w W) => works_any W (hv.after hW))
  clear hv
  have hs1 : (20 : Int) < n := by omega
  clear hs
  go_enter Tryd.func3, Tryd.ntmps3
  go_wp2_with fail
  generalize hW : World.alloc _ _ = W0
  have hR4 : Row W0 (w.heap.size + 1) [.bool false] := by rw [← hW]; exact Row.at (by simp) [_] _
  have hB0 : Below w.heap.size w W0 := by rw [← hW]; exact ((Below.refl _ _).alloc (Nat.le_refl _) _).alloc (by simp) _
  clear hW
  refine (HW.out _ hB0).mono ?_
  rintro e w1 ⟨rfl, hb⟩
  have r4 := hR4.after hb
  have x4 := r4.c 0 rfl
  have f4 := r4.f 0 rfl
  have r5 := (r4.set 0 (by simp) (.bool true)).c 0 rfl
  have hB1 : Below w.heap.size w (w1.setCell ⟨w.heap.size + 1, 0, none⟩ (.bool true)) := below_put1 (hB0.trans (hb.mono hB0.size)) (Nat.le_succ _) 0 _
  clear hb r4
  go_wp2_with fail
  exact bodyPost_ret (v := .bool true) (by simp [results, Tryd.results3, go_sem, r5]) rfl ⟨rfl, hB1⟩
set_option maxRecDepth 100000 in
set_option maxHeartbeats 12000000 in
theorem leaves_few (l : List Int) (A : Option Addr) (n c : Nat) (many : Int) (w : World) (hv : VarS w) (hn : n = l.length) (hs : ¬ 20 < n) (hA : CellsS w A (intCs l)) :
    Calls Tryd.prog 3 #[.slice A n c, .int .i64 many] w fun e w' => e = .returned (.bool true) ∧ Below w.heap.size w w' := by
  have HV := Lib.hid hv
  have HN := Lib.hid (fun W (hW : Below w.heap.size w W) => new_any l A n c W hn (by omega) (hA.after hW))
  have HR : Hid (∀ W, Below w.heap.size w W → Calls Tryd.prog 6 #[.slice A n c] W (RTagPost W (newA l).1 (expand (newA l).2))) := Lib.hid (fun W hW => by
    have h := rnew_any l A n c W hn (by omega) (hA.after hW)
    rw [new_same l] at h
    exact h)
  have hg := newA_good l
  have HK : Hid (∀ A' N' c' W, N' = (expand (newA l).2).length → CellsS W A' (intCs (expand (newA l).2)) → Calls Tryd.prog 7 #[.agg #[.slice A' N' c']] W (IntPost W (keysL (newA l).2))) := Lib.hid (fun A' N' c' W h1 h2 => by
    unfold keysL
    rw [← kinds_expand hg.rise hg.pos]
    exact rkinds_any _ A' N' c' W h1 (by have := (expand_bound hg).1; omega) h2)
  have HG := Lib.hid hg
  have hs0 : ¬ (20 : Int) < n := by omega
  clear hv hn hs hA hg
  generalize (newA l).1 = er at *
  generalize (newA l).2 = cs at *
  refine (callsIn_wide (n := 9)).1 ?_
  refine callsIn_of_wp_marks Tryd.func3 rfl trivial ?_ rfl
  simp only [Tryd.ntmps3, List.size_toArray, List.length_cons, List.length_nil, Nat.reduceAdd, Nat.reduceSub, Array.replicate_succ, Array.replicate_zero, List.push_toArray, List.append_toArray, List.nil_append, List.cons_append]
  refine wpIn_wide.2 ?_
  go_wp2_with fail
  generalize hW : World.alloc _ _ = W0
  have hR3 : Row W0 w.heap.size [.int .i64 many] := by rw [← hW]; exact (Row.at rfl [_] _).alloc _
  have hR4 : Row W0 (w.heap.size + 1) [.bool false] := by rw [← hW]; exact Row.at (by simp) [_] _
  have hB0 : Below w.heap.size w W0 := by rw [← hW]; exact ((Below.refl _ _).alloc (Nat.le_refl _) _).alloc (by simp) _
  clear hW
  refine (HN.out _ hB0).mono ?_
  rintro e W1 ⟨A5, N5, c5, rfl, hN, hC, hc, _, hb⟩
  have HY5 := Lib.hid (BoxT.made hN hC hc hb)
  clear hN hC hc hb HN
  go_wp2_with fail
  generalize hW : World.alloc _ _ = V1
  have HX5 : Hid (BoxT W0 W1.heap.size cs A5 N5 c5 V1) := Lib.hid (by rw [← hW]; exact HY5.out)
  clear hW HY5
  refine (HR.out _ (hB0.trans (HX5.out.bel.mono hB0.size))).mono ?_
  rintro e W2 ⟨A7, N7, c7, rfl, hN, hC, hc, _, hb⟩
  replace HX5 := Lib.hid (HX5.out.after hb)
  have HY7 := Lib.hid (BoxR.made hN hC hc HX5.out.bel)
  clear hN hC hc hb HR
  go_upto_region 5 with fail
  generalize hW : World.alloc _ _ = V2
  have HX7 : Hid (BoxR W0 W2.heap.size (expand cs) A7 N7 c7 V2) := Lib.hid (by rw [← hW]; exact HY7.out)
  have hu : Below W2.heap.size W2 V2 := by rw [← hW]; exact (Below.refl _ _).alloc (Nat.le_refl _) _
  replace HX5 := Lib.hid (HX5.out.after hu)
  clear hW hu HY7
  have x7 := HX7.out.row.c 0 rfl
  go_wp2_with fail
  refine (HK.out A7 N7 c7 _ HX7.out.len HX7.out.cells).mono ?_
  rintro e W3 ⟨Ak, Nk, ck, rfl, hNk, hCk, hck, _, hb⟩
  replace HX5 := Lib.hid (HX5.out.after hb)
  obtain rfl : N5 = Nk := by rw [HX5.out.len, hNk, keysL, List.length_map]
  have HCk := Lib.hid hCk
  clear x7 hb hNk hCk hck HX7 HK
  go_upto_region 6 with fail
  generalize hW : World.alloc _ _ = V3
  have hr9 : Row V3 W3.heap.size [.slice Ak N5 ck] := by rw [← hW]; exact Row.at rfl [_] _
  have hu : Below W3.heap.size W3 V3 := by rw [← hW]; exact (Below.refl _ _).alloc (Nat.le_refl _) _
  replace HX5 := Lib.hid (HX5.out.after hu)
  replace HCk := Lib.hid (HCk.out.after hu)
  clear hW hu
  generalize W3.heap.size = b9 at *
  generalize W2.heap.size = b7 at *
  generalize W1.heap.size = b5 at *
  have x5 := HX5.out.row.c 0 rfl
  go_wp2_with fail
  refine (all_any A5 N5 c5 _).mono ?_
  rintro e w4 ⟨E, rfl, hEs, hRE, hb⟩
  replace HX5 := Lib.hid (HX5.out.after hb)
  replace HCk := Lib.hid (HCk.out.after hb)
  have r9 := hr9.after hb
  have hb04 := HX5.out.bel
  have r3 : Row w4 w.heap.size [.int .i64 many] := hR3.after hb04
  have r4 : Row w4 (w.heap.size + 1) [.bool false] := hR4.after hb04
  have hB4 : Below w.heap.size w w4 := hB0.trans (hb04.mono hB0.size)
  have hlen5 : N5 ≤ 64 := by have := HX5.out.len; have := HG.out.len; omega
  have HSEQ := Lib.hid (all1_u 7 E cs A5 N5 c5 w4 HX5.out.len (by omega) hRE HX5.out.cells)
  have HA5 := Lib.hid HX5.out.cells
  have HT : Hid (cs.length = N5) := Lib.hid HX5.out.len.symm
  clear hb x5 hr9 hR3 hR4 hB0 hEs hRE hb04 HX5
  go_wp2_with fail
  refine wp_loop_rounds 3 ?_
  rw [rounds_succ]
  have hnil : ∀ W : World, (binOp .eql 36 (.func (.func 23) #[] #[.pointer (some ⟨E, 0, none⟩)]) .nilFunc).run Tryd.prog W = .ok (.bool false) W := fun W => by kernel_rfl
  have HNIL := Lib.hid hnil
  go_wp2_with fail
  clear hnil
  generalize hW : World.alloc _ _ = W1
  have hbT : Row W1 (w4.heap.size) [.int .i64 0] := by rw [← hW]; exact (Row.at (by simp) [_] _).alloc _
  have hbN : Row W1 (w4.heap.size + 1) [.int .i64 0] := by rw [← hW]; exact Row.at (by simp) [_] _
  have hB1 : Below w4.heap.size w4 W1 := by rw [← hW]; exact ((Below.refl _ _).alloc (Nat.le_refl _) _).alloc (by simp) _
  have hE : RoE w4 w4.heap.size 0 [] W1 := ⟨hB1, hbT, trivial⟩
  clear hB1 hW
  have hlW : w4.heap.size + 1 < W1.heap.size := hbN.1
  refine (wpIn_wide (n := 9)).1 ?_
  refine wpIn_range_u (α := Int × Int) rfl (by omega) (gf := 23) (lb := #[.pointer (some ⟨E, 0, none⟩)]) rfl trivial (enters_of Tryd.func23 (by kernel_rfl) rfl)
    (HSEQ.out.later hE.1) KeepsO.trans (fun _ l' W _ o' h _ _ _ => KeepsO.turn W o' (fun h0 a ha => CellsS.far (HA5.out.after hE.1) h (by rw [cntCs_len, HT.out]; omega) a ha)) (fun _ _ _ h => KeepsO.below h) (Below.refl _ _) (fun _ => rfl)
    (RoJ (RoE w4 (w4.heap.size) 0 []) many (w4.heap.size + 1) 0) (RoX (RoE w4 (w4.heap.size) 0 []) many (w4.heap.size + 1) 0)
    (fun pre X Y h hb => ⟨h.1.under hE.1.size hbT.1 hE.2.2.lt hb, h.2.1.below hb hbN.1, h.2.2⟩)
    (fun c pre X Y h hb => ⟨h.1, h.2.1, h.2.2.1, h.2.2.2.1, h.2.2.2.2.1.under hE.1.size hbT.1 hE.2.2.lt hb, h.2.2.2.2.2.below hb hbN.1⟩)
    ⟨hE, hbN, fun _ => .inl rfl⟩
    (fun x a' _ => a' = { tmps := #[.slice A n c, .int .i64 many, undef, .pointer (some ⟨w.heap.size, 0, none⟩), .pointer (some ⟨w.heap.size + 1, 0, none⟩), .pointer (some ⟨b5, 0, none⟩), .int .i64 er, .pointer (some ⟨b7, 0, none⟩), .int .i64 er, .pointer (some ⟨b9, 0, none⟩), .func (.func 23) #[] #[.pointer (some ⟨E, 0, none⟩)], .pointer (some ⟨w4.heap.size, 0, none⟩), .pointer (some ⟨w4.heap.size + 1, 0, none⟩), .int .i64 x.1, .slice A n c, .int .i64 n, .bool false, undef, .tuple #[.agg #[.slice A5 N5 c5], .int .i64 er], .slice A n c, .tuple #[.agg #[.slice A5 N5 c5], .int .i64 er], .agg #[.slice A5 N5 c5], .int .i64 er, .tuple #[.agg #[.slice A7 N7 c7], .int .i64 er], .slice A n c, .tuple #[.agg #[.slice A7 N7 c7], .int .i64 er], .agg #[.slice A7 N7 c7], .int .i64 er, .agg #[.slice A7 N7 c7], .slice Ak N5 ck, .agg #[.slice A5 N5 c5], .func (.func 23) #[] #[.pointer (some ⟨E, 0, none⟩)], .int .i64 0, .bool true, undef, undef, .func (.func 23) #[] #[.pointer (some ⟨E, 0, none⟩)], .bool false, .func (.func 23) #[] #[.pointer (some ⟨E, 0, none⟩)], .int .i64 x.1, .int .i64 x.2, undef, undef, undef, undef, undef, undef, undef, undef, undef, undef, undef, undef, undef, undef, undef, undef, undef, undef, undef, undef, undef, undef, undef, undef, undef, undef, undef, undef, undef, undef, undef, undef, undef, undef, undef, undef, undef, undef, undef, undef, undef, undef, undef, undef], defers := [] })
    (fun x a' W lo o h1 h2 e => e) ?assign0 ?body0 ?done0 ?stop0
  case assign0 =>
    intro l' pre x W K hI hW hK
    clear hI
    unfold encC
    gi_wp2
    exact hK _ _ (Below.refl _ _) rfl
  case body0 =>
    rintro l' pre x a' W ⟨hE2, hNW, hT0⟩ hW hp rfl
    have hl : pre.length < N5 := by have := hp.length_le; rw [HT.out] at this; simp at this; omega
    have hget : (keysL cs)[pre.length]? = some x.1 := by
      obtain ⟨t, rfl⟩ := hp
      simp [keysL]
    have hck' := HCk.out.after hE2.1
    obtain ⟨bk, ok, rfl, hlk⟩ := hck' (by rw [intCs_len, keysL, List.length_map, HT.out]; omega)
    have c0 : W.cell? ⟨bk, ok + pre.length, none⟩ = some (.int .i64 x.1) := hlk.2 _ _ (intCs_get hget)
    have e3 := (r3.after hE2.1).c 0 rfl
    have e9 := (r9.after hE2.1).c 0 rfl
    have eT := hE2.2.1.c 0 rfl
    have eN := hNW.c 0 rfl
    have fN := hNW.f 0 rfl
    have HNW := Lib.hid hNW
    have HE := Lib.hid hE2
    have HT0 := Lib.hid hT0
    have hlN : w4.heap.size + 1 < W.heap.size := hNW.1
    clear hE2 hNW hck' hlk hget hp hT0 hE hbT hbN
    obtain ⟨i, hi⟩ : ∃ i, i = pre.length := ⟨_, rfl⟩
    rw [← hi] at c0 eN hl
    have hi0 : (i : Int) < N5 := by omega
    have hwr : IntKind.i64.wrap ((i : Int) + 1) = (i : Int) + 1 := wr_next1 i (by omega)
    have HI := Lib.hid hi
    have HNW0 := HNW
    have hNW' := HNW.out.set 0 (by simp) (.int .i64 ((pre.length : Int) + 1))
    have eL : [Value.int .i64 ((pre.length : Nat) : Int)].set 0 (.int .i64 ((pre.length : Int) + 1)) = [.int .i64 (((pre ++ [x]).length : Nat) : Int)] := by simp
    rw [eL, ← HI.out] at hNW'
    clear eL
    replace HNW := Lib.hid hNW'
    have eN2 := hNW'.c 0 rfl
    have HL : Hid ((i : Int) + 1 = ((pre ++ [x]).length : Nat)) := Lib.hid (by rw [HI.out]; simp)
    have hfin : ∀ u, KeepsFrom W1.heap.size W (W.setCell ⟨w4.heap.size + 1, 0, none⟩ u) ∧ KeepsO N5 A5 W (W.setCell ⟨w4.heap.size + 1, 0, none⟩ u) ∧ RoE w4 (w4.heap.size) 0 [] (W.setCell ⟨w4.heap.size + 1, 0, none⟩ u) := fun u =>
      ⟨KeepsFrom.put ((keeps_below (Below.refl _ _)).from _) hlW _, (KeepsO.below (Below.refl _ _)).put (fun h0 a ha => CellsS.far HA5.out (by omega) (by rw [cntCs_len, HT.out]; omega) a ha) _ _, HE.out.put (by omega) (by omega) (fun D hD => by simp at hD) u⟩
    have HF := Lib.hid hfin
    have e3' := ((r3.after HE.out.1).other (p := ⟨w4.heap.size + 1, 0, none⟩) (by have := r3.1; simp; omega) (.int .i64 ((i : Int) + 1))).c 0 rfl
    have eT' := (HE.out.2.1.other (p := ⟨w4.heap.size + 1, 0, none⟩) (by simp) (.int .i64 ((i : Int) + 1))).c 0 rfl
    have eN' := (HNW0.out.set 0 (by simp) (.int .i64 ((i : Int) + 1))).c 0 rfl
    clear hi hfin hNW' eN2
    by_cases hbr : many ≤ (i : Int) + 1
    · gi_wp2_with fail
      exact ⟨(HF.out _).1, (HF.out _).2.1, rfl, rfl, ⟨pre, x, rfl, HT0.out (by first | rfl | trivial)⟩, by rw [← HL.out]; exact hbr, (HF.out _).2.2, HNW.out⟩
    · gi_wp2_with fail
      exact ⟨(HF.out _).1, (HF.out _).2.1, (HF.out _).2.2, HNW.out, fun _ => .inr (by rw [← HL.out]; omega)⟩
  all_goals
    first
      | (rintro D0 V0 hD ⟨hE2, hNW, hT0⟩ hK
         obtain ⟨N0, hN, hNW⟩ : ∃ N0 : Nat, (N0 : Int) = min ((N5 : Nat) : Int) (max 1 many) ∧ Row V0 (w4.heap.size + 1) [.int .i64 (N0 : Nat)] := ⟨_, ro_done HT.out (hT0 rfl), hNW⟩
         clear hT0)
      | (rintro D0 cx pre V0 hD hp hX hK
         obtain ⟨rfl, _, N0, hN, hE2, hNW⟩ := hX.left HT.out hp
         clear hX hp
         refine wpIn_wide.2 ?_)
    have hcmp : ((N0 : Int) != min ((N5 : Nat) : Int) (max 1 many)) = false := by rw [← hN]; simp
    have e3 := (r3.after hE2.1).c 0 rfl
    have e9 := (r9.after hE2.1).c 0 rfl
    have eT := hE2.2.1.c 0 rfl
    have eN := hNW.c 0 rfl
    have lD := (Array.getElem?_eq_some_iff.1 hK).1
    have hwD : w4.heap.size ≤ D0 := Nat.le_trans hE.1.size hD
    have HE0 := Lib.hid hE2.1
    have HK0 := Lib.hid hK
    clear hE hbT hbN hD hE2 hK hN hNW
    go_wp2_with fail
    clear e3 e9 eT eN hcmp
    rw [rounds_succ]
    have hnil := HNIL.out
    go_wp2_with fail
    clear hnil
    generalize hW : World.alloc _ _ = W1
    have hbT : Row W1 (V0.heap.size) [.int .i64 1] := by rw [← hW]; exact (Row.at (by simp) [_] _).alloc _
    have hbN : Row W1 (V0.heap.size + 1) [.int .i64 0] := by rw [← hW]; exact Row.at (by simp) [_] _
    have hB1 : Below V0.heap.size V0 W1 := by rw [← hW]; exact ((Below.refl _ _).alloc (Nat.le_refl _) _).alloc (by simp) _
    have hE : RoE w4 (V0.heap.size) 1 [D0] W1 := ⟨HE0.out.trans (hB1.mono HE0.out.size), hbT, ⟨hwD, (hB1.block D0 lD).trans HK0.out, by simp, trivial⟩⟩
    have hw0 := HE0.out.size
    clear hB1 hW HE0 HK0
    have hlW : V0.heap.size + 1 < W1.heap.size := hbN.1
    refine (wpIn_wide (n := 9)).1 ?_
    refine wpIn_range_u (α := Int × Int) rfl (by omega) (gf := 23) (lb := #[.pointer (some ⟨E, 0, none⟩)]) rfl trivial (enters_of Tryd.func23 (by kernel_rfl) rfl)
      (HSEQ.out.later hE.1) KeepsO.trans (fun _ l' W _ o' h _ _ _ => KeepsO.turn W o' (fun h0 a ha => CellsS.far (HA5.out.after hE.1) h (by rw [cntCs_len, HT.out]; omega) a ha)) (fun _ _ _ h => KeepsO.below h) (Below.refl _ _) (fun _ => rfl)
      (RoJ (RoE w4 (V0.heap.size) 1 [D0]) many (V0.heap.size + 1) 1) (RoX (RoE w4 (V0.heap.size) 1 [D0]) many (V0.heap.size + 1) 1)
      (fun pre X Y h hb => ⟨h.1.under hE.1.size hbT.1 hE.2.2.lt hb, h.2.1.below hb hbN.1, h.2.2⟩)
      (fun c pre X Y h hb => ⟨h.1, h.2.1, h.2.2.1, h.2.2.2.1, h.2.2.2.2.1.under hE.1.size hbT.1 hE.2.2.lt hb, h.2.2.2.2.2.below hb hbN.1⟩)
      ⟨hE, hbN, fun _ => .inl rfl⟩
      (fun x a' _ => a' = { tmps := #[.slice A n c, .int .i64 many, undef, .pointer (some ⟨w.heap.size, 0, none⟩), .pointer (some ⟨w.heap.size + 1, 0, none⟩), .pointer (some ⟨b5, 0, none⟩), .int .i64 er, .pointer (some ⟨b7, 0, none⟩), .int .i64 er, .pointer (some ⟨b9, 0, none⟩), .func (.func 23) #[] #[.pointer (some ⟨E, 0, none⟩)], .pointer (some ⟨V0.heap.size, 0, none⟩), .pointer (some ⟨V0.heap.size + 1, 0, none⟩), .int .i64 x.1, .slice A n c, .int .i64 n, .bool false, undef, .tuple #[.agg #[.slice A5 N5 c5], .int .i64 er], .slice A n c, .tuple #[.agg #[.slice A5 N5 c5], .int .i64 er], .agg #[.slice A5 N5 c5], .int .i64 er, .tuple #[.agg #[.slice A7 N7 c7], .int .i64 er], .slice A n c, .tuple #[.agg #[.slice A7 N7 c7], .int .i64 er], .agg #[.slice A7 N7 c7], .int .i64 er, .agg #[.slice A7 N7 c7], .slice Ak N5 ck, .agg #[.slice A5 N5 c5], .func (.func 23) #[] #[.pointer (some ⟨E, 0, none⟩)], .int .i64 1, .bool true, .int .i64 0, .int .i64 1, .func (.func 23) #[] #[.pointer (some ⟨E, 0, none⟩)], .bool false, .func (.func 23) #[] #[.pointer (some ⟨E, 0, none⟩)], .int .i64 x.1, .int .i64 x.2, undef, undef, undef, undef, undef, undef, undef, undef, undef, undef, undef, undef, undef, undef, undef, undef, undef, undef, undef, undef, undef, .int .i64 0, .bool true, .bool true, .int .i64 N0, .slice Ak N5 ck, .int .i64 N5, .int .i64 many, .int .i64 (max 1 many), .int .i64 (min (N5 : Int) (max 1 many)), .bool false, .bool false, .bool false, .int .i64 0, .bool false, .bool false, undef, undef, undef, undef, .bool false, .bool false, .int .i64 0, undef], defers := [] })
      (fun x a' W lo o h1 h2 e => e) ?assign1 ?body1 ?done1 ?stop1
    case assign1 =>
      intro l' pre x W K hI hW hK
      clear hI
      unfold encC
      gi_wp2
      exact hK _ _ (Below.refl _ _) rfl
    case body1 =>
      rintro l' pre x a' W ⟨hE2, hNW, hT0⟩ hW hp rfl
      have hl : pre.length < N5 := by have := hp.length_le; rw [HT.out] at this; simp at this; omega
      have hget : (keysL cs)[pre.length]? = some x.1 := by
        obtain ⟨t, rfl⟩ := hp
        simp [keysL]
      have hck' := HCk.out.after hE2.1
      obtain ⟨bk, ok, rfl, hlk⟩ := hck' (by rw [intCs_len, keysL, List.length_map, HT.out]; omega)
      have c0 : W.cell? ⟨bk, ok + pre.length, none⟩ = some (.int .i64 x.1) := hlk.2 _ _ (intCs_get hget)
      have e3 := (r3.after hE2.1).c 0 rfl
      have e9 := (r9.after hE2.1).c 0 rfl
      have eT := hE2.2.1.c 0 rfl
      have eN := hNW.c 0 rfl
      have fN := hNW.f 0 rfl
      have HNW := Lib.hid hNW
      have HE := Lib.hid hE2
      have HT0 := Lib.hid hT0
      have hlN : V0.heap.size + 1 < W.heap.size := hNW.1
      clear hE2 hNW hck' hlk hget hp hT0 hE hbT hbN
      obtain ⟨i, hi⟩ : ∃ i, i = pre.length := ⟨_, rfl⟩
      rw [← hi] at c0 eN hl
      have hi0 : (i : Int) < N5 := by omega
      have hwr : IntKind.i64.wrap ((i : Int) + 1) = (i : Int) + 1 := wr_next1 i (by omega)
      have HI := Lib.hid hi
      have HNW0 := HNW
      have hNW' := HNW.out.set 0 (by simp) (.int .i64 ((pre.length : Int) + 1))
      have eL : [Value.int .i64 ((pre.length : Nat) : Int)].set 0 (.int .i64 ((pre.length : Int) + 1)) = [.int .i64 (((pre ++ [x]).length : Nat) : Int)] := by simp
      rw [eL, ← HI.out] at hNW'
      clear eL
      replace HNW := Lib.hid hNW'
      have eN2 := hNW'.c 0 rfl
      have HL : Hid ((i : Int) + 1 = ((pre ++ [x]).length : Nat)) := Lib.hid (by rw [HI.out]; simp)
      have hfin : ∀ u, KeepsFrom W1.heap.size W (W.setCell ⟨V0.heap.size + 1, 0, none⟩ u) ∧ KeepsO N5 A5 W (W.setCell ⟨V0.heap.size + 1, 0, none⟩ u) ∧ RoE w4 (V0.heap.size) 1 [D0] (W.setCell ⟨V0.heap.size + 1, 0, none⟩ u) := fun u =>
        ⟨KeepsFrom.put ((keeps_below (Below.refl _ _)).from _) hlW _, (KeepsO.below (Below.refl _ _)).put (fun h0 a ha => CellsS.far HA5.out (by omega) (by rw [cntCs_len, HT.out]; omega) a ha) _ _, HE.out.put (by omega) (by omega) (fun D hD => by simp at hD; omega) u⟩
      have HF := Lib.hid hfin
      have e3' := ((r3.after HE.out.1).other (p := ⟨V0.heap.size + 1, 0, none⟩) (by have := r3.1; simp; omega) (.int .i64 ((i : Int) + 1))).c 0 rfl
      have eT' := (HE.out.2.1.other (p := ⟨V0.heap.size + 1, 0, none⟩) (by simp) (.int .i64 ((i : Int) + 1))).c 0 rfl
      have eN' := (HNW0.out.set 0 (by simp) (.int .i64 ((i : Int) + 1))).c 0 rfl
      clear hi hfin hNW' eN2
      gi_wp2_with fail
      exact ⟨(HF.out _).1, (HF.out _).2.1, (HF.out _).2.2, HNW.out, fun h => absurd h (by decide)⟩
    case stop1 =>
      rintro D cx pre V hD hp hX hK
      exact absurd hX.2.1 (by decide)
    case done1 =>
      rintro D V hD ⟨hE2, hNW, _⟩ hK
      rw [HT.out] at hNW
      have e3 := (r3.after hE2.1).c 0 rfl
      have e9 := (r9.after hE2.1).c 0 rfl
      have eT := hE2.2.1.c 0 rfl
      have eN := hNW.c 0 rfl
      have hM : Marks w4.heap.size [D, D0] V := ⟨Nat.le_trans (Nat.le_trans hw0 (by omega)) hD, hK, fun E hE' => by simp at hE'; subst hE'; omega, hE2.2.2⟩
      have HM := Lib.hid hM
      have HE := Lib.hid hE2.1
      have HR4 := Lib.hid (r4.after hE2.1)
      have hz4 : w.heap.size + 1 < w4.heap.size := r4.1
      clear hE hbT hbN hD hE2 hK hNW hM
      go_wp2_with fail
      clear e3 e9 eT eN
      rw [rounds_succ]
      go_wp2_with fail
      generalize hVV : World.alloc _ _ = V4
      have hB3 : Below V.heap.size V V4 := by rw [← hVV]; exact (Below.refl _ _).alloc (Nat.le_refl _) _
      have hBw : Below w.heap.size w V4 := hB4.trans ((HE.out.trans (hB3.mono HE.out.size)).mono hB4.size)
      refine (works_any V4 (HV.out.after hBw)).mono ?_
      rintro e V6 ⟨rfl, hb⟩
      have r6 := (HR4.out.after hB3).after hb
      have x6 := r6.c 0 rfl
      have f6 := r6.f 0 rfl
      have hM2 := HM.out.below HM.out.lt hB3
      have hM3 := hM2.below hM2.lt hb
      have hwl := HM.out.1
      have hM4 := hM3.put (b := w.heap.size + 1) (.bool true) (fun D' hD' => by have h := hM3.lt D' hD'; simp at hD'; have := HM.out.2.2.2.1; omega)
      have r7 := r6.set 0 (by simp) (.bool true)
      have hb7 : Below w.heap.size w (V6.setCell ⟨w.heap.size + 1, 0, none⟩ (.bool true)) := below_put1 (hBw.trans (hb.mono hBw.size)) (by omega) _ _
      have HZ := Lib.hid (And.intro r7 (And.intro hM4 hb7))
      clear hVV hB3 hBw r6 hM2 hM3 hM4 r7 hb7 hb
      go_wp2_with fail
      clear x6 f6
      generalize V6.setCell ⟨w.heap.size + 1, 0, none⟩ (.bool true) = V7 at HZ ⊢
      refine leaves_marks [D, D0] V7 HZ.out.2.1 fun V5 hV => ?_
      have c1 := (HZ.out.1.below hV hz4).c 0 rfl
      exact ⟨.bool true, by simp [results, Tryd.results3, go_sem, c1], rfl, HZ.out.2.2.trans (hV.mono hB4.size)⟩
end Go.Proofs.YtjhcddlhhfjnaaaDoor
