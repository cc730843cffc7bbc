/- SegNodes' walk. -/
import Derived.Test.YtdfmmkidknginaaGreatDoorNkQB
import Derived.Test.YtdfmmkidknginaaGreatDoorNkRH
import Derived.Test.YtdfmmkidknginaaGreatDoorNkPQ
import Derived.Sort.QuietTacIn
import Derived.Test.YtdfmmkidknginaaGreatDoorZKkZG
namespace Go.Proofs.YtdfmmkidknginaaGreatDoor
open Go.RowKit Go.Sort CrossMath

theorem Marks.put {B b : Nat} {X : World} (v : Value) : ∀ {l : List Nat}, Marks B l X → (∀ D ∈ l, D ≠ b) → Marks B l (X.setCell ⟨b, 0, none⟩ v)
  | [], _, _ => trivial
  | D :: _, ⟨h1, h2, h3, h4⟩, hs => ⟨h1, (Below.heap_setCell _ _ _ _ (hs D (by simp))).trans h2, h3, h4.put v (fun E hE => hs E (by simp [hE]))⟩
theorem SeqU.later4 {α : Type} {F : Fence} {n : Nat} {P : Program} {g : Nat} {lb : Array Value} {encs : α → Array Value} {Kp : Nat → World → World → Prop} {T : List α} {w w' : World} (h : SeqU F n P g lb encs Kp T w) (hb : Below w.heap.size w w') : SeqU F n P g lb encs Kp T w' :=
  fun l J Jx W hW hJ hJx hY h0 => h l J Jx W (hb.trans (hW.mono hb.size)) hJ hJx hY h0
/-- What a turn leaves alone: all that lay ahead of the turns, the turn's number, what is deferred. -/
def RoE (m : World) (bT : Nat) (t : Int) (DS : List Nat) (W : World) : Prop := Below m.heap.size m W ∧ Row W bT [.int .i64 t] ∧ Marks m.heap.size DS W
section
variable {m X Y : World} {bT : Nat} {t : Int} {DS : List Nat}
theorem RoE.under {s : Nat} (h : RoE m bT t DS X) (h1 : m.heap.size ≤ s) (h2 : bT < s) (h3 : ∀ D ∈ DS, D < s) (hb : Below s X Y) : RoE m bT t DS Y := by
  obtain ⟨a1, a2, a3⟩ := h
  exact ⟨a1.trans (hb.mono h1), a2.below hb h2, a3.below h3 hb⟩
theorem RoE.after (h : RoE m bT t DS X) (hb : Below X.heap.size X Y) : RoE m bT t DS Y := h.under h.1.size h.2.1.1 h.2.2.lt hb
theorem RoE.put (h : RoE m bT t DS X) {b : Nat} (h1 : m.heap.size ≤ b) (h2 : bT ≠ b) (h3 : ∀ D ∈ DS, D ≠ b) (v : Value) : RoE m bT t DS (X.setCell ⟨b, 0, none⟩ v) := by
  obtain ⟨a1, a2, a3⟩ := h
  exact ⟨below_put1 a1 h1 _ _, a2.other (p := ⟨b, 0, none⟩) (Ne.symm h2) _, a3.put v h3⟩
end
/-- Between the rounds of a turn. -/
def RoJ (E : World → Prop) (many : Int) (bN : Nat) (t : Int) (pre : List (Int × Int)) (W : World) : Prop :=
  E W ∧ Row W bN [.int .i64 (pre.length : Nat)] ∧ (t = 0 → pre = [] ∨ (pre.length : Int) < many)
/-- A turn that is left, since there are enough. -/
def RoX (E : World → Prop) (many : Int) (bN : Nat) (t : Int) (c : Code) (pre : List (Int × Int)) (W : World) : Prop :=
  c = .exit 4 ∧ t = 0 ∧ (∃ p x, pre = p ++ [x] ∧ (p = [] ∨ (p.length : Int) < many)) ∧ many ≤ (pre.length : Nat) ∧ E W ∧ Row W bN [.int .i64 (pre.length : Nat)]
theorem ro_done {n : Nat} {many : Int} {T : List (Int × Int)} (hn : T.length = n) (h : T = [] ∨ (T.length : Int) < many) : ((T.length : Nat) : Int) = min ((n : Nat) : Int) (max 1 many) := by
  rcases h with h | h
  · subst h; simp at hn; subst hn; simp; omega
  · omega
theorem RoX.left {E : World → Prop} {W : World} {many t : Int} {T pre : List (Int × Int)} {bN n : Nat} {c : Code} (h : RoX E many bN t c pre W) (hn : T.length = n) (hp : pre <+: T) :
    c = .exit 4 ∧ t = 0 ∧ ∃ N : Nat, (N : Int) = min ((n : Nat) : Int) (max 1 many) ∧ E W ∧ Row W bN [.int .i64 (N : Nat)] := by
  obtain ⟨rfl, h0, ⟨p, x, rfl, hpm⟩, hpl, hE, hN⟩ := h
  refine ⟨rfl, h0, _, ?_, hE, hN⟩
  have hl := hp.length_le
  simp only [List.length_append, List.length_cons, List.length_nil] at hl hpl ⊢
  rcases hpm with h | h
  · subst h; simp at hl hpl ⊢; omega
  · omega
theorem wr_next4 (k : Nat) (h : k < 1000000) : IntKind.i64.wrap ((k : Int) + 1) = (k : Int) + 1 := by
  simp [IntKind.wrap, IntKind.signed, IntKind.bits]
  omega
/-- A slot that holds a slice just built. -/
def bsFct (idx slot B : Nat) (zs : List Value) : Fct := ⟨idx, slot, fun v W => ∃ C, v = .slice (some ⟨C, 0, none⟩) 2 2 ∧ B ≤ C ∧ Row W C zs, fun v X Y h hb => by
  obtain ⟨C, h1, h2, h3⟩ := h
  exact ⟨C, h1, h2, h3.after hb⟩⟩
theorem cells_row4 {w : World} {b : Nat} {xs : List Value} (h : Row w b xs) : CellsS w (some ⟨b, 0, none⟩) xs := fun _ => ⟨b, 0, rfl, h.1, fun j v hv => by rw [Nat.zero_add]; exact h.c j hv⟩
set_option maxRecDepth 100000 in
set_option maxHeartbeats 3200000 in
/-- More than 20 segments. -/
theorem nodes4_many (A : Option Addr) (N c : Nat) (many : Int) (w : World) (hN : 20 < N) (HW : Hid (∀ W, Below w.heap.size w W → Calls Tryz.prog 17 #[] W fun e w' => e = .returned (.bool true) ∧ Below W.heap.size W w')) :
    Calls Tryz.prog 6 #[.slice A N c, .int .i64 many] w fun e w' => e = .returned (.bool true) ∧ Below w.heap.size w w' := by
  have hN' : ¬ ((N : Int) ≤ 20) := by omega
  have hN2 : (20 : Int) < (N : Int) := by omega
  have HN := Lib.hid hN
  clear hN
  refine (callsIn_wide (n := 9)).1 ?_
  refine callsIn_of_wp_marks Tryz.func6 rfl trivial ?_ rfl
  simp only [Tryz.ntmps6, List.size_toArray, List.length_cons, List.length_nil, Nat.reduceAdd, Nat.reduceSub, Array.replicate_succ, Array.replicate_zero, List.push_toArray, List.append_toArray, List.nil_append, List.cons_append]
  refine wpIn_wide.2 ?_
  go_upto_region 1 with fail
  generalize hW : World.alloc _ _ = W0
  have rR : Row W0 (w.heap.size + 1) [.bool false] := by rw [← hW]; exact Row.at (by simp) [.bool false] _
  have hB : Below w.heap.size w W0 := by rw [← hW]; exact ((Below.refl _ _).alloc (Nat.le_refl _) _).alloc (by simp) _
  clear hW
  go_wp2_with fail
  refine (HW.out _ hB).mono ?_
  rintro e w1 ⟨rfl, hb⟩
  replace rR := rR.after hb
  replace hB := hB.trans (hb.mono hB.size)
  clear hb
  have x0 := rR.c 0 rfl
  have f0 := rR.f 0 rfl
  go_wp2_with fail
  have r2 := rR.set 0 (by simp) (.bool true)
  have hb2 : Below w.heap.size w (w1.setCell ⟨w.heap.size + 1, 0, none⟩ (.bool true)) := below_put1 hB (by omega) _ _
  generalize w1.setCell ⟨w.heap.size + 1, 0, none⟩ (.bool true) = w2 at *
  refine leaves_marks (B := w2.heap.size) [] w2 trivial fun V hV => ?_
  have c1 := (r2.below hV r2.lt).c 0 rfl
  exact ⟨.bool true, by simp [results, Tryz.results6, go_sem, c1], rfl, hb2.trans (hV.mono hb2.size)⟩
theorem Kq.put {S : Nat → Prop} {B b : Nat} (V : World) (u : Value) (hb : b < B) (hs : ¬ S b) : Kq S B V (V.setCell ⟨b, 0, none⟩ u) := ⟨by simp [World.setCell], fun k hk _ => Below.heap_setCell _ _ _ _ (by
  rcases hk with h | h
  · show k ≠ b; omega
  · exact fun e => hs (by rw [← show k = b from e]; exact h))⟩
theorem nodes_lenL (L : List Sg) : (nodesL L).length = 2 * L.length := by
  induction L with
  | nil => rfl
  | cons s r ih =>
    have e : nodesL (s :: r) = [(s.ax, s.ay), (s.bx, s.bY)] ++ nodesL r := rfl
    rw [e, List.length_append, ih]
    simp; omega
theorem neqNd (a b : Int) (W : World) : (binOp .neq 23 (.agg #[.int .i64 a, .int .i64 b]) (.agg #[.int .i64 a, .int .i64 b])).run Tryz.prog W = .ok (.bool false) W := by
  have u := Tryz.underlying23
  rw [run_neq_struct]
  go_simp
attribute [local go_sem] Oper.semAt_some
set_option maxRecDepth 100000 in
set_option maxHeartbeats 12000000 in
theorem nodes4_few (A : Option Addr) (N c : Nat) (L : List Sg) (many : Int) (w : World) (hN : N = L.length) (hb : N ≤ 20) (hA : CellsS w A (segCs L)) (HW : Hid (∀ W, Below w.heap.size w W → Calls Tryz.prog 17 #[] W fun e w' => e = .returned (.bool true) ∧ Below W.heap.size W w')) :
    Calls Tryz.prog 6 #[.slice A N c, .int .i64 many] w fun e w' => e = .returned (.bool true) ∧ Below w.heap.size w w' := by
  have hN' : (N : Int) ≤ 20 := by omega
  have hN2 : ¬ ((20 : Int) < (N : Int)) := by omega
  have HN := Lib.hid hN
  clear hN
  refine (callsIn_wide (n := 9)).1 ?_
  refine callsIn_of_wp_marks Tryz.func6 rfl trivial ?_ rfl
  simp only [Tryz.ntmps6, List.size_toArray, List.length_cons, List.length_nil, Nat.reduceAdd, Nat.reduceSub, Array.replicate_succ, Array.replicate_zero, List.push_toArray, List.append_toArray, List.nil_append, List.cons_append]
  refine wpIn_wide.2 ?_
  go_upto_region 4 with fail
  generalize hW : World.alloc _ _ = W0
  have rM : Row W0 w.heap.size [.int .i64 many] := by rw [← hW]; exact ((Row.at rfl [.int .i64 many] _).alloc _).alloc _
  have rR : Row W0 (w.heap.size + 1) [.bool false] := by rw [← hW]; exact (Row.at (by simp) [.bool false] _).alloc _
  have rW : Row W0 (w.heap.size + 1 + 1) [.slice none 0 0] := by rw [← hW]; exact Row.at (by simp) [.slice none 0 0] _
  have hB : Below w.heap.size w W0 := by rw [← hW]; exact (((Below.refl _ _).alloc (Nat.le_refl _) _).alloc (by simp) _).alloc (by simp; omega) _
  clear hW
  go_wp2_with fail
  have HA := Lib.hid hA
  clear hA
  go_loopw [6] (fun i wr => ∃ (j : Nat) (A' : Option Addr) (cap' : Nat), j ≤ N ∧ i = .int .i64 j ∧ Hid (Row wr w.heap.size [.int .i64 many] ∧ Row wr (w.heap.size + 1) [.bool false] ∧ Row wr (w.heap.size + 1 + 1) [.slice A' (2 * j) cap'] ∧ Own 23 2 wr (w.heap.size + 1 + 1 + 1) A' (2 * j) cap' (nodCs (nodesL (L.take j))) ∧ Below w.heap.size w wr)) (fun i _ => N - (intOf i).toNat)
  case atStart => exact ⟨0, none, 0, Nat.zero_le _, rfl, Lib.hid ⟨rM, rR, rW, Own.nil _ _ _ _, hB⟩⟩
  case round =>
    clear rM rR rW hB
    obtain ⟨j, A', cap', hj, rfl, HI⟩ := hrel
    by_cases hjn : j < N
    · have hj1 : (j : Int) < (N : Int) := by omega
      obtain ⟨s, hs⟩ : ∃ s, L[j]? = some s := ⟨_, List.getElem?_eq_getElem (by rw [← HN.out]; exact hjn)⟩
      obtain ⟨b, o, rfl, hbl, hcs⟩ := (HA.out.after HI.out.2.2.2.2).segs (by rw [← HN.out]; omega)
      obtain ⟨x0, x1, x2, x3⟩ := hcs j s hs
      have HS := Lib.hid hs
      have y0 := HI.out.2.2.1.c 0 rfl
      have hz := HI.out.2.2.1.lt
      clear hcs hs
      go_upto_region 7 with fail
      refine wp_region_fct2 (by kernel_rfl) [] (fun ix => match ix with
              | 0 => some (Value.slice A' (2 * j) cap')
              | 1 => some (Value.slice (some ⟨b, o, none⟩) N c)
              | 2 => some (Value.int .i64 (j : Nat))
              | 3 => some (Value.pointer (some ⟨b, o + j * 4, none⟩))
              | 4 => some (Value.pointer (some ⟨b, o + j * 4, none⟩))
              | 5 => some (Value.agg #[.int .i64 s.ax, .int .i64 s.ay])
              | 6 => some (Value.slice (some ⟨b, o, none⟩) N c)
              | 7 => some (Value.int .i64 (j : Nat))
              | 8 => some (Value.pointer (some ⟨b, o + j * 4, none⟩))
              | 9 => some (Value.pointer (some ⟨b, o + j * 4 + 2, none⟩))
              | 10 => some (Value.agg #[.int .i64 s.bx, .int .i64 s.bY])
              | _ => none) (by intro j hj; cases hj) 12 [bsFct 11 32 wr.heap.size [.int .i64 s.ax, .int .i64 s.ay, .int .i64 s.bx, .int .i64 s.bY]] 11 32 2 23 (fun sl W => ∃ A2 cap2, sl 33 = .slice A2 (2 * j + 2) cap2 ∧ Own 23 2 W (w.heap.size + 1 + 1 + 1) A2 (2 * j + 2) cap2 (nodCs (nodesL (L.take j)) ++ [.int .i64 s.ax, .int .i64 s.ay, .int .i64 s.bx, .int .i64 s.bY]) ∧ Below (w.heap.size + 1 + 1 + 1) wr W) (fun _ W => ∃ A2 cap2, Row W w.heap.size [.int .i64 many] ∧ Row W (w.heap.size + 1) [.bool false] ∧ Row W (w.heap.size + 1 + 1) [.slice A2 (2 * (j + 1)) cap2] ∧ Own 23 2 W (w.heap.size + 1 + 1 + 1) A2 (2 * (j + 1)) cap2 (nodCs (nodesL (L.take (j + 1)))) ∧ Below w.heap.size w W) (by kernel_rfl) (by kernel_rfl) (by kernel_rfl) (by kernel_rfl) ?_ ?_ ?_
      · intro listed a W ix oo hI ho hlt hdep hB hF hDD K hK hKf
        have hcase : ix = 0 ∨ ix = 1 ∨ ix = 2 ∨ ix = 3 ∨ ix = 4 ∨ ix = 5 ∨ ix = 6 ∨ ix = 7 ∨ ix = 8 ∨ ix = 9 ∨ ix = 10 ∨ ix = 11 ∨ ix = 12 := by omega
        clear hlt
        rcases hcase with rfl | rfl | rfl | rfl | rfl | rfl | rfl | rfl | rfl | rfl | rfl | rfl | rfl
        · obtain rfl := Option.some.inj (show some _ = some oo from ho)
          have q5 : a.tmps[5]?.getD undef = Value.pointer (some ⟨w.heap.size + 1 + 1, 0, none⟩) := hI.old 5 (noDst_spec (by kernel_rfl))
          have y0' := (HI.out.2.2.1.after hB).c 0 rfl
          clear hdep hI ho hF hDD
          go_simp
          exact hK (by decide) (Value.slice A' (2 * j) cap') _ (fun u hu => Option.some.inj (show some _ = some u from hu)) (Below.refl _ _) (fct_none rfl) ⟨fun e => absurd e (by decide), fun e => absurd e (by decide)⟩
        · obtain rfl := Option.some.inj (show some _ = some oo from ho)
          have q0 : a.tmps[0]?.getD undef = Value.slice (some ⟨b, o, none⟩) N c := hI.old 0 (noDst_spec (by kernel_rfl))
          clear hdep hI ho hF hDD
          go_simp
          exact hK (by decide) (Value.slice (some ⟨b, o, none⟩) N c) _ (fun u hu => Option.some.inj (show some _ = some u from hu)) (Below.refl _ _) (fct_none rfl) ⟨fun e => absurd e (by decide), fun e => absurd e (by decide)⟩
        · obtain rfl := Option.some.inj (show some _ = some oo from ho)
          have q6 : a.tmps[6]?.getD undef = Value.int .i64 (j : Nat) := hI.old 6 (noDst_spec (by kernel_rfl))
          have hn : listed.getD 11 false = true → slotOf a 32 ≠ Value.int .i64 (j : Nat) := fun h2 => by
            obtain ⟨C, hc, _⟩ := hF (bsFct 11 32 wr.heap.size [.int .i64 s.ax, .int .i64 s.ay, .int .i64 s.bx, .int .i64 s.bY]) (by simp) h2
            rw [show slotOf a 32 = _ from hc]; simp
          clear hdep hI ho hF hDD
          go_simp
          exact hK (by decide) (Value.int .i64 (j : Nat)) _ (fun u hu => Option.some.inj (show some _ = some u from hu)) (Below.refl _ _) (fct_none rfl) ⟨fun e => absurd e (by decide), fun _ h2 => hn h2⟩
        · obtain rfl := Option.some.inj (show some _ = some oo from ho)
          have d1 : listed.getD 1 false = true := hdep ⟨1, .data⟩ (by simp) rfl
          have q22 : a.tmps[22]?.getD undef = Value.slice (some ⟨b, o, none⟩) N c := hI.val 1 _ 22 _ rfl rfl rfl d1
          have d2 : listed.getD 2 false = true := hdep ⟨2, .data⟩ (by simp) rfl
          have q23 : a.tmps[23]?.getD undef = Value.int .i64 (j : Nat) := hI.val 2 _ 23 _ rfl rfl rfl d2
          clear hdep hI ho hF hDD
          go_simp
          exact hK (by decide) (Value.pointer (some ⟨b, o + j * 4, none⟩)) _ (fun u hu => Option.some.inj (show some _ = some u from hu)) (Below.refl _ _) (fct_none rfl) ⟨fun e => absurd e (by decide), fun e => absurd e (by decide)⟩
        · obtain rfl := Option.some.inj (show some _ = some oo from ho)
          have d3 : listed.getD 3 false = true := hdep ⟨3, .data⟩ (by simp) rfl
          have q24 : a.tmps[24]?.getD undef = Value.pointer (some ⟨b, o + j * 4, none⟩) := hI.val 3 _ 24 _ rfl rfl rfl d3
          clear hdep hI ho hF hDD
          go_simp
          exact hK (by decide) (Value.pointer (some ⟨b, o + j * 4, none⟩)) _ (fun u hu => Option.some.inj (show some _ = some u from hu)) (Below.refl _ _) (fct_none rfl) ⟨fun e => absurd e (by decide), fun e => absurd e (by decide)⟩
        · obtain rfl := Option.some.inj (show some _ = some oo from ho)
          have d4 : listed.getD 4 false = true := hdep ⟨4, .data⟩ (by simp) rfl
          have q25 : a.tmps[25]?.getD undef = Value.pointer (some ⟨b, o + j * 4, none⟩) := hI.val 4 _ 25 _ rfl rfl rfl d4
          have z0 := (hB.cell (p := ⟨b, o + j * 4, none⟩) hbl).trans x0
          have z1 := (hB.cell (p := ⟨b, o + j * 4 + 1, none⟩) hbl).trans x1
          clear hdep hI ho hF hDD
          go_simp
          exact hK (by decide) (Value.agg #[.int .i64 s.ax, .int .i64 s.ay]) _ (fun u hu => Option.some.inj (show some _ = some u from hu)) (Below.refl _ _) (fct_none rfl) ⟨fun e => absurd e (by decide), fun e => absurd e (by decide)⟩
        · obtain rfl := Option.some.inj (show some _ = some oo from ho)
          have q0 : a.tmps[0]?.getD undef = Value.slice (some ⟨b, o, none⟩) N c := hI.old 0 (noDst_spec (by kernel_rfl))
          clear hdep hI ho hF hDD
          go_simp
          exact hK (by decide) (Value.slice (some ⟨b, o, none⟩) N c) _ (fun u hu => Option.some.inj (show some _ = some u from hu)) (Below.refl _ _) (fct_none rfl) ⟨fun e => absurd e (by decide), fun e => absurd e (by decide)⟩
        · obtain rfl := Option.some.inj (show some _ = some oo from ho)
          have q6 : a.tmps[6]?.getD undef = Value.int .i64 (j : Nat) := hI.old 6 (noDst_spec (by kernel_rfl))
          clear hdep hI ho hF hDD
          go_simp
          exact hK (by decide) (Value.int .i64 (j : Nat)) _ (fun u hu => Option.some.inj (show some _ = some u from hu)) (Below.refl _ _) (fct_none rfl) ⟨fun e => absurd e (by decide), fun e => absurd e (by decide)⟩
        · obtain rfl := Option.some.inj (show some _ = some oo from ho)
          have d6 : listed.getD 6 false = true := hdep ⟨6, .data⟩ (by simp) rfl
          have q27 : a.tmps[27]?.getD undef = Value.slice (some ⟨b, o, none⟩) N c := hI.val 6 _ 27 _ rfl rfl rfl d6
          have d7 : listed.getD 7 false = true := hdep ⟨7, .data⟩ (by simp) rfl
          have q28 : a.tmps[28]?.getD undef = Value.int .i64 (j : Nat) := hI.val 7 _ 28 _ rfl rfl rfl d7
          clear hdep hI ho hF hDD
          go_simp
          exact hK (by decide) (Value.pointer (some ⟨b, o + j * 4, none⟩)) _ (fun u hu => Option.some.inj (show some _ = some u from hu)) (Below.refl _ _) (fct_none rfl) ⟨fun e => absurd e (by decide), fun e => absurd e (by decide)⟩
        · obtain rfl := Option.some.inj (show some _ = some oo from ho)
          have d8 : listed.getD 8 false = true := hdep ⟨8, .data⟩ (by simp) rfl
          have q29 : a.tmps[29]?.getD undef = Value.pointer (some ⟨b, o + j * 4, none⟩) := hI.val 8 _ 29 _ rfl rfl rfl d8
          clear hdep hI ho hF hDD
          go_simp
          exact hK (by decide) (Value.pointer (some ⟨b, o + j * 4 + 2, none⟩)) _ (fun u hu => Option.some.inj (show some _ = some u from hu)) (Below.refl _ _) (fct_none rfl) ⟨fun e => absurd e (by decide), fun e => absurd e (by decide)⟩
        · obtain rfl := Option.some.inj (show some _ = some oo from ho)
          have d9 : listed.getD 9 false = true := hdep ⟨9, .data⟩ (by simp) rfl
          have q30 : a.tmps[30]?.getD undef = Value.pointer (some ⟨b, o + j * 4 + 2, none⟩) := hI.val 9 _ 30 _ rfl rfl rfl d9
          have z2 := (hB.cell (p := ⟨b, o + j * 4 + 2, none⟩) hbl).trans x2
          have z3 := (hB.cell (p := ⟨b, o + j * 4 + 3, none⟩) hbl).trans x3
          clear hdep hI ho hF hDD
          go_simp
          exact hK (by decide) (Value.agg #[.int .i64 s.bx, .int .i64 s.bY]) _ (fun u hu => Option.some.inj (show some _ = some u from hu)) (Below.refl _ _) (fct_none rfl) ⟨fun e => absurd e (by decide), fun e => absurd e (by decide)⟩
        · obtain rfl := Option.some.inj (show some _ = some oo from ho)
          have d5 : listed.getD 5 false = true := hdep ⟨5, .data⟩ (by simp) rfl
          have q26 : a.tmps[26]?.getD undef = Value.agg #[.int .i64 s.ax, .int .i64 s.ay] := hI.val 5 _ 26 _ rfl rfl rfl d5
          have d10 : listed.getD 10 false = true := hdep ⟨10, .data⟩ (by simp) rfl
          have q31 : a.tmps[31]?.getD undef = Value.agg #[.int .i64 s.bx, .int .i64 s.bY] := hI.val 10 _ 31 _ rfl rfl rfl d10
          have hn : listed.getD 2 false = true → Value.slice (some ⟨W.heap.size, 0, none⟩) 2 2 ≠ slotOf a 23 := fun h2 => by
            have e : slotOf a 23 = Value.int .i64 (j : Nat) := hI.val 2 _ 23 _ rfl rfl rfl h2
            rw [e]; simp
          clear hdep hI ho hF hDD
          go_simp
          exact hK (by decide) (.slice (some ⟨W.heap.size, 0, none⟩) 2 2) _ (fun u hu => absurd (show (none : Option Value) = some u from hu) (by simp)) ((Below.refl _ _).alloc (Nat.le_refl _) _) (fun p hp _ => by
            simp only [List.mem_cons, List.not_mem_nil, or_false] at hp
            subst hp
            exact ⟨W.heap.size, rfl, hB.size, Row.at rfl _ _⟩) ⟨fun _ h2 => hn h2, fun e => absurd e (by decide)⟩
        · obtain rfl := Option.some.inj (show some _ = some oo from ho)
          have d0 : listed.getD 0 false = true := hdep ⟨0, .data⟩ (by simp) rfl
          have q21 : a.tmps[21]?.getD undef = Value.slice A' (2 * j) cap' := hI.val 0 _ 21 _ rfl rfl rfl d0
          have d11 : listed.getD 11 false = true := hdep ⟨11, .data⟩ (by simp) rfl
          obtain ⟨C, hc, hCl, hr⟩ := hF (bsFct 11 32 wr.heap.size [.int .i64 s.ax, .int .i64 s.ay, .int .i64 s.bx, .int .i64 s.bY]) (by simp) d11
          have q32 : a.tmps[32]?.getD undef = .slice (some ⟨C, 0, none⟩) 2 2 := hc
          have hsz : a.tmps.size = 88 := hI.size
          have hO := HI.out.2.2.2.1.after hB
          have hlt := HI.out.2.2.1.lt
          have hsB := hB.size
          have hsB' : wr.heap.size ≤ W.heap.size := hB.size
          clear hdep hI ho hF hDD
          refine wp_app (.tmp 21) (.tmp 32) elem_node rfl (w.heap.size + 1 + 1 + 1) A' (2 * j) cap' (nodCs (nodesL (L.take j))) (some ⟨C, 0, none⟩) 2 2 [.int .i64 s.ax, .int .i64 s.ay, .int .i64 s.bx, .int .i64 s.bY] (by rw [act_tmp']; exact q21) (by rw [act_tmp']; exact q32) hO (cells_row4 hr) rfl (nodCs_one [(s.ax, s.ay), (s.bx, s.bY)]) (by omega) (by omega) ?_
          intro A2 cap2 W2 hO2 hg2 hb2
          exact hKf rfl _ _ (fun u hu => absurd (show (none : Option Value) = some u from hu) (by simp)) ⟨A2, cap2, slot_put_same _ (by omega), hO2, (Below.trans (hB.mono (by omega)) (below_grown hg2 (by omega) (fun g hg => by
            have hf := hO.fresh
            cases A' with
            | none => cases hg
            | some a0 => cases hg; exact hf _ rfl)))⟩
      · intro listed a W oo hI ho hup hOne K hK
        obtain rfl := Option.some.inj (show some _ = some oo from ho)
        obtain ⟨A2, cap2, hq, hO, hB2⟩ := hOne
        have q33 : a.tmps[33]?.getD undef = .slice A2 (2 * j + 2) cap2 := hq
        have q5 : a.tmps[5]?.getD undef = Value.pointer (some ⟨w.heap.size + 1 + 1, 0, none⟩) := hI.old 5 (noDst_spec (by kernel_rfl))
        have hlt := HI.out.2.2.1.lt
        have r0 := HI.out.1.below hB2 (by omega)
        have r1 := HI.out.2.1.below hB2 (by omega)
        have r2 := HI.out.2.2.1.below hB2 (by omega)
        have v0 := r2.c 0 rfl
        have v1 := r2.f 0 rfl
        have hBw := HI.out.2.2.2.2.trans (hB2.mono (by omega))
        have HZ := Lib.hid (And.intro r0 (And.intro r1 (And.intro r2 (And.intro hO hBw))))
        clear hI ho hup hq r0 r1 r2 hO hBw hB2
        go_simp
        refine hK undef _ (fun u hu => absurd (show (none : Option Value) = some u from hu) (by simp)) ⟨A2, cap2, HZ.out.1.other (p := ⟨w.heap.size + 1 + 1, 0, none⟩) (by simp; omega) _, HZ.out.2.1.other (p := ⟨w.heap.size + 1 + 1, 0, none⟩) (by simp) _, HZ.out.2.2.1.set 0 (by simp) _, ?_, below_put1 HZ.out.2.2.2.2 (by omega) _ _⟩
        have e : nodCs (nodesL (L.take (j + 1))) = nodCs (nodesL (L.take j)) ++ [.int .i64 s.ax, .int .i64 s.ay, .int .i64 s.bx, .int .i64 s.bY] := by rw [nodesL_next HS.out, nodCs_append]; rfl
        rw [e]
        exact HZ.out.2.2.2.1.put (fun g hg => by
          have hf := HZ.out.2.2.2.1.fresh
          cases A2 with
          | none => cases hg
          | some a0 => cases hg; have := hf _ rfl; simp; omega) _
      · intro listed a W hI hall hFin
        obtain ⟨A2, cap2, hZ⟩ := hFin
        have HZ := Lib.hid hZ
        clear hZ
        obtain ⟨f, hf⟩ : ∃ f : Nat → Value, ∀ t, slotOf a t = f t := ⟨_, fun _ => rfl⟩
        have ha := hI.frame [21, 22, 23, 24, 25, 26, 27, 28, 29, 30, 31, 32, 33] (by kernel_rfl) f hf
        clear hf hI hall
        subst ha
        simp only [setAll, List.foldl_cons, List.foldl_nil, List.setIfInBounds_toArray, List.set_cons_zero, List.set_cons_succ]
        go_wp2_with fail
        go_roundw
        case rel => exact ⟨j + 1, A2, cap2, by omega, by go_num, HZ⟩
        case measure => simp [intOf]; omega
    · obtain rfl : j = N := by omega
      have hjN : ¬ ((j : Int) < (j : Int)) := by omega
      go_wp2_with fail
      refine (Nodes_any A j c L _ HN.out (by omega) (HA.out.after HI.out.2.2.2.2)).mono ?_
      rintro e w4 ⟨E, A5, c5, rfl, hRE, hCA, hc5, hEs, hA5, hb4⟩
      have r3 := HI.out.1.after hb4
      have r4 := HI.out.2.1.after hb4
      have r9 := HI.out.2.2.1.after hb4
      have hB4 := HI.out.2.2.2.2.trans (hb4.mono HI.out.2.2.2.2.size)
      have hCk := (HI.out.2.2.2.1.cells).after hb4
      rw [HN.out, List.take_length] at hCk
      have HCk := Lib.hid hCk
      have HSEQ := Lib.hid (nodes_u 7 E L A5 j c5 w4 HN.out hc5 hb hRE hCA.segs)
      have HA5 : Hid (∀ k, kpS A5 j k → k < w4.heap.size) := Lib.hid (by have := hCA.segs.lt; rw [← HN.out] at this; exact this)
      obtain ⟨M, hM⟩ : ∃ M, M = 2 * j := ⟨_, rfl⟩
      have HT : Hid ((nodesL L).length = M) := Lib.hid (by rw [nodes_lenL, ← HN.out, hM])
      have hM40 : M ≤ 40 := by omega
      rw [← hM] at r9
      clear hM
      clear hCk hRE hCA hc5 hEs hA5 hb4 HI hjN hjn
      go_wp2_with fail
      refine wp_loop_rounds 3 ?_
      rw [rounds_succ]
      have hnil : ∀ W : World, (binOp .eql 73 (.func (.func 70) #[] #[.pointer (some ⟨E, 0, none⟩)]) .nilFunc).run Tryz.prog W = .ok (.bool false) W := fun W => by kernel_rfl
      have HNIL := Lib.hid hnil
      go_wp2_with fail
      clear hnil
      generalize hW : World.alloc _ _ = W1
      have hbT : Row W1 (w4.heap.size) [.int .i64 0] := by rw [← hW]; exact (Row.at (by simp) [.int .i64 0] _).alloc _
      have hbN : Row W1 (w4.heap.size + 1) [.int .i64 0] := by rw [← hW]; exact Row.at (by simp) [.int .i64 0] _
      have hB1 : Below w4.heap.size w4 W1 := by rw [← hW]; exact ((Below.refl _ _).alloc (Nat.le_refl _) _).alloc (by simp) _
      have hE : RoE w4 (w4.heap.size) 0 [] W1 := ⟨hB1, hbT, trivial⟩
      clear hB1
      clear hW
      have hlW : w4.heap.size + 1 < W1.heap.size := hbN.1
      refine (wpIn_wide (n := 9)).1 ?_
      refine wpIn_range_u (α := Int × Int) rfl (by omega) (gf := 70) (lb := #[.pointer (some ⟨E, 0, none⟩)]) rfl trivial (enters_of Tryz.func70 (by kernel_rfl) rfl)
        (HSEQ.out.later4 hE.1) Kq.trans (fun B l' W o o' h h2 _ _ => Kq.turn W o' h2 (fun hk => by have := HA5.out _ hk; have := hE.1.size; omega)) (fun _ _ _ h => Kq.below h) (Below.refl _ _) (fun _ => rfl)
        (RoJ (RoE w4 (w4.heap.size) 0 []) many (w4.heap.size + 1) 0) (RoX (RoE w4 (w4.heap.size) 0 []) many (w4.heap.size + 1) 0)
        (fun pre X Y h hb => ⟨h.1.under hE.1.size hbT.1 hE.2.2.lt hb, h.2.1.below hb hbN.1, h.2.2⟩)
        (fun c pre X Y h hb => ⟨h.1, h.2.1, h.2.2.1, h.2.2.2.1, h.2.2.2.2.1.under hE.1.size hbT.1 hE.2.2.lt hb, h.2.2.2.2.2.below hb hbN.1⟩)
        ⟨hE, hbN, fun _ => .inl rfl⟩
        (fun x a' W => ∃ Ba, W1.heap.size + 2 ≤ Ba ∧ Row W Ba [.int .i64 x.1, .int .i64 x.2] ∧ a' = { tmps := #[.slice A j c, .int .i64 many, undef, .pointer (some ⟨w.heap.size, 0, none⟩), .pointer (some ⟨w.heap.size + 1, 0, none⟩), .pointer (some ⟨w.heap.size + 1 + 1, 0, none⟩), .int .i64 (j : Nat), .func (.func 70) #[] #[.pointer (some ⟨E, 0, none⟩)], .pointer (some ⟨w4.heap.size, 0, none⟩), .pointer (some ⟨w4.heap.size + 1, 0, none⟩), .pointer (some ⟨Ba, 0, none⟩), .slice A j c, .int .i64 (j : Nat), .bool false, undef, .int .i64 (j : Nat), .slice A j c, .int .i64 (j : Nat), .bool false, u19, u20, u21, u22, u23, u24, u25, u26, u27, u28, u29, u30, u31, u32, u33, .slice A j c, .func (.func 70) #[] #[.pointer (some ⟨E, 0, none⟩)], .int .i64 0, .bool true, undef, undef, .func (.func 70) #[] #[.pointer (some ⟨E, 0, none⟩)], .bool false, .func (.func 70) #[] #[.pointer (some ⟨E, 0, none⟩)], .agg #[.int .i64 x.1, .int .i64 x.2], undef, undef, undef, undef, undef, undef, undef, undef, undef, undef, undef, undef, undef, undef, undef, undef, undef, undef, undef, undef, undef, undef, undef, undef, undef, undef, undef, undef, undef, undef, undef, undef, undef, undef, undef, undef, undef, undef, undef, undef, undef, undef, undef, undef], defers := [] })
        (fun x a' W lo o h1 h2 ⟨Ba, ha, r1, e⟩ => ⟨Ba, ha, r1.turn (by omega) o, e⟩) ?assign0 ?body0 ?done0 ?stop0
      case assign0 =>
        intro l' pre x W K hI hW hK
        clear hI
        unfold encN
        gi_wp2
        exact hK _ _ ((Below.refl _ _).alloc (Nat.le_refl _) _) ⟨W.heap.size, hW, Row.at rfl _ _, rfl⟩
      case body0 =>
        rintro l' pre x a' W ⟨hE2, hNW, hT0⟩ hW hp ⟨Ba, hBa, q1, rfl⟩
        have hl : pre.length < M := by have := hp.length_le; rw [HT.out] at this; simp at this; omega
        have hget : (nodesL L)[pre.length]? = some x := by
          obtain ⟨t, ht⟩ := hp
          rw [← ht]; simp
        obtain ⟨bk, ok, rfl, hlk⟩ := (HCk.out.after hE2.1) (by rw [nodCs_len, HT.out]; omega)
        obtain ⟨g0, g1⟩ := nodCs_get _ _ _ hget
        have d0 := hlk.2 _ _ g0
        have d1 : W.cell? ⟨bk, ok + pre.length * 2 + 1, none⟩ = some (.int .i64 x.2) := hlk.2 _ _ g1
        have e3 := (r3.after hE2.1).c 0 rfl
        have e5 := (r9.after hE2.1).c 0 rfl
        have e8 := hE2.2.1.c 0 rfl
        have e9 := hNW.c 0 rfl
        have f9 := hNW.f 0 rfl
        have a0 := q1.c 0 rfl
        have a1 := q1.c 1 rfl
        have HNW := Lib.hid hNW
        have HE := Lib.hid hE2
        have HT0 := Lib.hid hT0
        have hlN : w4.heap.size + 1 < W.heap.size := hNW.1
        clear hE2 hNW hlk hget hp hT0 hE hbT hbN g0 g1 q1
        obtain ⟨i, hi⟩ : ∃ i, i = pre.length := ⟨_, rfl⟩
        rw [← hi] at d0 d1 e9 hl
        have hi0 : (i : Int) < (M : Int) := by omega
        have hi20 : i ≤ 1000 := by omega
        have hwr : IntKind.i64.wrap ((i : Int) + 1) = (i : Int) + 1 := wr_next4 i (by omega)
        have HI := Lib.hid hi
        clear hi
        have n1 := neqNd x.1 x.2
        gi_wp2_with fail
        refine wpIn_region_quiet_round (by kernel_rfl) (by kernel_rfl) (by kernel_rfl) ?_
        repeat (quiet_step_in (fail))
        refine wpQuietIn_nil ?_
        rintro _ ⟨nq, rfl⟩
        have hBV := below_drewN (Below.refl W.heap.size W) nq
        replace HE := Lib.hid (HE.out.after hBV)
        replace HNW := HNW.out.after hBV
        have HKO := Lib.hid (keeps_below hBV)
        have HKF := Lib.hid (Kq.below (S := kpS A5 j) (B := W1.heap.size + 2) hBV)
        generalize W.drewN nq = V at *
        clear e3 e5 e8 e9 f9 a0 a1 d0 d1 n1 hBV
        have e3 := (r3.after HE.out.1).c 0 rfl
        have e8 := HE.out.2.1.c 0 rfl
        have e9 := HNW.c 0 rfl
        have f9 := HNW.f 0 rfl
        have hNW' := HNW.set 0 (by simp) (.int .i64 ((pre.length : Int) + 1))
        have eL : [Value.int .i64 ((pre.length : Nat) : Int)].set 0 (.int .i64 ((pre.length : Int) + 1)) = [.int .i64 (((pre ++ [x]).length : Nat) : Int)] := by simp
        rw [eL, ← HI.out] at hNW'
        rw [← HI.out] at e9
        replace HNW := Lib.hid hNW'
        clear eL hNW'
        have hfin : ∀ u, KeepsFrom W1.heap.size W (V.setCell ⟨w4.heap.size + 1, 0, none⟩ u) ∧ Kq (kpS A5 j) (W1.heap.size + 2) W (V.setCell ⟨w4.heap.size + 1, 0, none⟩ u) ∧ RoE w4 (w4.heap.size) 0 [] (V.setCell ⟨w4.heap.size + 1, 0, none⟩ u) := fun u =>
          ⟨(HKO.out.trans (KeepsOthers.setCell _ _ _)).from _, HKF.out.trans (Kq.put V u (by omega) (fun hk => by have := HA5.out _ hk; omega)), HE.out.put (by omega) (by omega) (fun D hD => by simp at hD) u⟩
        have HF := Lib.hid hfin
        have HL : Hid ((i : Int) + 1 = ((pre ++ [x]).length : Nat)) := Lib.hid (by rw [HI.out]; simp)
        have e3' := ((r3.after HE.out.1).other (p := ⟨w4.heap.size + 1, 0, none⟩) (by have := r3.1; simp; omega) (.int .i64 ((i : Int) + 1))).c 0 rfl
        have e8' := (HE.out.2.1.other (p := ⟨w4.heap.size + 1, 0, none⟩) (by simp) (.int .i64 ((i : Int) + 1))).c 0 rfl
        clear hfin
        by_cases hbr : many ≤ (i : Int) + 1
        · gi_wp2_with fail
          exact ⟨(HF.out _).1, (HF.out _).2.1, rfl, rfl, ⟨pre, x, rfl, HT0.out (by first | rfl | trivial)⟩, by rw [← HL.out]; exact hbr, (HF.out _).2.2, HNW.out⟩
        · gi_wp2_with fail
          exact ⟨(HF.out _).1, (HF.out _).2.1, (HF.out _).2.2, HNW.out, fun _ => .inr (by rw [← HL.out]; omega)⟩
      all_goals
        first
          | (rintro D0 V0 hD ⟨hE2, hNW, hT0⟩ hK
             obtain ⟨N0, hN, hNW⟩ : ∃ N0 : Nat, (N0 : Int) = min ((M : Nat) : Int) (max 1 many) ∧ Row V0 (w4.heap.size + 1) [.int .i64 (N0 : Nat)] := ⟨_, ro_done HT.out (hT0 rfl), hNW⟩
             clear hT0)
          | (rintro D0 cx pre V0 hD hp hX hK
             obtain ⟨rfl, _, N0, hN, hE2, hNW⟩ := hX.left HT.out hp
             clear hX hp
             refine wpIn_wide.2 ?_)
        have hcmp : ((N0 : Int) != min ((M : Nat) : Int) (max 1 many)) = false := by rw [← hN]; simp
        have e3 := (r3.after hE2.1).c 0 rfl
        have e5 := (r9.after hE2.1).c 0 rfl
        have e8 := hE2.2.1.c 0 rfl
        have e9 := hNW.c 0 rfl
        have lD := (Array.getElem?_eq_some_iff.1 hK).1
        have hwD : w4.heap.size ≤ D0 := Nat.le_trans hE.1.size hD
        have HE0 := Lib.hid hE2.1
        have HK0 := Lib.hid hK
        clear hE hbT hbN hD hE2 hK hN hNW
        go_wp2_with fail
        clear e3 e5 e8 e9 hcmp
        rw [rounds_succ]
        have hnil := HNIL.out
        go_wp2_with fail
        clear hnil
        generalize hW : World.alloc _ _ = W1
        have hbT : Row W1 (V0.heap.size) [.int .i64 1] := by rw [← hW]; exact (Row.at (by simp) [.int .i64 1] _).alloc _
        have hbN : Row W1 (V0.heap.size + 1) [.int .i64 0] := by rw [← hW]; exact Row.at (by simp) [.int .i64 0] _
        have hB1 : Below V0.heap.size V0 W1 := by rw [← hW]; exact ((Below.refl _ _).alloc (Nat.le_refl _) _).alloc (by simp) _
        have hE : RoE w4 (V0.heap.size) 1 [D0] W1 := ⟨HE0.out.trans (hB1.mono HE0.out.size), hbT, ⟨hwD, (hB1.block D0 lD).trans HK0.out, by simp, trivial⟩⟩
        have hw0 := HE0.out.size
        clear hB1 HE0 HK0
        clear hW
        have hlW : V0.heap.size + 1 < W1.heap.size := hbN.1
        refine (wpIn_wide (n := 9)).1 ?_
        refine wpIn_range_u (α := Int × Int) rfl (by omega) (gf := 70) (lb := #[.pointer (some ⟨E, 0, none⟩)]) rfl trivial (enters_of Tryz.func70 (by kernel_rfl) rfl)
          (HSEQ.out.later4 hE.1) Kq.trans (fun B l' W o o' h h2 _ _ => Kq.turn W o' h2 (fun hk => by have := HA5.out _ hk; have := hE.1.size; omega)) (fun _ _ _ h => Kq.below h) (Below.refl _ _) (fun _ => rfl)
          (RoJ (RoE w4 (V0.heap.size) 1 [D0]) many (V0.heap.size + 1) 1) (RoX (RoE w4 (V0.heap.size) 1 [D0]) many (V0.heap.size + 1) 1)
          (fun pre X Y h hb => ⟨h.1.under hE.1.size hbT.1 hE.2.2.lt hb, h.2.1.below hb hbN.1, h.2.2⟩)
          (fun c pre X Y h hb => ⟨h.1, h.2.1, h.2.2.1, h.2.2.2.1, h.2.2.2.2.1.under hE.1.size hbT.1 hE.2.2.lt hb, h.2.2.2.2.2.below hb hbN.1⟩)
          ⟨hE, hbN, fun _ => .inl rfl⟩
          (fun x a' W => ∃ Ba, W1.heap.size + 2 ≤ Ba ∧ Row W Ba [.int .i64 x.1, .int .i64 x.2] ∧ a' = { tmps := #[.slice A j c, .int .i64 many, undef, .pointer (some ⟨w.heap.size, 0, none⟩), .pointer (some ⟨w.heap.size + 1, 0, none⟩), .pointer (some ⟨w.heap.size + 1 + 1, 0, none⟩), .int .i64 (j : Nat), .func (.func 70) #[] #[.pointer (some ⟨E, 0, none⟩)], .pointer (some ⟨V0.heap.size, 0, none⟩), .pointer (some ⟨V0.heap.size + 1, 0, none⟩), .pointer (some ⟨Ba, 0, none⟩), .slice A j c, .int .i64 (j : Nat), .bool false, undef, .int .i64 (j : Nat), .slice A j c, .int .i64 (j : Nat), .bool false, u19, u20, u21, u22, u23, u24, u25, u26, u27, u28, u29, u30, u31, u32, u33, .slice A j c, .func (.func 70) #[] #[.pointer (some ⟨E, 0, none⟩)], .int .i64 1, .bool true, .int .i64 0, .int .i64 1, .func (.func 70) #[] #[.pointer (some ⟨E, 0, none⟩)], .bool false, .func (.func 70) #[] #[.pointer (some ⟨E, 0, none⟩)], .agg #[.int .i64 x.1, .int .i64 x.2], undef, undef, undef, undef, undef, undef, undef, undef, undef, undef, undef, undef, undef, undef, undef, undef, undef, undef, undef, undef, undef, .int .i64 0, .bool true, .bool true, .int .i64 (N0 : Nat), .slice A' M cap', .int .i64 (M : Nat), .int .i64 many, .int .i64 (max 1 many), .int .i64 (min (M : Nat) (max 1 many)), .bool false, .bool false, .bool false, .int .i64 0, .bool false, .bool false, undef, undef, undef, undef, .bool false, .bool false, .int .i64 0, undef], defers := [] })
          (fun x a' W lo o h1 h2 ⟨Ba, ha, r1, e⟩ => ⟨Ba, ha, r1.turn (by omega) o, e⟩) ?assign1 ?body1 ?done1 ?stop1
        case assign1 =>
          intro l' pre x W K hI hW hK
          clear hI
          unfold encN
          gi_wp2
          exact hK _ _ ((Below.refl _ _).alloc (Nat.le_refl _) _) ⟨W.heap.size, hW, Row.at rfl _ _, rfl⟩
        case body1 =>
          rintro l' pre x a' W ⟨hE2, hNW, hT0⟩ hW hp ⟨Ba, hBa, q1, rfl⟩
          have hl : pre.length < M := by have := hp.length_le; rw [HT.out] at this; simp at this; omega
          have hget : (nodesL L)[pre.length]? = some x := by
            obtain ⟨t, ht⟩ := hp
            rw [← ht]; simp
          obtain ⟨bk, ok, rfl, hlk⟩ := (HCk.out.after hE2.1) (by rw [nodCs_len, HT.out]; omega)
          obtain ⟨g0, g1⟩ := nodCs_get _ _ _ hget
          have d0 := hlk.2 _ _ g0
          have d1 : W.cell? ⟨bk, ok + pre.length * 2 + 1, none⟩ = some (.int .i64 x.2) := hlk.2 _ _ g1
          have e3 := (r3.after hE2.1).c 0 rfl
          have e5 := (r9.after hE2.1).c 0 rfl
          have e8 := hE2.2.1.c 0 rfl
          have e9 := hNW.c 0 rfl
          have f9 := hNW.f 0 rfl
          have a0 := q1.c 0 rfl
          have a1 := q1.c 1 rfl
          have HNW := Lib.hid hNW
          have HE := Lib.hid hE2
          have HT0 := Lib.hid hT0
          have hlN : V0.heap.size + 1 < W.heap.size := hNW.1
          clear hE2 hNW hlk hget hp hT0 hE hbT hbN g0 g1 q1
          obtain ⟨i, hi⟩ : ∃ i, i = pre.length := ⟨_, rfl⟩
          rw [← hi] at d0 d1 e9 hl
          have hi0 : (i : Int) < (M : Int) := by omega
          have hi20 : i ≤ 1000 := by omega
          have hwr : IntKind.i64.wrap ((i : Int) + 1) = (i : Int) + 1 := wr_next4 i (by omega)
          have HI := Lib.hid hi
          clear hi
          have n1 := neqNd x.1 x.2
          gi_wp2_with fail
          refine wpIn_region_quiet_round (by kernel_rfl) (by kernel_rfl) (by kernel_rfl) ?_
          repeat (quiet_step_in (fail))
          refine wpQuietIn_nil ?_
          rintro _ ⟨nq, rfl⟩
          have hBV := below_drewN (Below.refl W.heap.size W) nq
          replace HE := Lib.hid (HE.out.after hBV)
          replace HNW := HNW.out.after hBV
          have HKO := Lib.hid (keeps_below hBV)
          have HKF := Lib.hid (Kq.below (S := kpS A5 j) (B := W1.heap.size + 2) hBV)
          generalize W.drewN nq = V at *
          clear e3 e5 e8 e9 f9 a0 a1 d0 d1 n1 hBV
          have e3 := (r3.after HE.out.1).c 0 rfl
          have e8 := HE.out.2.1.c 0 rfl
          have e9 := HNW.c 0 rfl
          have f9 := HNW.f 0 rfl
          have hNW' := HNW.set 0 (by simp) (.int .i64 ((pre.length : Int) + 1))
          have eL : [Value.int .i64 ((pre.length : Nat) : Int)].set 0 (.int .i64 ((pre.length : Int) + 1)) = [.int .i64 (((pre ++ [x]).length : Nat) : Int)] := by simp
          rw [eL, ← HI.out] at hNW'
          rw [← HI.out] at e9
          replace HNW := Lib.hid hNW'
          clear eL hNW'
          have hfin : ∀ u, KeepsFrom W1.heap.size W (V.setCell ⟨V0.heap.size + 1, 0, none⟩ u) ∧ Kq (kpS A5 j) (W1.heap.size + 2) W (V.setCell ⟨V0.heap.size + 1, 0, none⟩ u) ∧ RoE w4 (V0.heap.size) 1 [D0] (V.setCell ⟨V0.heap.size + 1, 0, none⟩ u) := fun u =>
            ⟨(HKO.out.trans (KeepsOthers.setCell _ _ _)).from _, HKF.out.trans (Kq.put V u (by omega) (fun hk => by have := HA5.out _ hk; omega)), HE.out.put (by omega) (by omega) (fun D hD => by simp at hD; omega) u⟩
          have HF := Lib.hid hfin
          have HL : Hid ((i : Int) + 1 = ((pre ++ [x]).length : Nat)) := Lib.hid (by rw [HI.out]; simp)
          have e3' := ((r3.after HE.out.1).other (p := ⟨V0.heap.size + 1, 0, none⟩) (by have := r3.1; simp; omega) (.int .i64 ((i : Int) + 1))).c 0 rfl
          have e8' := (HE.out.2.1.other (p := ⟨V0.heap.size + 1, 0, none⟩) (by simp) (.int .i64 ((i : Int) + 1))).c 0 rfl
          clear hfin
          gi_wp2_with fail
          exact ⟨(HF.out _).1, (HF.out _).2.1, (HF.out _).2.2, HNW.out, fun h => absurd h (by decide)⟩
        case stop1 =>
          rintro D cx pre V hD hp hX hK
          exact absurd hX.2.1 (by decide)
        case done1 =>
          rintro D V hD ⟨hE2, hNW, _⟩ hK
          rw [HT.out] at hNW
          have e3 := (r3.after hE2.1).c 0 rfl
          have e5 := (r9.after hE2.1).c 0 rfl
          have e8 := hE2.2.1.c 0 rfl
          have e9 := hNW.c 0 rfl
          have hMk : Marks w4.heap.size [D, D0] V := ⟨Nat.le_trans (Nat.le_trans hw0 (by omega)) hD, hK, fun E hE' => by simp at hE'; subst hE'; omega, hE2.2.2⟩
          have HM := Lib.hid hMk
          have HE := Lib.hid hE2.1
          have HR4 := Lib.hid (r4.after hE2.1)
          have hz4 : w.heap.size + 1 < w4.heap.size := r4.1
          clear hE hbT hbN hD hE2 hK hNW hMk
          go_wp2_with fail
          clear e3 e5 e8 e9
          rw [rounds_succ]
          go_wp2_with fail
          generalize hVV : World.alloc _ _ = V4
          have hB3 : Below V.heap.size V V4 := by rw [← hVV]; exact (Below.refl _ _).alloc (Nat.le_refl _) _
          have hBw : Below w.heap.size w V4 := hB4.trans ((HE.out.trans (hB3.mono HE.out.size)).mono hB4.size)
          refine (HW.out V4 hBw).mono ?_
          rintro e V6 ⟨rfl, hb⟩
          have r6 := (HR4.out.after hB3).after hb
          have x6 := r6.c 0 rfl
          have f6 := r6.f 0 rfl
          have hM2 := HM.out.below HM.out.lt hB3
          have hM3 := hM2.below hM2.lt hb
          have hwl := HM.out.1
          have hM4 := hM3.put (b := w.heap.size + 1) (.bool true) (fun D' hD' => by have h := hM3.lt D' hD'; simp at hD'; have := HM.out.2.2.2.1; omega)
          have r7 := r6.set 0 (by simp) (.bool true)
          have hb7 : Below w.heap.size w (V6.setCell ⟨w.heap.size + 1, 0, none⟩ (.bool true)) := below_put1 (hBw.trans (hb.mono hBw.size)) (by omega) _ _
          have HZ := Lib.hid (And.intro r7 (And.intro hM4 hb7))
          clear hVV hB3 hBw r6 hM2 hM3 hM4 r7 hb7 hb
          go_wp2_with fail
          clear x6 f6
          generalize V6.setCell ⟨w.heap.size + 1, 0, none⟩ (.bool true) = V7 at HZ ⊢
          refine leaves_marks [D, D0] V7 HZ.out.2.1 fun V5 hV => ?_
          have c1 := (HZ.out.1.below hV hz4).c 0 rfl
          exact ⟨.bool true, by simp [results, Tryz.results6, go_sem, c1], rfl, HZ.out.2.2.trans (hV.mono hB4.size)⟩

end Go.Proofs.YtdfmmkidknginaaGreatDoor
