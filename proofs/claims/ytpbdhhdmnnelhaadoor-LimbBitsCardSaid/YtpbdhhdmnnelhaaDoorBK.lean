/- law01.LimbBits: what it gathers; the contract of Bits. -/
import Derived.Test.YtpbdhhdmnnelhaaDoorBJ
import Derived.Test.YtpbdhhdmnnelhaaDoorBA
import Derived.Test.YtpbdhhdmnnelhaaDoorP
import Derived.Test.YtpbdhhdmnnelhaaDoorV
namespace Go.Proofs.YtpbdhhdmnnelhaaDoor
open Go.RowKit Go.Shelf
attribute [local go_sem] Oper.semAt_some

theorem infoInt : (Tryd.prog.info? 3).map (fun i => (i.zero, i.size, i.bytes)) = some (some (.int .i64 0), 1, 8) := by kernel_rfl
/-- Contract of Bits: what places hands back. -/
theorem bits_any (s : Bool) (m : Nat → Nat) (w : World) :
    Calls Tryd.prog 40 #[iv s (m 0) (m 1) (m 2) (m 3)] w fun e w' => ∃ b, e = .returned (.func (.func 85) #[] #[.pointer (some ⟨b, 0, none⟩)]) ∧ Row w' b [.int .u64 (m 0), .int .u64 (m 1), .int .u64 (m 2), .int .u64 (m 3)] ∧ w.heap.size ≤ b ∧ Below w.heap.size w w' := by
  go_enter Tryd.func40, Tryd.ntmps40
  go_wp2_with fail
  refine (callsIn_wide (n := 7)).1 ((places_in m _).mono ?_)
  rintro e w1 ⟨rfl, rfl⟩
  go_wp2_with fail
  go_ret
  exact ⟨_, rfl, Row.at (by simp) _ _, by simp, ((Below.refl _ _).alloc (Nat.le_refl _) _).alloc (by simp) _⟩

/-- The places as cells. -/
def intV (l : List Nat) : List Value := l.map fun j => Value.int .i64 (j : Nat)
theorem intV_len (l : List Nat) : (intV l).length = l.length := by simp [intV]
theorem intV_at {l : List Nat} {i j : Nat} (h : l[i]? = some j) : (intV l)[i]? = some (.int .i64 (j : Nat)) := by simp [intV, h]
theorem intV_snoc (l : List Nat) (j : Nat) : intV (l ++ [j]) = intV l ++ [.int .i64 (j : Nat)] := by simp [intV]
/-- What stands while LimbBits gathers. -/
def BiS (w : World) (s : Bool) (m : Nat → Nat) (many : Int) (l : List Nat) (v : Value) (wr : World) : Prop :=
  Row wr w.heap.size [.bool s, .int .u64 (m 0), .int .u64 (m 1), .int .u64 (m 2), .int .u64 (m 3)] ∧ Row wr (w.heap.size + 1) [.int .i64 many] ∧ Row wr (w.heap.size + 2) [.bool false] ∧ Row wr (w.heap.size + 3) [v] ∧
    wr.ownsRow (w.heap.size + 4) 3 1 v l.length (intV l) ∧ Below w.heap.size w wr ∧ w.heap.size + 4 ≤ wr.heap.size
section
variable {w wr w1 : World} {s : Bool} {m : Nat → Nat} {many : Int} {l : List Nat} {v v' : Value} {o : Obj}
theorem BiS.after (h : BiS w s m many l v wr) (hb : Below wr.heap.size wr w1) : BiS w s m many l v w1 := by
  obtain ⟨h1, h2, h3, h4, h5, h6, h7⟩ := h
  refine ⟨h1.after hb, h2.after hb, h3.after hb, h4.after hb, ?_, h6.trans (hb.mono h6.size), Nat.le_trans h7 hb.size⟩
  exact h5.kept (row := none) ⟨hb.os, hb.tape, hb.output, hb.size, fun k hk _ => hb.block k hk⟩ (by cases v.ownBlock <;> simp)
theorem BiS.own (h : BiS w s m many l v wr) : wr.ownsRow (w.heap.size + 4) 3 1 v l.length (intV l) := h.2.2.2.2.1
theorem BiS.word (h : BiS w s m many l v wr) (j : Nat) (hj : j < 4) : wr.cell? ⟨w.heap.size, 1 + j, none⟩ = some (.int .u64 (m j : Nat)) := by
  have r := h.1
  match j, hj with
  | 0, _ => exact r.c 1 rfl
  | 1, _ => exact r.c 2 rfl
  | 2, _ => exact r.c 3 rfl
  | 3, _ => exact r.c 4 rfl
theorem BiS.want (h : BiS w s m many l v wr) (hg : (wr.alloc o).grownBy w1 v.ownBlock) : Row w1 (w.heap.size + 3) [v] :=
  (h.2.2.2.1.alloc o).grown hg (fun e => by have := h.2.2.2.2.1.lt _ e.symm; omega)
theorem BiS.step {x : Nat} (h : BiS w s m many l v wr) (hown : w1.ownsRow (w.heap.size + 4) 3 1 v' (l.length + 1) (intV l ++ [.int .i64 (x : Nat)])) (hg : (wr.alloc o).grownBy w1 v.ownBlock) :
    BiS w s m many (l ++ [x]) v' (w1.setCell ⟨w.heap.size + 3, 0, none⟩ v') := by
  obtain ⟨h1, h2, h3, h4, h5, h6, h7⟩ := h
  have hne : ∀ j, j < w.heap.size + 4 → some j ≠ v.ownBlock := fun j hj e => by have := h5.lt j e.symm; omega
  have hsz : wr.heap.size ≤ w1.heap.size := Nat.le_trans (by simp) hg.size
  refine ⟨((h1.alloc o).grown hg (hne _ (by omega))).other (p := ⟨w.heap.size + 3, 0, none⟩) (by simp) _, ((h2.alloc o).grown hg (hne _ (by omega))).other (p := ⟨w.heap.size + 3, 0, none⟩) (by simp) _,
    ((h3.alloc o).grown hg (hne _ (by omega))).other (p := ⟨w.heap.size + 3, 0, none⟩) (by simp) _, ((h4.alloc o).grown hg (hne _ (by omega))).set 0 (by simp) v', ?_, ?_, by simpa [World.setCell] using Nat.le_trans h7 hsz⟩
  · rw [intV_snoc, List.length_append]
    exact ownsRow_setCell_below hown (a := ⟨w.heap.size + 3, 0, none⟩) (by simp) v'
  · exact below_put1 ((h6.alloc (by omega) o).grown hg (by simp; omega) (fun j hj => by have := (h5.lt j hj).1; omega)) (by omega) _ _
end
theorem Row.kept {A B : World} {b : Nat} {vs : List Value} {row : Option Nat} (h : Row A b vs) (hg : A.grownBy B row) (hr : ∀ r, row = some r → ∃ o : Obj, A.heap[r]? = some o ∧ o.isCells = false) : Row B b vs :=
  ⟨Nat.lt_of_lt_of_le h.1 hg.size, fun _ _ hv => ⟨cell_kept (h.c _ hv) hg hr, (frozen_kept (h.c _ hv) hg hr).trans (h.f _ hv)⟩⟩
theorem BiS.kept {w A B : World} {s : Bool} {m : Nat → Nat} {many : Int} {l : List Nat} {v : Value} {row : Option Nat} (h : BiS w s m many l v A) (hg : A.grownBy B row) (hr : ∀ r, row = some r → w.heap.size ≤ r ∧ ∃ o : Obj, A.heap[r]? = some o ∧ o.isCells = false) : BiS w s m many l v B := by
  obtain ⟨h1, h2, h3, h4, h5, h6, h7⟩ := h
  have hr' := fun r e => (hr r e).2
  refine ⟨h1.kept hg hr', h2.kept hg hr', h3.kept hg hr', h4.kept hg hr', h5.kept hg ?_, h6.grown hg h6.size (fun k e => (hr k e).1), Nat.le_trans h7 hg.size⟩
  by_cases e : v.ownBlock = row
  · left
    cases hv : v.ownBlock with
    | none => rfl
    | some g =>
      obtain ⟨o, ho, hc⟩ := hr' g (e ▸ hv)
      obtain ⟨_, ⟨rfl, _⟩ | ⟨g', cap, cur, rfl, _, hh, _⟩⟩ := h5
      · simp [Value.ownBlock] at hv
      · have : g' = g := by simpa [Value.ownBlock] using hv
        subst this
        rw [hh] at ho
        cases ho
        simp [Obj.isCells] at hc
  · exact .inr e
theorem BiS.putOther {w W : World} {s : Bool} {m : Nat → Nat} {many : Int} {l : List Nat} {v : Value} (h : BiS w s m many l v W) {b : Nat} (hb : w.heap.size + 4 ≤ b) (hv : v.ownBlock ≠ some b) (u : Value) : BiS w s m many l v (W.setCell ⟨b, 0, none⟩ u) := by
  obtain ⟨h1, h2, h3, h4, h5, h6, h7⟩ := h
  exact ⟨h1.other (p := ⟨b, 0, none⟩) (by simp; omega) _, h2.other (p := ⟨b, 0, none⟩) (by simp; omega) _, h3.other (p := ⟨b, 0, none⟩) (by simp; omega) _, h4.other (p := ⟨b, 0, none⟩) (by simp; omega) _,
    ownsRow_setCell_other h5 (a := ⟨b, 0, none⟩) hv u, below_put1 h6 (by omega) _ _, by simpa [World.setCell] using h7⟩
/-- What a turn leaves alone: what was gathered, what the iterator reads, the turn's number. -/
def BiE (w : World) (s : Bool) (m : Nat → Nat) (many : Int) (L : List Nat) (v : Value) (bP bT : Nat) (t : Int) (W : World) : Prop :=
  BiS w s m many L v W ∧ Row W bP [.int .u64 (m 0), .int .u64 (m 1), .int .u64 (m 2), .int .u64 (m 3)] ∧ Row W bT [.int .i64 t]
/-- .. and what is deferred. -/
def BiF (w : World) (s : Bool) (m : Nat → Nat) (many : Int) (L : List Nat) (v : Value) (bP bT : Nat) (t : Int) (D : Nat) (W : World) : Prop :=
  BiE w s m many L v bP bT t W ∧ D < W.heap.size ∧ W.heap[D]? = some (.deferred (some []))
/-- Between the rounds of a turn. -/
def BiJ (E : World → Prop) (many : Int) (bN : Nat) (t : Int) (pre : List Nat) (W : World) : Prop :=
  E W ∧ Row W bN [.int .i64 (pre.length : Nat)] ∧ (t = 0 → pre = [] ∨ (pre.length : Int) < many)
/-- A turn that is left: at a place that is none, or since there are enough. -/
def BiX (E : World → Prop) (many : Int) (L : List Nat) (bN : Nat) (t : Int) (c : Code) (pre : List Nat) (W : World) : Prop :=
  (c = .ret ∧ ∃ p x, pre = p ++ [x] ∧ L[p.length]? ≠ some x) ∨
  (c = .exit 4 ∧ t = 0 ∧ (∃ p x, pre = p ++ [x] ∧ (p = [] ∨ (p.length : Int) < many)) ∧ many ≤ (pre.length : Nat) ∧ E W ∧ Row W bN [.int .i64 (pre.length : Nat)])
theorem BiE.kept {w A B : World} {s : Bool} {m : Nat → Nat} {many t : Int} {L : List Nat} {v : Value} {bP bT : Nat} {row : Option Nat} (h : BiE w s m many L v bP bT t A) (hg : A.grownBy B row) (hr : ∀ r, row = some r → w.heap.size ≤ r ∧ ∃ o : Obj, A.heap[r]? = some o ∧ o.isCells = false) : BiE w s m many L v bP bT t B :=
  ⟨h.1.kept hg hr, h.2.1.kept hg (fun r e => (hr r e).2), h.2.2.kept hg (fun r e => (hr r e).2)⟩
theorem BiE.put {w W : World} {s : Bool} {m : Nat → Nat} {many t : Int} {L : List Nat} {v : Value} {bP bT b : Nat} (h : BiE w s m many L v bP bT t W) (hb : w.heap.size + 4 ≤ b) (hv : v.ownBlock ≠ some b) (hP : b ≠ bP) (hT : b ≠ bT) (u : Value) : BiE w s m many L v bP bT t (W.setCell ⟨b, 0, none⟩ u) :=
  ⟨h.1.putOther hb hv u, h.2.1.other (p := ⟨b, 0, none⟩) hP u, h.2.2.other (p := ⟨b, 0, none⟩) hT u⟩
theorem BiF.kept {w A B : World} {s : Bool} {m : Nat → Nat} {many t : Int} {L : List Nat} {v : Value} {bP bT D n : Nat} {row : Option Nat} (h : BiF w s m many L v bP bT t D A) (hg : A.grownBy B row) (hw : w.heap.size ≤ n) (hD : D < n) (hr : ∀ r, row = some r → n ≤ r ∧ ∃ o : Obj, A.heap[r]? = some o ∧ o.isCells = false) : BiF w s m many L v bP bT t D B :=
  ⟨h.1.kept hg (fun r e => ⟨Nat.le_trans hw (hr r e).1, (hr r e).2⟩), Nat.lt_of_lt_of_le h.2.1 hg.size, (hg.block D h.2.1 (fun e => by have := (hr D e.symm).1; omega)).trans h.2.2⟩
theorem BiF.put {w W : World} {s : Bool} {m : Nat → Nat} {many t : Int} {L : List Nat} {v : Value} {bP bT b D : Nat} (h : BiF w s m many L v bP bT t D W) (hb : w.heap.size + 4 ≤ b) (hv : v.ownBlock ≠ some b) (hP : b ≠ bP) (hT : b ≠ bT) (hD : D ≠ b) (u : Value) : BiF w s m many L v bP bT t D (W.setCell ⟨b, 0, none⟩ u) :=
  ⟨h.1.put hb hv hP hT u, by simpa [World.setCell] using h.2.1, (Below.heap_setCell _ _ _ _ hD).trans h.2.2⟩
theorem BiJ.kept {E : World → Prop} {A B : World} {many t : Int} {pre : List Nat} {bN : Nat} {row : Option Nat} (h : BiJ E many bN t pre A) (hE : E A → E B) (hg : A.grownBy B row) (hr : ∀ r, row = some r → ∃ o : Obj, A.heap[r]? = some o ∧ o.isCells = false) : BiJ E many bN t pre B :=
  ⟨hE h.1, h.2.1.kept hg hr, h.2.2⟩
theorem BiX.kept {E : World → Prop} {A B : World} {many t : Int} {L pre : List Nat} {bN : Nat} {c : Code} {row : Option Nat} (h : BiX E many L bN t c pre A) (hE : E A → E B) (hg : A.grownBy B row) (hr : ∀ r, row = some r → ∃ o : Obj, A.heap[r]? = some o ∧ o.isCells = false) : BiX E many L bN t c pre B := by
  rcases h with h | ⟨h1, h2, h3, h4, h5, h6⟩
  · exact .inl h
  · exact .inr ⟨h1, h2, h3, h4, hE h5, h6.kept hg hr⟩
theorem BiS.vform {w W : World} {s : Bool} {m : Nat → Nat} {many : Int} {l : List Nat} {v : Value} (h : BiS w s m many l v W) : ∃ A c, v = .slice A l.length c ∧ ∀ i x, l[i]? = some x → ∃ g, A = some ⟨g, 0, none⟩ ∧ W.cell? ⟨g, i, none⟩ = some (.int .i64 (x : Nat)) := by
  obtain ⟨_, ⟨hv, h0⟩ | ⟨g, cap, cur, hv, _, hg, hn, _, hs, ht⟩⟩ := h.own
  · exact ⟨none, 0, by rw [hv, h0], fun i x hx => by rw [List.eq_nil_of_length_eq_zero h0] at hx; simp at hx⟩
  · refine ⟨some ⟨g, 0, none⟩, cap, hv, fun i x hx => ⟨g, rfl, ?_⟩⟩
    have h1 := intV_at hx
    have hil : i < l.length := by
      rcases Nat.lt_or_ge i l.length with h | h
      · exact h
      · rw [List.getElem?_eq_none h] at hx; cases hx
    rw [← ht, List.getElem?_take, if_pos (by omega)] at h1
    simp [World.cell?, hg]
    simpa using h1
theorem bi_done {L : List Nat} {many : Int} (h : (0 : Int) = 0 → L = [] ∨ (L.length : Int) < many) : ((L.length : Nat) : Int) = min ((L.length : Nat) : Int) (max 1 many) := by
  rcases h rfl with h | h
  · subst h; simp; omega
  · omega
theorem BiX.left {E : World → Prop} {W : World} {many t : Int} {L pre : List Nat} {bN : Nat} {c : Code} (h : BiX E many L bN t c pre W) (hp : pre <+: L) :
    c = .exit 4 ∧ t = 0 ∧ ∃ N : Nat, (N : Int) = min ((L.length : Nat) : Int) (max 1 many) ∧ E W ∧ Row W bN [.int .i64 (N : Nat)] := by
  rcases h with ⟨rfl, p, x, rfl, hne⟩ | ⟨rfl, h0, ⟨p, x, rfl, hpm⟩, hpl, hE, hN⟩
  · exact absurd (by
      obtain ⟨q, hq⟩ := hp
      rw [← hq, List.getElem?_append_left (by simp), List.getElem?_append_right (Nat.le_refl _)]; simp) hne
  · refine ⟨rfl, h0, _, ?_, hE, hN⟩
    have hl := hp.length_le
    simp only [List.length_append, List.length_cons, List.length_nil] at hl hpl ⊢
    rcases hpm with h | h
    · subst h; simp at hl hpl ⊢; omega
    · omega
theorem bit_val (x r : Nat) : ((((x : Nat) : Int) / 2 ^ r).tmod 2 == 1) = x.testBit r := by
  rw [Nat.testBit_eq_decide_div_mod_eq]
  have : (((x : Nat) : Int) / 2 ^ r).tmod 2 = ((x / 2 ^ r % 2 : Nat) : Int) := by
    rw [Int.tmod_eq_emod_of_nonneg (Int.ediv_nonneg (by omega) (Int.pow_nonneg (by decide))), Int.natCast_emod, Int.natCast_ediv, Int.natCast_pow]; rfl
  rw [this]
  generalize x / 2 ^ r % 2 = y
  rw [Bool.eq_iff_iff]
  simp only [beq_iff_eq, decide_eq_true_iff]
  omega

theorem bits_none {s : Bool} {m : Nat → Nat} (h : rightB s (m 0) (m 1) (m 2) (m 3) = false) (k : Nat) (hk : k ≤ 256) : (List.range k).filter (bitB m) = [] := by
  have h1 : zeroB (m 0) (m 1) (m 2) (m 3) = true := by
    unfold rightB at h
    cases hh : zeroB (m 0) (m 1) (m 2) (m 3)
    · rw [hh, Bool.and_false] at h; cases h
    · rfl
  rw [zeroB_iff] at h1
  rw [List.filter_eq_nil_iff]
  intro i hi
  rw [List.mem_range] at hi
  have hz : m (i / 64) = 0 := by
    have hj : i / 64 < 4 := by omega
    match i / 64, hj with
    | 0, _ => omega
    | 1, _ => omega
    | 2, _ => omega
    | 3, _ => omega
  unfold bitB
  rw [hz, Nat.zero_testBit]
  decide

set_option maxRecDepth 100000 in
set_option maxHeartbeats 2000000 in
theorem bits_true (s : Bool) (m : Nat → Nat) (many : Int) (w : World) (hm : ∀ i, m i < 18446744073709551616) (ht : Tab10 w) (hz : TabTz w) (hw0 : 0 < w.heap.size) :
    Calls Tryd.prog 8 #[iv s (m 0) (m 1) (m 2) (m 3), .int .i64 many] w fun e w' => e = .returned (.bool true) ∧ Below w.heap.size w w' := by
  refine (callsIn_wide (n := 9)).1 ?_
  obtain ⟨i0, hi, hz0, hz1, hz2⟩ := info_parts infoInt
  have Hm := Lib.hid hm; clear hm
  have Ht := Lib.hid ht; clear ht
  have Hz := Lib.hid hz; clear hz
  refine callsIn_of_wp_marks Tryd.func8 rfl trivial ?_ rfl
  simp only [Tryd.ntmps8, List.size_toArray, List.length_cons, List.length_nil, Nat.reduceAdd, Nat.reduceSub, Array.replicate_succ, Array.replicate_zero, List.push_toArray, List.append_toArray, List.nil_append, List.cons_append]
  refine wpIn_wide.2 ?_
  go_wp2_with fail
  generalize hW : World.alloc _ _ = W0
  have hS : BiS w s m many [] (.slice none 0 0) W0 := by
    rw [← hW]
    exact ⟨((Row.at rfl _ _).alloc _ |>.alloc _).alloc _, ((Row.at (by simp) _ _).alloc _).alloc _, (Row.at (by simp) _ _).alloc _, Row.at (by simp) _ _, World.ownsRow_nil _ _ _ _,
      ((((Below.refl w.heap.size w).alloc (Nat.le_refl _) _).alloc (by simp) _).alloc (by simp; omega) _).alloc (by simp; omega) _, by simp⟩
  clear hW
  have HS := Lib.hid hS
  clear hS
  have HT := Lib.hid (fun (h : rightB s (m 0) (m 1) (m 2) (m 3) = false) k hk => bits_none h k hk)
  have HA := Lib.hid (bitsTo_list m Hm.out 4)
  have HL4 := Lib.hid (show (bitsTo m 4).length ≤ 256 by rw [HA.out]; exact bitsUpto_len m 256)
  go_loopw [6] (fun i wr => ∃ k v, k ≤ 256 ∧ i = .int .i64 (k : Nat) ∧ Hid (BiS w s m many (bitsUpto m k) v wr)) (fun i _ => 256 - (intOf i).toNat)
  case atStart => exact ⟨0, _, by omega, rfl, HS⟩
  case round =>
    obtain ⟨k, v, hk, rfl, HK⟩ := hrel
    have g0 := HK.out.1.c 0 rfl
    have g1 := HK.out.1.c 1 rfl
    have g2 := HK.out.1.c 2 rfl
    have g3 := HK.out.1.c 3 rfl
    have g4 := HK.out.1.c 4 rfl
    have g5 := HK.out.2.2.2.1.c 0 rfl
    by_cases hgo : k < 256 ∧ rightB s (m 0) (m 1) (m 2) (m 3) = true
    · obtain ⟨hkn, hR⟩ := hgo
      have HR := Lib.hid hR
      clear hR
      obtain ⟨j, r, hr, hkjr⟩ : ∃ j r, r < 64 ∧ k = 64 * j + r := ⟨k / 64, k % 64, by omega, by omega⟩
      have hk1 : (k : Int) < 256 := by omega
      have HJ := Lib.hid hkjr
      clear hkjr
      go_wp2_with fail
      refine (right_any _ _ _ _ _ _).mono ?_
      rintro e w1 ⟨rfl, hb1⟩
      rw [HR.out]
      clear g0 g1 g2 g3 g4 g5
      replace HK := Lib.hid (HK.out.after hb1)
      clear hb1
      have g5 := HK.out.2.2.2.1.c 0 rfl
      have f5 := HK.out.2.2.2.1.f 0 rfl
      have hkjr := HJ.out
      have hj : j < 4 := by omega
      have hcw := HK.out.word j hj
      have q1 : (k : Int) / 64 = (j : Nat) := by omega
      have q2 : (k : Int).tdiv 64 = (j : Nat) := by rw [Int.tdiv_eq_ediv_of_nonneg (by omega)]; omega
      have q3 : (k : Int) % 64 = (r : Nat) := by omega
      have q4 : (k : Int).tmod 64 = (r : Nat) := by rw [Int.tmod_eq_emod_of_nonneg (by omega)]; omega
      have hj0 : (0 : Int) ≤ j := by omega
      have hj1 : (j : Int) < 4 := by omega
      have hr0 : (0 : Int) ≤ r := by omega
      have hr1 : (r : Int) < 64 := by omega
      have hx0 : (0 : Int) ≤ (m j : Nat) := by omega
      have HN := Lib.hid (bitsUpto_next m k)
      have hbk : bitB m k = (m j).testBit r := by unfold bitB; rw [hkjr, show (64 * j + r) / 64 = j by omega, show (64 * j + r) % 64 = r by omega]
      have hbv := bit_val (m j) r
      have hlen := bitsUpto_len m k
      cases hbit : (m j).testBit r
      · rw [hbit] at hbk hbv
        have HN' := Lib.hid (show bitsUpto m (k + 1) = bitsUpto m k by rw [HN.out, hbk]; rfl)
        clear hkjr hbk hbit HN
        go_wp2_with fail
        go_roundw
        case rel => exact ⟨k + 1, v, by omega, by go_num, by rw [HN'.out]; exact HK⟩
        case measure => simp [intOf]; omega
      · rw [hbit] at hbk hbv
        have HN' := Lib.hid (show bitsUpto m (k + 1) = bitsUpto m k ++ [k] by rw [HN.out, hbk]; rfl)
        clear hkjr hbk hbit HN
        go_wp2_with (first
          | (at_builtin; refine wpList_append_own_at _ rfl _ _ 70 rfl (w.heap.size + 4) 3 i0 (.int .i64 0) 1 8 Tryd.underlying70 hi hz0 hz1 hz2 rfl (by decide) _ _ _ rfl (HK.out.own.alloc _) ⟨w1.heap.size, 0, none⟩ 1 1 [.int .i64 (k : Nat)] rfl rfl ?c1 ?c2 ?c3 ?c4 ?c5 ?_)
          | go_in)
        case c1 => exact cell_one_new _ _ _
        case c2 => exact ints_oneCell .i64 [(k : Int)]
        case c3 => unfold maxLen; omega
        case c4 => omega
        case c5 => have := HK.out.2.2.2.2.2.2; simp; omega
        intro v1 w2 hown1 hgrow1 _ _
        have H1 := Lib.hid (HK.out.step (x := k) (v' := v1) hown1 hgrow1)
        have rW := HK.out.want (v := v) hgrow1
        have g6 := rW.c 0 rfl
        have f6 := rW.f 0 rfl
        obtain ⟨g, cap, rfl⟩ : ∃ g cap, v1 = .slice (some ⟨g, 0, none⟩) ((bitsUpto m k).length + 1) cap := by
          rcases hown1.2 with ⟨_, h0⟩ | ⟨g, cap, cur, hv, _⟩
          · omega
          · exact ⟨g, cap, hv⟩
        clear hgrow1 hown1 HK rW
        go_wp2_with fail
        clear g6 f6
        generalize World.setCell _ _ _ = w3 at H1 ⊢
        go_wp2_with fail
        go_roundw
        case rel => exact ⟨k + 1, _, by omega, by go_num, by rw [HN'.out]; exact H1⟩
        case measure => simp [intOf]; omega
    · have HL : Hid (bitsUpto m k = bitsTo m 4) := by
        by_cases e : k = 256
        · subst e; exact Lib.hid HA.out.symm
        · exact Lib.hid ((HT.out (by cases h : rightB s (m 0) (m 1) (m 2) (m 3); rfl; (exact absurd ⟨by omega, h⟩ hgo)) k hk).trans (HA.out.trans ((HT.out (by cases h : rightB s (m 0) (m 1) (m 2) (m 3); rfl; (exact absurd ⟨by omega, h⟩ hgo)) 256 (Nat.le_refl _)))).symm)
      have hex : k = 256 ∨ (k < 256 ∧ rightB s (m 0) (m 1) (m 2) (m 3) = false) := by
        by_cases e : k = 256
        · exact .inl e
        · exact .inr ⟨by omega, by cases h : rightB s (m 0) (m 1) (m 2) (m 3); rfl; (exact absurd ⟨by omega, h⟩ hgo)⟩
      clear hgo HS
      rcases hex with rfl | ⟨hkn, hR⟩
      all_goals
        first
          | (have HR := Lib.hid hR
             have hk1 : (k : Int) < 256 := by omega
             clear hR
             go_wp2_with fail
             refine (right_any _ _ _ _ _ _).mono ?_
             rintro e w1 ⟨rfl, hb1⟩
             rw [HR.out]
             replace HK := Lib.hid (HK.out.after hb1)
             clear hb1 g0 g1 g2 g3 g4 g5)
          | (clear g5)
        have HK2 : Hid (BiS w s m many (bitsTo m 4) v _) := Lib.hid (HL.out ▸ HK.out)
        clear HK
        first
          | (have g0 := HK2.out.1.c 0 rfl
             have g1 := HK2.out.1.c 1 rfl
             have g2 := HK2.out.1.c 2 rfl
             have g3 := HK2.out.1.c 3 rfl
             have g4 := HK2.out.1.c 4 rfl)
        go_wp2_with fail
        clear g0 g1 g2 g3 g4
        refine (bits_any s m _).mono ?_
        rintro e w2 ⟨b, rfl, rB, hbb, hb1⟩
        have hwb : w.heap.size + 4 ≤ b := Nat.le_trans HK2.out.2.2.2.2.2.2 hbb
        replace HK2 := Lib.hid (HK2.out.after hb1)
        clear hb1 hbb
        go_wp2_with fail
        have HNIL := Lib.hid (show ∀ W : World, (binOp .eql 73 (.func (.func 85) #[] #[.pointer (some ⟨b, 0, none⟩)]) .nilFunc).run Tryd.prog W = .ok (.bool false) W from fun W => by kernel_rfl)
        have hnil := HNIL.out
        refine wp_loop_rounds 3 ?_
        rw [rounds_succ]
        go_wp2_with fail
        clear hnil
        generalize hW : World.alloc _ _ = W3
        have hbT : Row W3 w2.heap.size [.int .i64 0] := by rw [← hW]; exact (Row.at rfl _ _).alloc _
        have hbN : Row W3 (w2.heap.size + 1) [.int .i64 0] := by rw [← hW]; exact Row.at (by simp) _ _
        have rB3 : Row W3 b [.int .u64 (m 0), .int .u64 (m 1), .int .u64 (m 2), .int .u64 (m 3)] := by rw [← hW]; exact (rB.alloc _).alloc _
        have hS3 : BiS w s m many (bitsTo m 4) v W3 := by rw [← hW]; exact HK2.out.after (((Below.refl _ _).alloc (Nat.le_refl _) _).alloc (by simp) _)
        have hlv : ∀ g, v.ownBlock = some g → g < w2.heap.size := fun g e => (HK2.out.own.lt g e).2
        have h4 := HK2.out.2.2.2.2.2.2
        have hbl := rB.lt
        clear hW rB HK2
        generalize hbTe : w2.heap.size = bT at *
        have hsz3 : bT + 2 ≤ W3.heap.size := by have := hbN.lt; omega
        clear hbTe
        have hJ : BiJ (BiE w s m many (bitsTo m 4) v b bT 0) many (bT + 1) 0 [] W3 := ⟨⟨hS3, rB3, hbT⟩, hbN, fun _ => .inl rfl⟩
        have hz3 : TabTz W3 := Hz.out.below (block_lt_of_cell (Hz.out 0 (by decide))) hS3.2.2.2.2.2.1
        have hB3 := hS3.2.2.2.2.2.1
        clear hbT hbN hS3
        refine (wpIn_wide (n := 7)).1 ?_
        refine wpIn_rangeFunc_ownF (α := Nat) rfl (by omega) (gf := 85) (lb := #[.pointer (some ⟨b, 0, none⟩)]) rfl trivial (enters_of Tryd.func85 (by kernel_rfl) rfl)
          (places_stops b w.heap.size m Hm.out hw0 W3 hB3.size rB3 hz3) belowK_t (belowK_b (by omega)) (Below.refl _ _) (fun _ => rfl)
          (BiJ (BiE w s m many (bitsTo m 4) v b bT 0) many (bT + 1) 0) (BiX (BiE w s m many (bitsTo m 4) v b bT 0) many (bitsTo m 4) (bT + 1) 0)
          (fun s A B row hs hg hr => hs.kept (fun h => h.kept hg (fun r e => ⟨Nat.le_trans (by omega) (hr r e).1, (hr r e).2⟩)) hg (fun r e => (hr r e).2))
          (fun c s A B row hs hg hr => hs.kept (fun h => h.kept hg (fun r e => ⟨Nat.le_trans (by omega) (hr r e).1, (hr r e).2⟩)) hg (fun r e => (hr r e).2))
          hJ ?_ ?_ ?_ ?_ ?_
        rotate_left 1
        · intro l x W K hK
          gi_wp2
          exact hK
        · intro l pre x W hJ2 hl
          obtain ⟨hE, hNW, hT0⟩ := hJ2
          have HT0 := Lib.hid hT0
          clear hT0
          have HE := Lib.hid hE
          have e5 := hE.1.2.2.2.1.c 0 rfl
          have e4 := hE.1.2.2.1.c 0 rfl
          have f4 := hE.1.2.2.1.f 0 rfl
          have e3 := hE.1.2.1.c 0 rfl
          have e8 := hE.2.2.c 0 rfl
          have e9 := hNW.c 0 rfl
          have f9 := hNW.f 0 rfl
          obtain ⟨A, c, hvf, hvc⟩ := hE.1.vform
          clear hE
          rw [hvf] at e5
          obtain ⟨y, hy⟩ : ∃ y, (bitsTo m 4)[pre.length]? = some y := ⟨_, List.getElem?_eq_getElem hl⟩
          obtain ⟨g, rfl, ey⟩ := hvc _ _ hy
          have HY := Lib.hid hy
          clear hy hvc hvf
          have hl1 : (pre.length : Int) < ((bitsTo m 4).length : Nat) := by omega
          have hl2 : ((bitsTo m 4).length : Int) ≤ 256 := by have := HL4.out; omega
          have hvb : v.ownBlock ≠ some (bT + 1) := fun e => by have := hlv _ e; omega
          have hNW' := hNW.set 0 (by simp) (.int .i64 ((pre.length : Int) + 1))
          have eL : [Value.int .i64 ((pre.length : Nat) : Int)].set 0 (.int .i64 ((pre.length : Int) + 1)) = [.int .i64 (((pre ++ [x]).length : Nat) : Int)] := by simp
          rw [eL] at hNW'
          clear eL
          have HNW := Lib.hid hNW'
          have HVB := Lib.hid hvb
          clear hNW' hvb
          by_cases hxy : x = y
          · subst hxy
            by_cases hbr : many ≤ (pre.length : Int) + 1
            · gi_wp2_with fail
              exact ⟨KeepsOthers.setCell _ _ _, .inr ⟨rfl, rfl, ⟨pre, x, rfl, HT0.out (by first | rfl | trivial)⟩, by simp; omega, HE.out.put (by omega) HVB.out (by omega) (by omega) _, HNW.out⟩⟩
            · gi_wp2_with fail
              exact ⟨KeepsOthers.setCell _ _ _, below_put1 (Below.refl _ _) (by omega) _ _, HE.out.put (by omega) HVB.out (by omega) (by omega) _, HNW.out, fun _ => .inr (by simp; omega)⟩
          · have hxy' : ((x : Int) != (y : Int)) = true := by simp; omega
            gi_wp2_with fail
            exact ⟨KeepsOthers.setCell _ _ _, .inl ⟨rfl, pre, x, rfl, by rw [HY.out]; simp; omega⟩⟩
        all_goals
          first
            | (rintro D xs W hD rfl ⟨hE, hNW, hT0⟩ hK
               obtain ⟨N, hN, hNW⟩ : ∃ N : Nat, (N : Int) = min (((bitsTo m 4).length : Nat) : Int) (max 1 many) ∧ Row W (bT + 1) [.int .i64 (N : Nat)] := ⟨_, bi_done hT0, hNW⟩
               clear hT0)
            | (rintro D c pre W hD hp hX hK
               obtain ⟨rfl, _, N, hN, hE, hNW⟩ := hX.left hp
               clear hX hp
               refine wpIn_wide.2 ?_)
          have hcmp : ((N : Int) != min (((bitsTo m 4).length : Nat) : Int) (max 1 many)) = false := by rw [← hN]; simp
          clear hN
          have HE := Lib.hid hE
          have HK := Lib.hid hK
          obtain ⟨A, c, hvf, _⟩ := hE.1.vform
          have e5 := hE.1.2.2.2.1.c 0 rfl
          rw [hvf] at e5
          have e3 := hE.1.2.1.c 0 rfl
          have e8 := hE.2.2.c 0 rfl
          have e9 := hNW.c 0 rfl
          have hl2 : ((bitsTo m 4).length : Int) ≤ 256 := by have := HL4.out; omega
          have HVF := Lib.hid hvf
          clear hvf hE hK hJ hz3 rB3
          go_wp2_with fail
          clear e5 e3 e8 e9 hcmp hNW
          have hnil := HNIL.out
          rw [rounds_succ]
          go_wp2_with fail
          clear hnil
          generalize hW : World.alloc _ _ = W4
          have lD : D < W.heap.size := (Array.getElem?_eq_some_iff.1 HK.out).1
          have hbU : Row W4 W.heap.size [.int .i64 1] := by rw [← hW]; exact (Row.at rfl _ _).alloc _
          have hbN4 : Row W4 (W.heap.size + 1) [.int .i64 0] := by rw [← hW]; exact Row.at (by simp) _ _
          have hBW : Below W.heap.size W W4 := by rw [← hW]; exact ((Below.refl _ _).alloc (Nat.le_refl _) _).alloc (by simp) _
          have rB4 := HE.out.2.1.after hBW
          have hS4 := HE.out.1.after hBW
          have hK4 : W4.heap[D]? = some (.deferred (some [])) := (hBW.block D lD).trans HK.out
          have hlv4 : ∀ g, v.ownBlock = some g → g < W.heap.size := fun g e => (HE.out.1.own.lt g e).2
          have h44 := HE.out.1.2.2.2.2.2.2
          have hbl4 := HE.out.2.1.lt
          clear hW hBW HE HK
          generalize hbTe : W.heap.size = bU at *
          have hsz4 : bU + 2 ≤ W4.heap.size := by have := hbN4.lt; omega
          clear hbTe
          have hJ4 : BiJ (BiF w s m many (bitsTo m 4) v b bU 1 D) many (bU + 1) 1 [] W4 := ⟨⟨⟨hS4, rB4, hbU⟩, by omega, hK4⟩, hbN4, fun _ => .inl rfl⟩
          have hz4 : TabTz W4 := Hz.out.below (block_lt_of_cell (Hz.out 0 (by decide))) hS4.2.2.2.2.2.1
          have hB4 := hS4.2.2.2.2.2.1
          clear hbU hbN4 hS4 hK4
          refine (wpIn_wide (n := 7)).1 ?_
          refine wpIn_rangeFunc_ownF (α := Nat) rfl (by omega) (gf := 85) (lb := #[.pointer (some ⟨b, 0, none⟩)]) rfl trivial (enters_of Tryd.func85 (by kernel_rfl) rfl)
            (places_stops b w.heap.size m Hm.out hw0 W4 hB4.size rB4 hz4) belowK_t (belowK_b (by omega)) (Below.refl _ _) (fun _ => rfl)
            (BiJ (BiF w s m many (bitsTo m 4) v b bU 1 D) many (bU + 1) 1) (BiX (BiF w s m many (bitsTo m 4) v b bU 1 D) many (bitsTo m 4) (bU + 1) 1)
            (fun s A B row hs hg hr => hs.kept (fun h => h.kept hg (n := W4.heap.size) (by omega) (by omega) hr) hg (fun r e => (hr r e).2))
            (fun c s A B row hs hg hr => hs.kept (fun h => h.kept hg (n := W4.heap.size) (by omega) (by omega) hr) hg (fun r e => (hr r e).2))
            hJ4 ?_ ?_ ?_ ?_ ?_
          rotate_left 1
          · intro l x W K hK
            gi_wp2
            exact hK
          · intro l pre x W hJ2 hl
            obtain ⟨hE, hNW, _⟩ := hJ2
            have HE := Lib.hid hE
            have e5 := hE.1.1.2.2.2.1.c 0 rfl
            have e4 := hE.1.1.2.2.1.c 0 rfl
            have f4 := hE.1.1.2.2.1.f 0 rfl
            have e8 := hE.1.2.2.c 0 rfl
            have e9 := hNW.c 0 rfl
            have f9 := hNW.f 0 rfl
            obtain ⟨A, c, hvf, hvc⟩ := hE.1.1.vform
            clear hE
            rw [hvf] at e5
            obtain ⟨y, hy⟩ : ∃ y, (bitsTo m 4)[pre.length]? = some y := ⟨_, List.getElem?_eq_getElem hl⟩
            obtain ⟨g, rfl, ey⟩ := hvc _ _ hy
            have HY := Lib.hid hy
            clear hy hvc hvf
            have hl1 : (pre.length : Int) < ((bitsTo m 4).length : Nat) := by omega
            have hl2 : ((bitsTo m 4).length : Int) ≤ 256 := by have := HL4.out; omega
            have hvb : v.ownBlock ≠ some (bU + 1) := fun e => by have := hlv4 _ e; omega
            have hNW' := hNW.set 0 (by simp) (.int .i64 ((pre.length : Int) + 1))
            have eL : [Value.int .i64 ((pre.length : Nat) : Int)].set 0 (.int .i64 ((pre.length : Int) + 1)) = [.int .i64 (((pre ++ [x]).length : Nat) : Int)] := by simp
            rw [eL] at hNW'
            clear eL
            have HNW := Lib.hid hNW'
            have HVB := Lib.hid hvb
            clear hNW' hvb
            by_cases hxy : x = y
            · subst hxy
              gi_wp2_with fail
              exact ⟨KeepsOthers.setCell _ _ _, below_put1 (Below.refl _ _) (by omega) _ _, HE.out.put (by omega) HVB.out (by omega) (by omega) (by omega) _, HNW.out, fun h => absurd h (by decide)⟩
            · have hxy' : ((x : Int) != (y : Int)) = true := by simp; omega
              gi_wp2_with fail
              exact ⟨KeepsOthers.setCell _ _ _, .inl ⟨rfl, pre, x, rfl, by rw [HY.out]; simp; omega⟩⟩
          · rintro D2 xs W hD2 rfl ⟨hE, hNW, _⟩ hK
            have HE := Lib.hid hE
            have HK := Lib.hid hK
            obtain ⟨A, c, hvf, _⟩ := hE.1.1.vform
            have e5 := hE.1.1.2.2.2.1.c 0 rfl
            rw [hvf] at e5
            have e8 := hE.1.2.2.c 0 rfl
            have e9 := hNW.c 0 rfl
            have hl2 : ((bitsTo m 4).length : Int) ≤ 256 := by have := HL4.out; omega
            clear hvf hE hK hJ4 hz4 rB4
            go_wp2_with fail
            clear e5 e8 e9 hNW
            rw [rounds_succ]
            go_wp2_with fail
            generalize hW : World.alloc _ _ = W5
            have hBW : Below W.heap.size W W5 := by rw [← hW]; exact (Below.refl _ _).alloc (Nat.le_refl _) _
            have lD2 : D2 < W.heap.size := (Array.getElem?_eq_some_iff.1 HK.out).1
            have lD1 := HE.out.2.1
            have hS5 := HE.out.1.1.after hBW
            have hK5 : Hid (W5.heap[D2]? = some (.deferred (some []))) := Lib.hid ((hBW.block D2 lD2).trans HK.out)
            have hD5 : Hid (W5.heap[D]? = some (.deferred (some []))) := Lib.hid ((hBW.block D lD1).trans HE.out.2.2)
            have hW5 := hBW.size
            clear hW hBW HE HK
            have hB := hS5.2.2.2.2.2.1
            refine (works_true _ (Ht.out.below hB) (Hz.out.below (block_lt_of_cell (Hz.out 0 (by decide))) hB) (Nat.lt_of_lt_of_le hw0 hB.size)).mono ?_
            rintro e V ⟨rfl, hb1⟩
            have hS6 := hS5.after hb1
            have hK6 : Hid (V.heap[D2]? = some (.deferred (some []))) := Lib.hid ((hb1.block D2 (by omega)).trans hK5.out)
            have hD6 : Hid (V.heap[D]? = some (.deferred (some []))) := Lib.hid ((hb1.block D (by omega)).trans hD5.out)
            have hV6 := hb1.size
            have e4 := hS6.2.2.1.c 0 rfl
            have f4 := hS6.2.2.1.f 0 rfl
            have r4 := hS6.2.2.1.set 0 (by simp) (.bool true)
            have hB6 : Below w.heap.size w (V.setCell ⟨w.heap.size + 2, 0, none⟩ (.bool true)) := below_put1 hS6.2.2.2.2.2.1 (by omega) _ _
            have HR4 := Lib.hid r4
            have HB6 := Lib.hid hB6
            clear hS6 hS5 hK5 hD5 hb1 hB r4 hB6
            go_wp2_with fail
            clear e4 f4
            have hK7 : (V.setCell ⟨w.heap.size + 1 + 1, 0, none⟩ (.bool true)).heap[D2]? = some (.deferred (some [])) := (Below.heap_setCell _ _ _ _ (show D2 ≠ w.heap.size + 1 + 1 by omega)).trans hK6.out
            have hD7 : (V.setCell ⟨w.heap.size + 1 + 1, 0, none⟩ (.bool true)).heap[D]? = some (.deferred (some [])) := (Below.heap_setCell _ _ _ _ (show D ≠ w.heap.size + 1 + 1 by omega)).trans hD6.out
            have hR7 := HR4.out
            have hB7 := HB6.out
            rw [show w.heap.size + 2 = w.heap.size + 1 + 1 from rfl] at hR7 hB7
            have lV7 : (V.setCell ⟨w.heap.size + 1 + 1, 0, none⟩ (.bool true)).heap.size = V.heap.size := by simp [World.setCell]
            generalize V.setCell ⟨w.heap.size + 1 + 1, 0, none⟩ (.bool true) = V1 at *
            refine ⟨by simp, .inl ⟨_, _, rfl, run_takeDeferred hK7, ?_⟩⟩
            have g1 := grownBy_putObj' V1 D2 (.deferred none)
            have hD8 : (V1.putObj D2 (.deferred none)).heap[D]? = some (.deferred (some [])) := (g1.block D (by omega) (fun e => by cases e; omega)).trans hD7
            refine ⟨by simp, .inl ⟨_, _, rfl, run_takeDeferred hD8, ?_⟩⟩
            have g2 := grownBy_putObj' (V1.putObj D2 (.deferred none)) D (.deferred none)
            have c1 : ((V1.putObj D2 (.deferred none)).putObj D (.deferred none)).cell? ⟨w.heap.size + 1 + 1, 0, none⟩ = some (.bool true) :=
              (World.cell?_of_block (g2.block (w.heap.size + 1 + 1) (Nat.lt_of_lt_of_le (by omega) g1.size) (fun e => by cases e; omega))).trans ((World.cell?_of_block (g1.block (w.heap.size + 1 + 1) (by omega) (fun e => by cases e; omega))).trans (hR7.c 0 rfl))
            refine ⟨.bool true, by simp [results, Tryd.results8, go_sem, c1], rfl, ?_⟩
            exact (hB7.trans (belowK_b (w := w) (Nat.le_refl _) V1 D2 _ _ (by omega) hK7 rfl rfl)).trans (belowK_b (w := w) (Nat.le_refl _) _ D _ _ (by omega) hD8 rfl rfl)
          · rintro D2 c pre W hD2 hp hX hK
            exact absurd (hX.left hp).2.1 (by decide)
end Go.Proofs.YtpbdhhdmnnelhaaDoor
