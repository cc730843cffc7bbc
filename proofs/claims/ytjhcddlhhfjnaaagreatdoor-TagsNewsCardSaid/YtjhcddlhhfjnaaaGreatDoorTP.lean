/- Contract of Tags.Text. -/
import Derived.Test.YtjhcddlhhfjnaaaGreatDoorTO
import Derived.Test.YtjhcddlhhfjnaaaGreatDoorRI
namespace Go.Proofs.YtjhcddlhhfjnaaaGreatDoor
open Go.RowKit Go.Sort Go.Shelf
attribute [local go_sem] Oper.semAt_some

theorem getD_no {listed : Array Bool} {i : Nat} (h : listed.getD i true = false) : listed.getD i false = false := by
  by_cases hi : i < listed.size
  · simp [hi] at h ⊢; exact h
  · simp [hi] at h
theorem noDst_spec {ops : Array Oper} {t : Nat} (h : (ops.all fun o => o.dst != some t) = true) (i : Nat) (o : Oper) (hi : ops[i]? = some o) : o.dst ≠ some t := by
  have := Array.all_eq_true_iff_forall_mem.1 h o (Array.mem_of_getElem? hi)
  simpa using this
theorem listed_off {listed : Array Bool} {j k : Nat} (h : k ≠ j) : (listed.setIfInBounds j true).getD k false = listed.getD k false := getD_set_ne false (by omega)
theorem listed_up {listed : Array Bool} {j k : Nat} (h : listed.getD k false = true) : (listed.setIfInBounds j true).getD k false = true := by
  by_cases e : k = j
  · subst e
    by_cases hk : k < listed.size
    · simp [hk]
    · simp [hk] at h
  · rw [listed_off e]; exact h
theorem expand_append : ∀ (a b : List (Int × Int)), expand (a ++ b) = expand a ++ expand b
  | [], _ => rfl
  | p :: r, b => by rw [List.cons_append, expand, expand, expand_append r b, List.append_assoc]
/-- A number's text. -/
def itoaB (n : Int) : ByteArray := ⟨(Lib.itoa n).toArray⟩
def wordsL (cs : List (Int × Int)) : List ByteArray := (expand cs).map itoaB
theorem wordsL_snoc (l : List (Int × Int)) (p : Int × Int) : wordsL (l ++ [p]) = wordsL l ++ List.replicate p.2.toNat (itoaB p.1) := by
  unfold wordsL
  rw [expand_append, List.map_append]
  simp [expand]
/-- Behind the append, ahead of the store. -/
def TxA (W0 : World) (b : Nat) (A1 : Option Addr) (N1 : Nat) (xs : List Value) (txt : ByteArray) (t : Nat) (A2 : Option Addr) (cap2 : Nat) (W : World) : Prop :=
  ∃ X, Below W0.heap.size W0 X ∧ X.grownBy W (ownB A1) ∧ Own 9 1 W (b + 1) A2 (N1 + t) cap2 (xs ++ strCs (List.replicate t txt))
/-- What is known while Text gathers the words of one number. -/
structure TxS (W0 : World) (b : Nat) (A1 : Option Addr) (N1 : Nat) (xs : List Value) (txt : ByteArray) (t : Nat) (ls : Nat → Bool) (sl : Nat → Value) (W : World) : Prop where
  pre : ls 6 = false → Below W0.heap.size W0 W
  q : ls 3 = true → ∃ q, sl 13 = .slice (some ⟨q, 0, none⟩) 1 1 ∧ (ls 6 = false → Row W q [.string txt])
  r : ls 5 = true → ∃ R cr, sl 15 = .slice R t cr ∧ (ls 6 = false → CellsS W R (strCs (List.replicate t txt)))
  ap : ls 6 = true → ls 7 = false → ∃ A2 cap2, sl 16 = .slice A2 (N1 + t) cap2 ∧ TxA W0 b A1 N1 xs txt t A2 cap2 W
  fin : ls 7 = true → ∃ A2 cap2 W2, TxA W0 b A1 N1 xs txt t A2 cap2 W2 ∧ W = W2.setCell ⟨b, 0, none⟩ (.slice A2 (N1 + t) cap2)
  c76 : ls 7 = true → ls 6 = true
  c65 : ls 6 = true → ls 5 = true
  c53 : ls 5 = true → ls 3 = true
  c32 : ls 3 = true → ls 2 = true
  c60 : ls 6 = true → ls 0 = true
section
variable {W0 W W1 : World} {b N1 t : Nat} {A1 : Option Addr} {xs : List Value} {txt : ByteArray} {listed : Array Bool} {a : Act}
theorem TxS.next (h : TxS W0 b A1 N1 xs txt t (fun j => listed.getD j false) (slotOf a) W) (j s : Nat) (v : Value) (hj : j ≠ 3 ∧ j ≠ 5 ∧ j ≠ 6 ∧ j ≠ 7) (hs : s ≠ 13 ∧ s ≠ 15 ∧ s ≠ 16) (hw : W1 = W ∨ (listed.getD 6 false = false ∧ Below W.heap.size W W1)) :
    TxS W0 b A1 N1 xs txt t (fun k => (listed.setIfInBounds j true).getD k false) (slotOf (a.put (some s) v)) W1 := by
  obtain ⟨h1, h2, h3, h4, h5, h6, h7, h8, h9, h10⟩ := h
  have e3 := listed_off (listed := listed) (j := j) (k := 3) (by omega)
  have e5 := listed_off (listed := listed) (j := j) (k := 5) (by omega)
  have e6 := listed_off (listed := listed) (j := j) (k := 6) (by omega)
  have e7 := listed_off (listed := listed) (j := j) (k := 7) (by omega)
  have p13 := slot_put_other (a := a) v hs.1
  have p15 := slot_put_other (a := a) v hs.2.1
  have p16 := slot_put_other (a := a) v hs.2.2
  refine ⟨fun q => ?_, fun q => ?_, fun q => ?_, fun q q' => ?_, fun q => ?_, fun q => ?_, fun q => ?_, fun q => ?_, fun q => ?_, fun q => ?_⟩
  · (try dsimp only at *)
    rw [e6] at q
    rcases hw with rfl | ⟨_, hb⟩
    · exact h1 q
    · exact (h1 q).trans (hb.mono (h1 q).size)
  · (try dsimp only at *)
    rw [e3] at q
    obtain ⟨x, hx, hr⟩ := h2 q
    refine ⟨x, by rw [p13]; exact hx, fun q6 => ?_⟩
    (try dsimp only at *)
    rw [e6] at q6
    rcases hw with rfl | ⟨_, hb⟩
    · exact hr q6
    · exact (hr q6).after hb
  · (try dsimp only at *)
    rw [e5] at q
    obtain ⟨x, y, hx, hr⟩ := h3 q
    refine ⟨x, y, by rw [p15]; exact hx, fun q6 => ?_⟩
    (try dsimp only at *)
    rw [e6] at q6
    rcases hw with rfl | ⟨_, hb⟩
    · exact hr q6
    · exact (hr q6).after hb
  · (try dsimp only at *)
    rw [e6] at q
    rw [e7] at q'
    rcases hw with rfl | ⟨h0, _⟩
    · obtain ⟨x, y, hx, hr⟩ := h4 q q'
      exact ⟨x, y, by rw [p16]; exact hx, hr⟩
    · rw [h0] at q; cases q
  · (try dsimp only at *)
    rw [e7] at q
    rcases hw with rfl | ⟨h0, _⟩
    · exact h5 q
    · have := h6 q; (try dsimp only at *); rw [h0] at this; cases this
  · (try dsimp only at *)
    rw [e7] at q; rw [e6]; exact h6 q
  · (try dsimp only at *)
    rw [e6] at q; rw [e5]; exact h7 q
  · (try dsimp only at *)
    rw [e5] at q; rw [e3]; exact h8 q
  · (try dsimp only at *)
    rw [e3] at q; exact listed_up (h9 q)
  · (try dsimp only at *)
    rw [e6] at q; exact listed_up (h10 q)
theorem TxS.six (h : TxS W0 b A1 N1 xs txt t (fun j => listed.getD j false) (slotOf a) W) {j : Nat} (hj : j = 2 ∨ j = 3 ∨ j = 5 ∨ j = 0) (h0 : listed.getD j false = false) : listed.getD 6 false = false := by
  cases q : listed.getD 6 false with
  | false => rfl
  | true =>
    exfalso
    have q5 := h.c65 q
    have q3 := h.c53 q5
    have q2 := h.c32 q3
    have q0 := h.c60 q
    (try dsimp only at *)
    rcases hj with rfl | rfl | rfl | rfl
    · rw [h0] at q2; cases q2
    · rw [h0] at q3; cases q3
    · rw [h0] at q5; cases q5
    · rw [h0] at q0; cases q0
/-- buildSlice. -/
theorem TxS.box (h : TxS W0 b A1 N1 xs txt t (fun j => listed.getD j false) (slotOf a) W) (h0 : listed.getD 3 false = false) (h2 : listed.getD 2 false = true) (hs : 13 < a.tmps.size) (ty : TypeId) :
    TxS W0 b A1 N1 xs txt t (fun k => (listed.setIfInBounds 3 true).getD k false) (slotOf (a.put (some 13) (.slice (some ⟨W.heap.size, 0, none⟩) 1 1))) (W.alloc (.cells #[.string txt] ty)) := by
  have h6' := h.six (.inr (.inl rfl)) h0
  obtain ⟨h1, _, h3, h4, h5, h6, h7, h8, h9, h10⟩ := h
  have e2 := listed_off (listed := listed) (j := 3) (k := 2) (by omega)
  have e5 := listed_off (listed := listed) (j := 3) (k := 5) (by omega)
  have e6 := listed_off (listed := listed) (j := 3) (k := 6) (by omega)
  have e7 := listed_off (listed := listed) (j := 3) (k := 7) (by omega)
  (try dsimp only at *)
  have hb : Below W.heap.size W (W.alloc (.cells #[.string txt] ty)) := (Below.refl _ _).alloc (Nat.le_refl _) _
  have no5 : listed.getD 5 false = false := by
    cases q : listed.getD 5 false with
    | false => rfl
    | true => have := h8 q; rw [h0] at this; cases this
  refine ⟨fun _ => (h1 h6').trans (hb.mono (h1 h6').size), fun _ => ⟨_, slot_put_same _ hs, fun _ => Row.at rfl [_] _⟩, fun q => ?_, fun q _ => ?_, fun q => ?_, fun q => ?_, fun q => ?_, fun q => ?_, fun _ => ?_, fun q => ?_⟩
  all_goals (try dsimp only at *)
  · rw [e5, no5] at q; cases q
  · rw [e6, h6'] at q; cases q
  · rw [e7] at q; have := h6 q; rw [h6'] at this; cases this
  · rw [e7] at q; rw [e6]; exact h6 q
  · rw [e6] at q; rw [e5]; exact h7 q
  · rw [e5, no5] at q; cases q
  · rw [e2]; exact h2
  · rw [e6, h6'] at q; cases q
/-- Repeat. -/
theorem TxS.rep (h : TxS W0 b A1 N1 xs txt t (fun j => listed.getD j false) (slotOf a) W) (h0 : listed.getD 5 false = false) (h3' : listed.getD 3 false = true) (hs : 15 < a.tmps.size) {R : Option Addr} {cr : Nat} (hc : CellsS W1 R (strCs (List.replicate t txt))) (hb : Below W.heap.size W W1) :
    TxS W0 b A1 N1 xs txt t (fun k => (listed.setIfInBounds 5 true).getD k false) (slotOf (a.put (some 15) (.slice R t cr))) W1 := by
  have h6' := h.six (.inr (.inr (.inl rfl))) h0
  obtain ⟨h1, hq, h3, h4, h5, h6, h7, h8, h9, h10⟩ := h
  have e2 := listed_off (listed := listed) (j := 5) (k := 2) (by omega)
  have e3 := listed_off (listed := listed) (j := 5) (k := 3) (by omega)
  have e6 := listed_off (listed := listed) (j := 5) (k := 6) (by omega)
  have e7 := listed_off (listed := listed) (j := 5) (k := 7) (by omega)
  have p13 := slot_put_other (a := a) (.slice R t cr) (t := 15) (u := 13) (by omega)
  (try dsimp only at *)
  refine ⟨fun _ => (h1 h6').trans (hb.mono (h1 h6').size), fun q => ?_, fun _ => ⟨R, cr, slot_put_same _ hs, fun _ => hc⟩, fun q _ => ?_, fun q => ?_, fun q => ?_, fun q => ?_, fun q => ?_, fun q => ?_, fun q => ?_⟩
  all_goals (try dsimp only at *)
  · obtain ⟨x, hx, hr⟩ := hq h3'
    exact ⟨x, by rw [p13]; exact hx, fun _ => (hr h6').after hb⟩
  · rw [e6, h6'] at q; cases q
  · rw [e7] at q; have := h6 q; rw [h6'] at this; cases this
  · rw [e7] at q; rw [e6]; exact h6 q
  · rw [e6, h6'] at q; cases q
  · rw [e3]; exact h3'
  · rw [e3] at q; rw [e2]; exact h9 q
  · rw [e6, h6'] at q; cases q
/-- append. -/
theorem TxS.app (h : TxS W0 b A1 N1 xs txt t (fun j => listed.getD j false) (slotOf a) W) (h0 : listed.getD 6 false = false) (h5' : listed.getD 5 false = true) (h0' : listed.getD 0 false = true) (hls : 6 < listed.size) (hs : 16 < a.tmps.size) {A2 : Option Addr} {cap2 : Nat} (hg : W.grownBy W1 (ownB A1)) (hO : Own 9 1 W1 (b + 1) A2 (N1 + t) cap2 (xs ++ strCs (List.replicate t txt))) :
    TxS W0 b A1 N1 xs txt t (fun k => (listed.setIfInBounds 6 true).getD k false) (slotOf (a.put (some 16) (.slice A2 (N1 + t) cap2))) W1 := by
  obtain ⟨h1, hq, h3, h4, h5, h6, h7, h8, h9, h10⟩ := h
  have e2 := listed_off (listed := listed) (j := 6) (k := 2) (by omega)
  have e3 := listed_off (listed := listed) (j := 6) (k := 3) (by omega)
  have e5 := listed_off (listed := listed) (j := 6) (k := 5) (by omega)
  have e7 := listed_off (listed := listed) (j := 6) (k := 7) (by omega)
  have e6 : (listed.setIfInBounds 6 true).getD 6 false = true := by simp [hls]
  have p13 := slot_put_other (a := a) (.slice A2 (N1 + t) cap2) (t := 16) (u := 13) (by omega)
  have p15 := slot_put_other (a := a) (.slice A2 (N1 + t) cap2) (t := 16) (u := 15) (by omega)
  (try dsimp only at *)
  refine ⟨fun q => ?_, fun q => ?_, fun q => ?_, fun _ _ => ⟨A2, cap2, slot_put_same _ hs, W, h1 h0, hg, hO⟩, fun q => ?_, fun q => ?_, fun q => ?_, fun q => ?_, fun q => ?_, fun _ => ?_⟩
  all_goals (try dsimp only at *)
  · rw [e6] at q; cases q
  · rw [e3] at q
    obtain ⟨x, hx, hr⟩ := hq q
    exact ⟨x, by rw [p13]; exact hx, fun q6 => by rw [e6] at q6; cases q6⟩
  · rw [e5] at q
    obtain ⟨x, y, hx, hr⟩ := h3 q
    exact ⟨x, y, by rw [p15]; exact hx, fun q6 => by rw [e6] at q6; cases q6⟩
  · rw [e7] at q; have := h6 q; rw [h0] at this; cases this
  · exact e6
  · rw [e5]; exact h5'
  · rw [e5] at q; rw [e3]; exact h8 q
  · rw [e3] at q; rw [e2]; exact h9 q
  · rw [listed_off (by omega)]; exact h0'
/-- The store. -/
theorem TxS.put (h : TxS W0 b A1 N1 xs txt t (fun j => listed.getD j false) (slotOf a) W) (h6' : listed.getD 6 false = true) (hls : 7 < listed.size) {A2 : Option Addr} {cap2 : Nat} (hA : TxA W0 b A1 N1 xs txt t A2 cap2 W) :
    TxS W0 b A1 N1 xs txt t (fun k => (listed.setIfInBounds 7 true).getD k false) (slotOf (a.put none undef)) (W.setCell ⟨b, 0, none⟩ (.slice A2 (N1 + t) cap2)) := by
  obtain ⟨h1, hq, h3, h4, h5, h6, h7, h8, h9, h10⟩ := h
  have e2 := listed_off (listed := listed) (j := 7) (k := 2) (by omega)
  have e3 := listed_off (listed := listed) (j := 7) (k := 3) (by omega)
  have e5 := listed_off (listed := listed) (j := 7) (k := 5) (by omega)
  have e6 := listed_off (listed := listed) (j := 7) (k := 6) (by omega)
  have e7 : (listed.setIfInBounds 7 true).getD 7 false = true := by simp [hls]
  (try dsimp only at *)
  refine ⟨fun q => ?_, fun q => ?_, fun q => ?_, fun _ q => ?_, fun _ => ⟨A2, cap2, W, hA, rfl⟩, fun _ => ?_, fun q => ?_, fun q => ?_, fun q => ?_, fun q => ?_⟩
  all_goals (try dsimp only at *)
  · rw [e6, h6'] at q; cases q
  · rw [e3] at q
    obtain ⟨x, hx, hr⟩ := hq q
    exact ⟨x, hx, fun q6 => by rw [e6, h6'] at q6; cases q6⟩
  · rw [e5] at q
    obtain ⟨x, y, hx, hr⟩ := h3 q
    exact ⟨x, y, hx, fun q6 => by rw [e6, h6'] at q6; cases q6⟩
  · rw [e7] at q; cases q
  · rw [e6]; exact h6'
  · rw [e6] at q; rw [e5]; exact h7 q
  · rw [e5] at q; rw [e3]; exact h8 q
  · rw [e3] at q; rw [e2]; exact h9 q
  · rw [e6] at q; rw [listed_off (by omega)]; exact h10 q
end
end Go.Proofs.YtjhcddlhhfjnaaaGreatDoor
