/- Ways gathered out of a slice that may be empty; the document's Sort of such a slice. -/
import Derived.Test.YtfdofajknnocfaaPD
import Derived.Test.YtfdofajknnocfaaNY
namespace Go.Proofs.Ytfdofajknnocfaa
open Go.RowKit Go.Sort

theorem wayCs_of : ∀ (l : List (Int × Int)) (j : Nat) (u : Value), (wayCs l)[j]? = some u → ∃ i p, l[i]? = some p ∧ ((j = i * 2 ∧ u = .int .i64 p.1) ∨ (j = i * 2 + 1 ∧ u = .int .i64 p.2))
  | [], j, u, h => by simp [wayCs] at h
  | p :: r, 0, u, h => ⟨0, p, rfl, .inl ⟨rfl, by simpa [wayCs] using h.symm⟩⟩
  | p :: r, 1, u, h => ⟨0, p, rfl, .inr ⟨rfl, by simpa [wayCs] using h.symm⟩⟩
  | p :: r, j + 2, u, h => by
    obtain ⟨i, q, hi, hj⟩ := wayCs_of r j u (by simpa [wayCs] using h)
    exact ⟨i + 1, q, by simpa using hi, hj.elim (fun h => .inl ⟨by omega, h.2⟩) (fun h => .inr ⟨by omega, h.2⟩)⟩
/-- A slice of ways, which lie where it says, if there are any. -/
def WaysS (w : World) (A : Option Addr) (ws : List (Int × Int)) : Prop := 0 < ws.length → ∃ b o, A = some ⟨b, o, none⟩ ∧ WaysL w b o ws
theorem WaysS.below {w w1 : World} {A : Option Addr} {ws : List (Int × Int)} (h : WaysS w A ws) (hb : Below w.heap.size w w1) : WaysS w1 A ws := fun h0 => by
  obtain ⟨b, o, hA, hw⟩ := h h0
  exact ⟨b, o, hA, hw.below hb⟩
theorem wpList_append_none {P : Program} (w : World) {ops : Array Oper} {rest : List Oper} {o : Oper} {a : Act} {Q : Exit → Act → World → Prop}
    (hg : o.guard = none) (s x : Operand) (t : TypeId) (hop : o.op = Op.call { callee := Callee.builtin Builtin.append, args := #[s, x], argTypes := #[t, t] })
    (e : TypeId) (i : TypeInfo) (h1 : P.underlying t = some (.slice e)) (h2 : P.info? e = some i) (E : Option Addr) (n cap c : Nat) (hc : n ≤ cap)
    (hs : a.eval s = .slice E n cap) (hx : a.eval x = .slice none 0 c) (hK : wpList P ops Q rest (a.put o.dst (.slice E n cap)) w) : wpList P ops Q (o :: rest) a w := by
  refine wpList_plain hg fun K hK' => ?_
  have hrun : (Builtin.append_ #[t, t] o.type #[.slice E n cap, .slice none 0 c]).run P w = .ok (.slice E n cap) w := by
    cases E <;> simp [Builtin.append_, run_underlying h1, sizeOf, typeInfo, h2, hc, storeCells, Builtin.firstCells, Builtin.lenOf]
  unfold Oper.wp
  simp [execOp, hop, resolve, invoke, builtin, hs, hx, hrun, Result.andThen]
  exact hK' _ _ hK
/-- append of ways out of a slice to an empty one. -/
theorem wpList_gather {w : World} {ops : Array Oper} {rest : List Oper} {o : Oper} {a : Act} {Q : Exit → Act → World → Prop} (hg : o.guard = none) (s x : Operand)
    (ho : o.op = Op.call { callee := Callee.builtin Builtin.append, args := #[s, x], argTypes := #[39, 39] }) (base : Nat) (E : Option Addr) (cap0 : Nat) (A : Option Addr) (c : Nat) (ps : List (Int × Int))
    (hs : a.eval s = .slice E 0 cap0) (hx : a.eval x = .slice A ps.length c) (hown : OwnW w base E [] 0 cap0) (hr : WaysS w A ps) (hN : ps.length ≤ 1000) (hb : base ≤ w.heap.size)
    (hK : ∀ (A' : Option Addr) (N' cap' : Nat) (w' : World), OwnW w' base A' ps N' cap' → N' = ps.length → Below base w w' → wpList Try.prog ops Q rest (a.put o.dst (.slice A' N' cap')) w') :
    wpList Try.prog ops Q (o :: rest) a w := by
  obtain ⟨i0, hi, hz, hz1, hz2⟩ := info_parts infoWay
  obtain ⟨hw, _⟩ := hown
  cases A with
  | none =>
    have hp : ps = [] := by
      cases ps with
      | nil => rfl
      | cons p r => obtain ⟨b, o', h, _⟩ := hr (by simp); cases h
    subst hp
    exact wpList_append_none w hg s x 39 ho 23 i0 Try.underlying39 hi E 0 cap0 c (Nat.zero_le _) hs hx (hK E 0 cap0 w ⟨hw, rfl⟩ rfl (Below.refl _ _))
  | some ad =>
    refine wpList_append_own_at w hg s x 39 ho base 23 i0 (wayV 0 0) 2 16 Try.underlying39 hi hz hz1 hz2 rfl (by decide) _ 0 [] hs hw ad ps.length c (wayCs ps) hx (by rw [wayCs_len]) (fun j u hj => ?_) (fun u hu => ?_) (by unfold maxLen; omega) (by omega) hb ?_
    · obtain ⟨i, p, hi, hc⟩ := wayCs_of ps j u hj
      obtain ⟨b, o', hA, hw⟩ := hr (by have := (List.getElem?_eq_some_iff.1 hi).1; omega)
      cases hA
      have hc2 := hw.2 i p hi
      have e : ∀ k, (⟨b, o', none⟩ : Addr).add k = ⟨b, o' + k, none⟩ := fun k => by simp [Addr.add]
      rw [e]
      rcases hc with ⟨rfl, rfl⟩ | ⟨rfl, rfl⟩
      · exact hc2.1
      · exact hc2.2
    · obtain ⟨j, hj⟩ := List.mem_iff_getElem?.1 hu
      obtain ⟨i, p, _, hc⟩ := wayCs_of ps j u hj
      rcases hc with ⟨_, rfl⟩ | ⟨_, rfl⟩ <;> rfl
    · intro v' w' hown' hgr _ _
      rw [Nat.zero_add, List.nil_append] at hown'
      obtain ⟨A', cap', rfl, _⟩ := ownsRow_slice hown'
      obtain ⟨_, _, hE, hbb⟩ := ownsRow_slice hw
      exact hK A' ps.length cap' w' ⟨hown', rfl⟩ rfl ((Below.refl base w).grown hgr hb (fun j hj => hbb j hj))
theorem OwnW.cap {w : World} {base : Nat} {A : Option Addr} {ws : List (Int × Int)} {N cap : Nat} (h : OwnW w base A ws N cap) : N ≤ cap := by
  obtain ⟨⟨_, h | ⟨g, cap', cur, hv, _, _, hc, _⟩⟩, _⟩ := h
  · cases h.1; exact Nat.le_refl _
  · cases hv; exact hc
set_option maxHeartbeats 1600000 in
set_option maxRecDepth 100000 in
theorem refsort_none (A : Option Addr) (c : Nat) (w : World) : Calls Try.prog 22 #[.slice A 0 c] w (SortPost w []) := by
  go_enter Try.func22, Try.ntmps22
  go_wp2
  refine wp_loop_rounds 1 ?_
  rw [rounds_succ]
  go_wp2
  go_ret
  exact ⟨none, 0, 0, rfl, OwnW.start _ _, Below.refl _ _⟩
theorem refsort_l (ws : List (Int × Int)) (A : Option Addr) (c : Nat) (w : World) (hn : ws.length ≤ 20) (hx : WaysS w A ws) :
    Calls Try.prog 22 #[.slice A ws.length c] w (SortPost w (Ins.srt ltR ws)) := by
  rcases Nat.eq_zero_or_pos ws.length with h | h
  · have e := List.eq_nil_of_length_eq_zero h
    subst e
    exact refsort_none A c w
  · obtain ⟨b, o, rfl, hw⟩ := hx h
    exact refsort_any ws b o c w hn hw
end Go.Proofs.Ytfdofajknnocfaa
