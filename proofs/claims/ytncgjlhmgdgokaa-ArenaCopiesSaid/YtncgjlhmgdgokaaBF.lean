/- For ArenaHolds: the law's own map, what holds between its rounds, the calls; no condition. -/
import Derived.Test.YtncgjlhmgdgokaaBE
namespace Go.Proofs.Ytncgjlhmgdgokaa
open Go.RowKit Go.Sort ArenaMath Go.Maps

/-- The law's map: the places that are taken. -/
def TkIs (D : DataW Unit) (L : List Int) : Prop := ∀ x : Int, Maps.has D (.int .i64 x) = decide (x ∈ L) ∧ (x ∈ L → ∀ z, D.atKey (.int .i64 x) z = .lit (.int .i64 1))
theorem TkIs.get {D : DataW Unit} {L : List Int} (h : TkIs D L) (x : Int) : D.atKey (.int .i64 x) (.lit (.int .i64 0)) = .lit (.int .i64 (if x ∈ L then 1 else 0)) := by
  by_cases e : x ∈ L
  · rw [if_pos e]; exact (h x).2 e _
  · rw [if_neg e]; exact atKey_of_not_has ((h x).1.trans (decide_eq_false e)) _
theorem TkIs.none {D : DataW Unit} {L : List Int} (h : TkIs D L) {x : Int} (e : x ∉ L) (z : DataW Unit) : D.atKey (.int .i64 x) z = z := atKey_of_not_has ((h x).1.trans (decide_eq_false e)) _
theorem tkIs_new : TkIs (.map []) [] := fun x => ⟨by rw [decide_eq_false (by simp)]; rfl, fun h => by cases h⟩
theorem TkIs.put {D : DataW Unit} {L : List Int} (h : TkIs D L) (hD : IsMap D) (x : Int) : TkIs (D.put (.int .i64 x) (.lit (.int .i64 1))) (insR x L) := fun y => by
  by_cases e : y = x
  · subst e
    exact ⟨(has_put_same hD (by trivial) _).trans (decide_eq_true (mem_ins.2 (.inl rfl))).symm, fun _ z => atKey_put_same hD (by trivial) _ _⟩
  · refine ⟨((has_put_other (lit_ne e) _).trans (h y).1).trans (decide_eq_decide.2 ?_), fun hm z => (atKey_put_other (lit_ne e) _ _).trans ((h y).2 ?_ z)⟩
    · rw [mem_ins]; simp [e]
    · rcases mem_ins.1 hm with h' | h'
      · exact absurd h' e
      · exact h'
theorem TkIs.del {D : DataW Unit} {L : List Int} (h : TkIs D L) (x : Int) : TkIs (D.del (.int .i64 x)) (delR x L) := fun y => by
  by_cases e : y = x
  · subst e
    exact ⟨has_del_same.trans (decide_eq_false (fun hm => (mem_del.1 hm).2 rfl)).symm, fun hm => absurd rfl (mem_del.1 hm).2⟩
  · refine ⟨((has_del_other (lit_ne e)).trans (h y).1).trans (decide_eq_decide.2 ?_), fun hm z => (atKey_del_other (lit_ne e) _).trans ((h y).2 (mem_del.1 hm).1 z)⟩
    rw [mem_del]; simp [e]
/-- The acts that came in. -/
def ActsS (w : World) (A : Option Addr) (ws : List (Int × Int)) : Prop := 0 < ws.length → ∃ b o, A = some ⟨b, o, none⟩ ∧ b < w.heap.size ∧ ∀ i p, ws[i]? = some p → w.cell? ⟨b, o + i * 2, none⟩ = some (.int .i64 p.1) ∧ w.cell? ⟨b, o + i * 2 + 1, none⟩ = some (.int .i64 p.2)
theorem ActsS.below {w w1 : World} {A : Option Addr} {ws : List (Int × Int)} (h : ActsS w A ws) (hb : Below w.heap.size w w1) : ActsS w1 A ws := fun h0 => by
  obtain ⟨b, o, rfl, hl, hc⟩ := h h0
  exact ⟨b, o, rfl, Nat.lt_of_lt_of_le hl hb.size, fun i p hp => ⟨((bcell hb).1 b _ hl).trans (hc i p hp).1, ((bcell hb).1 b _ hl).trans (hc i p hp).2⟩⟩
/-- What lies in memory between the law's rounds. -/
structure HMem (w0 : World) (b m mt : Nat) (L : List Int) (D : DataW Unit) (A : Option Addr) (W : World) : Prop where
  ar : ArS W w0.heap.size b 30 L m A
  map : W.ownsMap Try.prog 3 (plainElem (H := Unit) Try.prog 3) mt (Maps.size D) D
  is : TkIs D L
  sz : Maps.size D = L.length
  lo : w0.heap.size ≤ mt
  ne : ∀ k, foot b m A k → k ≠ mt
  bel : Below w0.heap.size w0 W
theorem ownsMap_tight2 {w : World} {b n : Nat} {D : DataW Unit} (h : w.ownsMap Try.prog 3 (plainElem (H := Unit) Try.prog 3) b n D) : w.ownsMap Try.prog 3 (plainElem (H := Unit) Try.prog 3) b (Maps.size D) D := by
  obtain ⟨es, clock, hb, F, _, rfl⟩ := h
  refine ⟨es, clock, hb, F, ?_, rfl⟩
  show es.size ≤ ((es.toList.map _).foldr DataW.insert []).length
  rw [length_sorted]; simp
section
variable {w0 W W' : World} {b m mt : Nat} {L L' : List Int} {D : DataW Unit} {A A' : Option Addr}
theorem HMem.after (h : HMem w0 b m mt L D A W) (hb : Below W.heap.size W W') : HMem w0 b m mt L D A W' :=
  ⟨h.ar.after hb, h.map.only (F := fun _ => False) (Only.of hb) (fun q => q), h.is, h.sz, h.lo, h.ne, h.bel.trans (hb.mono h.bel.size)⟩
/-- The arena has turned; the map has not yet. -/
structure HMid (w0 : World) (b m mt : Nat) (L L' : List Int) (D : DataW Unit) (A : Option Addr) (W : World) : Prop where
  ar : ArS W w0.heap.size b 30 L' m A
  map : W.ownsMap Try.prog 3 (plainElem (H := Unit) Try.prog 3) mt (Maps.size D) D
  is : TkIs D L
  sz : Maps.size D = L.length
  lo : w0.heap.size ≤ mt
  ne : ∀ k, foot b m A k → k ≠ mt
  bel : Below w0.heap.size w0 W
theorem HMid.after (h : HMid w0 b m mt L L' D A W) (hb : Below W.heap.size W W') : HMid w0 b m mt L L' D A W' :=
  ⟨h.ar.after hb, h.map.only (F := fun _ => False) (Only.of hb) (fun q => q), h.is, h.sz, h.lo, h.ne, h.bel.trans (hb.mono h.bel.size)⟩
theorem HMem.turn (h : HMem w0 b m mt L D A W) (ha : ArS W' w0.heap.size b 30 L' m A') (ho : Only (foot b m A) W W') (hl : LocA W A A') : HMid w0 b m mt L L' D A' W' :=
  ⟨ha, h.map.only ho (fun hk => h.ne mt hk rfl), h.is, h.sz, h.lo, fun k hk e => by
    have hlt := h.map.lt
    rcases hk with rfl | rfl | hk
    · exact h.ne _ (.inl rfl) e
    · exact h.ne _ (.inr (.inl rfl)) e
    · rcases hl k hk with h' | h'
      · exact h.ne _ (.inr (.inr h')) e
      · omega, h.bel.trans (ho.below h.ar.footBase h.bel.size)⟩
/-- Another arena, all of whose blocks are newer, turns: nothing else does. -/
theorem HMid.far {b' m' s : Nat} {A2 : Option Addr} (hs : s = W.heap.size) {V V' : World} (hV : Below W.heap.size W V) (hf : ∀ k, foot b' m' A2 k → s ≤ k) (ho : Only (foot b' m' A2) V V') : Below W.heap.size W V' := by
  subst hs
  exact hV.trans (ho.below hf hV.size)
theorem HMid.put {x : Int} {n : Nat} (h : HMid w0 b m mt L (insR x L) D A W) (hx : x ∉ L) (hw : W'.ownsMap Try.prog 3 (plainElem (H := Unit) Try.prog 3) mt n (D.put (.int .i64 x) (.lit (.int .i64 1)))) (hg : W.grownBy W' (some mt)) : HMem w0 b m mt (insR x L) (D.put (.int .i64 x) (.lit (.int .i64 1))) A W' := by
  have ho : Only (fun k => k = mt) W W' := Only.grownBy hg (fun k hk => (Option.some.inj hk).symm)
  refine ⟨h.ar.only ho (fun k hk e => h.ne k hk e), ownsMap_tight2 hw, h.is.put h.map.isMap x, ?_, h.lo, h.ne, h.bel.trans (ho.below (fun k hk => by have : k = mt := hk; have := h.lo; omega) h.bel.size)⟩
  rw [size_put (h.map.tidy lawK), (h.is x).1, decide_eq_false hx, if_neg (by simp), h.sz, ins_len]
theorem HMid.del {x : Int} {n : Nat} (h : HMid w0 b m mt L (delR x L) D A W) (hL : Ris L) (hx : x ∈ L) (hw : W'.ownsMap Try.prog 3 (plainElem (H := Unit) Try.prog 3) mt n (D.del (.int .i64 x))) (hg : W.grownBy W' (some mt)) : HMem w0 b m mt (delR x L) (D.del (.int .i64 x)) A W' := by
  have ho : Only (fun k => k = mt) W W' := Only.grownBy hg (fun k hk => (Option.some.inj hk).symm)
  refine ⟨h.ar.only ho (fun k hk e => h.ne k hk e), ownsMap_tight2 hw, h.is.del x, ?_, h.lo, h.ne, h.bel.trans (ho.below (fun k hk => by have : k = mt := hk; have := h.lo; omega) h.bel.size)⟩
  have e1 := size_del (k := .int .i64 x) (h.map.tidy lawK)
  rw [(h.is x).1, decide_eq_true hx, if_pos rfl] at e1
  have e2 := del_len hL hx
  have e3 := h.sz
  omega
theorem HMid.back (h : HMid w0 b m mt L L D A W) : HMem w0 b m mt L D A W := ⟨h.ar, h.map, h.is, h.sz, h.lo, h.ne, h.bel⟩
end
end Go.Proofs.Ytncgjlhmgdgokaa
