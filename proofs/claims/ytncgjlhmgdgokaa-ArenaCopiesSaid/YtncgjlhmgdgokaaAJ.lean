/- An arena in memory; there, has, Taken, Len, Top; no condition. -/
import Derived.Test.YtncgjlhmgdgokaaAH
import Derived.Test.YtncgjlhmgdgokaaAI
namespace Go.Proofs.Ytncgjlhmgdgokaa
open Go.RowKit Go.Sort ArenaMath Go.Maps

/-- How what is known of a taken place reads. -/
def hElem : Value → Option (DataW Unit × List MemPlace)
  | .agg cs => match cs.toList with
    | [.bool b] => some (.lit (.bool b), [])
    | _ => none
  | _ => none
theorem hElem_mk (b : Bool) : hElem (.agg #[.bool b]) = some (.lit (.bool b), []) := rfl
theorem hElem_inv {v : Value} {z : DataW Unit × List MemPlace} (h : hElem v = some z) : ∃ b, v = .agg #[.bool b] ∧ z = (.lit (.bool b), []) := by
  unfold hElem at h
  split at h
  · split at h
    · rename_i cs b hc
      refine ⟨b, ?_, (Option.some.inj h).symm⟩
      congr 1
      exact Array.toList_inj.1 hc
    · cases h
  · cases h
theorem lawK : Keyed Try.prog 3 := int_keyed Try.underlying3
theorem zeroH (w : World) : (zeroValue 64).run Try.prog w = .ok (.agg #[.bool false]) w := by kernel_rfl
/-- What a map holds, place by place. -/
def MapIs (D : DataW Unit) (tk : Int → Option Bool) : Prop := ∀ x : Int, Maps.has D (.int .i64 x) = (tk x).isSome ∧ ∀ b, tk x = some b → ∀ z, D.atKey (.int .i64 x) z = .lit (.bool b)
theorem mapIs_new : MapIs (.map []) (fun _ => none) := fun _ => ⟨rfl, fun _ h => by cases h⟩
theorem lit_ne {x y : Int} (h : y ≠ x) : (Lit.int .i64 y) ≠ (Lit.int .i64 x) := fun e => h (by injection e)
theorem MapIs.put {D : DataW Unit} {tk : Int → Option Bool} (h : MapIs D tk) (hD : IsMap D) (x : Int) (b : Bool) : MapIs (D.put (.int .i64 x) (.lit (.bool b))) (upd tk x (some b)) := fun y => by
  by_cases e : y = x
  · subst e
    rw [upd_same]
    exact ⟨has_put_same hD (by trivial) _, fun b' hb z => by cases hb; exact atKey_put_same hD (by trivial) _ _⟩
  · rw [upd_other _ e]
    exact ⟨(has_put_other (lit_ne e) _).trans (h y).1, fun b' hb z => (atKey_put_other (lit_ne e) _ _).trans ((h y).2 b' hb z)⟩
theorem MapIs.del {D : DataW Unit} {tk : Int → Option Bool} (h : MapIs D tk) (x : Int) : MapIs (D.del (.int .i64 x)) (upd tk x none) := fun y => by
  by_cases e : y = x
  · subst e
    rw [upd_same]
    exact ⟨has_del_same, fun b' hb z => by cases hb⟩
  · rw [upd_other _ e]
    exact ⟨(has_del_other (lit_ne e)).trans (h y).1, fun b' hb z => (atKey_del_other (lit_ne e) _).trans ((h y).2 b' hb z)⟩
section
variable {w : World} {ops : Array Oper} {rest : List Oper} {o : Oper} {a : Act} {Q : Exit → Act → World → Prop}
/-- 'h, ok := m[k]' at the operation. -/
theorem wpList_look_ok (hg : o.guard = none) (m x : Operand) (hop : o.op = Op.lookup 35 m x true) (b n : Nat) (D : DataW Unit)
    (hm : a.eval m = .map (some b)) (hown : w.ownsMap Try.prog 3 hElem b n D) (k : Int) (hx : a.eval x = .int .i64 k) (hk : (Lit.int .i64 k).wf = true)
    (hK : ∀ h : Bool, D.atKey (.int .i64 k) (.lit (.bool false)) = .lit (.bool h) → wpList Try.prog ops Q rest (a.put o.dst (.tuple #[.agg #[.bool h], .bool (Maps.has D (.int .i64 k))])) w) :
    wpList Try.prog ops Q (o :: rest) a w :=
  wpList_lookup_own_ok w hg m x 35 hop 3 64 lawK Try.underlying35 hElem (zeroH w) (.lit (.bool false)) [] (hElem_mk false) b n D hm hown (.int .i64 k) (.int .i64 k) hx (keyOf_int_mk Try.underlying3 hk) (fun v ps hv => by
    obtain ⟨h, rfl, e⟩ := hElem_inv hv
    exact hK h (congrArg Prod.fst e))
/-- 'm[k]' at the operation. -/
theorem wpList_look (hg : o.guard = none) (m x : Operand) (hop : o.op = Op.lookup 35 m x false) (b n : Nat) (D : DataW Unit)
    (hm : a.eval m = .map (some b)) (hown : w.ownsMap Try.prog 3 hElem b n D) (k : Int) (hx : a.eval x = .int .i64 k) (hk : (Lit.int .i64 k).wf = true)
    (hK : ∀ h : Bool, D.atKey (.int .i64 k) (.lit (.bool false)) = .lit (.bool h) → wpList Try.prog ops Q rest (a.put o.dst (.agg #[.bool h])) w) :
    wpList Try.prog ops Q (o :: rest) a w := by
  refine wpList_plain hg fun K' hK' => ?_
  obtain ⟨v, ps, hrun, hv⟩ := hown.lookup lawK Try.underlying35 (zeroH w) (hElem_mk false) (keyOf_int_mk Try.underlying3 hk)
  obtain ⟨h, rfl, e⟩ := hElem_inv hv
  unfold Oper.wp
  simp [execOp, hop, hm, hx, hrun, Result.andThen]
  exact hK' _ _ (hK h (congrArg Prod.fst e))
/-- 'm[k] = h' at the operation. -/
theorem wpList_keep (hg : o.guard = none) (m x v : Operand) (hop : o.op = Op.mapUpdate 35 m x v) (b n : Nat) (D : DataW Unit) (h : Bool)
    (hm : a.eval m = .map (some b)) (hown : w.ownsMap Try.prog 3 hElem b n D) (hn : n < 1000000000) (k : Int) (hx : a.eval x = .int .i64 k) (hv : a.eval v = .agg #[.bool h]) (hk : (Lit.int .i64 k).wf = true)
    (hK : ∀ w', w'.ownsMap Try.prog 3 hElem b (n + 1) (D.put (.int .i64 k) (.lit (.bool h))) → w.grownBy w' (some b) → wpList Try.prog ops Q rest (a.put o.dst undef) w') :
    wpList Try.prog ops Q (o :: rest) a w :=
  wpList_mapUpdate_own w hg m x v 35 hop 3 64 lawK Try.underlying35 hElem b n D hm hown (by unfold maxLen; omega) (.int .i64 k) _ (.int .i64 k) hx hv (keyOf_int_mk Try.underlying3 hk) (.lit (.bool h)) [] (hElem_mk h) hK
end
/-- The bound is how many there are. -/
theorem ownsMap_tight {w : World} {b n : Nat} {D : DataW Unit} (h : w.ownsMap Try.prog 3 hElem b n D) : w.ownsMap Try.prog 3 hElem b (Maps.size D) D := by
  obtain ⟨es, clock, hb, F, _, rfl⟩ := h
  refine ⟨es, clock, hb, F, ?_, rfl⟩
  show es.size ≤ ((es.toList.map _).foldr DataW.insert []).length
  rw [length_sorted]; simp
/-- An arena's memory. -/
structure ArMem (w : World) (base b many : Nat) (mark top : Int) (A : Option Addr) (c : Nat) (hs : List Int) (m : Nat) (D : DataW Unit) (tk : Int → Option Bool) : Prop where
  hp : HpAt w base b [.map (some m), .int .i64 many, .int .i64 mark, .int .i64 top] A c hs
  map : w.ownsMap Try.prog 3 hElem m (Maps.size D) D
  is : MapIs D tk
  base : base ≤ b ∧ base ≤ m
/-- Its blocks. -/
def foot (b m : Nat) (A : Option Addr) (k : Nat) : Prop := k = b ∨ k = m ∨ ownB A = some k
section
variable {w w' : World} {base b many c m : Nat} {mark top : Int} {A : Option Addr} {hs : List Int} {D : DataW Unit} {tk : Int → Option Bool}
theorem row_map {vs : List Value} {v : Value} {k n : Nat} {t : TypeId} {R : Value → Option (DataW Unit × List MemPlace)} (hr : Row w k (v :: vs)) (hm : w.ownsMap Try.prog t R m n D) : k ≠ m := by
  rintro rfl
  obtain ⟨es, clock, hb, _⟩ := hm
  have := hr.c 0 rfl
  simp [World.cell?, hb] at this
theorem own_map {e : TypeId} {k n N cap : Nat} {g : Nat} {xs : List Value} {t : TypeId} {R : Value → Option (DataW Unit × List MemPlace)} (ho : Own e k w base A N cap xs) (hg : ownB A = some g) (hm : w.ownsMap Try.prog t R m n D) : g ≠ m := by
  rintro rfl
  obtain ⟨_, h2⟩ := ho
  rcases h2 with ⟨h2, _⟩ | ⟨g', cap', cur, hv, _, hh, _⟩
  · cases h2; cases hg
  · cases hv
    cases hg
    obtain ⟨es, clock, hb, _⟩ := hm
    rw [hh] at hb; cases hb
theorem ArMem.ne (h : ArMem w base b many mark top A c hs m D tk) : b ≠ m ∧ (∀ g, ownB A = some g → g ≠ b ∧ g ≠ m) := ⟨row_map h.hp.row h.map, fun _ hg => ⟨h.hp.far _ hg, own_map h.hp.line hg h.map⟩⟩
theorem ArMem.only {F : Nat → Prop} (h : ArMem w base b many mark top A c hs m D tk) (ho : Only F w w') (hF : ∀ k, foot b m A k → ¬ F k) : ArMem w' base b many mark top A c hs m D tk :=
  ⟨h.hp.only ho (hF b (.inl rfl)) (fun g hg => hF g (.inr (.inr hg))), h.map.only ho (hF m (.inr (.inl rfl))), h.is, h.base⟩
theorem ArMem.after (h : ArMem w base b many mark top A c hs m D tk) (hb : Below w.heap.size w w') : ArMem w' base b many mark top A c hs m D tk := h.only (F := fun _ => False) (Only.of hb) (fun _ _ q => q)
theorem neq_map (mm : Nat) (W : World) : (binOp .neq 35 (.map (some mm)) (.map none)).run Try.prog W = .ok (.bool true) W := by kernel_rfl
theorem neq_nil (W : World) : (binOp .neq 35 (.map none) (.map none)).run Try.prog W = .ok (.bool false) W := by kernel_rfl
set_option maxRecDepth 100000 in
theorem there_yes {b : Nat} {x : Value} {r : List Value} {mm : Nat} (hr : Row w b (x :: .map (some mm) :: r)) :
    Calls Try.prog 24 #[.pointer (some ⟨b, 0, none⟩)] w fun e w' => e = .returned (.bool true) ∧ w' = w := by
  have h1 := hr.c 1 rfl
  have hn := neq_map mm w
  go_enter Try.func24, Try.ntmps24
  go_wp2
  go_ret
  exact ⟨rfl, rfl⟩
theorem there_nil : Calls Try.prog 24 #[.pointer none] w fun e w' => e = .returned (.bool false) ∧ w' = w := by
  go_enter Try.func24, Try.ntmps24
  go_wp2
  go_ret
  exact ⟨rfl, rfl⟩
set_option maxRecDepth 100000 in
theorem there_zero {b : Nat} {x : Value} {r : List Value} (hr : Row w b (x :: .map none :: r)) :
    Calls Try.prog 24 #[.pointer (some ⟨b, 0, none⟩)] w fun e w' => e = .returned (.bool false) ∧ w' = w := by
  have h1 := hr.c 1 rfl
  have hn := neq_nil w
  go_enter Try.func24, Try.ntmps24
  go_wp2
  go_ret
  exact ⟨rfl, rfl⟩
set_option maxRecDepth 100000 in
theorem has_any (h : ArMem w base b many mark top A c hs m D tk) (x : Int) :
    Calls Try.prog 32 #[.pointer (some ⟨b, 0, none⟩), .int .i64 x] w fun e w' => e = .returned (.bool (decide (0 ≤ x) && decide (x < many))) ∧ w' = w := by
  have h2 := h.hp.row.c 2 rfl
  clear h
  by_cases e : 0 ≤ x
  · have e1 : decide (0 ≤ x) = true := decide_eq_true e
    rw [e1, Bool.true_and]
    obtain ⟨q, hq⟩ : ∃ q, decide (x < (many : Int)) = q := ⟨_, rfl⟩
    rw [hq]
    clear e
    go_enter Try.func32, Try.ntmps32
    go_wp2
    go_ret
    exact ⟨rfl, rfl⟩
  · have e1 : decide (0 ≤ x) = false := decide_eq_false e
    rw [e1, Bool.false_and]
    clear e
    go_enter Try.func32, Try.ntmps32
    go_wp2
    go_ret
    exact ⟨rfl, rfl⟩
set_option maxRecDepth 100000 in
theorem taken_any (h : ArMem w base b many mark top A c hs m D tk) (x : Int) (hx : (Lit.int .i64 x).wf = true) :
    Calls Try.prog 14 #[.pointer (some ⟨b, 0, none⟩), .int .i64 x] w fun e w' => e = .returned (.bool (tk x).isSome) ∧ Below w.heap.size w w' := by
  have h1 := h.hp.row.c 1 rfl
  have HT := Lib.hid (there_yes h.hp.row)
  have HM := Lib.hid h.map
  have HX := Lib.hid hx
  rw [← (h.is x).1]
  have hb := Lib.hid (fun o => (Below.refl w.heap.size w).alloc (Nat.le_refl _) o)
  clear h hx
  go_enter Try.func14, Try.ntmps14
  go_wp2_with fail
  refine HT.out.mono ?_
  rintro e w1 ⟨rfl, rfl⟩
  go_wp2_with (at_lookup; refine wpList_look_ok rfl _ _ rfl m _ D rfl HM.out x rfl HX.out ?_; intro bb hbb; clear hbb)
  go_ret
  exact ⟨rfl, hb.out _⟩
set_option maxRecDepth 100000 in
theorem taken_none {p : Value} (hp : ∀ W, Below w.heap.size w W → Calls Try.prog 24 #[p] W fun e w' => e = .returned (.bool false) ∧ w' = W) (x : Int) :
    Calls Try.prog 14 #[p, .int .i64 x] w fun e w' => e = .returned (.bool false) ∧ w' = w := by
  have HT := Lib.hid (hp w (Below.refl _ _))
  clear hp
  go_enter Try.func14, Try.ntmps14
  go_wp2_with fail
  refine HT.out.mono ?_
  rintro e w1 ⟨rfl, rfl⟩
  go_wp2_with fail
  go_ret
  exact ⟨rfl, rfl⟩
set_option maxRecDepth 100000 in
theorem len_any (h : ArMem w base b many mark top A c hs m D tk) :
    Calls Try.prog 15 #[.pointer (some ⟨b, 0, none⟩)] w fun e w' => e = .returned (.int .i64 (Maps.size D)) ∧ w' = w := by
  have h1 := h.hp.row.c 1 rfl
  have HT := Lib.hid (there_yes h.hp.row)
  have HM := Lib.hid h.map
  clear h
  go_enter Try.func15, Try.ntmps15
  go_wp2_with fail
  refine HT.out.mono ?_
  rintro e w1 ⟨rfl, rfl⟩
  go_wp2_with (at_len; refine wpList_len_own _ rfl _ _ rfl _ _ Try.underlying35 hElem m _ D rfl HM.out ?_)
  go_ret
  exact ⟨rfl, rfl⟩
set_option maxRecDepth 100000 in
theorem len_none {p : Value} (hp : Calls Try.prog 24 #[p] w fun e w' => e = .returned (.bool false) ∧ w' = w) :
    Calls Try.prog 15 #[p] w fun e w' => e = .returned (.int .i64 0) ∧ w' = w := by
  have HT := Lib.hid hp
  clear hp
  go_enter Try.func15, Try.ntmps15
  go_wp2_with fail
  refine HT.out.mono ?_
  rintro e w1 ⟨rfl, rfl⟩
  go_wp2_with fail
  go_ret
  exact ⟨rfl, rfl⟩
set_option maxRecDepth 100000 in
theorem top_any (h : ArMem w base b many mark top A c hs m D tk) :
    Calls Try.prog 16 #[.pointer (some ⟨b, 0, none⟩)] w fun e w' => e = .returned (.int .i64 top) ∧ w' = w := by
  have h1 := h.hp.row.c 4 rfl
  have HT := Lib.hid (there_yes h.hp.row)
  clear h
  go_enter Try.func16, Try.ntmps16
  go_wp2_with fail
  refine HT.out.mono ?_
  rintro e w1 ⟨rfl, rfl⟩
  go_wp2_with fail
  go_ret
  exact ⟨rfl, rfl⟩
set_option maxRecDepth 100000 in
theorem top_none {p : Value} (hp : Calls Try.prog 24 #[p] w fun e w' => e = .returned (.bool false) ∧ w' = w) :
    Calls Try.prog 16 #[p] w fun e w' => e = .returned (.int .i64 0) ∧ w' = w := by
  have HT := Lib.hid hp
  clear hp
  go_enter Try.func16, Try.ntmps16
  go_wp2_with fail
  refine HT.out.mono ?_
  rintro e w1 ⟨rfl, rfl⟩
  go_wp2_with fail
  go_ret
  exact ⟨rfl, rfl⟩
end
end Go.Proofs.Ytncgjlhmgdgokaa
