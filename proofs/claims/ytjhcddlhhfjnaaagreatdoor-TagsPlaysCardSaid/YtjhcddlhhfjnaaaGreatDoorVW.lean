/- TagsPlays walked. -/
import Derived.Test.YtjhcddlhhfjnaaaGreatDoorVU
import Derived.Deep.Cut
import Derived.Deep.CutRange
namespace Go.Proofs.YtjhcddlhhfjnaaaGreatDoor
open Go.RowKit Go.Sort Go.Shelf

/-- The calls' cells. -/
def actCs : List (Bool × Int) → List Value
  | [] => []
  | p :: r => .bool p.1 :: .int .i64 p.2 :: actCs r
theorem actCs_len : ∀ l, (actCs l).length = l.length * 2
  | [] => rfl
  | _ :: r => by rw [actCs, List.length_cons, List.length_cons, actCs_len r, List.length_cons]; omega
theorem actCs_get : ∀ (l : List (Bool × Int)) (i : Nat) (p : Bool × Int), l[i]? = some p → (actCs l)[i * 2]? = some (.bool p.1) ∧ (actCs l)[i * 2 + 1]? = some (.int .i64 p.2)
  | [], i, p, h => by simp at h
  | q :: r, 0, p, h => by
    obtain rfl := Option.some.inj h
    exact ⟨rfl, rfl⟩
  | q :: r, i + 1, p, h => by
    have := actCs_get r i p (by simpa using h)
    rw [actCs, show (i + 1) * 2 = i * 2 + 1 + 1 by omega, show i * 2 + 1 + 1 + 1 = (i * 2 + 1) + 1 + 1 by omega]
    simpa using this
/-- What stands between two rounds. -/
structure PL (w : World) (cs : List (Int × Int)) (At : Option Addr) (Nt ct : Nat) (Aw : Option Addr) (Nw cw : Nat) (W : World) : Prop where
  t : Row W w.heap.size [.slice At Nt ct]
  tn : Nt = cs.length
  tc : CellsS W At (cntCs cs)
  tcap : Nt ≤ ct
  u : Row W (w.heap.size + 1) [.slice Aw Nw cw]
  un : Nw = (expand cs).length
  uc : CellsS W Aw (intCs (expand cs))
  ucap : Nw ≤ cw
  good : Good cs
  bel : Below w.heap.size w W
theorem PL.after {w : World} {cs : List (Int × Int)} {At : Option Addr} {Nt ct : Nat} {Aw : Option Addr} {Nw cw : Nat} {W W1 : World} (h : PL w cs At Nt ct Aw Nw cw W) (hb : Below W.heap.size W W1) : PL w cs At Nt ct Aw Nw cw W1 :=
  ⟨h.t.after hb, h.tn, h.tc.after hb, h.tcap, h.u.after hb, h.un, h.uc.after hb, h.ucap, h.good, h.bel.trans (hb.mono h.bel.size)⟩
theorem PL.put {w : World} {cs : List (Int × Int)} {At : Option Addr} {Nt ct : Nat} {Aw : Option Addr} {Nw cw : Nat} {W : World} {b : Nat} (h : PL w cs At Nt ct Aw Nw cw W) (hb : w.heap.size + 2 ≤ b) (ht : 0 < (cntCs cs).length → ∀ a, At = some a → a.block ≠ b) (hu : 0 < (intCs (expand cs)).length → ∀ a, Aw = some a → a.block ≠ b) (v : Value) : PL w cs At Nt ct Aw Nw cw (W.setCell ⟨b, 0, none⟩ v) :=
  ⟨h.t.other (by simp; omega) _, h.tn, h.tc.put ht, h.tcap, h.u.other (by simp; omega) _, h.un, h.uc.put hu, h.ucap, h.good, below_put1 h.bel (by omega) 0 _⟩
/-- The document's answer in its box. -/
structure OB (wr : World) (b : Nat) (er : Int) (l : List Int) (A : Option Addr) (N c : Nat) (W : World) : Prop where
  row : Row W b [.slice A N c]
  ok : er = 0 → N = l.length ∧ CellsS W A (intCs l) ∧ N ≤ c ∧ (0 < l.length → ∀ a, A = some a → wr.heap.size ≤ a.block)
  lo : wr.heap.size ≤ b
  bel : KW wr W
theorem OB.after {wr : World} {b : Nat} {er : Int} {l : List Int} {A : Option Addr} {N c : Nat} {W W1 : World} (h : OB wr b er l A N c W) (hb : Below W.heap.size W W1) : OB wr b er l A N c W1 :=
  ⟨h.row.after hb, fun e => by obtain ⟨h1, h2, h3, h4⟩ := h.ok e; exact ⟨h1, h2.after hb, h3, h4⟩, h.lo, h.bel.after hb⟩
/-- The program's answer in its box. -/
structure UB (wr : World) (b : Nat) (cs : List (Int × Int)) (A : Option Addr) (N c : Nat) (W : World) : Prop where
  row : Row W b [.slice A N c]
  len : N = cs.length
  cells : CellsS W A (cntCs cs)
  cap : N ≤ c
  far : 0 < cs.length → ∀ a, A = some a → wr.heap.size ≤ a.block
  lo : wr.heap.size ≤ b
  bel : KW wr W
theorem UB.after {wr : World} {b : Nat} {cs : List (Int × Int)} {A : Option Addr} {N c : Nat} {W W1 : World} (h : UB wr b cs A N c W) (hb : Below W.heap.size W W1) : UB wr b cs A N c W1 :=
  ⟨h.row.after hb, h.len, h.cells.after hb, h.cap, h.far, h.lo, h.bel.after hb⟩
/-- A call's answer. -/
def actE (cs : List (Int × Int)) (b : Bool) (n : Int) : Int := match b with
  | true => lessE cs n
  | false => moreE cs n
def actL (cs : List (Int × Int)) (b : Bool) (n : Int) : List (Int × Int) := match b with
  | true => lessL cs n
  | false => moreL cs n
theorem actL_good {cs : List (Int × Int)} (h : Good cs) (b : Bool) (n : Int) : Good (actL cs b n) := by
  cases b with
  | true => exact good_less h
  | false => exact good_more h
theorem actL_none {cs : List (Int × Int)} (h : Good cs) {b : Bool} {n : Int} (he : actE cs b n ≠ 0) : actL cs b n = [] := by
  cases b with
  | true => exact less_none h he
  | false => exact more_none he
set_option maxRecDepth 100000 in
theorem plays_many (A : Option Addr) (n c : Nat) (w : World) (hv : VarS w) (hs : 40 < n) :
    Calls Tryz.prog 4 #[.slice A n c] w fun e w' => e = .returned (.bool true) ∧ Below w.heap.size w w' := by
  have HW := Lib.hid (works_any w hv)
  clear hv
  have hs1 : (40 : Int) < n := by omega
  clear hs
  go_enter Tryz.func4, Tryz.ntmps4
  go_wp2_with fail
  refine HW.out.mono ?_
  rintro e w1 ⟨rfl, hb⟩
  go_wp2_with fail
  go_ret
  exact ⟨rfl, hb⟩
set_option maxRecDepth 100000 in
set_option maxHeartbeats 12000000 in
theorem plays_few (l : List (Bool × Int)) (A : Option Addr) (n c : Nat) (w : World) (hv : VarS w) (hn : n = l.length) (hs : ¬ 40 < n) (hA : CellsS w A (actCs l)) :
    Calls Tryz.prog 4 #[.slice A n c] w fun e w' => e = .returned (.bool true) ∧ Below w.heap.size w w' := by
  have HV := Lib.hid hv
  have HA := Lib.hid hA
  have HN := Lib.hid hn
  have hs0 : ¬ (40 : Int) < n := by omega
  clear hv hn hA hs
  go_enter Tryz.func4, Tryz.ntmps4
  go_wp2_with fail
  have HP0 : Hid (PL w [] none 0 0 none 0 0 ((w.alloc (.cells #[.slice none 0 0] 26)).alloc (.cells #[.slice none 0 0] 31))) := Lib.hid
    ⟨(Row.at rfl [_] _).alloc _, rfl, CellsS.nil _ _, Nat.le_refl _, Row.at (by simp) [_] _, rfl, CellsS.nil _ _, Nat.le_refl _, Good.nil, ((Below.refl _ _).alloc (Nat.le_refl _) _).alloc (by simp) _⟩
  generalize World.alloc _ _ = W0 at HP0 ⊢
  go_loopw [5] (fun i wr => ∃ (k : Nat) (cs : List (Int × Int)) (At : Option Addr) (Nt ct : Nat) (Aw : Option Addr) (Nw cw : Nat), k ≤ n ∧ i = .int .i64 k ∧ Hid (PL w cs At Nt ct Aw Nw cw wr)) (fun i _ => n - (intOf i).toNat)
  case atStart => exact ⟨0, [], none, 0, 0, none, 0, 0, Nat.zero_le _, rfl, HP0⟩
  case round =>
    obtain ⟨k, cs, At, Nt, ct, Aw, Nw, cw, hk, rfl, HP⟩ := hrel
    clear HP0
    by_cases hkn : k < n
    · obtain ⟨p, hpk⟩ : ∃ p, l[k]? = some p := ⟨_, List.getElem?_eq_getElem (by rw [← HN.out]; exact hkn)⟩
      obtain ⟨b, o, rfl, hl⟩ := HA.out (by rw [actCs_len, ← HN.out]; omega)
      have HC := Lib.hid (hl.after HP.out.bel)
      have hk1 : (k : Int) < n := by omega
      obtain ⟨pb, pn⟩ := p
      have z4 : ∀ W, KW wr W → W.cell? ⟨w.heap.size + 1, 0, none⟩ = some (.slice Aw Nw cw) := fun W h => (HP.out.u.after h).c 0 rfl
      have z1 : ∀ W, KW wr W → W.cell? ⟨b, o + k * 2 + 1, none⟩ = some (.int .i64 pn) := fun W h => (HC.out.after h).2 _ _ (actCs_get l k (pb, pn) hpk).2
      have HM := Lib.hid (fun W (h : KW wr W) => rmore_any (expand cs) pn Aw Nw cw W HP.out.un (by have := HP.out.un; have := (expand_bound HP.out.good).1; omega) HP.out.ucap (HP.out.uc.after h))
      have HPk := Lib.hid hpk
      clear hpk hl
      have hE1 := more_err (n := pn) HP.out.good
      have hL1 := fun h => more_list (n := pn) HP.out.good h
      have HE1 : Hid (rmoreE (expand cs) pn = moreE cs pn ∧ (moreE cs pn = 0 → rmoreL (expand cs) pn = expand (moreL cs pn)) ∧ (moreE cs pn ≠ 0 → moreL cs pn = [])) := Lib.hid ⟨hE1, hL1, fun h => more_none h⟩
      clear hE1 hL1
      generalize rmoreE (expand cs) pn = er1 at HM HE1
      generalize rmoreL (expand cs) pn = l1 at HM HE1
      go_upto_region 8 with fail
      go_cut [6, 7] from 15 to 119 (fun s6 s7 wx => ∃ b6 A6 N6 c6, s6 = .pointer (some ⟨b6, 0, none⟩) ∧ s7 = .int .i64 er1 ∧ Hid (OB wr b6 er1 l1 A6 N6 c6 wx))
      case first =>
        have h00 : KW wr wr := Below.refl _ _
        have hs : KW wr wr.drew := KW.drew h00
        go_region_held3 (fun w' : World => KW wr w')
          (repeat (first
            | (with_reducible assumption)
            | (with_reducible refine KW.put ?_ (KW.size (by with_reducible assumption)) _)
            | (with_reducible refine KW.drew ?_)
            | (with_reducible refine KW.alloc ?_ _)
            | (with_reducible refine KW.after ?_ hb)))
          (first
            | (go_at_call 13; (with_reducible refine (HM.out _ (by with_reducible assumption)).mono ?_); rintro e w2 ⟨A2, N2, c2, rfl, hN2, hC2, hc2, hf2, hb⟩; (first | (have r8 : Row w2 wr.heap.size [.slice none 0 0] := Row.after (w := (wr.alloc (.cells #[.slice none 0 0] 31)).drew) (Row.drew (Row.at rfl [_] _)) hb; have y8 := r8.c 0 rfl; have f8 := r8.f 0 rfl) | skip); have H2 := Lib.hid (And.intro hN2 (And.intro hC2 (And.intro hc2 hf2))); clear hN2 hC2 hc2 hf2))
        · have rb : Row (w2.alloc (.cells #[.slice A2 N2 c2] 31)) (w2.heap.size) [.slice A2 N2 c2] := Row.at rfl [_] _
          have hk' : KW wr (w2.alloc (.cells #[.slice A2 N2 c2] 31)) := by assumption
          have hz := hb.size
          have HV : Hid (OB wr w2.heap.size er1 l1 A2 N2 c2 (w2.alloc (.cells #[.slice A2 N2 c2] 31))) := Lib.hid ⟨rb, fun e => ⟨H2.out.1, H2.out.2.1.after ((Below.refl _ _).alloc (Nat.le_refl _) _), H2.out.2.2.1, fun _ a ha => H2.out.2.2.2 e a ha⟩, hz, hk'⟩
          clear rb hk' hb hz z4 z1 HM h00 hs
          go_wp2_with fail
          go_meet
          exact ⟨_, _, _, _, rfl, rfl, HV⟩
        · have hk' : KW wr (w2.setCell ⟨wr.heap.size, 0, none⟩ (.slice A2 N2 c2)) := by assumption
          have HV : Hid (OB wr wr.heap.size er1 l1 A2 N2 c2 (w2.setCell ⟨wr.heap.size, 0, none⟩ (.slice A2 N2 c2))) := Lib.hid ⟨r8.set 0 (by simp) _, fun e => by
            have hf : ∀ a, A2 = some a → wr.heap.size + 1 ≤ a.block := fun a ha => by simpa using H2.out.2.2.2 e a ha
            exact ⟨H2.out.1, H2.out.2.1.put (fun _ a ha => by have := hf a ha; show a.block ≠ wr.heap.size; omega), H2.out.2.2.1, fun _ a ha => by have := hf a ha; omega⟩, Nat.le_refl _, hk'⟩
          clear r8 y8 f8 hk' hb z4 z1 HM h00 hs
          go_wp2_with fail
          go_meet
          exact ⟨_, _, _, _, rfl, rfl, HV⟩
      case rest =>
        obtain ⟨b6, A6, N6, c6, rfl, rfl, HO⟩ := hcut
        clear HM z4 z1
        have HPc := Lib.hid (HP.out.after HO.out.bel)
        have HCc := Lib.hid (HC.out.after HO.out.bel)
        have hb6 := HO.out.row.1
        have z3 : ∀ W, KW wc W → W.cell? ⟨w.heap.size, 0, none⟩ = some (.slice At Nt ct) := fun W h => (HPc.out.t.after h).c 0 rfl
        have z1 : ∀ W, KW wc W → W.cell? ⟨b, o + k * 2 + 1, none⟩ = some (.int .i64 pn) := fun W h => (HCc.out.after h).2 _ _ (actCs_get l k (pb, pn) HPk.out).2
        have HM := Lib.hid (fun W (h : KW wc W) => more_any cs At Nt ct pn W HP.out.tn (by have := HP.out.tn; have := HP.out.good.len; omega) HP.out.tcap (HPc.out.tc.after h) HP.out.good.work)
        rw [← HE1.out.1] at HM
        have HE1' := HE1
        go_upto_region 9 with fail
        go_cut [8, 9] from 15 to 119 (fun s8 s9 wx => ∃ b8 A8 N8 c8, s8 = .pointer (some ⟨b8, 0, none⟩) ∧ s9 = .int .i64 er1 ∧ b8 ≠ b6 ∧ Hid (OB wr b6 er1 l1 A6 N6 c6 wx) ∧ Hid (UB wr b8 (moreL cs pn) A8 N8 c8 wx))
        case first =>
          have h00 : KW wc wc := Below.refl _ _
          have hs : KW wc wc.drew := KW.drew h00
          go_region_held3 (fun w' : World => KW wc w')
            (repeat (first
              | (with_reducible assumption)
              | (with_reducible refine KW.put ?_ (KW.size (by with_reducible assumption)) _)
              | (with_reducible refine KW.drew ?_)
              | (with_reducible refine KW.alloc ?_ _)
              | (with_reducible refine KW.after ?_ hb)))
            (first
              | (go_at_call 14; (with_reducible refine (HM.out _ (by with_reducible assumption)).mono ?_); rintro e w2 ⟨A2, N2, c2, rfl, hN2, hC2, hc2, hf2, hb⟩; (first | (have r8 : Row w2 wc.heap.size [.slice none 0 0] := Row.after (w := (wc.alloc (.cells #[.slice none 0 0] 26)).drew) (Row.drew (Row.at rfl [_] _)) hb; have y8 := r8.c 0 rfl; have f8 := r8.f 0 rfl) | skip); have H2 := Lib.hid (And.intro hN2 (And.intro hC2 (And.intro hc2 hf2))); clear hN2 hC2 hc2 hf2))
          · have hk' : KW wc (w2.alloc (.cells #[.slice A2 N2 c2] 26)) := by assumption
            have hz := hb.size
            have hz2 := HO.out.bel.size
            have HV : Hid (UB wr w2.heap.size (moreL cs pn) A2 N2 c2 (w2.alloc (.cells #[.slice A2 N2 c2] 26))) := Lib.hid ⟨Row.at rfl [_] _, H2.out.1, H2.out.2.1.after ((Below.refl _ _).alloc (Nat.le_refl _) _), H2.out.2.2.1, fun _ a ha => by have := H2.out.2.2.2 a ha; simp at this; omega, by simp at hz; omega, HO.out.bel.after hk'⟩
            have HO' : Hid (OB wr b6 er1 l1 A6 N6 c6 (w2.alloc (.cells #[.slice A2 N2 c2] 26))) := Lib.hid (HO.out.after hk')
            have hne : w2.heap.size ≠ b6 := by simp at hz; omega
            clear hk' hb hz z3 z1 HM h00 hs
            go_wp2_with fail
            go_meet
            exact ⟨_, _, _, _, rfl, rfl, hne, HO', HV⟩
          · have hk' : KW wc (w2.setCell ⟨wc.heap.size, 0, none⟩ (.slice A2 N2 c2)) := by assumption
            have hz2 := HO.out.bel.size
            have hf : ∀ a, A2 = some a → wc.heap.size + 1 ≤ a.block := fun a ha => by simpa using H2.out.2.2.2 a ha
            have HV : Hid (UB wr wc.heap.size (moreL cs pn) A2 N2 c2 (w2.setCell ⟨wc.heap.size, 0, none⟩ (.slice A2 N2 c2))) := Lib.hid ⟨r8.set 0 (by simp) _, H2.out.1, H2.out.2.1.put (fun _ a ha => by have := hf a ha; show a.block ≠ wc.heap.size; omega), H2.out.2.2.1, fun _ a ha => by have := hf a ha; omega, hz2, HO.out.bel.after hk'⟩
            have HO' : Hid (OB wr b6 er1 l1 A6 N6 c6 (w2.setCell ⟨wc.heap.size, 0, none⟩ (.slice A2 N2 c2))) := Lib.hid (HO.out.after hk')
            have hne : wc.heap.size ≠ b6 := by omega
            clear r8 y8 f8 hk' hb hf z3 z1 HM h00 hs
            go_wp2_with fail
            go_meet
            exact ⟨_, _, _, _, rfl, rfl, hne, HO', HV⟩
        case rest =>
          obtain ⟨b8, A8, N8, c8, rfl, rfl, hb68, HO2, HU⟩ := hcut
          clear HM z3 z1
          have hwr := HO2.out.bel
          have x10 := ((HC.out.after hwr).2 _ _ (actCs_get l k (pb, pn) HPk.out).1)
          go_upto_if 45 with fail
          clear x10 hwr
          go_cut [7, 9] from 15 to 119 (fun s7 s9 wx => s7 = .int .i64 (actE cs pb pn) ∧ s9 = .int .i64 (actE cs pb pn) ∧ ∃ A6 N6 c6 A8 N8 c8, Hid (OB wr b6 (actE cs pb pn) (expand (actL cs pb pn)) A6 N6 c6 wx) ∧ Hid (UB wr b8 (actL cs pb pn) A8 N8 c8 wx))
          case first =>
            cases pb with
            | false =>
              have HO3 : Hid (OB wr b6 (moreE cs pn) (expand (moreL cs pn)) A6 N6 c6 wc) := Lib.hid ⟨HO2.out.row, fun e => by
                have h1 := HO2.out.ok (by rw [HE1.out.1]; exact e)
                rw [HE1.out.2.1 e] at h1
                exact h1, HO2.out.lo, HO2.out.bel⟩
              rw [HE1.out.1]
              clear HO HO2 HE1 HE1'
              go_wp2_with fail
              go_meet
              exact ⟨rfl, rfl, A6, N6, c6, A8, N8, c8, HO3, HU⟩
            | true =>
              have hE2 := less_err (n := pn) HP.out.good
              have hL2 := fun h => less_list (n := pn) HP.out.good h
              have HE2 : Hid (rlessE (expand cs) pn = lessE cs pn ∧ (lessE cs pn = 0 → rlessL (expand cs) pn = expand (lessL cs pn))) := Lib.hid ⟨hE2, hL2⟩
              clear hE2 hL2
              have hwr := HO2.out.bel
              have HM := Lib.hid (fun W (h : KW wr W) => rless_any (expand cs) pn Aw Nw cw W HP.out.un (by have := HP.out.un; have := (expand_bound HP.out.good).1; omega) HP.out.ucap (HP.out.uc.after h))
              rw [HE2.out.1] at HM
              generalize rlessL (expand cs) pn = l2 at HM HE2
              have z4 : ∀ W, KW wr W → W.cell? ⟨w.heap.size + 1, 0, none⟩ = some (.slice Aw Nw cw) := fun W h => (HP.out.u.after h).c 0 rfl
              have z3 : ∀ W, KW wr W → W.cell? ⟨w.heap.size, 0, none⟩ = some (.slice At Nt ct) := fun W h => (HP.out.t.after h).c 0 rfl
              have z1 : ∀ W, KW wr W → W.cell? ⟨b, o + k * 2 + 1, none⟩ = some (.int .i64 pn) := fun W h => (HC.out.after h).2 _ _ (actCs_get l k (true, pn) HPk.out).2
              have HL6 := Lib.hid HO2.out.lo
              go_upto_region 11 with fail
              have hs : KW wr wc.drew := KW.drew hwr
              go_region_held3 (fun w' : World => KW wr w')
                (repeat (first
                  | (with_reducible assumption)
                  | (with_reducible refine KW.put ?_ HL6.out _)
                  | (with_reducible refine KW.drew ?_)
                  | (with_reducible refine KW.after ?_ hb)))
                (first
                  | (go_at_call 15; (with_reducible refine (HM.out _ (by with_reducible assumption)).mono ?_); rintro e w2 ⟨A2, N2, c2, rfl, hN2, hC2, hc2, hf2, hb⟩; have r6 : Row w2 b6 [.slice A6 N6 c6] := Row.after (w := wc.drew) (Row.drew HO2.out.row) hb; have y6 := r6.c 0 rfl; have f6 := r6.f 0 rfl; have H2 := Lib.hid (And.intro hN2 (And.intro hC2 (And.intro hc2 hf2))); clear hN2 hC2 hc2 hf2))
              have hk' : KW wr (w2.setCell ⟨b6, 0, none⟩ (.slice A2 N2 c2)) := by assumption
              have hr8 : Row (w2.setCell ⟨b6, 0, none⟩ (.slice A2 N2 c2)) b8 [.slice A8 N8 c8] := (Row.after (w := wc.drew) (Row.drew HU.out.row) hb).other (by simpa using fun e => hb68 e.symm) _
              have hl6 : b6 < wc.heap.size := HO2.out.row.1
              have hl8 : b8 < wc.heap.size := HU.out.row.1
              have hzc := hb.size
              have HV : Hid (OB wr b6 (lessE cs pn) l2 A2 N2 c2 (w2.setCell ⟨b6, 0, none⟩ (.slice A2 N2 c2)) ∧ Row (w2.setCell ⟨b6, 0, none⟩ (.slice A2 N2 c2)) b8 [.slice A8 N8 c8] ∧ (lessE cs pn = 0 → ∀ a, A2 = some a → wc.heap.size ≤ a.block)) := Lib.hid ⟨⟨r6.set 0 (by simp) _, fun e => by
                have hf : ∀ a, A2 = some a → wc.heap.size ≤ a.block := fun a ha => by simpa using H2.out.2.2.2 e a ha
                have hw := hwr.size
                exact ⟨H2.out.1, H2.out.2.1.put (fun _ a ha => by have := hf a ha; show a.block ≠ b6; omega), H2.out.2.2.1, fun _ a ha => by have := hf a ha; omega⟩, HL6.out, hk'⟩, hr8, fun e a ha => by simpa using H2.out.2.2.2 e a ha⟩
              clear r6 y6 f6 hb hr8 HM hs H2 z4 HO2 HO HE1 HE1' hzc
              generalize w2.setCell ⟨b6, 0, none⟩ (.slice A2 N2 c2) = V at *
              have HM := Lib.hid (fun W (h : KW wr W) => less_any cs At Nt ct pn W HP.out.tn (by have := HP.out.tn; have := HP.out.good.len; omega) HP.out.tcap (HP.out.tc.after h) HP.out.good.work)
              have HL8 := Lib.hid HU.out.lo
              clear HU
              go_upto_region 12 with fail
              have hs : KW wr V.drew := KW.drew hk'
              go_region_held3 (fun w' : World => KW wr w')
                (repeat (first
                  | (with_reducible assumption)
                  | (with_reducible refine KW.put ?_ HL8.out _)
                  | (with_reducible refine KW.drew ?_)
                  | (with_reducible refine KW.after ?_ hb)))
                (first
                  | (go_at_call 16; (with_reducible refine (HM.out _ (by with_reducible assumption)).mono ?_); rintro e w3 ⟨A3, N3, c3, rfl, hN3, hC3, hc3, hf3, hb⟩; have r8 : Row w3 b8 [.slice A8 N8 c8] := Row.after (w := V.drew) (Row.drew HV.out.2.1) hb; have y8 := r8.c 0 rfl; have f8 := r8.f 0 rfl; have H3 := Lib.hid (And.intro hN3 (And.intro hC3 (And.intro hc3 hf3))); clear hN3 hC3 hc3 hf3))
              have hkz : KW wr (w3.setCell ⟨b8, 0, none⟩ (.slice A3 N3 c3)) := by assumption
              have ho : OB wr b6 (lessE cs pn) l2 A2 N2 c2 w3 := OB.after (W := V.drew) ⟨HV.out.1.row.drew, fun e => by obtain ⟨h1, h2, h3, h4⟩ := HV.out.1.ok e; exact ⟨h1, h2, h3, h4⟩, HV.out.1.lo, KW.drew HV.out.1.bel⟩ hb
              have hV8 : b8 < V.heap.size := HV.out.2.1.1
              have HO3 : Hid (OB wr b6 (lessE cs pn) (expand (lessL cs pn)) A2 N2 c2 (w3.setCell ⟨b8, 0, none⟩ (.slice A3 N3 c3))) := Lib.hid ⟨ho.row.other (by simpa using hb68) _, fun e => by
                obtain ⟨h1, h2, h3, h4⟩ := ho.ok e
                have hf := HV.out.2.2 e
                rw [HE2.out.2 e] at h1 h2 h4
                exact ⟨h1, h2.put (fun _ a ha => by have := hf a ha; show a.block ≠ b8; omega), h3, h4⟩, ho.lo, hkz⟩
              have hzw := hwr.size
              have hVw := hk'.size
              have HU3 : Hid (UB wr b8 (lessL cs pn) A3 N3 c3 (w3.setCell ⟨b8, 0, none⟩ (.slice A3 N3 c3))) := Lib.hid ⟨r8.set 0 (by simp) _, H3.out.1, H3.out.2.1.put (fun _ a ha => by
                have h : V.heap.size ≤ a.block := by simpa using H3.out.2.2.2 a ha
                show a.block ≠ b8; omega), H3.out.2.2.1, fun _ a ha => by
                have h : V.heap.size ≤ a.block := by simpa using H3.out.2.2.2 a ha
                omega, HL8.out, hkz⟩
              clear r8 y8 f8 hb HM hs H3 z3 z1 HV ho hk' hkz hVw hzw hwr
              go_wp2_with fail
              go_meet
              exact ⟨rfl, rfl, A2, N2, c2, A3, N3, c3, HO3, HU3⟩
          case rest =>
            obtain ⟨rfl, rfl, A6, N6, c6, A8, N8, c8, HO3, HU3⟩ := hcut
            have hkw := HO3.out.bel
            have HPc := Lib.hid (HP.out.after hkw)
            have HVc := Lib.hid (HV.out.after (HP.out.bel.trans (hkw.mono HP.out.bel.size)))
            have HA2 : Hid (Good (actL cs pb pn) ∧ (actE cs pb pn ≠ 0 → actL cs pb pn = [])) := Lib.hid ⟨actL_good HP.out.good pb pn, fun h => actL_none HP.out.good h⟩
            have hwz := HP.out.u.1
            have hkz := hkw.size
            clear HO HO2 HU HE1 HE1' HC HPk hb6 hkw
            generalize actE cs pb pn = er at HO3 HU3 HA2 ⊢
            generalize actL cs pb pn = cs2 at HO3 HU3 HA2
            go_wp2_with fail
            refine (num_any er _).mono ?_
            rintro e wd ⟨rfl, rfl⟩
            have x3 := HPc.out.t.c 0 rfl
            have x4 := HPc.out.u.c 0 rfl
            have HIs := Lib.hid (is_any cs At Nt ct Aw Nw cw wc HPc.out.tn HPc.out.tc HPc.out.un HPc.out.uc HP.out.good HVc.out)
            go_wp2_with fail
            refine HIs.out.mono ?_
            rintro e we ⟨rfl, hb⟩
            replace HPc := Lib.hid (HPc.out.after hb)
            replace HVc := Lib.hid (HVc.out.after hb)
            replace HO3 := Lib.hid (HO3.out.after hb)
            replace HU3 := Lib.hid (HU3.out.after hb)
            clear hb x3 x4 HIs
            by_cases he : er = 0
            · subst he
              obtain ⟨sm, hs1, hs2, hs3⟩ : ∃ sm : Bool, decide (expand cs2 = expand cs) = sm ∧ decide (cs = cs2) = sm ∧ decide (cs2 = cs) = sm := by
                have h1 := same_same HA2.out.1 HP.out.good
                have h2 := same_same HP.out.good HA2.out.1
                refine ⟨_, rfl, ?_, h1⟩
                rw [h2]
                by_cases e : expand cs = expand cs2
                · rw [decide_eq_true e, decide_eq_true e.symm]
                · rw [decide_eq_false e, decide_eq_false (fun f => e f.symm)]
              have HSM := Lib.hid (And.intro hs1 (And.intro hs2 hs3))
              clear hs1 hs2 hs3
              have x6 := HO3.out.row.c 0 rfl
              have x4 := HPc.out.u.c 0 rfl
              have HS1 := Lib.hid (rsame_any (expand cs2) (expand cs) A6 Aw N6 Nw c6 cw we (HO3.out.ok rfl).1 HPc.out.un (by have := (HO3.out.ok rfl).1; have := (expand_bound HA2.out.1).1; omega) (HO3.out.ok rfl).2.1 HPc.out.uc)
              rw [HSM.out.1] at HS1
              obtain ⟨smb, hsmb⟩ : ∃ smb, smb = sm := ⟨_, rfl⟩
              have HSmb := Lib.hid hsmb
              clear hsmb
              cases sm with
              | true =>
                go_wp2_with fail
                refine HS1.out.mono ?_
                rintro e wf ⟨rfl, hb⟩
                replace HPc := Lib.hid (HPc.out.after hb)
                replace HVc := Lib.hid (HVc.out.after hb)
                replace HO3 := Lib.hid (HO3.out.after hb)
                replace HU3 := Lib.hid (HU3.out.after hb)
                clear hb x6 x4 HS1
                have x8 := HU3.out.row.c 0 rfl
                have x6 := HO3.out.row.c 0 rfl
                have HIs := Lib.hid (is_any cs2 A8 N8 c8 A6 N6 c6 wf HU3.out.len HU3.out.cells (HO3.out.ok rfl).1 (HO3.out.ok rfl).2.1 HA2.out.1 HVc.out)
                go_wp2_with fail
                refine HIs.out.mono ?_
                rintro e wg ⟨rfl, hb⟩
                replace HPc := Lib.hid (HPc.out.after hb)
                replace HVc := Lib.hid (HVc.out.after hb)
                replace HO3 := Lib.hid (HO3.out.after hb)
                replace HU3 := Lib.hid (HU3.out.after hb)
                clear hb x8 x6 HIs
                have x3 := HPc.out.t.c 0 rfl
                have x8 := HU3.out.row.c 0 rfl
                have HS2 := Lib.hid (same_any cs cs2 At A8 Nt N8 ct c8 wg HPc.out.tn HU3.out.len (by have := HPc.out.tn; have := HP.out.good.len; omega) HPc.out.tc HU3.out.cells)
                rw [HSM.out.2.1] at HS2
                go_wp2_with fail
                refine HS2.out.mono ?_
                rintro e wh ⟨rfl, hb⟩
                replace HPc := Lib.hid (HPc.out.after hb)
                replace HVc := Lib.hid (HVc.out.after hb)
                replace HO3 := Lib.hid (HO3.out.after hb)
                replace HU3 := Lib.hid (HU3.out.after hb)
                clear hb x8 x3 HS2
                have x3 := HPc.out.t.c 0 rfl
                have x8 := HU3.out.row.c 0 rfl
                have HS3 := Lib.hid (same_any cs2 cs A8 At N8 Nt c8 ct wh HU3.out.len HPc.out.tn (by have := HU3.out.len; have := HA2.out.1.len; omega) HU3.out.cells HPc.out.tc)
                rw [HSM.out.2.2] at HS3
                go_wp2_with fail
                refine HS3.out.mono ?_
                rintro e wi ⟨rfl, hb⟩
                replace HPc := Lib.hid (HPc.out.after hb)
                replace HVc := Lib.hid (HVc.out.after hb)
                replace HO3 := Lib.hid (HO3.out.after hb)
                replace HU3 := Lib.hid (HU3.out.after hb)
                clear hb x8 x3 HS3
                go_upto_if 117 with fail
                have x8 := HU3.out.row.c 0 rfl
                have x6 := HO3.out.row.c 0 rfl
                have x3 := HPc.out.t.c 0 rfl
                have f3 := HPc.out.t.f 0 rfl
                have x4 := HPc.out.u.c 0 rfl
                have f4 := HPc.out.u.f 0 rfl
                have h8 : w.heap.size ≠ b8 := by have := HU3.out.lo; omega
                have h8' : w.heap.size + 1 ≠ b8 := by have := HU3.out.lo; omega
                have h6 : w.heap.size ≠ b6 := by have := HO3.out.lo; omega
                have h6' : w.heap.size + 1 ≠ b6 := by have := HO3.out.lo; omega
                go_upto_region 21 with fail
                go_region
                have hpl : PL w cs2 A8 N8 c8 A6 N6 c6 ((wi.setCell ⟨w.heap.size, 0, none⟩ (.slice A8 N8 c8)).setCell ⟨w.heap.size + 1, 0, none⟩ (.slice A6 N6 c6)).drew := by
                  obtain ⟨o1, o2, o3, o4⟩ := HO3.out.ok rfl
                  have hf := HU3.out.far
                  exact ⟨((HPc.out.t.set 0 (by simp) _).other (by simp) _).drew, HU3.out.len, (((HU3.out.cells).put (fun h a ha => by rw [cntCs_len] at h; have := hf (by omega) a ha; show a.block ≠ w.heap.size; omega)).put (fun h a ha => by rw [cntCs_len] at h; have := hf (by omega) a ha; show a.block ≠ w.heap.size + 1; omega)), HU3.out.cap,
                    ((HPc.out.u.other (by simp) _).set 0 (by simp) _).drew, o1, ((o2.put (fun h a ha => by rw [intCs_len] at h; have := o4 (by omega) a ha; show a.block ≠ w.heap.size; omega)).put (fun h a ha => by rw [intCs_len] at h; have := o4 (by omega) a ha; show a.block ≠ w.heap.size + 1; omega)), o3, HA2.out.1,
                    (below_put1 (below_put1 HPc.out.bel (Nat.le_refl _) 0 _) (by omega) 0 _).drew⟩
                have HPL := Lib.hid hpl
                clear hpl x8 x6 x3 f3 x4 f4 h8 h8' h6 h6'
                generalize World.drew _ = wz at HPL ⊢
                go_wp2_with fail
                go_roundw
                case rel => exact ⟨k + 1, cs2, A8, N8, c8, A6, N6, c6, by omega, by go_num, HPL⟩
                case measure => simp [intOf]; omega
              | false =>
                go_wp2_with fail
                refine HS1.out.mono ?_
                rintro e wf ⟨rfl, hb⟩
                replace HPc := Lib.hid (HPc.out.after hb)
                replace HVc := Lib.hid (HVc.out.after hb)
                replace HO3 := Lib.hid (HO3.out.after hb)
                replace HU3 := Lib.hid (HU3.out.after hb)
                clear hb x6 x4 HS1
                have x8 := HU3.out.row.c 0 rfl
                have x6 := HO3.out.row.c 0 rfl
                have HIs := Lib.hid (is_any cs2 A8 N8 c8 A6 N6 c6 wf HU3.out.len HU3.out.cells (HO3.out.ok rfl).1 (HO3.out.ok rfl).2.1 HA2.out.1 HVc.out)
                go_wp2_with fail
                refine HIs.out.mono ?_
                rintro e wg ⟨rfl, hb⟩
                replace HPc := Lib.hid (HPc.out.after hb)
                replace HVc := Lib.hid (HVc.out.after hb)
                replace HO3 := Lib.hid (HO3.out.after hb)
                replace HU3 := Lib.hid (HU3.out.after hb)
                clear hb x8 x6 HIs
                have x3 := HPc.out.t.c 0 rfl
                have x8 := HU3.out.row.c 0 rfl
                have HS2 := Lib.hid (same_any cs cs2 At A8 Nt N8 ct c8 wg HPc.out.tn HU3.out.len (by have := HPc.out.tn; have := HP.out.good.len; omega) HPc.out.tc HU3.out.cells)
                rw [HSM.out.2.1] at HS2
                go_wp2_with fail
                refine HS2.out.mono ?_
                rintro e wh ⟨rfl, hb⟩
                replace HPc := Lib.hid (HPc.out.after hb)
                replace HVc := Lib.hid (HVc.out.after hb)
                replace HO3 := Lib.hid (HO3.out.after hb)
                replace HU3 := Lib.hid (HU3.out.after hb)
                clear hb x8 x3 HS2
                have x3 := HPc.out.t.c 0 rfl
                have x8 := HU3.out.row.c 0 rfl
                have HS3 := Lib.hid (same_any cs2 cs A8 At N8 Nt c8 ct wh HU3.out.len HPc.out.tn (by have := HU3.out.len; have := HA2.out.1.len; omega) HU3.out.cells HPc.out.tc)
                rw [HSM.out.2.2] at HS3
                go_wp2_with fail
                refine HS3.out.mono ?_
                rintro e wi ⟨rfl, hb⟩
                replace HPc := Lib.hid (HPc.out.after hb)
                replace HVc := Lib.hid (HVc.out.after hb)
                replace HO3 := Lib.hid (HO3.out.after hb)
                replace HU3 := Lib.hid (HU3.out.after hb)
                clear hb x8 x3 HS3
                go_upto_if 117 with fail
                have x8 := HU3.out.row.c 0 rfl
                have x6 := HO3.out.row.c 0 rfl
                have x3 := HPc.out.t.c 0 rfl
                have f3 := HPc.out.t.f 0 rfl
                have x4 := HPc.out.u.c 0 rfl
                have f4 := HPc.out.u.f 0 rfl
                have h8 : w.heap.size ≠ b8 := by have := HU3.out.lo; omega
                have h8' : w.heap.size + 1 ≠ b8 := by have := HU3.out.lo; omega
                have h6 : w.heap.size ≠ b6 := by have := HO3.out.lo; omega
                have h6' : w.heap.size + 1 ≠ b6 := by have := HO3.out.lo; omega
                go_upto_region 21 with fail
                go_region
                have hpl : PL w cs2 A8 N8 c8 A6 N6 c6 ((wi.setCell ⟨w.heap.size, 0, none⟩ (.slice A8 N8 c8)).setCell ⟨w.heap.size + 1, 0, none⟩ (.slice A6 N6 c6)).drew := by
                  obtain ⟨o1, o2, o3, o4⟩ := HO3.out.ok rfl
                  have hf := HU3.out.far
                  exact ⟨((HPc.out.t.set 0 (by simp) _).other (by simp) _).drew, HU3.out.len, (((HU3.out.cells).put (fun h a ha => by rw [cntCs_len] at h; have := hf (by omega) a ha; show a.block ≠ w.heap.size; omega)).put (fun h a ha => by rw [cntCs_len] at h; have := hf (by omega) a ha; show a.block ≠ w.heap.size + 1; omega)), HU3.out.cap,
                    ((HPc.out.u.other (by simp) _).set 0 (by simp) _).drew, o1, ((o2.put (fun h a ha => by rw [intCs_len] at h; have := o4 (by omega) a ha; show a.block ≠ w.heap.size; omega)).put (fun h a ha => by rw [intCs_len] at h; have := o4 (by omega) a ha; show a.block ≠ w.heap.size + 1; omega)), o3, HA2.out.1,
                    (below_put1 (below_put1 HPc.out.bel (Nat.le_refl _) 0 _) (by omega) 0 _).drew⟩
                have HPL := Lib.hid hpl
                clear hpl x8 x6 x3 f3 x4 f4 h8 h8' h6 h6'
                generalize World.drew _ = wz at HPL ⊢
                go_wp2_with fail
                go_roundw
                case rel => exact ⟨k + 1, cs2, A8, N8, c8, A6, N6, c6, by omega, by go_num, HPL⟩
                case measure => simp [intOf]; omega
            · have he' : (er == 0) = false := by simpa using he
              have hcs2 : cs2 = [] := HA2.out.2 he
              subst hcs2
              have x6 := HO3.out.row.c 0 rfl
              have f6 := HO3.out.row.f 0 rfl
              have hlo := HO3.out.lo
              have hlt := CellsS.lt HP.out.tc
              have hlu := CellsS.lt HP.out.uc
              have HPs : Hid (PL w cs At Nt ct Aw Nw cw (we.setCell ⟨b6, 0, none⟩ (.slice none 0 0))) := Lib.hid (HPc.out.put (by omega) (fun h0 a ha => by have := hlt h0 a ha; omega) (fun h0 a ha => by have := hlu h0 a ha; omega) _)
              have HRs : Hid (Row (we.setCell ⟨b6, 0, none⟩ (.slice none 0 0)) b6 [.slice none 0 0] ∧ UB wr b8 [] A8 N8 c8 (we.setCell ⟨b6, 0, none⟩ (.slice none 0 0)) ∧ VarS (we.setCell ⟨b6, 0, none⟩ (.slice none 0 0))) := Lib.hid
                ⟨HO3.out.row.set 0 (by simp) _, ⟨HU3.out.row.other (by simpa using fun e => hb68 e.symm) _, HU3.out.len, CellsS.nil _ _, HU3.out.cap, HU3.out.far, HU3.out.lo, HU3.out.bel.put hlo _⟩, HV.out.after HPs.out.bel⟩
              clear HO3 HU3 HPc HVc hlt hlu
              go_upto_region 17 with fail
              clear x6 f6
              generalize we.setCell ⟨b6, 0, none⟩ (.slice none 0 0) = wf at HPs HRs ⊢
              obtain ⟨hr6, hu3, hvc⟩ := HRs.out
              have HU3 := Lib.hid hu3
              have HVc := Lib.hid hvc
              have HPc := HPs
              clear HRs HPs hu3 hvc
              have HNw := Lib.hid (HPc.out.un)
              have x4 := HPc.out.u.c 0 rfl
              by_cases hz : Nw = 0
              · have hc0 : cs = [] := (expand_nil HP.out.good).1 (List.eq_nil_of_length_eq_zero (by rw [← HNw.out]; exact hz))
                have HD : Hid (decide (cs = []) = true ∧ decide ([] = cs) = true) := Lib.hid ⟨decide_eq_true hc0, decide_eq_true hc0.symm⟩
                have hz' : (((Nw : Nat) : Int) == 0) = true := by rw [hz]; rfl
                clear hc0
                clear hz
                have x8 := HU3.out.row.c 0 rfl
                have x6 := hr6.c 0 rfl
                have HIs := Lib.hid (is_any [] A8 N8 c8 none 0 0 wf HU3.out.len HU3.out.cells rfl (CellsS.nil _ _) Good.nil HVc.out)
                go_wp2_with fail
                refine HIs.out.mono ?_
                rintro e wg ⟨rfl, hb⟩
                replace HPc := Lib.hid (HPc.out.after hb)
                replace HU3 := Lib.hid (HU3.out.after hb)
                clear hb x8 x6 HIs hr6
                have x3 := HPc.out.t.c 0 rfl
                have x8 := HU3.out.row.c 0 rfl
                have HS2 := Lib.hid (same_any cs [] At A8 Nt N8 ct c8 wg HPc.out.tn HU3.out.len (by have := HPc.out.tn; have := HP.out.good.len; omega) HPc.out.tc HU3.out.cells)
                rw [HD.out.1] at HS2
                go_wp2_with fail
                refine HS2.out.mono ?_
                rintro e wh ⟨rfl, hb⟩
                replace HPc := Lib.hid (HPc.out.after hb)
                replace HU3 := Lib.hid (HU3.out.after hb)
                clear hb x8 x3 HS2
                have x3 := HPc.out.t.c 0 rfl
                have x8 := HU3.out.row.c 0 rfl
                have HS3 := Lib.hid (same_any [] cs A8 At N8 Nt c8 ct wh HU3.out.len HPc.out.tn (by have h : N8 = 0 := HU3.out.len; omega) HU3.out.cells HPc.out.tc)
                rw [HD.out.2] at HS3
                go_wp2_with fail
                refine HS3.out.mono ?_
                rintro e wi ⟨rfl, hb⟩
                replace HPc := Lib.hid (HPc.out.after hb)
                clear hb x8 x3 HS3
                go_wp2_with fail
                go_roundw
                case rel => exact ⟨k + 1, cs, At, Nt, ct, Aw, Nw, cw, by omega, by go_num, HPc⟩
                case measure => simp [intOf]; omega
              · have hc0 : cs ≠ [] := fun e => hz (by rw [HNw.out, e]; rfl)
                have HD : Hid (decide (cs = []) = false ∧ decide ([] = cs) = false) := Lib.hid ⟨decide_eq_false hc0, decide_eq_false (fun e => hc0 e.symm)⟩
                have hz' : (((Nw : Nat) : Int) == 0) = false := by simp; omega
                clear hc0
                clear hz
                have x8 := HU3.out.row.c 0 rfl
                have x6 := hr6.c 0 rfl
                have HIs := Lib.hid (is_any [] A8 N8 c8 none 0 0 wf HU3.out.len HU3.out.cells rfl (CellsS.nil _ _) Good.nil HVc.out)
                go_wp2_with fail
                refine HIs.out.mono ?_
                rintro e wg ⟨rfl, hb⟩
                replace HPc := Lib.hid (HPc.out.after hb)
                replace HU3 := Lib.hid (HU3.out.after hb)
                clear hb x8 x6 HIs hr6
                have x3 := HPc.out.t.c 0 rfl
                have x8 := HU3.out.row.c 0 rfl
                have HS2 := Lib.hid (same_any cs [] At A8 Nt N8 ct c8 wg HPc.out.tn HU3.out.len (by have := HPc.out.tn; have := HP.out.good.len; omega) HPc.out.tc HU3.out.cells)
                rw [HD.out.1] at HS2
                go_wp2_with fail
                refine HS2.out.mono ?_
                rintro e wh ⟨rfl, hb⟩
                replace HPc := Lib.hid (HPc.out.after hb)
                replace HU3 := Lib.hid (HU3.out.after hb)
                clear hb x8 x3 HS2
                have x3 := HPc.out.t.c 0 rfl
                have x8 := HU3.out.row.c 0 rfl
                have HS3 := Lib.hid (same_any [] cs A8 At N8 Nt c8 ct wh HU3.out.len HPc.out.tn (by have h : N8 = 0 := HU3.out.len; omega) HU3.out.cells HPc.out.tc)
                rw [HD.out.2] at HS3
                go_wp2_with fail
                refine HS3.out.mono ?_
                rintro e wi ⟨rfl, hb⟩
                replace HPc := Lib.hid (HPc.out.after hb)
                clear hb x8 x3 HS3
                go_wp2_with fail
                go_roundw
                case rel => exact ⟨k + 1, cs, At, Nt, ct, Aw, Nw, cw, by omega, by go_num, HPc⟩
                case measure => simp [intOf]; omega
    · obtain rfl : k = n := by omega
      have x3 := HP.out.t.c 0 rfl
      have x4 := HP.out.u.c 0 rfl
      have HIs := Lib.hid (is_any cs At Nt ct Aw Nw cw wr HP.out.tn HP.out.tc HP.out.un HP.out.uc HP.out.good (HV.out.after HP.out.bel))
      go_wp2_with fail
      refine HIs.out.mono ?_
      rintro e we ⟨rfl, hb⟩
      replace HP := Lib.hid (HP.out.after hb)
      clear hb x3 x4 HIs
      go_wp2_with fail
      refine (works_any we (HV.out.after HP.out.bel)).mono ?_
      rintro e wf ⟨rfl, hb⟩
      replace HP := Lib.hid (HP.out.after hb)
      clear hb
      go_wp2_with fail
      go_ret
      exact ⟨rfl, HP.out.bel⟩
end Go.Proofs.YtjhcddlhhfjnaaaGreatDoor
