/- An Int as an argument: opened and shut. -/
import Derived.Test.YtpbdhhdmnnelhaaDoorBase
import Derived.OpenShut
import Derived.ChangeArms
import Derived.WideShapes
import Derived.WalkArith
import Derived.RowKit
namespace Go.Proofs.YtpbdhhdmnnelhaaDoor
open Go.RowKit Go.ChangeShapes Go.WideShapes

theorem cellsInt : Tryd.prog.cellsOf 25 = 5 := by kernel_rfl
theorem cellsMag : Tryd.prog.cellsOf 23 = 4 := by kernel_rfl
theorem cellsW : Tryd.prog.cellsOf 22 = 1 := by kernel_rfl
theorem cellsB : Tryd.prog.cellsOf 4 = 1 := by kernel_rfl

theorem wf_bd {n : Int} (h : (Lit.int .u64 n).wf = true) : 0 ≤ n ∧ n < 18446744073709551616 := by
  simp [Lit.wf, IntKind.min, IntKind.max, IntKind.signed, IntKind.bits] at h
  omega

/-- The datum of an Int. -/
def datI (H : Type) (s : Bool) (a b c e : Int) : DataW H := .agg [.lit (.bool s), .agg [.lit (.int .u64 a), .lit (.int .u64 b), .lit (.int .u64 c), .lit (.int .u64 e)]]

theorem open_mag {H : Type} {enc : TypeId × Value → H} {w : World} {base : Nat} {spare : Nat → Bool} {held : Bool} {fuel : Nat} {x0 x1 x2 x3 : Value} {y : DataW H × List MemPlace}
    (h : DataW.trod enc Tryd.prog w base spare held fuel 23 [x0, x1, x2, x3] = some y) :
    ∃ a b c e : Int, x0 = .int .u64 a ∧ x1 = .int .u64 b ∧ x2 = .int .u64 c ∧ x3 = .int .u64 e ∧ y = (.agg [.lit (.int .u64 a), .lit (.int .u64 b), .lit (.int .u64 c), .lit (.int .u64 e)], []) ∧
      (Lit.int .u64 a).wf = true ∧ (Lit.int .u64 b).wf = true ∧ (Lit.int .u64 c).wf = true ∧ (Lit.int .u64 e).wf = true := by
  obtain ⟨xs, m, _, rfl, _, hl, hf⟩ := DataW.trod_array Tryd.underlying23 h
  match xs, hl with
  | [z0, z1, z2, z3], _ =>
    have h0 := hf 0 (by omega)
    have h1 := hf 1 (by omega)
    have h2 := hf 2 (by omega)
    have h3 := hf 3 (by omega)
    simp only [cellsW] at h0 h1 h2 h3
    obtain ⟨a, ea, rfl, wa⟩ := DataW.trod_int Tryd.underlying22 (x := z0) h0
    obtain ⟨b, eb, rfl, wb⟩ := DataW.trod_int Tryd.underlying22 (x := z1) h1
    obtain ⟨c, ec, rfl, wc⟩ := DataW.trod_int Tryd.underlying22 (x := z2) h2
    obtain ⟨e, ee, rfl, we⟩ := DataW.trod_int Tryd.underlying22 (x := z3) h3
    simp at ea eb ec ee
    exact ⟨a, b, c, e, ea, eb, ec, ee, rfl, wa, wb, wc, we⟩

set_option maxRecDepth 100000 in
theorem open_iv {H : Type} {enc : TypeId × Value → H} {w : World} {base b0 : Nat} {spare : Nat → Bool} {held : Bool} {r : Reach} {v : Value} {d : DataW H} {p : List MemPlace}
    (hv : Value.okWide Tryd.prog w r b0 25 v) (h : DataW.Trod enc Tryd.prog w base spare held 25 v d p) :
    ∃ (s : Bool) (a b c e : Int), v = iv s a b c e ∧ d = datI H s a b c e ∧ p = [] ∧ (0 ≤ a ∧ a < 18446744073709551616) ∧ (0 ≤ b ∧ b < 18446744073709551616) ∧ (0 ≤ c ∧ c < 18446744073709551616) ∧ (0 ≤ e ∧ e < 18446744073709551616) := by
  obtain ⟨cs, rfl, hsz⟩ := okWide_struct Tryd.underlying25 hv
  obtain ⟨l⟩ := cs
  match l, hsz.trans cellsInt with
  | [c0, c1, c2, c3, c4], _ =>
    obtain ⟨fuel, hf⟩ := h
    obtain ⟨xs, n, _, hx, _, hlen, hg⟩ := DataW.trod_struct Tryd.underlying25 hf
    match xs, hlen with
    | [y0, y1], _ =>
      have g0 : DataW.trod enc Tryd.prog w base spare held n 4 (((Value.agg #[c0, c1, c2, c3, c4]).cells.toList.drop 0).take (Tryd.prog.cellsOf 4)) = some y0 := hg 0 _ rfl
      have g1 : DataW.trod enc Tryd.prog w base spare held n 23 (((Value.agg #[c0, c1, c2, c3, c4]).cells.toList.drop 1).take (Tryd.prog.cellsOf 23)) = some y1 := hg 1 _ rfl
      rw [cellsB] at g0
      rw [cellsMag] at g1
      obtain ⟨s, es, ey⟩ := DataW.trod_bool Tryd.underlying4 (x := y0) g0
      obtain ⟨a, b, c, e, e1, e2, e3, e4, ez, wa, wb, wc, we⟩ := open_mag (y := y1) g1
      subst ey ez e1 e2 e3 e4
      simp [Value.cells] at es
      subst es
      simp only [Prod.mk.injEq] at hx
      exact ⟨s, a, b, c, e, rfl, hx.1, hx.2, wf_bd wa, wf_bd wb, wf_bd wc, wf_bd we⟩

set_option maxRecDepth 100000 in
theorem shut_iv {H : Type} {enc : TypeId × Value → H} {w : World} {base : Nat} {spare : Nat → Bool} {held : Bool} (s : Bool) {a b c e : Int}
    (ha : 0 ≤ a ∧ a < 18446744073709551616) (hb : 0 ≤ b ∧ b < 18446744073709551616) (hc : 0 ≤ c ∧ c < 18446744073709551616) (he : 0 ≤ e ∧ e < 18446744073709551616) :
    DataW.Trod enc Tryd.prog w base spare held 25 (iv s a b c e) (datI H s a b c e) [] := by
  have wa := WalkArith.wf_u64 (n := a) (by omega)
  have wb := WalkArith.wf_u64 (n := b) (by omega)
  have wc := WalkArith.wf_u64 (n := c) (by omega)
  have we := WalkArith.wf_u64 (n := e) (by omega)
  refine ⟨3, ?_⟩
  simp [DataW.trod, datI, Value.cells, Tryd.underlying25, Tryd.underlying23, Tryd.underlying22, Tryd.underlying4, cellsInt, cellsMag, cellsW, cellsB, wa, wb, wc, we, show List.range 4 = [0, 1, 2, 3] from rfl]
end Go.Proofs.YtpbdhhdmnnelhaaDoor
