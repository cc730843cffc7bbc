/- ArenaPlays: the calls ahead of its loop, in one contract each; no condition. -/
import Derived.Test.YtncgjlhmgdgokaaBM
import Derived.Test.YtncgjlhmgdgokaaAS
namespace Go.Proofs.Ytncgjlhmgdgokaa
open Go.RowKit Go.Sort ArenaMath Go.Maps

/-- The error of New, of so many places. -/
def erNew (many : Int) : Int := if many < 0 ∨ 65536 < many then 2 else 0
/-- What New tells. -/
def NewP (s : Nat) (many er : Int) (W : World) (e : Ending) (w' : World) : Prop :=
  ∃ pa, e = .returned (.tuple #[.pointer pa, .int .i64 er]) ∧ Below W.heap.size W w' ∧ (er = 0 → ∃ b m, pa = some ⟨b, 0, none⟩ ∧ ArS w' s b many.toNat [] m none) ∧ (er ≠ 0 → pa = none)
theorem new_er (many : Int) (s : Nat) (W : World) (hs : s ≤ W.heap.size) : Calls Try.prog 7 #[.int .i64 many] W (NewP s many (erNew many) W) := by
  unfold erNew
  by_cases h : many < 0 ∨ 65536 < many
  · rw [if_pos h]
    refine (new_bad many h W).mono ?_
    rintro e w' ⟨rfl, rfl⟩
    exact ⟨none, rfl, Below.refl _ _, fun h => absurd h (by decide), fun _ => rfl⟩
  · rw [if_neg h]
    have hm : ((many.toNat : Nat) : Int) = many := by omega
    have h9 := new_any many.toNat s (by omega) W hs
    rw [hm] at h9
    refine h9.mono ?_
    rintro e w' ⟨rfl, ha, hb⟩
    exact ⟨_, rfl, hb, fun _ => ⟨_, _, rfl, ha⟩, fun h => absurd rfl h⟩
/-- What the document's New tells. -/
def RNewP (many er : Int) (W : World) (e : Ending) (w' : World) : Prop :=
  ∃ mv, e = .returned (.tuple #[.agg #[.int .i64 mv, .slice none 0 0], .int .i64 er]) ∧ Below W.heap.size W w' ∧ (er = 0 → mv = many ∧ ((many.toNat : Nat) : Int) = many)
theorem rnew_er (many : Int) (W : World) : Calls Try.prog 8 #[.int .i64 many] W (RNewP many (erNew many) W) := by
  unfold erNew
  by_cases h : many < 0 ∨ 65536 < many
  · rw [if_pos h]
    refine (rnew_bad many h W).mono ?_
    rintro e w' ⟨rfl, hb⟩
    exact ⟨0, rfl, hb, fun h => absurd h (by decide)⟩
  · rw [if_neg h]
    refine (rnew_any many h W).mono ?_
    rintro e w' ⟨rfl, hb⟩
    exact ⟨many, rfl, hb, fun _ => ⟨rfl, by omega⟩⟩
/-- What is no arena: nil, or a box of zeros that is no older than s. -/
def NoZ (s : Nat) (q : Option Addr) (W : World) : Prop := q = none ∨ ∃ bz x r, q = some ⟨bz, 0, none⟩ ∧ s ≤ bz ∧ Row W bz (x :: .map none :: r)
theorem NoZ.no {s : Nat} {q : Option Addr} {W : World} (h : NoZ s q W) : NoAr W q := by
  rcases h with rfl | ⟨bz, x, r, rfl, _, hr⟩
  · exact noAr_nil W
  · exact noAr_zero hr
theorem NoZ.after {s : Nat} {q : Option Addr} {W W' : World} (h : NoZ s q W) (hb : Below W.heap.size W W') : NoZ s q W' := by
  rcases h with rfl | ⟨bz, x, r, rfl, hs, hr⟩
  · exact .inl rfl
  · exact .inr ⟨bz, x, r, rfl, hs, hr.after hb⟩
theorem NoZ.only {s : Nat} {F : Nat → Prop} {q : Option Addr} {W W' : World} (h : NoZ s q W) (ho : Only F W W') (hF : ∀ k, s ≤ k → k < W.heap.size → ¬ F k) : NoZ s q W' := by
  rcases h with rfl | ⟨bz, x, r, rfl, hs, hr⟩
  · exact .inl rfl
  · exact .inr ⟨bz, x, r, rfl, hs, hr.only ho (hF bz hs hr.lt)⟩
/-- A statement that only ever goes on to the next one: what comes of panics need not be told. -/
theorem wp_only_normal {P : Program} {c : Code} {K : Act → World → Prop} {R : Exit → Act → World → Prop} {a : Act} {w : World} (h : c.wp P (Exit.then K fun _ _ _ => False) a w) : c.wp P (Exit.then K R) a w :=
  Code.wp_mono (fun e _ _ h => by cases e <;> first | exact h | exact h.elim) h
theorem wp_only_normal' {P : Program} {c : Code} {Q : Exit → Act → World → Prop} {a : Act} {w : World} (h : c.wp P (Exit.then (fun a w => Q .normal a w) fun _ _ _ => False) a w) : c.wp P Q a w :=
  Code.wp_mono (fun e _ _ h => by cases e <;> first | exact h | exact h.elim) h
/-- What stands behind the range over nothing: what is no arena, and what is deferred. -/
structure PX (W3 : World) (qa : Option Addr) (D : Nat) (W : World) : Prop where
  bel : Below W3.heap.size W3 W
  noz : NoZ W3.heap.size qa W
  lo : W3.heap.size ≤ D
  mark : W.heap[D]? = some (Obj.deferred (some []))
theorem PX.lt {W3 W : World} {qa : Option Addr} {D : Nat} (h : PX W3 qa D W) : D < W.heap.size := (Array.getElem?_eq_some_iff.1 h.mark).1
theorem PX.after {W3 W W' : World} {qa : Option Addr} {D : Nat} (h : PX W3 qa D W) (hb : Below W.heap.size W W') : PX W3 qa D W' :=
  ⟨h.bel.trans (hb.mono h.bel.size), h.noz.after hb, h.lo, (hb.block D h.lt).trans h.mark⟩
set_option maxRecDepth 100000 in
theorem plays_long (many : Int) (A : Option Addr) (n c : Nat) (w : World) (hn : (60 : Int) < n) :
    Calls Try.prog 3 #[.int .i64 many, .slice A n c] w fun e w' => e = .returned (.bool true) ∧ Below w.heap.size w w' := by
  go_enter Try.func3, Try.ntmps3
  go_wp2_with fail
  generalize hW : World.alloc _ _ = W0
  have hR4 : Row W0 w.heap.size [.bool false] := by rw [← hW]; exact Row.at rfl [_] _
  have hB0 : Below w.heap.size w W0 := by rw [← hW]; exact (Below.refl _ _).alloc (Nat.le_refl _) _
  clear hW
  refine (works_any _).mono ?_
  rintro e w1 ⟨rfl, hb⟩
  have r4 := hR4.after hb
  have x4 := r4.c 0 rfl
  have f4 := r4.f 0 rfl
  have r5 := (r4.set 0 (by simp) (.bool true)).c 0 rfl
  have hB1 : Below w.heap.size w (w1.setCell ⟨w.heap.size, 0, none⟩ (.bool true)) := below_put1 (hB0.trans (hb.mono hB0.size)) (Nat.le_refl _) 0 _
  clear hb r4
  go_wp2_with fail
  exact bodyPost_ret (v := .bool true) (by simp [results, Try.results3, go_sem, r5]) rfl ⟨rfl, hB1⟩
end Go.Proofs.Ytncgjlhmgdgokaa
