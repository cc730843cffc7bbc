/- Next, as the document says it and as the program finds it: the same place; no program text. -/
import Derived.Test.YtfdofajknnocfaaNY
import Derived.Test.YtfdofajknnocfaaOC
namespace Go.Proofs.Ytfdofajknnocfaa
open Go.RowKit

theorem cond_ahead {w p q : Int × Int} (hw : Ins.OkP w) (hp : Ins.OkP p) (hq : Ins.OkP q) : condR w p q = aheadI (ordA p.1 p.2 w.1 w.2) (ordA q.1 q.2 w.1 w.2) (ordA p.1 p.2 q.1 q.2) := by
  rw [Bool.eq_iff_iff, Rnd.ahead_iff]
  unfold condR
  rw [← Rnd.ord_ref hp hq, ← Rnd.ord_ref hq hw, ← Rnd.ord_ref hp hw, ← Rnd.ord_ref hw hp, ← Rnd.ord_ref hw hq, Rnd.ord_flip hp hw, Rnd.ord_flip hq hw]
  simp only [Bool.and_eq_true, Bool.or_eq_true, decide_eq_true_eq, betI_iff]
  have t1 := Rnd.ord_trans hp hq hw
  have t2 := Rnd.ord_trans hq hp hw
  rw [Rnd.ord_flip hp hq] at t2
  have t3 := Rnd.ord_trans hp hw hq
  rw [Rnd.ord_flip hq hw] at t3
  have r1 := Rnd.ord_range hp hq
  have r2 := Rnd.ord_range hq hw
  have r3 := Rnd.ord_range hp hw
  generalize ordA p.1 p.2 q.1 q.2 = r at *
  generalize ordA q.1 q.2 w.1 w.2 = b at *
  generalize ordA p.1 p.2 w.1 w.2 = a at *
  clear hw hp hq
  rcases r1 with rfl | rfl | rfl <;> rcases r2 with rfl | rfl | rfl <;> rcases r3 with rfl | rfl | rfl <;> omega
theorem best_first (cond ah : Nat → Nat → Bool) (n : Nat) (h : ∀ i j, i < n → j < n → cond i j = ah i j) : ∀ k, k ≤ n → bestR cond k = firstI ah k
  | 0, _ => rfl
  | 1, _ => by
    have := firstI_lt ah 1 (by omega)
    unfold bestR; omega
  | k + 2, hk => by
    have ih := best_first cond ah n h (k + 1) (by omega)
    have hl := firstI_lt ah (k + 1) (by omega)
    rw [bestR, ih, h _ _ (by omega) (by omega)]
    rfl
/-- **Next is the document's Next.** -/
theorem next_same (x y : Int) (ws : List (Int × Int)) (hw : Ins.OkP (x, y)) (h : ∀ p, p ∈ ws → Ins.OkP p) :
    bestR (fun i j => condR (x, y) (atW ws i) (atW ws j)) ws.length = firstI (aheadA x y (fun i => (atW ws i).1) (fun i => (atW ws i).2)) ws.length := by
  have hm : ∀ i, i < ws.length → Ins.OkP (atW ws i) := fun i hi => by
    have e : atW ws i = ws[i] := by rw [atW, List.getElem?_eq_getElem hi]; rfl
    rw [e]; exact h _ (List.getElem_mem hi)
  exact best_first _ _ ws.length (fun i j hi hj => cond_ahead hw (hm i hi) (hm j hj)) _ (Nat.le_refl _)
end Go.Proofs.Ytfdofajknnocfaa
