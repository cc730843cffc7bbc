/- Contracts of Tags.More and Less. -/
import Derived.Test.YtjhcddlhhfjnaaaGreatDoorTH
import Derived.Deep.RegionWith
namespace Go.Proofs.YtjhcddlhhfjnaaaGreatDoor
open Go.RowKit Go.Sort

def moreE (cs : List (Int × Int)) (n : Int) : Int := if mayN n then fromE (mrg cs [(n, 1)]) else 2
def moreL (cs : List (Int × Int)) (n : Int) : List (Int × Int) := if mayN n then fromL (mrg cs [(n, 1)]) else []
def lessE (cs : List (Int × Int)) (n : Int) : Int := if mayN n then (if manyI cs n = 0 then 5 else fromE (mrg cs [(n, -1)])) else 2
def lessL (cs : List (Int × Int)) (n : Int) : List (Int × Int) := if mayN n then (if manyI cs n = 0 then [] else fromL (mrg cs [(n, -1)])) else []
theorem isSome_set (w : World) (a b : Addr) (v : Value) : ((w.setCell a v).cell? b).isSome = (w.cell? b).isSome := by
  unfold World.cell? World.setCell
  simp only [Array.getElem?_modify]
  by_cases e : a.block = b.block
  · rw [if_pos e]
    cases w.heap[b.block]? with
    | none => rfl
    | some o =>
      cases o with
      | cells c t f =>
        simp only [Option.map_some]
        by_cases e2 : b.spot.isSome = true
        · simp [e2]
        · simp only [e2]
          by_cases e3 : a.spot.isSome = true
          · simp [e3]
          · simp [e3]
            by_cases e4 : b.off < c.size
            · simp [e4]
            · simp [e4]
      | _ => rfl
  · rw [if_neg e]
/-- A box that is read, and one that is written at last. -/
def S2 (b : Nat) (v : Value) (W : World) : Prop := Row W b [v] ∧ ∃ u, Row W (b + 1) [u]
def cellV (w : World) (b j : Nat) : Value := (w.cell? ⟨b, j, none⟩).getD undef
section
variable {b : Nat} {v : Value} {W W1 : World}
theorem S2.drew (h : S2 b v W) : S2 b v W.drew := h
theorem S2.after (h : S2 b v W) (hb : Below W.heap.size W W1) : S2 b v W1 := ⟨h.1.after hb, h.2.imp fun _ r => r.after hb⟩
theorem S2.put (h : S2 b v W) (u : Value) : S2 b v (W.setCell ⟨b + 1, 0, none⟩ u) := ⟨h.1.other (by simp) _, h.2.elim fun _ r => ⟨u, r.set 0 (by simp) u⟩⟩
theorem S2.read (h : S2 b v W) : W.cell? ⟨b, 0, none⟩ = some v := h.1.c 0 rfl
theorem S2.to (h : S2 b v W) : W.cell? ⟨b + 1, 0, none⟩ = some (cellV W (b + 1) 0) ∧ W.frozen? ⟨b + 1, 0, none⟩ = false := by
  obtain ⟨u, r⟩ := h.2
  exact ⟨by rw [cellV, r.c 0 rfl]; rfl, r.f 0 rfl⟩
theorem S2.got {u : Value} (h : S2 b v (W.setCell ⟨b + 1, 0, none⟩ u)) : (W.setCell ⟨b + 1, 0, none⟩ u).cell? ⟨b + 1, 0, none⟩ = some u := by
  obtain ⟨u', r⟩ := h.2
  have hs : ((W.setCell ⟨b + 1, 0, none⟩ u).cell? ⟨b + 1, 0, none⟩).isSome = true := by rw [r.c 0 rfl]; rfl
  rw [isSome_set] at hs
  exact World.cell?_setCell_same' _ _ _ hs
end
set_option maxRecDepth 100000 in
set_option maxHeartbeats 3200000 in
theorem more_any (cs : List (Int × Int)) (A : Option Addr) (N c : Nat) (n : Int) (w : World) (hN : N = cs.length) (hb : N ≤ 900) (hc : N ≤ c) (hA : CellsS w A (cntCs cs)) (ht : Times cs) :
    Calls Tryz.prog 14 #[.agg #[.slice A N c], .int .i64 n] w (TagPost w w.heap.size (moreE cs n) (moreL cs n)) := by
  have hml := mrg_len cs [(n, 1)]
  have HTg := Lib.hid (fun W b (hW : Below w.heap.size w W) (hr : Row W b [.int .i64 n, .int .i64 1]) => together_any cs [(n, 1)] A (some ⟨b, 0, none⟩) N 1 c 1 W hN rfl (by omega) (by omega) hc (Nat.le_refl _) (hA.after hW) (cells_row hr) ht (fun p hp => by simp at hp; subst hp; exact ⟨by show (-1000 : Int) ≤ 1; omega, by show (1 : Int) ≤ 1000; omega⟩))
  have HFr := Lib.hid (fun W A' N' c' (h1 : N' = (mrg cs [(n, 1)]).length) (h2 : N' ≤ c') (h4 : ∀ a, A' = some a → w.heap.size + 2 ≤ a.block) (h3 : CellsS W A' (cntCs (mrg cs [(n, 1)]))) => from_any (mrg cs [(n, 1)]) A' N' c' (w.heap.size + 2) W h1 (by simp at hml; omega) h2 h4 h3)
  clear hA ht hml hc hN
  cases hm : mayN n with
  | false =>
    have HP : Hid (∀ W, Below w.heap.size w W → TagPost w w.heap.size (moreE cs n) (moreL cs n) (.returned (.tuple #[.agg #[.slice none 0 0], .int .i64 2])) W) :=
      Lib.hid (fun W hW => ⟨none, 0, 0, by rw [moreE, hm]; rfl, by rw [moreL, hm]; rfl, by rw [moreL, hm]; exact CellsS.nil _ _, Nat.le_refl _, (fun a ha => by cases ha), hW⟩)
    have HM := Lib.hid (fun W => hm ▸ may_any n W)
    clear hm HTg HFr
    go_enter Tryz.func14, Tryz.ntmps14
    go_wp2_with (first
      | (go_at_call 35; (with_reducible refine (HM.out _).mono ?_); rintro e w1 ⟨rfl, rfl⟩)
      | fail)
    exact bodyPost_ret (v := .tuple #[.agg #[.slice none 0 0], .int .i64 2]) (by simp [results, Tryz.results14, go_sem]) rfl (HP.out _ (((Below.refl _ _).alloc (Nat.le_refl _) _).alloc (by simp) _))
  | true =>
    have HP : Hid (∀ W A' N' c', N' = (fromL (mrg cs [(n, 1)])).length → CellsS W A' (cntCs (fromL (mrg cs [(n, 1)]))) → N' ≤ c' → (∀ a, A' = some a → w.heap.size + 2 ≤ a.block) → Below w.heap.size w W → TagPost w w.heap.size (moreE cs n) (moreL cs n) (.returned (.tuple #[.agg #[.slice A' N' c'], .int .i64 (fromE (mrg cs [(n, 1)]))])) W) :=
      Lib.hid (fun W A' N' c' h1 h2 h3 h4 hW => ⟨A', N', c', by rw [moreE, hm]; rfl, by rw [moreL, hm]; exact h1, by rw [moreL, hm]; exact h2, h3, fun a ha => Nat.le_trans (by omega) (h4 a ha), hW⟩)
    have HM := Lib.hid (fun W => hm ▸ may_any n W)
    clear hm
    go_enter Tryz.func14, Tryz.ntmps14
    go_wp2_with (first
      | (go_at_call 35; (with_reducible refine (HM.out _).mono ?_); rintro e w1 ⟨rfl, rfl⟩)
      | fail)
    generalize hW : World.alloc _ _ = W0
    have hR2 : Row W0 w.heap.size [.slice A N c] := by rw [← hW]; exact (Row.at rfl [.slice A N c] _).alloc _
    have hR4 : Row W0 (w.heap.size + 1) [.slice none 0 0] := by rw [← hW]; exact Row.at (by simp) _ _
    have hB0 : Below w.heap.size w W0 := by rw [← hW]; exact ((Below.refl _ _).alloc (Nat.le_refl _) _).alloc (by simp) _
    clear hW
    have HB0 := Lib.hid hB0
    have HS0 : Hid (w.heap.size + 2 ≤ W0.heap.size) := Lib.hid (by have := hR4.1; omega)
    have hs : S2 w.heap.size (.slice A N c) W0.drew := (S2.drew ⟨hR2, _, hR4⟩)
    have x0 : ∀ W, S2 w.heap.size (.slice A N c) W → W.cell? ⟨w.heap.size, 0, none⟩ = some (.slice A N c) := fun W h => h.read
    have z0 : ∀ W, S2 w.heap.size (.slice A N c) W → W.cell? ⟨w.heap.size + 1, 0, none⟩ = some (cellV W (w.heap.size + 1) 0) := fun W h => h.to.1
    have f0 : ∀ W, S2 w.heap.size (.slice A N c) W → W.frozen? ⟨w.heap.size + 1, 0, none⟩ = false := fun W h => h.to.2
    clear hB0 hR2 hR4
    go_region_held3 (fun w' : World => S2 w.heap.size (.slice A N c) w')
      (repeat (first
        | (with_reducible assumption)
        | (with_reducible refine S2.put ?_ _)
        | (with_reducible refine S2.drew ?_)
        | (with_reducible refine S2.after ?_ hb)))
      (first
        | (go_at_call 38; (with_reducible refine (often_any _ _ _).mono ?_); rintro e w1 ⟨b1, rfl, hs1, hr1, hb⟩; have HO1 := Lib.hid (And.intro hr1 (And.intro (Below.trans (HB0.out.drew) (hb.mono HB0.out.size)) (Nat.le_trans HS0.out hb.size))); clear hr1 hs1)
        | (go_at_call 37; (with_reducible refine (HTg.out _ _ HO1.out.2.1 HO1.out.1).mono ?_); clear hb; rintro e w2 ⟨A2, N2, c2, rfl, hN2, hC2, hc2, hf2, hb⟩; have HO2 := Lib.hid (And.intro hN2 (And.intro hC2 (And.intro hc2 (And.intro (fun a ha => Nat.le_trans HO1.out.2.2 (hf2 a ha)) (HO1.out.2.1.trans (hb.mono HO1.out.2.1.size)))))); clear hN2 hC2 hc2 hf2)
        | (go_at_call 36; (with_reducible refine (HFr.out _ _ _ _ HO2.out.1 HO2.out.2.2.1 HO2.out.2.2.2.1 HO2.out.2.1).mono ?_); clear hb; rintro e w3 ⟨A3, N3, c3, rfl, hN3, hC3, hc3, hf3, hb⟩; have HO3 := Lib.hid (And.intro hN3 (And.intro hC3 (And.intro hc3 (And.intro hf3 (HO2.out.2.2.2.2.trans (hb.mono HO2.out.2.2.2.2.size)))))); clear hN3 hC3 hc3 hf3))
    all_goals
      go_wp2_with fail
      have cr := S2.got (by assumption : S2 w.heap.size (.slice A N c) (w3.setCell ⟨w.heap.size + 1, 0, none⟩ (.slice A3 N3 c3)))
      exact bodyPost_ret (v := .tuple #[.agg #[.slice A3 N3 c3], .int .i64 (fromE (mrg cs [(n, 1)]))]) (by simp [results, Tryz.results14, go_sem, cr]) rfl
        (HP.out _ _ _ _ HO3.out.1 (HO3.out.2.1.put (fun _ a ha => by have := HO3.out.2.2.2.1 a ha; show a.block ≠ w.heap.size + 1; omega)) HO3.out.2.2.1 HO3.out.2.2.2.1 (below_put1 HO3.out.2.2.2.2 (by omega) 0 _))
end Go.Proofs.YtjhcddlhhfjnaaaGreatDoor
