/- Contracts of the document's mags, Cmp, Sign by the numbers' values. -/
import Derived.Test.YthmobcpdbgmbeaaGreatDoorBA
import Derived.BigQuiet
import Derived.Deep.QuietTactic
import Derived.Test.YthmobcpdbgmbeaaGreatDoorBF
import Derived.Deep.RegionWith
namespace Go.Proofs.YthmobcpdbgmbeaaGreatDoor
open Go.RowKit
end Go.Proofs.YthmobcpdbgmbeaaGreatDoor
namespace Go.Proofs.YthmobcpdbgmbeaaGreatDoor
open Go.RowKit
/-- What stands while digits are gathered in a row of the call's own. -/
def PlS (w : World) (n : Nat) (xs : List Value) (v : Value) (wr : World) : Prop := wr.ownsRow w.heap.size 2 1 v n xs ∧ Below w.heap.size w wr
theorem PlS.step {w wr w1 : World} {xs : List Value} {n : Nat} {v v' d : Value} {o : Obj} (h : PlS w n xs v wr)
    (hown : w1.ownsRow w.heap.size 2 1 v' (n + 1) (xs ++ [d])) (hg : (wr.alloc o).grownBy w1 v.ownBlock) : PlS w (n + 1) (xs ++ [d]) v' w1 :=
  ⟨hown, (h.2.alloc h.2.size o).grown hg (by have := h.2.size; simp; omega) (fun j hj => (h.1.lt j hj).1)⟩
theorem PlS.drew {w wr : World} {xs : List Value} {n : Nat} {v : Value} (h : PlS w n xs v wr) (k : Nat) : PlS w n xs v (wr.drewN k) := ⟨h.1, below_drewN h.2 k⟩
theorem PlS.form {w wr : World} {x : Nat → Int} {xs : List Value} {n : Nat} {v : Value} (h : PlS w n xs v wr) (hx : ∀ i, i < n → xs[i]? = some (.int .i64 (x i))) :
    ∃ A c, v = .slice A n c ∧ n ≤ c ∧ DR wr x n A ∧ ∀ p, A = some p → w.heap.size ≤ p.block := by
  obtain ⟨hl, ho⟩ := h.1
  rcases ho with ⟨hv, h0⟩ | ⟨g, cap, cur, hv, hbs, hg, hn, _, hs, ht⟩
  · exact ⟨none, 0, by rw [hv, h0], by omega, fun hp => by omega, fun p hp => by cases hp⟩
  · refine ⟨some ⟨g, 0, none⟩, cap, hv, hn, fun _ => ⟨g, rfl, (Array.getElem?_eq_some_iff.mp hg).1, fun i hi => ?_⟩, fun p hp => by cases hp; exact hbs⟩
    have h1 := hx i hi
    rw [← ht, List.getElem?_take] at h1
    rw [if_pos (by omega)] at h1
    simp [World.cell?, hg]
    simpa using h1
/-- A slice of a number's digits. -/
def SlPost (w : World) (m : Nat) (e : Ending) (w' : World) : Prop := ∃ A c, e = .returned (.slice A (L16 m) c) ∧ L16 m ≤ c ∧ DS w' m A ∧ Below w.heap.size w w' ∧ ∀ p, A = some p → w.heap.size ≤ p.block
theorem SlPost.mk {w w' : World} {m : Nat} {A : Option Addr} {c : Nat} (hc : L16 m ≤ c) (hd : DS w' m A) (hb : Below w.heap.size w w') (hp : ∀ p, A = some p → w.heap.size ≤ p.block) : SlPost w m (.returned (.slice A (L16 m) c)) w' := ⟨A, c, rfl, hc, hd, hb, hp⟩
end Go.Proofs.YthmobcpdbgmbeaaGreatDoor
namespace Go.Proofs.YthmobcpdbgmbeaaGreatDoor
open Go.RowKit
end Go.Proofs.YthmobcpdbgmbeaaGreatDoor
namespace Go.Proofs.YthmobcpdbgmbeaaGreatDoor
open Go.RowKit
/-- What Out answers. -/
def outV (z : Int) : Value := if z.natAbs < T256 then .tuple #[ivz z, .int .i64 0] else .tuple #[iv false 0 0 0 0, .int .i64 110]
set_option maxHeartbeats 800000 in
theorem out_z (z : Int) (A : Option Addr) (c : Nat) (w : World) (hd : DS w z.natAbs A) :
    Calls Tryz.prog 104 #[bigv z A c] w fun e w' => e = .returned (outV z) ∧ Below w.heap.size w w' := by
  have HT := Lib.hid (fun W (hW : Below w.heap.size w W) => to_z z A c W (hd.below hW))
  clear hd
  by_cases hz : z.natAbs < T256
  · have e1 : toV z = .tuple #[ivz z, .bool true] := by rw [toV, if_pos hz]
    rw [e1] at HT
    rw [show outV z = .tuple #[ivz z, .int .i64 0] by rw [outV, if_pos hz]]
    clear hz e1
    rw [ivz] at HT ⊢
    rw [bigv] at HT ⊢
    generalize decide (z < 0) = s at *
    generalize L16 z.natAbs = n at *
    generalize W64 z.natAbs 0 = x0 at *
    generalize W64 z.natAbs 1 = x1 at *
    generalize W64 z.natAbs 2 = x2 at *
    generalize W64 z.natAbs 3 = x3 at *
    go_enter Tryz.func104, Tryz.ntmps104
    go_wp2_with fail
    generalize hW : World.alloc _ _ = W0
    have hB : Below w.heap.size w W0 := by rw [← hW]; exact ((Below.refl w.heap.size w).alloc (Nat.le_refl _) _).alloc (by simp) _
    have rR : Row W0 (w.heap.size + 1) [.bool false, .int .u64 0, .int .u64 0, .int .u64 0, .int .u64 0] := by rw [← hW]; exact Row.at (by simp) _ _
    clear hW
    refine (HT.out _ hB).mono ?_
    rintro e w1 ⟨rfl, hb1⟩
    replace rR := rR.after hb1
    replace hB := hB.trans (hb1.mono hB.size)
    clear hb1
    have lR := rR.lt
    have a0 := rR.c 0 rfl
    have a1 := rR.c 1 rfl
    have a2 := rR.c 2 rfl
    have a3 := rR.c 3 rfl
    have a4 := rR.c 4 rfl
    have f0 := rR.f 0 rfl
    have f1 := rR.f 1 rfl
    have f2 := rR.f 2 rfl
    have f3 := rR.f 3 rfl
    have f4 := rR.f 4 rfl
    go_wp2_with fail
    clear a0 a1 a2 a3 a4 f0 f1 f2 f3 f4
    generalize hW2 : World.setCell _ _ _ = W2
    have rR2 : Row W2 (w.heap.size + 1) [.bool s, .int .u64 x0, .int .u64 x1, .int .u64 x2, .int .u64 x3] := by rw [← hW2]; exact rR.put5 _ _ _ _ _
    have hB2 : Below w.heap.size w W2 := by rw [← hW2]; exact below_put5 hB (Nat.le_succ _) _ _ _ _ _
    generalize hW3 : World.alloc _ _ = W3
    have rR3 : Row W3 (w.heap.size + 1) [.bool s, .int .u64 x0, .int .u64 x1, .int .u64 x2, .int .u64 x3] := by rw [← hW3]; exact rR2.alloc _
    have hB3 : Below w.heap.size w W3 := by rw [← hW3]; exact hB2.alloc hB2.size _
    exact bodyPost_ret (v := .tuple #[iv s x0 x1 x2 x3, .int .i64 0]) (by simp [results, Tryz.results104, go_sem, rR3.c 0 rfl, rR3.c 1 rfl, rR3.c 2 rfl, rR3.c 3 rfl, rR3.c 4 rfl]) rfl ⟨rfl, hB3⟩
  · have e1 : toV z = .tuple #[iv false 0 0 0 0, .bool false] := by rw [toV, if_neg hz]
    rw [e1] at HT
    rw [show outV z = .tuple #[iv false 0 0 0 0, .int .i64 110] by rw [outV, if_neg hz]]
    clear hz e1
    rw [bigv] at HT ⊢
    generalize decide (z < 0) = s at *
    generalize L16 z.natAbs = n at *
    go_enter Tryz.func104, Tryz.ntmps104
    go_wp2_with fail
    generalize hW : World.alloc _ _ = W0
    have hB : Below w.heap.size w W0 := by rw [← hW]; exact ((Below.refl w.heap.size w).alloc (Nat.le_refl _) _).alloc (by simp) _
    have rR : Row W0 (w.heap.size + 1) [.bool false, .int .u64 0, .int .u64 0, .int .u64 0, .int .u64 0] := by rw [← hW]; exact Row.at (by simp) _ _
    clear hW
    refine (HT.out _ hB).mono ?_
    rintro e w1 ⟨rfl, hb1⟩
    replace rR := rR.after hb1
    replace hB := hB.trans (hb1.mono hB.size)
    clear hb1
    have lR := rR.lt
    have a0 := rR.c 0 rfl
    have a1 := rR.c 1 rfl
    have a2 := rR.c 2 rfl
    have a3 := rR.c 3 rfl
    have a4 := rR.c 4 rfl
    have f0 := rR.f 0 rfl
    have f1 := rR.f 1 rfl
    have f2 := rR.f 2 rfl
    have f3 := rR.f 3 rfl
    have f4 := rR.f 4 rfl
    go_wp2_with fail
    clear a0 a1 a2 a3 a4 f0 f1 f2 f3 f4
    generalize hW2 : World.setCell _ _ _ = W2
    have rR2 : Row W2 (w.heap.size + 1) [.bool false, .int .u64 0, .int .u64 0, .int .u64 0, .int .u64 0] := by rw [← hW2]; exact rR.put5 _ _ _ _ _
    have hB2 : Below w.heap.size w W2 := by rw [← hW2]; exact below_put5 hB (Nat.le_succ _) _ _ _ _ _
    generalize hW3 : World.alloc _ _ = W3
    have rR3 : Row W3 (w.heap.size + 1) [.bool false, .int .u64 0, .int .u64 0, .int .u64 0, .int .u64 0] := by rw [← hW3]; exact rR2.alloc _
    have hB3 : Below w.heap.size w W3 := by rw [← hW3]; exact hB2.alloc hB2.size _
    exact bodyPost_ret (v := .tuple #[iv false 0 0 0 0, .int .i64 110]) (by simp [results, Tryz.results104, go_sem, rR3.c 0 rfl, rR3.c 1 rfl, rR3.c 2 rfl, rR3.c 3 rfl, rR3.c 4 rfl]) rfl ⟨rfl, hB3⟩
end Go.Proofs.YthmobcpdbgmbeaaGreatDoor
