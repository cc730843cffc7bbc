/- Contract of the document's Mul by the numbers' values. -/
import Derived.Test.YthmobcpdbgmbeaaGreatDoorBA
import Derived.Test.YthmobcpdbgmbeaaGreatDoorBG
import Derived.Test.YthmobcpdbgmbeaaGreatDoorBV
import Derived.Test.YthmobcpdbgmbeaaGreatDoorBX
import Derived.Test.YthmobcpdbgmbeaaGreatDoorBF
namespace Go.Proofs.YthmobcpdbgmbeaaGreatDoor
open Go.RowKit
/-- Block b's first N cells are numbers that may be written. -/
def RF (w : World) (b N : Nat) (x : Nat → Nat) : Prop := b < w.heap.size ∧ ∀ i, i < N → w.cell? ⟨b, i, none⟩ = some (.int .i64 (x i : Nat)) ∧ w.frozen? ⟨b, i, none⟩ = false
theorem RF.put {w : World} {b N : Nat} {x : Nat → Nat} (h : RF w b N x) (j v : Nat) (hj : j < N) : RF (w.setCell ⟨b, j, none⟩ (.int .i64 (v : Nat))) b N (fun i => if i = j then v else x i) := by
  refine ⟨by simpa [World.setCell] using h.1, fun i hi => ⟨?_, by rw [World.frozen?_setCell]; exact (h.2 i hi).2⟩⟩
  by_cases e : i = j
  · subst e
    rw [World.cell?_setCell_same' _ _ _ (by rw [(h.2 i hi).1]; rfl)]
    simp
  · rw [World.cell?_setCell_other _ _ _ _ (fun h => e (congrArg Addr.off h).symm), (h.2 i hi).1]
    simp only [if_neg e]
theorem RF.congr {w : World} {b N : Nat} {x y : Nat → Nat} (h : RF w b N x) (hxy : ∀ i, x i = y i) : RF w b N y := ⟨h.1, fun i hi => by rw [← hxy]; exact h.2 i hi⟩
/-- What stands in the document's Mul: its two numbers, its answer's place, its row. -/
def MW (w : World) (s t : Bool) (A B : Option Addr) (n m c c' N : Nat) (x : Nat → Nat) (W : World) : Prop :=
  Row W w.heap.size [.bool s, .slice A n c] ∧ Row W (w.heap.size + 1) [.bool t, .slice B m c'] ∧ Row W (w.heap.size + 2) [.bool false, .slice none 0 0] ∧ RF W (w.heap.size + 3) N x ∧ Below w.heap.size w W
theorem MW.put {w W : World} {s t : Bool} {A B : Option Addr} {n m c c' N : Nat} {x : Nat → Nat} (h : MW w s t A B n m c c' N x W) (j v : Nat) (hj : j < N) :
    MW w s t A B n m c c' N (fun i => if i = j then v else x i) (W.setCell ⟨w.heap.size + 3, j, none⟩ (.int .i64 (v : Nat))) :=
  ⟨h.1.other (p := ⟨w.heap.size + 3, j, none⟩) (by show w.heap.size + 3 ≠ w.heap.size; omega) _, h.2.1.other (p := ⟨w.heap.size + 3, j, none⟩) (by show w.heap.size + 3 ≠ w.heap.size + 1; omega) _,
    h.2.2.1.other (p := ⟨w.heap.size + 3, j, none⟩) (by show w.heap.size + 3 ≠ w.heap.size + 2; omega) _, h.2.2.2.1.put j v hj, below_put1 h.2.2.2.2 (by omega) _ _⟩
theorem MW.congr {w W : World} {s t : Bool} {A B : Option Addr} {n m c c' N : Nat} {x y : Nat → Nat} (h : MW w s t A B n m c c' N x W) (hxy : ∀ i, x i = y i) : MW w s t A B n m c c' N y W :=
  ⟨h.1, h.2.1, h.2.2.1, h.2.2.2.1.congr hxy, h.2.2.2.2⟩
theorem MW.drew {w W : World} {s t : Bool} {A B : Option Addr} {n m c c' N : Nat} {x : Nat → Nat} (h : MW w s t A B n m c c' N x W) : MW w s t A B n m c c' N x W.drew :=
  ⟨h.1.drew, h.2.1.drew, h.2.2.1.drew, h.2.2.2.1, h.2.2.2.2.drew⟩
theorem MW.drewN {w W : World} {s t : Bool} {A B : Option Addr} {n m c c' N : Nat} {x : Nat → Nat} (h : MW w s t A B n m c c' N x W) (k : Nat) : MW w s t A B n m c c' N x (W.drewN k) :=
  ⟨h.1.drewN k, h.2.1.drewN k, h.2.2.1.drewN k, h.2.2.2.1, below_drewN h.2.2.2.2 k⟩
end Go.Proofs.YthmobcpdbgmbeaaGreatDoor
namespace Go.Proofs.YthmobcpdbgmbeaaGreatDoor
open Go.RowKit
theorem DS.set_bool {w : World} {m : Nat} {A : Option Addr} (h : DS w m A) {X : Nat} {s : Bool} (hX : w.cell? ⟨X, 0, none⟩ = some (.bool s)) (j : Nat) (v : Value) : DS (w.setCell ⟨X, j, none⟩ v) m A := fun hm => by
  obtain ⟨b, e, hl, hc⟩ := h hm
  have hne : X ≠ b := by
    rintro rfl
    rw [hc 0 hm] at hX
    cases hX
  exact (DS.set (fun _ => ⟨b, e, hl, hc⟩ : DS w m A) (q := ⟨X, j, none⟩) (fun p hp => by rw [e] at hp; cases hp; exact hne) v) hm
theorem fits_z (m : Nat) : ((m : Nat) : Int) < B64 ^ 4 ↔ m < T256 := by
  have h : B64 ^ 4 = ((T256 : Nat) : Int) := by decide
  rw [h]; exact Int.ofNat_lt
theorem zfold_some {op : Int → Int → Int} {zs : Nat → Int} {z0 z : Int} {k : Nat} (h : zfold op zs z0 k = some z) (hz : (op z (zs k)).natAbs < T256) : zfold op zs z0 (k + 1) = some (op z (zs k)) := by
  rw [zfold, h]
  exact if_pos ((fits_z _).2 hz)
theorem zfold_stop {op : Int → Int → Int} {zs : Nat → Int} {z0 z : Int} {k n : Nat} (h : zfold op zs z0 k = some z) (hz : ¬ (op z (zs k)).natAbs < T256) (hk : k < n) : zfold op zs z0 n = none := by
  induction n with
  | zero => omega
  | succ n ih =>
    by_cases e : k = n
    · subst e
      rw [zfold, h]
      exact if_neg (fun h1 => hz ((fits_z _).1 h1))
    · rw [zfold, ih (by omega)]
/-- What stands while the numbers are put together: the answer's place, and the number so far. -/
def SX (w : World) (X : Nat) (z : Int) (A : Option Addr) (c : Nat) (W : World) : Prop :=
  Row W w.heap.size [.bool false, .int .u64 0, .int .u64 0, .int .u64 0, .int .u64 0] ∧ Row W X [.bool (decide (z < 0)), .slice A (L16 z.natAbs) c] ∧ DS W z.natAbs A ∧ L16 z.natAbs ≤ c ∧ Below w.heap.size w W ∧ w.heap.size < X
theorem SX.after {w W W1 : World} {X : Nat} {z : Int} {A : Option Addr} {c : Nat} (h : SX w X z A c W) (hb : Below W.heap.size W W1) : SX w X z A c W1 :=
  ⟨h.1.after hb, h.2.1.after hb, h.2.2.1.below hb, h.2.2.2.1, h.2.2.2.2.1.trans (hb.mono h.2.2.2.2.1.size), h.2.2.2.2.2⟩
theorem SX.drew {w W : World} {X : Nat} {z : Int} {A : Option Addr} {c : Nat} (h : SX w X z A c W) : SX w X z A c W.drew := h.after (Below.refl _ _).drew
theorem SX.alloc {w W : World} {X : Nat} {z : Int} {A : Option Addr} {c : Nat} (h : SX w X z A c W) (o : Obj) : SX w X z A c (W.alloc o) := h.after ((Below.refl _ _).alloc (Nat.le_refl _) _)
theorem SX.put {w W : World} {X : Nat} {z y : Int} {A B : Option Addr} {c d : Nat} (h : SX w X z A c W) (hd : DS W y.natAbs B) (hc : L16 y.natAbs ≤ d) :
    SX w X y B d ((W.setCell ⟨X, 0, none⟩ (.bool (decide (y < 0)))).setCell ⟨X, 1, none⟩ (.slice B (L16 y.natAbs) d)) := by
  have hX := h.2.2.2.2.2
  refine ⟨(h.1.other (p := ⟨X, 0, none⟩) (by show X ≠ w.heap.size; omega) _).other (p := ⟨X, 1, none⟩) (by show X ≠ w.heap.size; omega) _, (h.2.1.set 0 (by simp) _).set 1 (by simp) _, ?_, hc, below_put1 (below_put1 h.2.2.2.2.1 (by omega) _ _) (by omega) _ _, hX⟩
  exact (hd.set_bool (h.2.1.c 0 rfl) 0 _).set_bool (X := X) (s := decide (y < 0)) (by rw [World.cell?_setCell_same' _ _ _ (by rw [h.2.1.c 0 rfl]; rfl)]) 1 _
end Go.Proofs.YthmobcpdbgmbeaaGreatDoor
namespace Go.Proofs.YthmobcpdbgmbeaaGreatDoor
open Go.RowKit
end Go.Proofs.YthmobcpdbgmbeaaGreatDoor
