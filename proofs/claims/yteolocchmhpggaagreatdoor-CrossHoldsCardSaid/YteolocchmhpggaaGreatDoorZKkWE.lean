import Derived.Test.YteolocchmhpggaaGreatDoorZKkWD
import Derived.Test.YteolocchmhpggaaGreatDoorZKkQDP
import Derived.Test.YteolocchmhpggaaGreatDoorZKkBG
import Derived.Test.YteolocchmhpggaaGreatDoorZKkBX
import Derived.Test.YteolocchmhpggaaGreatDoorZKkBase
import Derived.Test.YteolocchmhpggaaGreatDoorZKkCI
import Derived.Test.YteolocchmhpggaaGreatDoorZKkSM
namespace Go.Proofs.YteolocchmhpggaaGreatDoor
open Go.RowKit CrossMath

theorem bg_of {w : World} {z : Int} {e : Ending} {w' : World} {s : Bool} (hs : decide (z < 0) = s) (h : BigPost w z e w') : BgPost w s z.natAbs (L16 z.natAbs) e w' := by
 subst hs
 obtain ⟨A, c, rfl, hc, hd, hb⟩ := h
 exact ⟨A, c, rfl, hc, hd, hb⟩
theorem L16_T {m : Nat} (h : m < T256) : L16 m ≤ 1000 := Nat.le_trans (L16_int.1 h) (by decide)
theorem L16_T6 {m : Nat} (h : m < T256) : L16 m ≤ 1000000 := Nat.le_trans (L16_int.1 h) (by decide)
end Go.Proofs.YteolocchmhpggaaGreatDoor

namespace Go.Proofs.YteolocchmhpggaaGreatDoor
open Go.RowKit

def PqPost (w : World) (u v : Bool) (m p n q k j i l : Nat) (e : Ending) (w' : World) : Prop := ∃ A ka B jb E ie G lg, e = .returned (.agg #[.bool u, .slice A k ka, .bool false, .slice B j jb, .bool v, .slice E i ie, .bool false, .slice G l lg]) ∧ (k ≤ ka ∧ j ≤ jb ∧ i ≤ ie ∧ l ≤ lg) ∧ (DS w' m A ∧ DS w' p B ∧ DS w' n E ∧ DS w' q G) ∧ Below w.heap.size w w'
set_option maxRecDepth 100000 in
set_option maxHeartbeats 6400000 in
theorem pfrom_core (s t s' t' : Bool) (a0 a1 a2 a3 b0 b1 b2 b3 c0 c1 c2 c3 d0 d1 d2 d3 : Int) (u v : Bool) (m p n q k j i l : Nat) (w : World)
 (h1 : ∀ W, Calls Tryz.prog 32 #[.agg #[.bool s, .int .u64 a0, .int .u64 a1, .int .u64 a2, .int .u64 a3, .bool t, .int .u64 b0, .int .u64 b1, .int .u64 b2, .int .u64 b3]] W (RqPost W u false m p k j)) (h2 : ∀ W, Calls Tryz.prog 32 #[.agg #[.bool s', .int .u64 c0, .int .u64 c1, .int .u64 c2, .int .u64 c3, .bool t', .int .u64 d0, .int .u64 d1, .int .u64 d2, .int .u64 d3]] W (RqPost W v false n q i l)) :
 Calls Tryz.prog 11 #[.agg #[.bool s, .int .u64 a0, .int .u64 a1, .int .u64 a2, .int .u64 a3, .bool t, .int .u64 b0, .int .u64 b1, .int .u64 b2, .int .u64 b3, .bool s', .int .u64 c0, .int .u64 c1, .int .u64 c2, .int .u64 c3, .bool t', .int .u64 d0, .int .u64 d1, .int .u64 d2, .int .u64 d3]] w (PqPost w u v m p n q k j i l) := by
 have H1 := Lib.hid h1; clear h1
 have H2 := Lib.hid h2; clear h2
 go_enter Tryz.func11, Tryz.ntmps11
 go_upto_region 1 with fail
 generalize hW : World.alloc _ _ = W0
 have hK : KT w ([] ++ [(w.heap.size, #[.bool s, .int .u64 a0, .int .u64 a1, .int .u64 a2, .int .u64 a3, .bool t, .int .u64 b0, .int .u64 b1, .int .u64 b2, .int .u64 b3, .bool s', .int .u64 c0, .int .u64 c1, .int .u64 c2, .int .u64 c3, .bool t', .int .u64 d0, .int .u64 d1, .int .u64 d2, .int .u64 d3])]) ([] ++ [(w.heap.size + 1, 8)]) W0 := by
  rw [← hW]
  exact (KT.of ((KS.nil w).boxed rfl _ _)).made (by simp) _ _ rfl
 have z0 : W0.drew.cell? ⟨w.heap.size + 1, 0, none⟩ = some (.bool false) := by rw [← hW]; exact (Row.at (by simp) [.bool false, .slice none 0 0, .bool false, .slice none 0 0, .bool false, .slice none 0 0, .bool false, .slice none 0 0] _).c 0 rfl
 have hz : w.heap.size + 1 < W0.drew.heap.size := by rw [← hW]; show _ < (World.alloc _ _).heap.size; simp
 clear hW
 generalize hL : ([] ++ [(w.heap.size, #[.bool s, .int .u64 a0, .int .u64 a1, .int .u64 a2, .int .u64 a3, .bool t, .int .u64 b0, .int .u64 b1, .int .u64 b2, .int .u64 b3, .bool s', .int .u64 c0, .int .u64 c1, .int .u64 c2, .int .u64 c3, .bool t', .int .u64 d0, .int .u64 d1, .int .u64 d2, .int .u64 d3])] : List (Nat × Array Value)) = L at hK
 have HL := Lib.hid hL; clear hL
 have HM : Hid ((w.heap.size + 1, 8) ∈ ([] ++ [(w.heap.size + 1, 8)] : List (Nat × Nat))) := Lib.hid (by simp)
 generalize [] ++ [(w.heap.size + 1, 8)] = M at hK HM
 have l0 : ∀ W, KT w L M W → W.cell? ⟨w.heap.size, 0, none⟩ = some (.bool s) := fun W h => h.c 0 (by rw [← HL.out]; rfl) 0 rfl
 have l1 : ∀ W, KT w L M W → W.cell? ⟨w.heap.size, 1, none⟩ = some (.int .u64 a0) := fun W h => h.c 0 (by rw [← HL.out]; rfl) 1 rfl
 have l2 : ∀ W, KT w L M W → W.cell? ⟨w.heap.size, 2, none⟩ = some (.int .u64 a1) := fun W h => h.c 0 (by rw [← HL.out]; rfl) 2 rfl
 have l3 : ∀ W, KT w L M W → W.cell? ⟨w.heap.size, 3, none⟩ = some (.int .u64 a2) := fun W h => h.c 0 (by rw [← HL.out]; rfl) 3 rfl
 have l4 : ∀ W, KT w L M W → W.cell? ⟨w.heap.size, 4, none⟩ = some (.int .u64 a3) := fun W h => h.c 0 (by rw [← HL.out]; rfl) 4 rfl
 have l5 : ∀ W, KT w L M W → W.cell? ⟨w.heap.size, 5, none⟩ = some (.bool t) := fun W h => h.c 0 (by rw [← HL.out]; rfl) 5 rfl
 have l6 : ∀ W, KT w L M W → W.cell? ⟨w.heap.size, 6, none⟩ = some (.int .u64 b0) := fun W h => h.c 0 (by rw [← HL.out]; rfl) 6 rfl
 have l7 : ∀ W, KT w L M W → W.cell? ⟨w.heap.size, 7, none⟩ = some (.int .u64 b1) := fun W h => h.c 0 (by rw [← HL.out]; rfl) 7 rfl
 have l8 : ∀ W, KT w L M W → W.cell? ⟨w.heap.size, 8, none⟩ = some (.int .u64 b2) := fun W h => h.c 0 (by rw [← HL.out]; rfl) 8 rfl
 have l9 : ∀ W, KT w L M W → W.cell? ⟨w.heap.size, 9, none⟩ = some (.int .u64 b3) := fun W h => h.c 0 (by rw [← HL.out]; rfl) 9 rfl
 have l10 : ∀ W, KT w L M W → W.cell? ⟨w.heap.size, 10, none⟩ = some (.bool s') := fun W h => h.c 0 (by rw [← HL.out]; rfl) 10 rfl
 have l11 : ∀ W, KT w L M W → W.cell? ⟨w.heap.size, 11, none⟩ = some (.int .u64 c0) := fun W h => h.c 0 (by rw [← HL.out]; rfl) 11 rfl
 have l12 : ∀ W, KT w L M W → W.cell? ⟨w.heap.size, 12, none⟩ = some (.int .u64 c1) := fun W h => h.c 0 (by rw [← HL.out]; rfl) 12 rfl
 have l13 : ∀ W, KT w L M W → W.cell? ⟨w.heap.size, 13, none⟩ = some (.int .u64 c2) := fun W h => h.c 0 (by rw [← HL.out]; rfl) 13 rfl
 have l14 : ∀ W, KT w L M W → W.cell? ⟨w.heap.size, 14, none⟩ = some (.int .u64 c3) := fun W h => h.c 0 (by rw [← HL.out]; rfl) 14 rfl
 have l15 : ∀ W, KT w L M W → W.cell? ⟨w.heap.size, 15, none⟩ = some (.bool t') := fun W h => h.c 0 (by rw [← HL.out]; rfl) 15 rfl
 have l16 : ∀ W, KT w L M W → W.cell? ⟨w.heap.size, 16, none⟩ = some (.int .u64 d0) := fun W h => h.c 0 (by rw [← HL.out]; rfl) 16 rfl
 have l17 : ∀ W, KT w L M W → W.cell? ⟨w.heap.size, 17, none⟩ = some (.int .u64 d1) := fun W h => h.c 0 (by rw [← HL.out]; rfl) 17 rfl
 have l18 : ∀ W, KT w L M W → W.cell? ⟨w.heap.size, 18, none⟩ = some (.int .u64 d2) := fun W h => h.c 0 (by rw [← HL.out]; rfl) 18 rfl
 have l19 : ∀ W, KT w L M W → W.cell? ⟨w.heap.size, 19, none⟩ = some (.int .u64 d3) := fun W h => h.c 0 (by rw [← HL.out]; rfl) 19 rfl
 have xc0 : ∀ W, KT w L M W → W.cell? ⟨w.heap.size + 1, 0, none⟩ = some (cellAt W (w.heap.size + 1) 0) := fun W h => h.here HM.out 0 (by omega)
 have xf0 : ∀ W, KT w L M W → W.frozen? ⟨w.heap.size + 1, 0, none⟩ = false := fun W h => h.free HM.out 0 (by omega)
 have xc1 : ∀ W, KT w L M W → W.cell? ⟨w.heap.size + 1, 1, none⟩ = some (cellAt W (w.heap.size + 1) 1) := fun W h => h.here HM.out 1 (by omega)
 have xf1 : ∀ W, KT w L M W → W.frozen? ⟨w.heap.size + 1, 1, none⟩ = false := fun W h => h.free HM.out 1 (by omega)
 have xc2 : ∀ W, KT w L M W → W.cell? ⟨w.heap.size + 1, 2, none⟩ = some (cellAt W (w.heap.size + 1) 2) := fun W h => h.here HM.out 2 (by omega)
 have xf2 : ∀ W, KT w L M W → W.frozen? ⟨w.heap.size + 1, 2, none⟩ = false := fun W h => h.free HM.out 2 (by omega)
 have xc3 : ∀ W, KT w L M W → W.cell? ⟨w.heap.size + 1, 3, none⟩ = some (cellAt W (w.heap.size + 1) 3) := fun W h => h.here HM.out 3 (by omega)
 have xf3 : ∀ W, KT w L M W → W.frozen? ⟨w.heap.size + 1, 3, none⟩ = false := fun W h => h.free HM.out 3 (by omega)
 have xc4 : ∀ W, KT w L M W → W.cell? ⟨w.heap.size + 1, 4, none⟩ = some (cellAt W (w.heap.size + 1) 4) := fun W h => h.here HM.out 4 (by omega)
 have xf4 : ∀ W, KT w L M W → W.frozen? ⟨w.heap.size + 1, 4, none⟩ = false := fun W h => h.free HM.out 4 (by omega)
 have xc5 : ∀ W, KT w L M W → W.cell? ⟨w.heap.size + 1, 5, none⟩ = some (cellAt W (w.heap.size + 1) 5) := fun W h => h.here HM.out 5 (by omega)
 have xf5 : ∀ W, KT w L M W → W.frozen? ⟨w.heap.size + 1, 5, none⟩ = false := fun W h => h.free HM.out 5 (by omega)
 have xc6 : ∀ W, KT w L M W → W.cell? ⟨w.heap.size + 1, 6, none⟩ = some (cellAt W (w.heap.size + 1) 6) := fun W h => h.here HM.out 6 (by omega)
 have xf6 : ∀ W, KT w L M W → W.frozen? ⟨w.heap.size + 1, 6, none⟩ = false := fun W h => h.free HM.out 6 (by omega)
 have xc7 : ∀ W, KT w L M W → W.cell? ⟨w.heap.size + 1, 7, none⟩ = some (cellAt W (w.heap.size + 1) 7) := fun W h => h.here HM.out 7 (by omega)
 have xf7 : ∀ W, KT w L M W → W.frozen? ⟨w.heap.size + 1, 7, none⟩ = false := fun W h => h.free HM.out 7 (by omega)
 have hk0 := hK.drew
 clear hK
 go_region_held3 (fun w' : World => KT w L M w')
  (repeat (first
    | (with_reducible assumption)
    | (with_reducible refine KT.put8 ?_ HM.out _ _ _ _ _ _ _ _)
    | (with_reducible refine KT.drew ?_)
    | (with_reducible refine KT.after ?_ hb)))
  (first
    | (go_at_call 32; (with_reducible refine (H1.out _).mono ?_); rintro e w' ⟨A, ka, B, jb, rfl, ⟨e1, e2⟩, ⟨dA, dB⟩, hb⟩; (replace z0 := (hb.cell (p := ⟨w.heap.size + 1, 0, none⟩) hz).trans z0); (replace hz := Nat.lt_of_lt_of_le hz hb.size))
    | (go_at_call 32; (with_reducible refine (H2.out _).mono ?_); rintro e w' ⟨E, ie, G, lg, rfl, ⟨e3, e4⟩, ⟨dE, dG⟩, hb⟩; (replace dA := dA.below hb); (replace dB := dB.below hb); (replace z0 := (hb.cell (p := ⟨w.heap.size + 1, 0, none⟩) hz).trans z0); (replace hz := Nat.lt_of_lt_of_le hz hb.size)))
 have hq := ‹KT w L M _›
 have hr := hq.put_row (cs := [.bool u, .slice A k ka, .bool false, .slice B j jb, .bool v, .slice E i ie, .bool false, .slice G l lg]) HM.out rfl
 have D1 := dA.put8 z0 (.bool u) (.slice A k ka) (.bool false) (.slice B j jb) (.bool v) (.slice E i ie) (.bool false) (.slice G l lg)
 have D2 := dB.put8 z0 (.bool u) (.slice A k ka) (.bool false) (.slice B j jb) (.bool v) (.slice E i ie) (.bool false) (.slice G l lg)
 have D3 := dE.put8 z0 (.bool u) (.slice A k ka) (.bool false) (.slice B j jb) (.bool v) (.slice E i ie) (.bool false) (.slice G l lg)
 have D4 := dG.put8 z0 (.bool u) (.slice A k ka) (.bool false) (.slice B j jb) (.bool v) (.slice E i ie) (.bool false) (.slice G l lg)
 have hB := hq.1.2
 go_wp2_with fail
 exact bodyPost_ret (results_R1 (cs := #[.bool u, .slice A k ka, .bool false, .slice B j jb, .bool v, .slice E i ie, .bool false, .slice G l lg]) rfl rfl hr agg_rpoint) rfl ⟨A, ka, B, jb, E, ie, G, lg, rfl, ⟨e1, e2, e3, e4⟩, ⟨D1, D2, D3, D4⟩, hB⟩
end Go.Proofs.YteolocchmhpggaaGreatDoor

namespace Go.Proofs.YteolocchmhpggaaGreatDoor
open Go.RowKit

section
variable {w0 W W1 : World} {T0 : World → Prop} {L : List (Nat × Array Value)} {F : Nat → Option (Nat × (Value → World → Prop))} {al b pt : Nat} {z r : Array Value} {listed : Array Bool} {a : Act}
end

end Go.Proofs.YteolocchmhpggaaGreatDoor
