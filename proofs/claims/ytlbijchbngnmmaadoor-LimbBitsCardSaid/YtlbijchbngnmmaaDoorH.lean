/- Contract of package limb's takeFrom; the rows lie in memory, in two blocks. -/
import Derived.Test.YtlbijchbngnmmaaDoorG
namespace Go.Proofs.YtlbijchbngnmmaaDoor
open Go.RowKit

/-- The borrow into place i of a difference; the words of the difference. -/
def borF (x y : Nat → Int) : Nat → Int
  | 0 => 0
  | k + 1 => if x k < y k + borF x y k then 1 else 0
def difF (x y : Nat → Int) (k : Nat) : Int := (x k - y k - borF x y k) % B64
theorem borF_bd (x y : Nat → Int) (k : Nat) : 0 ≤ borF x y k ∧ borF x y k ≤ 1 := by
  cases k with
  | zero => simp [borF]
  | succ k => rw [borF]; split <;> omega
theorem sub_step {x y : Nat → Int} (hx : ∀ i, 0 ≤ x i ∧ x i < B64) (hy : ∀ i, 0 ≤ y i ∧ y i < B64) (k : Nat) (w : World) :
    (callFunc 88 #[.int .u64 (x k), .int .u64 (y k), .int .u64 (borF x y k)]).run Tryd.prog w = .ok (.value (.tuple #[.int .u64 (difF x y k), .int .u64 (borF x y (k + 1))])) w :=
  sub64I _ _ _ (hx k).1 (hx k).2 (hy k).1 (hy k).2 (borF_bd x y k).1 (borF_bd x y k).2 w

set_option maxHeartbeats 800000 in
theorem takeFrom_any (x y : Nat → Int) (n bm om bn on' cm cn : Nat) (w : World) (hn : n ≤ 1000) (hne : bn ≠ bm)
    (hx : ∀ i, i < n → w.cell? ⟨bm, om + i, none⟩ = some (.int .u64 (x i)) ∧ w.frozen? ⟨bm, om + i, none⟩ = false) (hy : ∀ i, i < n → w.cell? ⟨bn, on' + i, none⟩ = some (.int .u64 (y i)))
    (hbx : ∀ i, 0 ≤ x i ∧ x i < B64) (hby : ∀ i, 0 ≤ y i ∧ y i < B64) :
    Calls Tryd.prog 68 #[.slice (some ⟨bm, om, none⟩) n cm, .slice (some ⟨bn, on', none⟩) n cn] w fun e w' =>
      e = .returned (.tuple #[]) ∧ On w w' bm ∧ (∀ i, i < n → w'.cell? ⟨bm, om + i, none⟩ = some (.int .u64 (difF x y i))) ∧ (∀ i, i < om ∨ om + n ≤ i → w'.cell? ⟨bm, i, none⟩ = w.cell? ⟨bm, i, none⟩) := by
  go_enter Tryd.func68, Tryd.ntmps68
  have Hx := Lib.hid hx; clear hx
  have Hy := Lib.hid hy; clear hy
  have Hbx := Lib.hid hbx; clear hbx
  have Hby := Lib.hid hby; clear hby
  go_wp2
  go_loopw [4, 8] (fun c i wr => ∃ j : Nat, j ≤ n ∧ i = .int .i64 j ∧ c = .int .u64 (borF x y j) ∧ On w wr bm ∧ Hid (∀ i, i < j → wr.cell? ⟨bm, om + i, none⟩ = some (.int .u64 (difF x y i))) ∧
      Hid (∀ i, i < om ∨ om + j ≤ i → wr.cell? ⟨bm, i, none⟩ = w.cell? ⟨bm, i, none⟩)) (fun _ i _ => n - (intOf i).toNat)
  case atStart => exact ⟨0, Nat.zero_le _, rfl, rfl, On.refl _ _, Lib.hid (fun i hi => by omega), Lib.hid (fun _ _ => rfl)⟩
  case round =>
    obtain ⟨j, hj, rfl, rfl, hO, H1, H2⟩ := hrel
    by_cases hjn : j < n
    · have cx : wr.cell? ⟨bm, om + j, none⟩ = some (.int .u64 (x j)) := (H2.out _ (by omega)).trans (Hx.out j hjn).1
      have fx : wr.frozen? ⟨bm, om + j, none⟩ = false := (hO.frozen _).trans (Hx.out j hjn).2
      have cy : wr.cell? ⟨bn, on' + j, none⟩ = some (.int .u64 (y j)) := (hO.cell hne).trans (Hy.out j hjn)
      have hk0 : (0 : Int) ≤ j := by omega
      have hk1 : (j : Int) < n := by omega
      have ha := fun w => sub_step Hbx.out Hby.out j w
      have HR : Hid (∀ W : World, (∀ b i, W.cell? ⟨b, i, none⟩ = (wr.setCell ⟨bm, om + j, none⟩ (.int .u64 (difF x y j))).cell? ⟨b, i, none⟩) → On w W bm → ∃ jj : Nat, jj ≤ n ∧ Value.int .i64 ((j : Int) + 1) = .int .i64 jj ∧ Value.int .u64 (borF x y (j + 1)) = .int .u64 (borF x y jj) ∧ On w W bm ∧
          Hid (∀ i, i < jj → W.cell? ⟨bm, om + i, none⟩ = some (.int .u64 (difF x y i))) ∧
          Hid (∀ i, i < om ∨ om + jj ≤ i → W.cell? ⟨bm, i, none⟩ = w.cell? ⟨bm, i, none⟩)) := by
        refine Lib.hid (fun W hW hOW => ⟨j + 1, by omega, by go_num, rfl, hOW, Lib.hid (fun i hi => ?_), Lib.hid (fun i hi => ?_)⟩)
        · rw [hW]
          by_cases e : i = j
          · subst e; exact World.cell?_setCell_same' _ _ _ (by rw [cx]; rfl)
          · rw [World.cell?_setCell_other _ _ _ _ (fun h => e (by have := congrArg Addr.off h; simp at this; omega))]; exact H1.out i (by omega)
        · rw [hW, World.cell?_setCell_other _ _ _ _ (fun h => by have := congrArg Addr.off h; simp at this; omega)]; exact H2.out i (by omega)
      go_wp2
      go_region
      go_wp2
      go_roundw
      case rel => exact HR.out _ (fun _ _ => rfl) (hO.put _ _).drew
      case measure => simp [intOf]; omega
    · obtain rfl : j = n := by omega
      go_wp2
      go_end0
      exact ⟨rfl, hO, H1.out, H2.out⟩
end Go.Proofs.YtlbijchbngnmmaaDoor
