/- Contracts of the document's of and Num by the number's value. -/
import Derived.Test.YtlbijchbngnmmaaDoorBB
import Derived.OwnWalk
namespace Go.Proofs.YtlbijchbngnmmaaDoor
open Go.RowKit

set_option maxHeartbeats 400000 in
theorem cut_nought (A : Option Addr) (c : Nat) (w : World) : Calls Tryd.prog 55 #[.slice A 0 c] w fun e w' => e = .returned (.slice A 0 c) ∧ w = w' := by
  go_enter Tryd.func55, Tryd.ntmps55
  go_wp2
  refine wp_loop_rounds 1 ?_
  iterate 1 (rw [rounds_succ]; go_wp2)
  go_ret
  exact ⟨rfl, rfl⟩
set_option maxHeartbeats 400000 in
theorem of_nought (s : Bool) (A : Option Addr) (c : Nat) (w : World) :
    Calls Tryd.prog 43 #[.bool s, .slice A 0 c] w fun e w' => e = .returned (.agg #[.bool false, .slice A 0 c]) ∧ Below w.heap.size w w' := by
  go_enter Tryd.func43, Tryd.ntmps43
  go_wp2_with fail
  have hB : Below w.heap.size w (w.alloc (Obj.cells #[.bool false, .slice none 0 0] 30)) := (Below.refl w.heap.size w).alloc (Nat.le_refl _) _
  refine (cut_nought A c _).mono ?_
  rintro e w1 ⟨rfl, rfl⟩
  have rB : Row (w.alloc (Obj.cells #[.bool false, .slice none 0 0] 30)) w.heap.size [.bool false, .slice none 0 0] := Row.at rfl _ _
  generalize (w.alloc (Obj.cells #[.bool false, .slice none 0 0] 30)) = W1 at hB rB ⊢
  have c0 := rB.c 0 rfl
  have c1 := rB.c 1 rfl
  have f0 := rB.f 0 rfl
  have f1 := rB.f 1 rfl
  cases s
  all_goals
    go_wp2_with fail
    generalize hW2 : World.setCell _ _ _ = W2
    have rR : Row W2 w.heap.size [.bool false, .slice A 0 c] := by rw [← hW2]; exact (rB.set 0 (by simp) _).set 1 (by simp) _
    have hB2 : Below w.heap.size w W2 := by rw [← hW2]; exact below_put1 (below_put1 hB (Nat.le_refl _) 0 _) (Nat.le_refl _) 1 _
    exact bodyPost_ret (v := .agg #[.bool false, .slice A 0 c]) (by simp [results, Tryd.results43, go_sem, rR.c 0 rfl, rR.c 1 rfl]) rfl ⟨rfl, hB2⟩

/-- A row of n digits of m, wherever it lies. -/
def DR (w : World) (x : Nat → Int) (n : Nat) (A : Option Addr) : Prop := 0 < n → ∃ b, A = some ⟨b, 0, none⟩ ∧ b < w.heap.size ∧ ∀ i, i < n → w.cell? ⟨b, i, none⟩ = some (.int .i64 (x i))
theorem DS.set {w : World} {m : Nat} {A : Option Addr} (h : DS w m A) {q : Addr} (hq : ∀ p, A = some p → q.block ≠ p.block) (v : Value) : DS (w.setCell q v) m A := fun hm => by
  obtain ⟨b, e, hl, hc⟩ := h hm
  refine ⟨b, e, by simpa [World.setCell] using hl, fun i hi => ?_⟩
  rw [World.cell?_setCell_other _ _ _ _ (fun e2 => hq _ e (by rw [e2]))]
  exact hc i hi
theorem BigPost.mk {w w' : World} {z : Int} {A : Option Addr} {c : Nat} (hc : L16 z.natAbs ≤ c) (hd : DS w' z.natAbs A) (hb : Below w.heap.size w w') : BigPost w z (.returned (bigv z A c)) w' := ⟨A, c, rfl, hc, hd, hb⟩
/-- What of makes of a sign and of digits: the number. -/
theorem of_z (s : Bool) (m n : Nat) (A : Option Addr) (c : Nat) (z : Int) (w : World) (hz : z = if s then -(m : Int) else m) (hm : L16 m ≤ n) (hn : n ≤ 1000000) (hc : n ≤ c) (hd : DR w (digR m) n A) :
    Calls Tryd.prog 43 #[.bool s, .slice A n c] w fun e w' => e = .returned (bigv z A c) ∧ L16 z.natAbs ≤ c ∧ DS w' z.natAbs A ∧ Below w.heap.size w w' := by
  have ha : z.natAbs = m := by rw [hz]; split <;> omega
  rcases Nat.eq_zero_or_pos n with rfl | hp
  · have h0 : m = 0 := L16_zero (by omega)
    subst h0
    have : z = 0 := by omega
    subst this
    refine (of_nought s A c w).mono ?_
    rintro e w' ⟨rfl, hb⟩
    refine ⟨by rw [bigv]; simp [L16_nought], ?_, DS.nought A, hb⟩
    show L16 0 ≤ c
    rw [L16_nought]; omega
  · obtain ⟨b, rfl, hl, hx⟩ := hd hp
    refine (big_of s (digR m) n b 0 c w hn hc hl (fun i hi => by rw [Nat.zero_add]; exact hx i hi)).mono ?_
    rintro e w' ⟨rfl, hb⟩
    rw [cut_digR hm]
    refine ⟨?_, by rw [ha]; omega, ?_, hb⟩
    · rw [bigv, ha]
      congr 4
      rw [hz]
      cases s
      · simp
      · by_cases h0 : m = 0
        · subst h0; simp [L16_nought]
        · have : 0 < L16 m := Nat.pos_of_ne_zero (fun h => h0 (L16_zero h))
          simp [this]; omega
    · rw [ha]
      exact fun _ => ⟨b, rfl, Nat.lt_of_lt_of_le hl hb.size, fun i hi => (hb.cell (p := ⟨b, i, none⟩) hl).trans (hx i (by omega))⟩
end Go.Proofs.YtlbijchbngnmmaaDoor
