/- slices.Values over a list, as a sequence; no condition. -/
import Derived.Test.YtncgjlhmgdgokaaAS
import Derived.Test.YtncgjlhmgdgokaaPA
import Derived.RangeFuncBound
import Derived.RangeFuncCalls
import Derived.OwnWalkIn
import Derived.TacticsInMore
import Derived.LoopNIn
import Derived.LoopIn
namespace Go.Proofs.Ytncgjlhmgdgokaa
open Go.RowKit Go.Sort
attribute [local go_sem] Oper.semAt_some

/-- What a range over All hands over. -/
def encI (x : Int) : Array Value := #[.int .i64 x]
/-- The block of a slice that holds something lies as it lay. -/
def KeepsO (k : Nat) (A : Option Addr) (X Y : World) : Prop := X.heap.size ≤ Y.heap.size ∧ (0 < k → ∀ a, A = some a → KeepsB a.block X Y)
section
variable {k : Nat} {A : Option Addr} {X Y Z : World}
theorem KeepsO.trans (h : KeepsO k A X Y) (g : KeepsO k A Y Z) : KeepsO k A X Z := ⟨Nat.le_trans h.1 g.1, fun h0 a ha => (h.2 h0 a ha).trans (g.2 h0 a ha)⟩
theorem KeepsO.below (h : Below X.heap.size X Y) : KeepsO k A X Y := ⟨h.size, fun _ _ _ => KeepsB.below h⟩
theorem KeepsO.turn {l : Nat} (W : World) (o' : Obj) (hl : 0 < k → ∀ a, A = some a → a.block ≠ l) : KeepsO k A W (W.putObj l o') := ⟨by simp [World.putObj], fun h0 a ha => KeepsB.turn W o' (hl h0 a ha)⟩
theorem KeepsO.cells {xs : List Value} (h : KeepsO k A X Y) (r : CellsS X A xs) (hk : 0 < xs.length → 0 < k) : CellsS Y A xs := fun h0 => by
  obtain ⟨b, o, hA, hl⟩ := r h0
  have hb : KeepsB b X Y := h.2 (hk h0) _ hA
  exact ⟨b, o, hA, Nat.lt_of_lt_of_le hl.1 hb.1, fun j v hv => by rw [← hl.2 j v hv]; simp only [World.cell?, hb.2 hl.1]⟩
theorem CellsS.far {xs : List Value} {l : Nat} (h : CellsS X A xs) (hl : X.heap.size ≤ l) (h0 : 0 < xs.length) : ∀ a, A = some a → a.block ≠ l := fun a ha => by
  obtain ⟨b, o, hA, hb⟩ := h h0
  rw [ha] at hA; cases hA
  have := hb.1
  show b ≠ l
  omega
theorem KeepsO.put {b : Nat} (h : KeepsO k A X Y) (hb : 0 < k → ∀ a, A = some a → a.block ≠ b) (i : Nat) (v : Value) : KeepsO k A X (Y.setCell ⟨b, i, none⟩ v) :=
  ⟨by simpa [World.setCell] using h.1, fun h0 a ha => (h.2 h0 a ha).put (hb h0 a ha) i v⟩
end
set_option maxRecDepth 100000 in
set_option maxHeartbeats 3200000 in
/-- The iterator goes over the list. -/
theorem vals_u (n E : Nat) (L : List Int) (A : Option Addr) (N c : Nat) (w : World) (hN : N = L.length) (hb : N ≤ 100000) (hE : Row w E [.slice A N c]) (hA : CellsS w A (intCs L)) :
    SeqU Fence.wide (n + 1) Try.prog 51 #[.pointer (some ⟨E, 0, none⟩)] encI (fun _ => KeepsO N A) L w := by
  intro l J Jx W hW hJ hJx hY h0
  have HY := Lib.hid hY; clear hY
  have HJ := Lib.hid hJ; clear hJ
  have HN := Lib.hid hN; clear hN
  have hR := hE.after hW
  have HA := Lib.hid (hA.after hW)
  clear hE hW hA
  have c0 := hR.c 0 rfl
  clear hR
  refine callsIn_of_wp Try.func51 rfl trivial ?_ rfl
  simp only [Try.ntmps51, List.size_toArray, List.length_cons, List.length_nil, Nat.reduceAdd, Nat.reduceSub, Array.replicate_succ, Array.replicate_zero, List.push_toArray, List.append_toArray, List.nil_append, List.cons_append]
  gi_wp2
  clear c0
  gi_loopw [7] (fun i wr => ∃ (j : Nat), j ≤ N ∧ i = .int .i64 j ∧ J (L.take j) wr ∧ W.heap.size ≤ wr.heap.size ∧ Hid (CellsS wr A (intCs L))) (fun i _ => N - (intOf i).toNat)
  case atStart => exact ⟨0, Nat.zero_le _, rfl, h0, Nat.le_refl _, HA⟩
  case round =>
    obtain ⟨j, hj, rfl, hJr, hs, HS⟩ := hrel
    clear HA h0
    by_cases hjn : j < N
    · have hj1 : (j : Int) < N := by omega
      obtain ⟨p, hp⟩ : ∃ p, L[j]? = some p := ⟨_, List.getElem?_eq_getElem (by rw [← HN.out]; exact hjn)⟩
      obtain ⟨b, o, rfl, hl⟩ := HS.out (by rw [intCs_len, ← HN.out]; omega)
      have c0 : wr.cell? ⟨b, o + j, none⟩ = some (.int .i64 p) := hl.2 _ _ (intCs_get hp)
      have HT : Hid (L.take (j + 1) = L.take j ++ [p]) := Lib.hid (by rw [List.take_add_one, hp]; rfl)
      obtain ⟨fn, tmps, assign, body, hy, hr⟩ := HY.out (L.take j) p _ hJr hs (HT.out ▸ List.take_prefix _ _)
      have HR := Lib.hid hr
      unfold encI at hy
      clear hr hl hp
      gi_wp2
      refine HR.out.mono ?_
      rintro e W2 ⟨bb, rfl, hk, hb⟩
      clear hy HR c0
      cases bb with
      | true =>
        rw [if_pos rfl, ← HT.out] at hb
        have HS2 : Hid (CellsS W2 (some ⟨b, o, none⟩) (intCs L)) := Lib.hid (hk.cells HS.out (fun _ => by omega))
        have hs2 : W.heap.size ≤ W2.heap.size := Nat.le_trans hs hk.1
        clear hk
        gi_wp2
        go_roundw
        case rel => exact ⟨j + 1, by omega, by go_num, hb, hs2, HS2⟩
        case measure => simp [intOf]; omega
      | false =>
        have hb' : Jx (L.take j ++ [p]) W2 := hb
        have HP : Hid (L.take j ++ [p] <+: L) := Lib.hid (by rw [← HT.out]; exact List.take_prefix _ _)
        clear hb hk
        gi_wp2
        first | go_end0 | refine bodyPost_ret (results_none rfl _ _ _) rfl ?_
        exact ⟨⟨_, rfl⟩, .inr ⟨_, HP.out, hb'⟩⟩
    · obtain rfl : j = N := by omega
      have hJt : J L wr := by rw [List.take_of_length_le (by rw [← HN.out]; exact Nat.le_refl _)] at hJr; exact hJr
      clear hJr
      gi_wp2
      first | go_end0 | refine bodyPost_ret (results_none rfl _ _ _) rfl ?_
      exact ⟨⟨_, rfl⟩, .inl hJt⟩
end Go.Proofs.Ytncgjlhmgdgokaa
