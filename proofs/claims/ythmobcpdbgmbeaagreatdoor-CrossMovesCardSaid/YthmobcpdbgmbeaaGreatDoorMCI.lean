/- What LimbSums' walk leans on: rows of blocks known together; when all Ints of a slice may be; LimbSums of too many Ints. -/
import Derived.Test.YthmobcpdbgmbeaaGreatDoorMBX
import Derived.Test.YthmobcpdbgmbeaaGreatDoorMBO
import Derived.Test.YthmobcpdbgmbeaaGreatDoorE
import Derived.Test.YthmobcpdbgmbeaaGreatDoorT
import Derived.Test.YthmobcpdbgmbeaaGreatDoorBase
import Derived.Test.YthmobcpdbgmbeaaGreatDoorShelf
import Derived.Lib.AppendIntMem
import Derived.Lib.QuietBelow
import Derived.Test.YthmobcpdbgmbeaaGreatDoorJ
import Derived.BigQuiet
import Derived.Laws.StructEq
namespace Go.Proofs.YthmobcpdbgmbeaaGreatDoor
open Go.RowKit
/-- The blocks of a list are known, and what was there at the call is as it was. -/
def RS (w : World) (L : List (Nat × List Value)) (W : World) : Prop := (∀ p, p ∈ L → Row W p.1 p.2) ∧ Below w.heap.size w W
section
variable {w W W1 : World} {L : List (Nat × List Value)}
theorem RS.after (h : RS w L W) (hb : Below W.heap.size W W1) : RS w L W1 := ⟨fun p hp => (h.1 p hp).after hb, h.2.trans (hb.mono h.2.size)⟩
theorem RS.drew (h : RS w L W) : RS w L W.drew := ⟨fun p hp => (h.1 p hp).drew, h.2.drew⟩
theorem RS.new (h : RS w L W) {B : Nat} (hB : B = W.heap.size) (vs : List Value) (t : TypeId) : RS w (L ++ [(B, vs)]) (W.alloc (.cells vs.toArray t)) := by
  refine ⟨fun p hp => ?_, h.2.alloc h.2.size _⟩
  rcases List.mem_append.1 hp with h1 | h1
  · exact (h.1 p h1).alloc _
  · obtain rfl := List.mem_singleton.1 h1
    exact Row.at hB _ _
theorem RS.row (h : RS w L W) (k : Nat) {b : Nat} {vs : List Value} (hk : L[k]? = some (b, vs)) : Row W b vs := h.1 (b, vs) (List.mem_of_getElem? hk)
theorem RS.c (h : RS w L W) (k : Nat) {b : Nat} {vs : List Value} (hk : L[k]? = some (b, vs)) (i : Nat) {v : Value} (hv : vs[i]? = some v) : W.cell? ⟨b, i, none⟩ = some v := (h.row k hk).c i hv
end
end Go.Proofs.YthmobcpdbgmbeaaGreatDoor
namespace Go.Proofs.YthmobcpdbgmbeaaGreatDoor
open Go.RowKit
end Go.Proofs.YthmobcpdbgmbeaaGreatDoor
namespace Go.Proofs.YthmobcpdbgmbeaaGreatDoor
open Go.RowKit
/-- What stands while LimbSums' last call runs. -/
def S3 (w : World) (ra rb dv : List Value) (B : Nat) (W : World) : Prop := RS w [(w.heap.size, ra), (w.heap.size + 1, rb), (B, dv)] W
section
variable {w W W1 : World} {ra rb dv : List Value} {B : Nat}
theorem S3.c (h : S3 w ra rb dv B W) (k : Nat) {b : Nat} {vs : List Value} (hk : [(w.heap.size, ra), (w.heap.size + 1, rb), (B, dv)][k]? = some (b, vs)) (i : Nat) {v : Value} (hv : vs[i]? = some v) : W.cell? ⟨b, i, none⟩ = some v := RS.c (L := [(w.heap.size, ra), (w.heap.size + 1, rb), (B, dv)]) h k hk i hv
theorem S3.drew (h : S3 w ra rb dv B W) : S3 w ra rb dv B W.drew := RS.drew h
theorem S3.after (h : S3 w ra rb dv B W) (hb : Below W.heap.size W W1) : S3 w ra rb dv B W1 := RS.after h hb
theorem S3.alloc (h : S3 w ra rb dv B W) (o : Obj) : S3 w ra rb dv B (W.alloc o) := RS.after h ((Below.refl _ _).alloc (Nat.le_refl _) _)
theorem S3.put5 (h : S3 w ra rb dv B W) {C : Nat} (hB : B < C) (hC : w.heap.size + 1 < C) (y0 y1 y2 y3 y4 : Value) :
    S3 w ra rb dv B (((((W.setCell ⟨C, 0, none⟩ y0).setCell ⟨C, 1, none⟩ y1).setCell ⟨C, 2, none⟩ y2).setCell ⟨C, 3, none⟩ y3).setCell ⟨C, 4, none⟩ y4) :=
  ⟨fun p hp => by
    rcases List.mem_cons.1 hp with rfl | hp
    · exact (RS.row h 0 rfl).other5 (by show C ≠ w.heap.size; omega) _ _ _ _ _
    · rcases List.mem_cons.1 hp with rfl | hp
      · exact (RS.row h 1 rfl).other5 (by show C ≠ w.heap.size + 1; omega) _ _ _ _ _
      · obtain rfl := List.mem_singleton.1 hp
        exact (RS.row h 2 rfl).other5 (by show C ≠ B; omega) _ _ _ _ _, below_put5 h.2 (by omega) _ _ _ _ _⟩
theorem S3.two (h : S3 w ra rb dv B W) {C : Nat} {vs : List Value} (hr : Row W C vs) : RS w [(B, dv), (C, vs)] W :=
  ⟨fun p hp => by
    rcases List.mem_cons.1 hp with rfl | hp
    · exact RS.row h 2 rfl
    · obtain rfl := List.mem_singleton.1 hp
      exact hr, h.2⟩
theorem S3.made (h : S3 w ra rb dv B W) (us : List Value) (t : TypeId) : Hid (RS w [(B, dv), (W.heap.size, us)] (W.alloc (.cells us.toArray t))) := Lib.hid (S3.two (h.alloc _) (Row.at rfl _ _))
end
theorem sub_out (x y : Int) (hx : x.natAbs < T256) : ansz (zfold (fun a b => a + b) (fun i => if i = 0 then x else -y) 0 2) = outV (x - y) := by
  have h1 : zfold (fun a b => a + b) (fun i => if i = 0 then x else -y) 0 1 = some x := by
    have h := zfold_some (op := fun a b => a + b) (zs := fun i => if i = 0 then x else -y) (z0 := 0) (z := 0) (k := 0) rfl (by simpa using hx)
    simpa using h
  unfold outV
  by_cases hf : (x - y).natAbs < T256
  · have h := zfold_some (op := fun a b => a + b) (k := 1) h1 (by simpa [Int.sub_eq_add_neg] using hf)
    rw [if_pos hf, h, ansz]
    simp [Int.sub_eq_add_neg]
  · have h := zfold_stop (op := fun a b => a + b) (k := 1) (n := 2) h1 (by simpa [Int.sub_eq_add_neg] using hf) (by omega)
    rw [if_neg hf, h, ansz, ivz_nought]
theorem sub_outs (x y : Int) (w : World) (hx : x.natAbs < T256) (hy : y.natAbs < T256) : Calls Tryz.prog 96 #[ivz x, ivz y] w fun e w' => e = .returned (outV (x - y)) ∧ Below w.heap.size w w' := by
  have h := sub_z x y w hx hy
  rw [sub_out x y hx] at h
  exact h
theorem word_row (z : Int) (hz : z.natAbs < T256) : RN (decide (z < 0)) (fun k => ((W64 z.natAbs k : Nat) : Int)) z := RN.of hz (fun i => W64_bd _ i) (fun _ _ => rfl)
theorem mul_nums (A : Option Addr) (b o n c : Nat) (zs : Nat → Int) (w : World) (hn : n ≤ 1000) (lb : b < w.heap.size)
    (hi : IntsAt w b o n (fun i => decide (zs i < 0)) (fun i k => (W64 (zs i).natAbs k : Nat))) (hz : ∀ i, i < n → (zs i).natAbs < T256) (hA : 0 < n → A = some ⟨b, o, none⟩) :
    Calls Tryz.prog 77 #[.slice A n c] w fun e w' => e = .returned (ansz (zfold (fun a b => a * b) zs 1 n)) ∧ Below w.heap.size w w' := by
  have h := mul_o A b o n c _ _ w (by omega) lb hi (fun i k => W64_bd _ k) hA
  rw [after_num (zs := zs) step_times one_num n (fun i hi => word_row _ (hz i hi))] at h
  exact h
theorem neg_outs (x : Int) (hx : x.natAbs < T256) : outV (-x) = .tuple #[ivz (-x), .int .i64 0] := by rw [outV, if_pos (by rw [Int.natAbs_neg]; exact hx)]
theorem right_num (z : Int) (hz : z.natAbs < T256) : rightB (decide (z < 0)) (W64 z.natAbs 0 : Nat) (W64 z.natAbs 1 : Nat) (W64 z.natAbs 2 : Nat) (W64 z.natAbs 3 : Nat) = true := by rw [rightB, ivz_right z hz]; rfl
end Go.Proofs.YthmobcpdbgmbeaaGreatDoor
