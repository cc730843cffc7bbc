import Derived.Test.YtdfmmkidknginaaGreatDoorZKkZD
import Derived.Test.YtdfmmkidknginaaGreatDoorZKkSC
import Derived.ScopeJumps
namespace Go.Proofs.YtdfmmkidknginaaGreatDoor
open Go.RowKit Go.Sort
attribute [local go_sem] Oper.semAt_some

def rx (R0 R1 : List Value) (pre : List (Bool × ByteArray)) : List Value := if pre.isEmpty = true then R0 else R1
theorem KB.ofBelow' {B N : Nat} {a w : World} (h : Below B a w) : KB B N a w := ⟨h.os, h.tape, h.output, h.size, fun k hk _ => h.block k hk⟩
theorem one_round {α : Type} {pre : List α} {x y : α} (h : (pre ++ [x]) <+: [y]) : pre = [] ∧ x = y := by
 have hl := h.length_le
 have hp : pre = [] := List.eq_nil_of_length_eq_zero (by simpa using hl)
 subst hp
 have := h.eq_of_length rfl
 exact ⟨rfl, by simpa using this⟩
set_option maxRecDepth 100000 in
set_option maxHeartbeats 8000000 in
theorem rread_core (X : Nat) (s : ByteArray) (ab nb bb : Bool) (a1 a2 a3 a4 n1 n2 n3 n4 b1 b2 b3 b4 : Int) (w : World) (hX : Row w X [.bool ab, .int .u64 a1, .int .u64 a2, .int .u64 a3, .int .u64 a4, .bool bb, .int .u64 b1, .int .u64 b2, .int .u64 b3, .int .u64 b4]) (hs : s.size < 4294967281) (hno : (47 : UInt8) ∉ s.data.toList) (hc : CutOk w)
 (HP : Hid (∀ W, Calls Tryz.prog 210 #[.string s] W fun e w' => e = .returned (.tuple #[.agg #[.bool nb, .int .u64 n1, .int .u64 n2, .int .u64 n3, .int .u64 n4], .int .i64 0]) ∧ Below W.heap.size W w'))
 (HCh : Hid (∀ W, KB w.heap.size X w W → Calls Tryz.prog 121 #[.agg #[.bool nb, .int .u64 n1, .int .u64 n2, .int .u64 n3, .int .u64 n4, .bool bb, .int .u64 b1, .int .u64 b2, .int .u64 b3, .int .u64 b4]] W fun e w' => e = .returned (.int .i64 0) ∧ Below W.heap.size W w')) :
 Calls Tryz.prog 198 #[.pointer (some ⟨X, 0, none⟩), .string s] w fun e w' => e = .returned (.tuple #[]) ∧ Row w' X [.bool nb, .int .u64 n1, .int .u64 n2, .int .u64 n3, .int .u64 n4, .bool bb, .int .u64 b1, .int .u64 b2, .int .u64 b3, .int .u64 b4] ∧ KB w.heap.size X w w' := by
 have hlX := hX.lt
 refine (callsIn_wide (n := 9)).1 ?_
 refine callsIn_of_wp_marks Tryz.func198 rfl trivial ?_ rfl
 simp only [Tryz.ntmps198, List.size_toArray, List.length_cons, List.length_nil, Nat.reduceAdd, Nat.reduceSub, Array.replicate_succ, Array.replicate_zero, List.push_toArray, List.append_toArray, List.nil_append, List.cons_append]
 refine wpIn_wide.2 ?_
 go_wp2_with fail
 refine wp_scope_straight ?_
 go_wp2_with fail
 generalize hW : World.alloc _ _ = W0
 have hR : Row W0 w.heap.size [.pointer (some ⟨X, 0, none⟩)] := by rw [← hW]; exact (Row.at rfl _ _).alloc _
 have hR2 : Row W0 (w.heap.size + 1) [.int .i64 0] := by rw [← hW]; exact Row.at (by simp) _ _
 have hB : Below w.heap.size w W0 := by rw [← hW]; exact ((Below.refl _ _).alloc (Nat.le_refl _) _).alloc (by simp) _
 clear hW
 refine wp_label ?_
 go_wp2_with fail
 refine (digits_any2 s _).mono ?_
 rintro e W1 ⟨E, rfl, hEs, hRE, hb⟩
 have hR2' := hR2.1
 replace hR := hR.after hb
 replace hR2 := hR2.after hb
 replace hB := hB.trans (hb.mono hB.size)
 have hW0 := hb.size
 have hC1 : CutOk W1 := hc.below hB
 have hX1 := hX.below hB hlX
 clear hb
 have HI0 := Lib.hid (And.intro hR (And.intro hR2 (And.intro hX1 hB)))
 go_wp2_with fail
 refine (wpIn_wide (n := 9)).1 ?_
 refine wpIn_range_u (α := Bool × ByteArray) rfl (by omega) (gf := 222) (lb := #[.pointer (some ⟨E, 0, none⟩)]) rfl trivial (enters_of Tryz.func222 (by kernel_rfl) rfl)
  (digits_u 7 E s W1 hRE hs hno hC1) KeepsB.trans (fun _ l W _ o' h _ _ _ => KeepsB.turn W o' (by have := hRE.1; omega)) (fun _ _ _ h => KeepsB.below h) (Below.refl _ _) (fun _ => rfl)
  (fun pre W => Row W w.heap.size [.pointer (some ⟨X, 0, none⟩)] ∧ Row W (w.heap.size + 1) [.int .i64 0] ∧ Row W X (rx [.bool ab, .int .u64 a1, .int .u64 a2, .int .u64 a3, .int .u64 a4, .bool bb, .int .u64 b1, .int .u64 b2, .int .u64 b3, .int .u64 b4] [.bool nb, .int .u64 n1, .int .u64 n2, .int .u64 n3, .int .u64 n4, .bool bb, .int .u64 b1, .int .u64 b2, .int .u64 b3, .int .u64 b4] pre) ∧ KB w.heap.size X w W) (fun _ _ _ => False)
  (fun _ X Y h hb => ⟨h.1.below hb hR.1, h.2.1.below hb hR2.1, h.2.2.1.below hb hX1.1, h.2.2.2.below hb hB.size⟩) (fun _ _ _ _ h _ => h.elim) ⟨hR, hR2, hX1, KB.ofBelow' hB⟩
  (fun x a' _ => a' = { tmps := #[.pointer (some ⟨X, 0, none⟩), .string s, .pointer (some ⟨w.heap.size, 0, none⟩), undef, .pointer (some ⟨w.heap.size + 1, 0, none⟩), .bool x.1, .string x.2, undef, undef, .string s, .func (.func 222) #[] #[.pointer (some ⟨E, 0, none⟩)], .bool x.1, .string x.2, undef, undef, undef, undef, undef, undef, undef, undef, undef, undef, undef, undef, undef, undef, undef, undef, undef, undef, undef, undef, undef, undef, undef, undef, undef, undef, undef, undef, undef, undef, undef, undef, undef, undef, undef, undef, undef, undef, undef, undef, undef, undef, undef, undef], defers := [] })
  (fun _ _ _ _ _ _ _ h => h) ?assign ?body ?done ?stop
 case assign =>
  intro l' pre x W K hI hW hK
  clear hI
  unfold encD
  gi_wp2
  exact hK _ _ (Below.refl _ _) rfl
 case body =>
  rintro l' pre x a' W ⟨hI1, hI2, hI3, hI4⟩ hW hp rfl
  obtain ⟨rfl, rfl⟩ := one_round hp
  replace hI3 : Row W X [.bool ab, .int .u64 a1, .int .u64 a2, .int .u64 a3, .int .u64 a4, .bool bb, .int .u64 b1, .int .u64 b2, .int .u64 b3, .int .u64 b4] := hI3
  gi_wp2_with fail
  refine ⟨trivial, callsIn_wide.2 ((HP.out _).mono ?_)⟩
  rintro e W3 ⟨rfl, hb⟩
  have r1 := hI1.after hb
  have r3 := hI3.after hb
  have y0 := r1.c 0 rfl
  have x0 := r3.c 0 rfl
  have x1 := r3.c 1 rfl
  have x2 := r3.c 2 rfl
  have x3 := r3.c 3 rfl
  have x4 := r3.c 4 rfl
  have f0 := r3.f 0 rfl
  have f1 := r3.f 1 rfl
  have f2 := r3.f 2 rfl
  have f3 := r3.f 3 rfl
  have f4 := r3.f 4 rfl
  have lX := r3.lt
  have lB := r1.lt
  gi_wp2_with fail
  refine ⟨trivial, ?_⟩
  gi_wp2_with fail
  have o : On W3 (((((W3.setCell ⟨X, 0, none⟩ (.bool nb)).setCell ⟨X, 1, none⟩ (.int .u64 n1)).setCell ⟨X, 2, none⟩ (.int .u64 n2)).setCell ⟨X, 3, none⟩ (.int .u64 n3)).setCell ⟨X, 4, none⟩ (.int .u64 n4)) X :=
   (((((On.refl W3 X).put 0 _).put 1 _).put 2 _).put 3 _).put 4 _
  have rX := ((((r3.set 0 (by simp) (.bool nb)).set 1 (by simp) (.int .u64 n1)).set 2 (by simp) (.int .u64 n2)).set 3 (by simp) (.int .u64 n3)).set 4 (by simp) (.int .u64 n4)
  have kO : KeepsOthers W3 (((((W3.setCell ⟨X, 0, none⟩ (.bool nb)).setCell ⟨X, 1, none⟩ (.int .u64 n1)).setCell ⟨X, 2, none⟩ (.int .u64 n2)).setCell ⟨X, 3, none⟩ (.int .u64 n3)).setCell ⟨X, 4, none⟩ (.int .u64 n4)) :=
   ((((KeepsOthers.setCell W3 _ _).trans (KeepsOthers.setCell _ _ _)).trans (KeepsOthers.setCell _ _ _)).trans (KeepsOthers.setCell _ _ _)).trans (KeepsOthers.setCell _ _ _)
  generalize ((((W3.setCell ⟨X, 0, none⟩ (.bool nb)).setCell ⟨X, 1, none⟩ (.int .u64 n1)).setCell ⟨X, 2, none⟩ (.int .u64 n2)).setCell ⟨X, 3, none⟩ (.int .u64 n3)).setCell ⟨X, 4, none⟩ (.int .u64 n4) = W4 at *
  have hEX : E ≠ X := by have := hB.size; omega
  have hWX : w.heap.size ≠ X := by omega
  have hWY : w.heap.size + 1 ≠ X := by omega
  have r2 := hI2.after hb
  refine ⟨((keeps_below hb).trans (kO.trans (KeepsOthers.alloc _ _))).from _, (KeepsB.below hb).trans ⟨by rw [World.size_alloc, o.size]; omega, fun hl => ((Below.refl W4.heap.size W4).alloc (Nat.le_refl _) _ |>.block E (by rw [o.size]; exact hl)).trans (o.block E hEX)⟩, ?_⟩
  exact ⟨(o.row hWX r1).alloc _, (o.row hWY r2).alloc _, rX.alloc _, ((hI4.below hb (by omega)).on o (.inl rfl)).alloc (by have := hI4.size; rw [o.size]; have := hb.size; omega) _⟩
 case stop => exact fun _ _ _ _ _ _ h => h.elim
 case done =>
  rintro D V hD ⟨hI1, hI2, hI3, hI4⟩ hK
  replace hI3 : Row V X [.bool nb, .int .u64 n1, .int .u64 n2, .int .u64 n3, .int .u64 n4, .bool bb, .int .u64 b1, .int .u64 b2, .int .u64 b3, .int .u64 b4] := hI3
  have y0 := hI1.c 0 rfl
  have z0 := hI2.c 0 rfl
  have x0 := hI3.c 0 rfl
  have x1 := hI3.c 1 rfl
  have x2 := hI3.c 2 rfl
  have x3 := hI3.c 3 rfl
  have x4 := hI3.c 4 rfl
  have x5 := hI3.c 5 rfl
  have x6 := hI3.c 6 rfl
  have x7 := hI3.c 7 rfl
  have x8 := hI3.c 8 rfl
  have x9 := hI3.c 9 rfl
  have hD1 : D < V.heap.size := (Array.getElem?_eq_some_iff.1 hK).1
  go_wp2_with fail
  refine (HCh.out V hI4).mono ?_
  rintro e V1 ⟨rfl, hb⟩
  have z1 := (hI2.after hb).c 0 rfl
  have hM : Marks W1.heap.size [D] V1 := ⟨hD, (hb.block D hD1).trans hK, by simp, trivial⟩
  have hF := Lib.hid (And.intro (hI3.after hb) (hI4.below hb hI4.size))
  have hl := hX1.1
  clear y0 z0 x0 x1 x2 x3 x4 x5 x6 x7 x8 x9 hb hI1 hI2 hI3 hI4 hK HCh HP
  go_wp2_with fail
  refine (for_okS _).mono ?_
  rintro e V2 ⟨rfl, rfl⟩
  go_wp2_with fail
  refine leaves_marks [D] V1 hM fun V5 hV => ?_
  exact ⟨.tuple #[], by simp [results, Tryz.results198, go_sem], rfl, hF.out.1.below hV hl, hF.out.2.below hV hB.size⟩
end Go.Proofs.YtdfmmkidknginaaGreatDoor
