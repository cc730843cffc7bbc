/- Contract of Tags.Many. -/
import Derived.Test.YtjhcddlhhfjnaaaGreatDoorTG
import Derived.Shelf.Abstract
namespace Go.Proofs.YtjhcddlhhfjnaaaGreatDoor
open Go.RowKit Go.Sort Go.Shelf
attribute [local go_sem] Oper.semAt_some

/-- How often a number is there, as it is looked for in a rising list. -/
def manyI : List (Int × Int) → Int → Int
  | [], _ => 0
  | p :: r, n => if p.1 = n then p.2 else if n < p.1 then 0 else manyI r n
theorem drop_pre {α : Type} {pre : List α} {x : α} {cs : List α} (h : pre ++ [x] <+: cs) : cs.drop pre.length = x :: cs.drop (pre.length + 1) := by
  obtain ⟨t, rfl⟩ := h
  simp
set_option maxRecDepth 100000 in
set_option maxHeartbeats 4000000 in
theorem many_any (cs : List (Int × Int)) (A : Option Addr) (N c : Nat) (n : Int) (w : World) (hN : N = cs.length) (hb : N ≤ 3000) (hA : CellsS w A (cntCs cs)) :
    Calls Tryz.prog 24 #[.agg #[.slice A N c], .int .i64 n] w fun e w' => e = .returned (.int .i64 (manyI cs n)) ∧ Below w.heap.size w w' := by
  have HU := Lib.hid (fun E W (hE : Row W E [.slice A N c]) (hA : CellsS W A (cntCs cs)) => all1_u 7 E cs A N c W hN hb hE hA)
  have HA := Lib.hid hA
  have HN := Lib.hid hN
  clear hA hN
  refine (callsIn_wide (n := 9)).1 ?_
  refine callsIn_of_wp_marks Tryz.func24 rfl trivial ?_ rfl
  simp only [Tryz.ntmps24, List.size_toArray, List.length_cons, List.length_nil, Nat.reduceAdd, Nat.reduceSub, Array.replicate_succ, Array.replicate_zero, List.push_toArray, List.append_toArray, List.nil_append, List.cons_append]
  refine wpIn_wide.2 ?_
  go_wp2_with fail
  generalize hW : World.alloc _ _ = W0
  have hR2 : Row W0 (w.heap.size + 1) [.int .i64 n] := by rw [← hW]; exact (Row.at (by simp) [.int .i64 n] _).alloc _
  have hR3 : Row W0 (w.heap.size + 1 + 1) [.int .i64 0] := by rw [← hW]; exact Row.at (by simp) _ _
  have hR1 : Row W0 w.heap.size [.slice A N c] := by rw [← hW]; exact ((Row.at rfl [_] _).alloc _).alloc _
  have hB : Below w.heap.size w W0 := by rw [← hW]; exact (((Below.refl _ _).alloc (Nat.le_refl _) _).alloc (by simp) _).alloc (by simp; omega) _
  clear hW
  go_step3
  go_wp2_with fail
  go_step3
  have x0 := hR1.c 0 rfl
  go_wp2_with fail
  refine (all_any A N c _).mono ?_
  rintro e W1 ⟨E, rfl, hEs, hRE, hb⟩
  replace hR2 := hR2.after hb
  replace hR3 := hR3.after hb
  replace hB := hB.trans (hb.mono hB.size)
  have hW0 := hb.size
  clear hb x0 hR1
  go_wp2_with fail
  refine (wpIn_wide (n := 9)).1 ?_
  refine wpIn_range_u (α := Int × Int) rfl (by omega) (gf := 49) (lb := #[.pointer (some ⟨E, 0, none⟩)]) rfl trivial (enters_of Tryz.func49 (by kernel_rfl) rfl)
    (HU.out E W1 hRE (HA.out.after hB)) KeepsO.trans (fun _ l W _ o' h _ _ _ => KeepsO.turn W o' (fun h0 a ha => CellsS.far (HA.out.after hB) h (by rw [cntCs_len, ← HN.out]; omega) a ha)) (fun _ _ _ h => KeepsO.below h) (Below.refl _ _) (fun _ => rfl)
    (fun pre W => Hid (manyI cs n = manyI (cs.drop pre.length) n) ∧ Row W (w.heap.size + 1) [.int .i64 n] ∧ Row W (w.heap.size + 1 + 1) [.int .i64 0] ∧ Below w.heap.size w W)
    (fun c' pre W => c' = .exit 0 ∧ Row W (w.heap.size + 1 + 1) [.int .i64 (manyI cs n)] ∧ Below w.heap.size w W)
    (fun _ X Y h hb => ⟨h.1, h.2.1.below hb hR2.1, h.2.2.1.below hb hR3.1, h.2.2.2.trans (hb.mono hB.size)⟩) (fun _ _ X Y h hb => ⟨h.1, h.2.1.below hb hR3.1, h.2.2.trans (hb.mono hB.size)⟩) ⟨Lib.hid rfl, hR2, hR3, hB⟩
    (fun x a' _ => a' = { tmps := #[.agg #[.slice A N c], .int .i64 n, .pointer (some ⟨w.heap.size, 0, none⟩), .pointer (some ⟨w.heap.size + 1, 0, none⟩), .pointer (some ⟨w.heap.size + 1 + 1, 0, none⟩), .int .i64 x.1, .int .i64 x.2, .agg #[.slice A N c], .func (.func 49) #[] #[.pointer (some ⟨E, 0, none⟩)], .int .i64 x.1, .int .i64 x.2, undef, undef, undef, undef, undef, undef, undef, undef, undef, undef], defers := [] })
    (fun x a' W lo o h1 h2 e => e) ?assign ?body ?done ?stop
  case assign =>
    intro l' pre x W K hI hW hK
    clear hI
    unfold encC
    gi_wp2
    exact hK _ _ (Below.refl _ _) rfl
  case body =>
    rintro l' pre x a' W ⟨hI1, hI2, hI3, hI4⟩ hW hp rfl
    have b0 := hI2.c 0 rfl
    have r0 := hI3.c 0 rfl
    have f0 := hI3.f 0 rfl
    have HI := Lib.hid (And.intro hI1 (And.intro hI2 (And.intro hI3 hI4)))
    have hd : Hid (manyI cs n = if x.1 = n then x.2 else if n < x.1 then 0 else manyI (cs.drop (pre.length + 1)) n) := Lib.hid (by
      rw [hI1.out, drop_pre hp]; rfl)
    clear hI1 hI2 hI3 hI4 hp
    have hfar : Hid (0 < N → ∀ a, A = some a → a.block ≠ w.heap.size + 1 + 1) := Lib.hid (fun h0 a ha => CellsS.far HA.out (by omega) (by rw [cntCs_len, ← HN.out]; omega) a ha)
    have hs3 := hR3.1
    by_cases h1 : x.1 = n
    · have HV : Hid (manyI cs n = x.2) := Lib.hid (by rw [hd.out, if_pos h1])
      clear hd
      have h1' : (x.1 == n) = true := by simpa using h1
      clear h1
      gi_wp2
      exact ⟨KeepsFrom.put ((keeps_below (Below.refl _ _)).from _) hs3 _, (KeepsO.below (Below.refl _ _)).put hfar.out _ _, rfl, by rw [HV.out]; exact HI.out.2.2.1.set 0 (by simp) _, below_put1 HI.out.2.2.2 (by omega) _ _⟩
    · have h1' : (x.1 == n) = false := by simpa using h1
      by_cases h2 : n < x.1
      · have HV : Hid (manyI cs n = 0) := Lib.hid (by rw [hd.out, if_neg h1, if_pos h2])
        clear hd h1
        gi_wp2
        exact ⟨(keeps_below (Below.refl _ _)).from _, KeepsO.below (Below.refl _ _), rfl, by rw [HV.out]; exact HI.out.2.2.1, HI.out.2.2.2⟩
      · have HV : Hid (manyI cs n = manyI (cs.drop (pre ++ [x]).length) n) := Lib.hid (by rw [hd.out, if_neg h1, if_neg h2, List.length_append]; rfl)
        have h2' : decide (n < x.1) = false := decide_eq_false h2
        clear hd h1
        gi_wp2
        exact ⟨(keeps_below (Below.refl _ _)).from _, KeepsO.below (Below.refl _ _), HV, HI.out.2.1, HI.out.2.2.1, HI.out.2.2.2⟩
  case stop =>
    rintro D c' pre V hD hp ⟨rfl, hI1, hI2⟩ hK
    have hs3 := hR3.1
    have x0 := hI1.c 0 rfl
    have f0 := hI1.f 0 rfl
    have HI := Lib.hid (And.intro hI1 hI2)
    have hD1 : D < V.heap.size := (Array.getElem?_eq_some_iff.1 hK).1
    have HK := Lib.hid hK
    clear hI1 hI2 hK hR2 hR3 hRE
    refine wpIn_wide.2 ?_
    go_wp2_with fail
    have hM : Marks W1.heap.size [D] (V.setCell ⟨w.heap.size + 1 + 1, 0, none⟩ (.int .i64 (manyI cs n))) := ⟨hD, (Below.heap_setCell _ _ _ _ (by show D ≠ w.heap.size + 1 + 1; omega)).trans HK.out, by simp, trivial⟩
    have r7 := HI.out.1.set 0 (by simp) (.int .i64 (manyI cs n))
    have hb7 : Below w.heap.size w (V.setCell ⟨w.heap.size + 1 + 1, 0, none⟩ (.int .i64 (manyI cs n))) := below_put1 HI.out.2 (by omega) _ _
    generalize V.setCell ⟨w.heap.size + 1 + 1, 0, none⟩ (.int .i64 (manyI cs n)) = V4 at *
    refine leaves_marks [D] V4 hM fun V5 hV => ?_
    have c1 := (r7.below hV hs3).c 0 rfl
    exact ⟨.int .i64 (manyI cs n), by simp [results, Tryz.results24, go_sem, c1], rfl, hb7.trans (hV.mono hB.size)⟩
  case done =>
    rintro D V hD ⟨hI1, hI2, hI3, hI4⟩ hK
    have h0 : manyI cs n = 0 := by have := hI1.out; rw [List.drop_of_length_le (Nat.le_refl _)] at this; exact this
    rw [← h0] at hI3
    have hs3 := hR3.1
    have x0 := hI3.c 0 rfl
    have f0 := hI3.f 0 rfl
    have HI := Lib.hid (And.intro hI3 hI4)
    have hD1 : D < V.heap.size := (Array.getElem?_eq_some_iff.1 hK).1
    have HK := Lib.hid hK
    clear hI1 hI2 hI3 hI4 hK hR2 hR3 hRE h0
    go_wp2_with fail
    have hM : Marks W1.heap.size [D] (V.setCell ⟨w.heap.size + 1 + 1, 0, none⟩ (.int .i64 (manyI cs n))) := ⟨hD, (Below.heap_setCell _ _ _ _ (by show D ≠ w.heap.size + 1 + 1; omega)).trans HK.out, by simp, trivial⟩
    have r7 := HI.out.1.set 0 (by simp) (.int .i64 (manyI cs n))
    have hb7 : Below w.heap.size w (V.setCell ⟨w.heap.size + 1 + 1, 0, none⟩ (.int .i64 (manyI cs n))) := below_put1 HI.out.2 (by omega) _ _
    generalize V.setCell ⟨w.heap.size + 1 + 1, 0, none⟩ (.int .i64 (manyI cs n)) = V4 at *
    refine leaves_marks [D] V4 hM fun V5 hV => ?_
    have c1 := (r7.below hV hs3).c 0 rfl
    exact ⟨.int .i64 (manyI cs n), by simp [results, Tryz.results24, go_sem, c1], rfl, hb7.trans (hV.mono hB.size)⟩
end Go.Proofs.YtjhcddlhhfjnaaaGreatDoor
