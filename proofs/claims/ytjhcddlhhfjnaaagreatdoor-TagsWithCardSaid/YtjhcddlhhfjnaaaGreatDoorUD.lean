/- Contract of tags.Parse. -/
import Derived.Test.YtjhcddlhhfjnaaaGreatDoorUC
namespace Go.Proofs.YtjhcddlhhfjnaaaGreatDoor
open Go.RowKit Go.Sort Go.Shelf

theorem load_str {w : World} {b : Nat} {v : ByteArray} (h : Row w b [.string v]) : (loadVar 9 ⟨b, 0, none⟩).run Tryz.prog w = .ok (.string v) w := by
  have hc := h.c 0 rfl
  have ha := Tryz.isAgg9
  simp [loadVar, ha, hc]
set_option maxHeartbeats 1600000 in
theorem parse1_any (s : ByteArray) (B : Nat) (w : World) (hs : s.size ≤ 1000000) (hv : VarS w) (hB : Row w B [.string s]) :
    Calls Tryz.prog 40 #[.pointer (some ⟨B, 0, none⟩)] w (WorkPost w (readE (wordsB s)) (readL (wordsB s))) := by
  have HR := Lib.hid (fun W (hb : Below w.heap.size w W) => read_any s W hs (hv.after hb))
  have x0 := hB.c 0 rfl
  have lB := hB.1
  clear hv hB hs
  generalize readE (wordsB s) = er at HR ⊢
  generalize readL (wordsB s) = cs at HR ⊢
  go_enter Tryz.func40, Tryz.ntmps40
  go_wp2_with fail
  generalize hW : World.alloc _ _ = W0
  have hR2 : Row W0 w.heap.size [.slice none 0 0] := by rw [← hW]; exact Row.at rfl [_] _
  have hB0 : Below w.heap.size w W0 := by rw [← hW]; exact (Below.refl _ _).alloc (Nat.le_refl _) _
  clear hW
  refine (HR.out _ hB0).mono ?_
  rintro e w2 ⟨hb2, ⟨rfl, A, N, c, rfl, hN, hC, hc, hf⟩ | ⟨he, rfl, rfl⟩⟩
  · have hz := hR2.1
    have r2 := hR2.after hb2
    have y0 := r2.c 0 rfl
    have g0 := r2.f 0 rfl
    have z0 := (r2.set 0 (by simp) (.slice A N c)).c 0 rfl
    have HP : Hid (WorkPost w 0 cs (.returned (.agg #[.slice A N c])) (w2.setCell ⟨w.heap.size, 0, none⟩ (.slice A N c))) :=
      Lib.hid ⟨below_put1 (hB0.trans (hb2.mono hB0.size)) (Nat.le_refl _) 0 _, .inl ⟨rfl, A, N, c, rfl, hN, hC.put (fun _ a ha => by have := hf a ha; show a.block ≠ w.heap.size; omega), hc, fun a ha => by have := hf a ha; omega⟩⟩
    clear hN hC hc hf hb2 r2 hR2 hB0 hz HR x0
    go_wp2_with fail
    exact bodyPost_ret (v := .agg #[.slice A N c]) (by simp [results, Tryz.results40, go_sem, z0]) rfl HP.out
  · have HP : Hid (WorkPost w er [] (gaveE er) w2) := Lib.hid ⟨hB0.trans (hb2.mono hB0.size), .inr ⟨he, rfl, rfl⟩⟩
    unfold gaveE at HP ⊢
    clear hb2 hB0 hR2 HR x0
    go_wp2_with fail
    exact ⟨rfl, HP.out⟩
/-- What Parse tells. -/
def parseE (s : ByteArray) : Int := if s = ⟨#[]⟩ then 0 else readE (wordsB s)
def parseL (s : ByteArray) : List (Int × Int) := if s = ⟨#[]⟩ then [] else readL (wordsB s)
set_option maxHeartbeats 1600000 in
theorem parsed_any (s : ByteArray) (w : World) (hs : s.size ≤ 1000000) (hv : VarS w) :
    Calls Tryz.prog 20 #[.string s] w (TagPost w w.heap.size (parseE s) (parseL s)) := by
  have hmf : ∀ (fn : Fn) (first cap : Array Value) (w : World), (Instr.makeFunc fn first cap).run Tryz.prog w = .ok (.func fn first cap) w := fun _ _ _ _ => rfl
  have HC := Lib.hid (fun B W (hW : Below w.heap.size w W) (hB : Row W B [.string s]) => caught_any 40 #[.pointer (some ⟨B, 0, none⟩)] (readE (wordsB s)) (readL (wordsB s)) W (fun _ _ => Tryz.call40 _ _) (fun W' hW' => parse1_any s B W' hs ((hv.after hW).after hW') (hB.after hW')))
  clear hv hs
  by_cases h0 : s = ⟨#[]⟩
  · have HE : Hid (parseE s = 0 ∧ parseL s = []) := Lib.hid ⟨if_pos h0, if_pos h0⟩
    clear HC
    rw [HE.out.1, HE.out.2]
    clear HE
    subst h0
    go_enter Tryz.func20, Tryz.ntmps20
    go_wp2_with fail
    generalize hW : World.alloc _ _ = W0
    have hR2 : Row W0 (w.heap.size + 1) [.slice none 0 0] := by rw [← hW]; exact Row.at (by simp) [_] _
    have hB0 : Below w.heap.size w W0 := by rw [← hW]; exact ((Below.refl _ _).alloc (Nat.le_refl _) _).alloc (by simp) _
    clear hW
    have z0 := hR2.c 0 rfl
    exact bodyPost_ret (v := .tuple #[.agg #[.slice none 0 0], .int .i64 0]) (by simp [results, Tryz.results20, go_sem, z0]) rfl ⟨none, 0, 0, rfl, rfl, CellsS.nil _ _, Nat.le_refl _, (fun a ha => by cases ha), hB0⟩
  · have HE : Hid (parseE s = readE (wordsB s) ∧ parseL s = readL (wordsB s)) := Lib.hid ⟨if_neg h0, if_neg h0⟩
    rw [HE.out.1, HE.out.2]
    clear HE
    have he1 : s.toList.isEmpty = false := by
      rw [Lib.toList_data, List.isEmpty_eq_false_iff]
      exact fun h => h0 (Go.WideShapes.bytes_inj h)
    clear h0
    generalize readE (wordsB s) = er at HC ⊢
    generalize readL (wordsB s) = cs at HC ⊢
    go_enter Tryz.func20, Tryz.ntmps20
    go_wp2_with fail
    generalize hW : World.alloc _ _ = W0
    have hR1 : Row W0 w.heap.size [.string s] := by rw [← hW]; exact (Row.at rfl [_] _).alloc _
    have hR2 : Row W0 (w.heap.size + 1) [.slice none 0 0] := by rw [← hW]; exact Row.at (by simp) [_] _
    have hB0 : Below w.heap.size w W0 := by rw [← hW]; exact ((Below.refl _ _).alloc (Nat.le_refl _) _).alloc (by simp) _
    clear hW
    refine (HC.out _ _ hB0 hR1).mono ?_
    rintro e w2 ⟨A2, N2, c2, rfl, hN2, hC2, hc2, hf2, hb2⟩
    have hz := hR2.1
    have r2 := hR2.after hb2
    have y0 := r2.c 0 rfl
    have f0 := r2.f 0 rfl
    have r3 := (r2.set 0 (by simp) (.slice A2 N2 c2)).c 0 rfl
    have HP : Hid (TagPost w w.heap.size er cs (.returned (.tuple #[.agg #[.slice A2 N2 c2], .int .i64 er])) (w2.setCell ⟨w.heap.size + 1, 0, none⟩ (.slice A2 N2 c2))) :=
      Lib.hid ⟨A2, N2, c2, rfl, hN2, hC2.put (fun _ a ha => by have := hf2 a ha; show a.block ≠ w.heap.size + 1; omega), hc2, (fun a ha => by have := hf2 a ha; omega), below_put1 (hB0.trans (hb2.mono hB0.size)) (Nat.le_succ _) 0 _⟩
    clear hN2 hC2 hc2 hf2 hb2 hR1 hR2 hB0 r2 hz
    go_wp2_with fail
    exact bodyPost_ret (v := .tuple #[.agg #[.slice A2 N2 c2], .int .i64 er]) (by simp [results, Tryz.results20, go_sem, r3]) rfl HP.out
end Go.Proofs.YtjhcddlhhfjnaaaGreatDoor
