/- quit.For, Must and Caught at Tags: what gives up, and what is told of it. -/
import Derived.Test.YtjhcddlhhfjnaaaGreatDoorTJ
import Derived.Recover
import Derived.Defers
import Derived.Deep.MidRow
namespace Go.Proofs.YtjhcddlhhfjnaaaGreatDoor
open Go.RowKit Go.Sort

theorem load_errno {w : World} {b : Nat} {k : Int} (h : Row w b [.int .i64 k]) : (loadVar 27 ⟨b, 0, none⟩).run Tryz.prog w = .ok (.int .i64 k) w := by
  have hc := h.c 0 rfl
  have ha := Tryz.isAgg27
  simp [loadVar, ha, hc]
theorem load_tags {w : World} {b : Nat} {v : Value} (h : Row w b [v]) : (loadVar 26 ⟨b, 0, none⟩).run Tryz.prog w = .ok (.agg #[v]) w := by
  have := run_loadVar_mid (P := Tryz.prog) w b 0 26 [v] _ (fun j u hu => by rw [Nat.zero_add]; exact h.c j hu) Tryz.underlying26 rfl (by kernel_rfl)
  simpa using this
theorem for_gives (c : Int) (w : World) (hc : c ≠ 0) :
    Calls Tryz.prog 48 #[.int .i64 c] w fun e w' => e = .panicked [{ v := .iface 27 (.int .i64 c), recovered := false }] ∧ w = w' := by
  have hc' : (c != 0) = true := by simpa using hc
  clear hc
  go_enter Tryz.func48, Tryz.ntmps48
  go_wp2
  exact ⟨rfl, rfl, rfl⟩
theorem for_ok (w : World) : Calls Tryz.prog 48 #[.int .i64 0] w fun e w' => e = .returned (.tuple #[]) ∧ w = w' := by
  go_enter Tryz.func48, Tryz.ntmps48
  go_wp2
  go_end0
  exact ⟨rfl, rfl⟩
theorem must_ok (A : Option Addr) (N c : Nat) (w : World) :
    Calls Tryz.prog 29 #[.agg #[.slice A N c], .int .i64 0] w fun e w' => e = .returned (.agg #[.slice A N c]) ∧ Below w.heap.size w w' := by
  have HB := Lib.hid (fun o o2 => ((Below.refl w.heap.size w).alloc (Nat.le_refl _) o).alloc (by simp) o2)
  go_enter Tryz.func29, Tryz.ntmps29
  go_wp2_with fail
  refine (for_ok _).mono ?_
  rintro e w1 ⟨rfl, rfl⟩
  go_wp2
  exact bodyPost_ret (v := .agg #[.slice A N c]) (by simp [results, Tryz.results29, go_sem]) rfl ⟨rfl, HB.out _ _⟩
/-- What one ends with that gives up. -/
def gaveE (k : Int) : Ending := .panicked [{ v := .iface 27 (.int .i64 k), recovered := false }]
theorem must_gave (v : Value) (k : Int) (hk : k ≠ 0) (w : World) :
    Calls Tryz.prog 29 #[.agg #[v], .int .i64 k] w fun e w' => e = gaveE k ∧ Below w.heap.size w w' := by
  have HB := Lib.hid (fun o o2 => ((Below.refl w.heap.size w).alloc (Nat.le_refl _) o).alloc (by simp) o2)
  have H := Lib.hid (fun W => for_gives k W hk)
  clear hk
  go_enter Tryz.func29, Tryz.ntmps29
  go_wp2_with fail
  refine (H.out _).mono ?_
  rintro e w1 ⟨rfl, rfl⟩
  go_wp2
  exact ⟨rfl, rfl, HB.out _ _⟩
theorem assert_errno (c : Int) (w : World) : (Instr.typeAssert (.iface 27 (.int .i64 c)) 20 27 true).run Tryz.prog w = .ok (.tuple #[.int .i64 c, .bool true]) w := by kernel_rfl
set_option maxRecDepth 100000 in
theorem catch_gave (p : Addr) (x c : Int) (older : List PanicEntry) (w : World) (hc : w.cell? p = some (.int .i64 x)) (hz : w.frozen? p = false) :
    CallsD Tryz.prog 47 #[.pointer (some p)] (.panicking ({ v := .iface 27 (.int .i64 c), recovered := false } :: older)) w fun e u' w' =>
      e = .returned (.tuple #[]) ∧ u' = .panicking ({ v := .iface 27 (.int .i64 c), recovered := true } :: older) ∧ w' = w.setCell p (.int .i64 c) := by
  refine callsD_of_wpS Tryz.func47 rfl fun c₀ cs hu => ?_
  apply wpS_seq
  apply wpS_region
  simp [wpOpsS, go_sem, recoverD, hu, Tryz.ntmps47, Exit.thenS]
  change Code.wpS _ _ _ { tmps := #[.pointer (some p), .iface 27 (.int .i64 c), undef, undef, .iface 27 (.int .i64 c), undef, undef, undef, undef, undef, undef, undef, undef, undef, undef, undef], defers := [] } _ _
  have hta : ∀ w, (Instr.typeAssert (.iface 27 (.int .i64 c)) 20 27 true).run Tryz.prog w = .ok (.tuple #[.int .i64 c, .bool true]) w := assert_errno c
  have hnot : ∀ (x : Bool) (w : World), (Op.unary .not (.bool x)).run Tryz.prog w = .ok (.bool (!x)) w := fun _ _ => rfl
  refine wpS_of_wp ?_
  go_wp2
  simp [bodyPostS, results, Tryz.results47]
theorem catch_idle (p : Addr) (w : World) :
    CallsD Tryz.prog 47 #[.pointer (some p)] .returning w fun e u' w' => e = .returned (.tuple #[]) ∧ u' = .returning ∧ w' = w := by
  refine callsD_of_wpS Tryz.func47 rfl fun c₀ cs hu => ?_
  apply wpS_seq
  apply wpS_region
  simp [wpOpsS, go_sem, recoverD, hu, Tryz.ntmps47, Exit.thenS]
  change Code.wpS _ _ _ { tmps := #[.pointer (some p), .nilIface, undef, undef, .nilIface, undef, undef, undef, undef, undef, undef, undef, undef, undef, undef, undef], defers := [] } _ _
  refine wpS_of_wp ?_
  go_wp2
  cases c₀
  simp_all [bodyPostS, results, Tryz.results47]
/-- What work ends with that makes tags, or gives up. -/
def WorkPost (w : World) (err : Int) (cs : List (Int × Int)) (e : Ending) (w' : World) : Prop :=
  Below w.heap.size w w' ∧ ((err = 0 ∧ ∃ A N cap, e = .returned (.agg #[.slice A N cap]) ∧ N = cs.length ∧ CellsS w' A (cntCs cs) ∧ N ≤ cap ∧ ∀ a, A = some a → w.heap.size ≤ a.block) ∨ (err ≠ 0 ∧ cs = [] ∧ e = gaveE err))
set_option maxRecDepth 100000 in
set_option maxHeartbeats 1600000 in
theorem caught_any (F : FuncId) (caps : Array Value) (err : Int) (cs : List (Int × Int)) (w : World) (eF : ∀ (args : Array Value) (w : World), (callFunc F args).run Tryz.prog w = .ok (.enter F args) w)
    (hw : ∀ W, Below w.heap.size w W → Calls Tryz.prog F caps W (WorkPost W err cs)) :
    Calls Tryz.prog 27 #[.func (.func F) #[] caps] w (TagPost w w.heap.size err cs) := by
  have hmf : ∀ (fn : Fn) (first cap : Array Value) (w : World), (Instr.makeFunc fn first cap).run Tryz.prog w = .ok (.func fn first cap) w := fun _ _ _ _ => rfl
  have Hw := Lib.hid hw; clear hw
  go_enter_defers Tryz.func27, Tryz.ntmps27
  go_wp2_with fail
  generalize hW : World.alloc _ _ = W0
  have rR : Row W0 w.heap.size [.slice none 0 0] := by rw [← hW]; exact (Row.at rfl _ _).alloc _
  have rE : Row W0 (w.heap.size + 1) [.int .i64 0] := by rw [← hW]; exact Row.at (by simp) _ _
  have hB0 : Below w.heap.size w W0 := by rw [← hW]; exact ((Below.refl w.heap.size w).alloc (Nat.le_refl _) _).alloc (by simp) _
  clear hW
  refine (Hw.out W0 hB0).mono ?_
  rintro e w1 ⟨hb, hr⟩
  have hl := rE.lt
  have hl0 := rR.lt
  replace rR := rR.after hb
  replace rE := rE.after hb
  have hB := hB0.trans (hb.mono hB0.size)
  clear hb hB0
  have hE := rE.c 0 rfl
  have fE := rE.f 0 rfl
  rcases hr with ⟨rfl, A, N, cap, rfl, hN, hC, hc, hf⟩ | ⟨hk, rfl, rfl⟩
  · have zR := rR.c 0 rfl
    have fR := rR.f 0 rfl
    have HC := Lib.hid (And.intro hN (And.intro hC (And.intro hc hf)))
    clear hN hC hc hf
    go_wp2
    have r3 : Row ((w1.setCell ⟨w.heap.size, 0, none⟩ (.slice A N cap)).setCell ⟨w.heap.size + 1, 0, none⟩ (.int .i64 0)) w.heap.size [.slice A N cap] := (rR.set 0 (by simp) _).other (by simp) _
    have rE3 : Row ((w1.setCell ⟨w.heap.size, 0, none⟩ (.slice A N cap)).setCell ⟨w.heap.size + 1, 0, none⟩ (.int .i64 0)) (w.heap.size + 1) [.int .i64 0] := (rE.other (by simp) _).set 0 (by simp) _
    have hB3 := below_put1 (below_put1 hB (Nat.le_refl _) 0 (.slice A N cap)) (Nat.le_succ _) 0 (.int .i64 0)
    have hC3 : CellsS ((w1.setCell ⟨w.heap.size, 0, none⟩ (.slice A N cap)).setCell ⟨w.heap.size + 1, 0, none⟩ (.int .i64 0)) A (cntCs cs) :=
      (HC.out.2.1.put (fun _ a ha => by have := HC.out.2.2.2 a ha; show a.block ≠ w.heap.size; omega)).put (fun _ a ha => by have := HC.out.2.2.2 a ha; show a.block ≠ w.heap.size + 1; omega)
    generalize World.setCell _ _ _ = W3 at r3 rE3 hB3 hC3 ⊢
    refine leaves_cons (f := 47) (args := #[.pointer (some ⟨w.heap.size + 1, 0, none⟩)]) (by simp) (by simp [go_sem]) ?_
    refine (catch_idle ⟨w.heap.size + 1, 0, none⟩ _).mono ?_
    rintro e u' w'' ⟨rfl, rfl, rfl⟩
    have l1 := load_tags r3
    have l2 := load_errno rE3
    simp [Leaves, settle, results, Tryz.results27, asAddr, l1, l2]
    exact ⟨A, N, cap, rfl, HC.out.1, hC3, HC.out.2.2.1, fun a ha => by have := HC.out.2.2.2 a ha; omega, hB3⟩
  · unfold gaveE
    go_wp2
    refine leaves_cons (f := 47) (args := #[.pointer (some ⟨w.heap.size + 1, 0, none⟩)]) (by simp) (by simp [go_sem]) ?_
    refine (catch_gave ⟨w.heap.size + 1, 0, none⟩ 0 err [] _ hE fE).mono ?_
    rintro e u' w'' ⟨rfl, rfl, rfl⟩
    have rR2 : Row (w1.setCell ⟨w.heap.size + 1, 0, none⟩ (.int .i64 err)) w.heap.size [.slice none 0 0] := rR.other (by simp) _
    have rE2 : Row (w1.setCell ⟨w.heap.size + 1, 0, none⟩ (.int .i64 err)) (w.heap.size + 1) [.int .i64 err] := rE.set 0 (by simp) _
    have l1 := load_tags rR2
    have l2 := load_errno rE2
    simp [Leaves, settle, results, Tryz.results27, asAddr, l1, l2]
    exact ⟨none, 0, 0, rfl, rfl, CellsS.nil _ _, Nat.le_refl _, (fun a ha => by cases ha), below_put1 hB (Nat.le_succ _) 0 _⟩
end Go.Proofs.YtjhcddlhhfjnaaaGreatDoor
