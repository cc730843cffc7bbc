import Derived.Test.YtongeeggaigepaaGreatDoorZKkSB
import Derived.Test.YtongeeggaigepaaGreatDoorZKkBase
import Derived.Test.YtongeeggaigepaaGreatDoorZKkI
namespace Go.Proofs.YtongeeggaigepaaGreatDoor
open Go.RowKit
theorem load_errno {w : World} {b : Nat} {k : Int} (h : Row w b [.int .i64 k]) : (loadVar 26 ⟨b, 0, none⟩).run Tryz.prog w = .ok (.int .i64 k) w := by
 have hc := h.c 0 rfl
 have ha := Tryz.isAgg26
 simp [loadVar, ha, hc]
theorem for_okS (w : World) : Calls Tryz.prog 75 #[.int .i64 0] w fun e w' => e = .returned (.tuple #[]) ∧ w = w' := by
 go_enter Tryz.func75, Tryz.ntmps75
 go_wp2
 go_end0
 exact ⟨rfl, rfl⟩
def zero_rat : Array Value := #[.bool false, .int .u64 0, .int .u64 0, .int .u64 0, .int .u64 0, .bool false, .int .u64 0, .int .u64 0, .int .u64 0, .int .u64 0]
def zero_point : Array Value := #[.bool false, .int .u64 0, .int .u64 0, .int .u64 0, .int .u64 0, .bool false, .int .u64 0, .int .u64 0, .int .u64 0, .int .u64 0, .bool false, .int .u64 0, .int .u64 0, .int .u64 0, .int .u64 0, .bool false, .int .u64 0, .int .u64 0, .int .u64 0, .int .u64 0]
def zero_seg : Array Value := #[.int .i64 0, .int .i64 0, .int .i64 0, .int .i64 0]
def zero_int : Array Value := #[.bool false, .int .u64 0, .int .u64 0, .int .u64 0, .int .u64 0]
inductive Got where
 | val (cs : Array Value)
 | gave (k : Int)
def Got.end : Got → Ending
 | .val cs => .returned (.agg cs)
 | .gave k => .panicked [{ v := .iface 26 (.int .i64 k), recovered := false }]
def Got.ans (zero : Array Value) : Got → Value
 | .val cs => .tuple #[.agg cs, .int .i64 0]
 | .gave k => .tuple #[.agg zero, .int .i64 k]
def Got.fits (n : Nat) : Got → Prop
 | .val cs => cs.size = n ∧ OneC cs
 | .gave k => k ≠ 0
def GotPost (N : Nat) (w : World) (r : Got) (e : Ending) (w' : World) : Prop := e = r.end ∧ KB w.heap.size N w w'
set_option maxRecDepth 100000 in
set_option maxHeartbeats 800000 in
theorem must_point (cs : Array Value) (hs : cs.size = 20) (h1 : OneC cs) (w : World) :
 Calls Tryz.prog 129 #[.agg cs, .int .i64 0] w fun e w' => e = .returned (.agg cs) ∧ Below w.heap.size w w' := by
 have hT : AggTy Tryz.prog 46 cs.size := by rw [hs]; exact .of _ Tryz.underlying46 rfl (by kernel_rfl)
 have rA := fun t => Row.at (w := w) rfl cs.toList t
 have H1 := Lib.hid h1; clear h1
 go_enter Tryz.func129, Tryz.ntmps129
 go_wp2_with fail
 refine (for_okS _).mono ?_
 rintro e w1 ⟨rfl, rfl⟩
 go_wp2_with (first | (refine wpList_load_R rfl _ _ rfl _ rfl cs ((rA _).alloc _) hT ?_) | (refine wpList_store_R rfl _ _ _ rfl _ cs rfl rfl _ (Row.at (by simp) [_, _, _, _, _, _, _, _, _, _, _, _, _, _, _, _, _, _, _, _] _) (by rw [hs]; rfl) hT H1.out ?_; intro w2 r2 o2))
 exact bodyPost_ret (results_R1 rfl rfl r2 hT) rfl ⟨rfl, below_on (((Below.refl _ w).alloc (Nat.le_refl _) _).alloc (by simp) _) o2 (by omega)⟩
theorem catch_seg_gave (p : Addr) (x c : Int) (older : List PanicEntry) (w : World) (hc : w.cell? p = some (.int .i64 x)) (hz : w.frozen? p = false) :
 CallsD Tryz.prog 103 #[.pointer (some p)] (.panicking ({ v := .iface 26 (.int .i64 c), recovered := false } :: older)) w fun e u' w' =>
  e = .returned (.tuple #[]) ∧ u' = .panicking ({ v := .iface 26 (.int .i64 c), recovered := true } :: older) ∧ w' = w.setCell p (.int .i64 c) := by
 refine callsD_of_wpS Tryz.func103 rfl fun c₀ cs hu => ?_
 apply wpS_seq
 apply wpS_region
 simp [wpOpsS, go_sem, recoverD, hu, Tryz.ntmps103, Exit.thenS]
 change Code.wpS _ _ _ { tmps := #[.pointer (some p), .iface 26 (.int .i64 c), undef, undef, .iface 26 (.int .i64 c), undef, undef, undef, undef, undef, undef, undef, undef, undef, undef, undef], defers := [] } _ _
 have hta : ∀ w, (Instr.typeAssert (.iface 26 (.int .i64 c)) 20 26 true).run Tryz.prog w = .ok (.tuple #[.int .i64 c, .bool true]) w := assert_errno c
 have hnot : ∀ (x : Bool) (w : World), (Op.unary .not (.bool x)).run Tryz.prog w = .ok (.bool (!x)) w := fun _ _ => rfl
 refine wpS_of_wp ?_
 go_wp2
 simp [bodyPostS, results, Tryz.results103]
theorem catch_seg_idle (p : Addr) (w : World) :
 CallsD Tryz.prog 103 #[.pointer (some p)] .returning w fun e u' w' => e = .returned (.tuple #[]) ∧ u' = .returning ∧ w' = w := by
 refine callsD_of_wpS Tryz.func103 rfl fun c₀ cs hu => ?_
 apply wpS_seq
 apply wpS_region
 simp [wpOpsS, go_sem, recoverD, hu, Tryz.ntmps103, Exit.thenS]
 change Code.wpS _ _ _ { tmps := #[.pointer (some p), .nilIface, undef, undef, .nilIface, undef, undef, undef, undef, undef, undef, undef, undef, undef, undef, undef], defers := [] } _ _
 refine wpS_of_wp ?_
 go_wp2
 cases c₀
 simp_all [bodyPostS, results, Tryz.results103]
set_option maxRecDepth 100000 in
set_option maxHeartbeats 1600000 in
theorem caught_seg (F : FuncId) (caps : Array Value) (N : Nat) (r : Got) (w : World) (hN : N < w.heap.size) (hr : r.fits 4) (eF : ∀ (args : Array Value) (w : World), (callFunc F args).run Tryz.prog w = .ok (.enter F args) w)
 (hw : ∀ W, Below w.heap.size w W → Calls Tryz.prog F caps W (GotPost N W r)) :
 Calls Tryz.prog 64 #[.func (.func F) #[] caps] w fun e w' => e = .returned (r.ans zero_seg) ∧ KB w.heap.size N w w' := by
 have hmf : ∀ (fn : Fn) (first cap : Array Value) (w : World), (Instr.makeFunc fn first cap).run Tryz.prog w = .ok (.func fn first cap) w := fun _ _ _ _ => rfl
 have Hw := Lib.hid hw; clear hw
 have Hr := Lib.hid hr; clear hr
 go_enter_defers Tryz.func64, Tryz.ntmps64
 go_wp2_with fail
 generalize hW : World.alloc _ _ = W0
 have rR : Row W0 w.heap.size (zero_seg).toList := by rw [← hW]; exact (Row.at rfl _ _).alloc _
 have rE : Row W0 (w.heap.size + 1) [.int .i64 0] := by rw [← hW]; exact Row.at (by simp) _ _
 have hB0 : Below w.heap.size w W0 := by rw [← hW]; exact ((Below.refl w.heap.size w).alloc (Nat.le_refl _) _).alloc (by simp) _
 clear hW
 refine (Hw.out W0 hB0).mono ?_
 rintro e w1 ⟨rfl, hk⟩
 have hl := rE.lt
 replace rR := rR.kb hk (by omega)
 replace rE := rE.kb hk (by omega)
 have hB : KB w.heap.size N w w1 := ((KB.refl w.heap.size N w).below hB0 (Nat.le_refl _)).trans hk hB0.size
 clear hk hB0
 have hE := rE.c 0 rfl
 have fE := rE.f 0 rfl
 cases r with
 | gave k =>
   simp only [Got.end]
   go_wp2
   refine leaves_cons (f := 103) (args := #[.pointer (some ⟨w.heap.size + 1, 0, none⟩)]) (by simp) (by simp [go_sem]) ?_
   refine (catch_seg_gave ⟨w.heap.size + 1, 0, none⟩ 0 k [] _ hE fE).mono ?_
   rintro e u' w'' ⟨rfl, rfl, rfl⟩
   have rR2 : Row (w1.setCell ⟨w.heap.size + 1, 0, none⟩ (.int .i64 k)) w.heap.size (zero_seg).toList := rR.other (by simp) _
   have rE2 : Row (w1.setCell ⟨w.heap.size + 1, 0, none⟩ (.int .i64 k)) (w.heap.size + 1) [.int .i64 k] := rE.set 0 (by simp) _
   have hT : AggTy Tryz.prog 25 (zero_seg).size := .of _ Tryz.underlying25 rfl (by kernel_rfl)
   have l1 := loadVar_R (P := Tryz.prog) rR2 hT
   have l2 := load_errno rE2
   simp [Leaves, settle, results, Tryz.results64, asAddr, l1, l2]
   exact ⟨rfl, hB.put1 (Or.inr (Nat.le_succ _)) _ _⟩
 | val cs =>
   obtain ⟨hs, h1⟩ := Hr.out
   have H1 := Lib.hid h1
   clear h1 Hr
   have hT : AggTy Tryz.prog 25 cs.size := by rw [hs]; exact .of _ Tryz.underlying25 rfl (by kernel_rfl)
   simp only [Got.end]
   go_wp2_with (first | (refine wpList_store_R rfl _ _ _ rfl _ cs rfl rfl _ rR (by rw [hs]; rfl) hT H1.out ?_; intro w2 r2 o2; replace rE := o2.row (by omega) rE; replace hE := rE.c 0 rfl; replace fE := rE.f 0 rfl))
   replace hB := hB.on o2 (Or.inr (Nat.le_refl _))
   clear hE fE
   have r3 : Row (w2.setCell ⟨w.heap.size + 1, 0, none⟩ (.int .i64 0)) w.heap.size cs.toList := r2.other (by simp) _
   have rE3 : Row (w2.setCell ⟨w.heap.size + 1, 0, none⟩ (.int .i64 0)) (w.heap.size + 1) [.int .i64 0] := rE.set 0 (by simp) _
   replace hB := hB.put1 (b := w.heap.size + 1) (Or.inr (Nat.le_succ _)) 0 (.int .i64 0)
   generalize World.setCell _ _ _ = W3 at r3 rE3 hB ⊢
   refine leaves_cons (f := 103) (args := #[.pointer (some ⟨w.heap.size + 1, 0, none⟩)]) (by simp) (by simp [go_sem]) ?_
   refine (catch_seg_idle ⟨w.heap.size + 1, 0, none⟩ _).mono ?_
   rintro e u' w'' ⟨rfl, rfl, rfl⟩
   have l1 := loadVar_R (P := Tryz.prog) r3 hT
   have l2 := load_errno rE3
   simp [Leaves, settle, results, Tryz.results64, asAddr, l1, l2]
   exact ⟨rfl, hB⟩
set_option maxRecDepth 100000 in
set_option maxHeartbeats 800000 in
theorem must_int (cs : Array Value) (hs : cs.size = 5) (h1 : OneC cs) (w : World) :
 Calls Tryz.prog 87 #[.agg cs, .int .i64 0] w fun e w' => e = .returned (.agg cs) ∧ Below w.heap.size w w' := by
 have hT : AggTy Tryz.prog 42 cs.size := by rw [hs]; exact .of _ Tryz.underlying42 rfl (by kernel_rfl)
 have rA := fun t => Row.at (w := w) rfl cs.toList t
 have H1 := Lib.hid h1; clear h1
 go_enter Tryz.func87, Tryz.ntmps87
 go_wp2_with fail
 refine (for_okS _).mono ?_
 rintro e w1 ⟨rfl, rfl⟩
 go_wp2_with (first | (refine wpList_load_R rfl _ _ rfl _ rfl cs ((rA _).alloc _) hT ?_) | (refine wpList_store_R rfl _ _ _ rfl _ cs rfl rfl _ (Row.at (by simp) [_, _, _, _, _] _) (by rw [hs]; rfl) hT H1.out ?_; intro w2 r2 o2))
 exact bodyPost_ret (results_R1 rfl rfl r2 hT) rfl ⟨rfl, below_on (((Below.refl _ w).alloc (Nat.le_refl _) _).alloc (by simp) _) o2 (by omega)⟩
end Go.Proofs.YtongeeggaigepaaGreatDoor
