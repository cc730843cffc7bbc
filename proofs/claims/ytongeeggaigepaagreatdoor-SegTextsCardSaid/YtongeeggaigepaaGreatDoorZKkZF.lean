import Derived.Test.YtongeeggaigepaaGreatDoorZKkZE
import Derived.Test.YtongeeggaigepaaGreatDoorZKkSD
import Derived.Test.YtongeeggaigepaaGreatDoorZKkSH
namespace Go.Proofs.YtongeeggaigepaaGreatDoor
open Go.RowKit Go.Sort
def zero_ratP : Array Value := #[.bool false, .int .u64 0, .int .u64 0, .int .u64 0, .int .u64 0, .bool false, .int .u64 0, .int .u64 0, .int .u64 0, .int .u64 0]
theorem catchP_rat_gave (p : Addr) (x c : Int) (older : List PanicEntry) (w : World) (hc : w.cell? p = some (.int .i64 x)) (hz : w.frozen? p = false) :
 CallsD Tryz.prog 221 #[.pointer (some p)] (.panicking ({ v := .iface 26 (.int .i64 c), recovered := false } :: older)) w fun e u' w' =>
  e = .returned (.tuple #[]) ∧ u' = .panicking ({ v := .iface 26 (.int .i64 c), recovered := true } :: older) ∧ w' = w.setCell p (.int .i64 c) := by
 refine callsD_of_wpS Tryz.func221 rfl fun c₀ cs hu => ?_
 apply wpS_seq
 apply wpS_region
 simp [wpOpsS, go_sem, recoverD, hu, Tryz.ntmps221, Exit.thenS]
 change Code.wpS _ _ _ { tmps := #[.pointer (some p), .iface 26 (.int .i64 c), undef, undef, .iface 26 (.int .i64 c), undef, undef, undef, undef, undef, undef, undef, undef, undef, undef, undef], defers := [] } _ _
 have hta : ∀ w, (Instr.typeAssert (.iface 26 (.int .i64 c)) 20 26 true).run Tryz.prog w = .ok (.tuple #[.int .i64 c, .bool true]) w := assert_errno c
 have hnot : ∀ (x : Bool) (w : World), (Op.unary .not (.bool x)).run Tryz.prog w = .ok (.bool (!x)) w := fun _ _ => rfl
 refine wpS_of_wp ?_
 go_wp2
 simp [bodyPostS, results, Tryz.results221]
theorem catchP_rat_idle (p : Addr) (w : World) :
 CallsD Tryz.prog 221 #[.pointer (some p)] .returning w fun e u' w' => e = .returned (.tuple #[]) ∧ u' = .returning ∧ w' = w := by
 refine callsD_of_wpS Tryz.func221 rfl fun c₀ cs hu => ?_
 apply wpS_seq
 apply wpS_region
 simp [wpOpsS, go_sem, recoverD, hu, Tryz.ntmps221, Exit.thenS]
 change Code.wpS _ _ _ { tmps := #[.pointer (some p), .nilIface, undef, undef, .nilIface, undef, undef, undef, undef, undef, undef, undef, undef, undef, undef, undef], defers := [] } _ _
 refine wpS_of_wp ?_
 go_wp2
 cases c₀
 simp_all [bodyPostS, results, Tryz.results221]
set_option maxRecDepth 100000 in
set_option maxHeartbeats 1600000 in
theorem caughtP_rat (F : FuncId) (caps : Array Value) (N : Nat) (r : Got) (w : World) (hN : N < w.heap.size) (hr : r.fits 10) (eF : ∀ (args : Array Value) (w : World), (callFunc F args).run Tryz.prog w = .ok (.enter F args) w)
 (hw : ∀ W, Below w.heap.size w W → Calls Tryz.prog F caps W (GotPost N W r)) :
 Calls Tryz.prog 207 #[.func (.func F) #[] caps] w fun e w' => e = .returned (r.ans zero_ratP) ∧ KB w.heap.size N w w' := by
 have hmf : ∀ (fn : Fn) (first cap : Array Value) (w : World), (Instr.makeFunc fn first cap).run Tryz.prog w = .ok (.func fn first cap) w := fun _ _ _ _ => rfl
 have Hw := Lib.hid hw; clear hw
 have Hr := Lib.hid hr; clear hr
 go_enter_defers Tryz.func207, Tryz.ntmps207
 go_wp2_with fail
 generalize hW : World.alloc _ _ = W0
 have rR : Row W0 w.heap.size (zero_ratP).toList := by rw [← hW]; exact (Row.at rfl _ _).alloc _
 have rE : Row W0 (w.heap.size + 1) [.int .i64 0] := by rw [← hW]; exact Row.at (by simp) _ _
 have hB0 : Below w.heap.size w W0 := by rw [← hW]; exact ((Below.refl w.heap.size w).alloc (Nat.le_refl _) _).alloc (by simp) _
 clear hW
 refine (Hw.out W0 hB0).mono ?_
 rintro e w1 ⟨rfl, hk⟩
 have hl := rE.lt
 replace rR := rR.kb hk (by omega)
 replace rE := rE.kb hk (by omega)
 have hB : KB w.heap.size N w w1 := ((KB.refl w.heap.size N w).below hB0 (Nat.le_refl _)).trans hk hB0.size
 clear hk hB0
 have hE := rE.c 0 rfl
 have fE := rE.f 0 rfl
 cases r with
 | gave k =>
   simp only [Got.end]
   go_wp2
   refine leaves_cons (f := 221) (args := #[.pointer (some ⟨w.heap.size + 1, 0, none⟩)]) (by simp) (by simp [go_sem]) ?_
   refine (catchP_rat_gave ⟨w.heap.size + 1, 0, none⟩ 0 k [] _ hE fE).mono ?_
   rintro e u' w'' ⟨rfl, rfl, rfl⟩
   have rR2 : Row (w1.setCell ⟨w.heap.size + 1, 0, none⟩ (.int .i64 k)) w.heap.size (zero_ratP).toList := rR.other (by simp) _
   have rE2 : Row (w1.setCell ⟨w.heap.size + 1, 0, none⟩ (.int .i64 k)) (w.heap.size + 1) [.int .i64 k] := rE.set 0 (by simp) _
   have hT : AggTy Tryz.prog 44 (zero_ratP).size := .of _ Tryz.underlying44 rfl (by kernel_rfl)
   have l1 := loadVar_R (P := Tryz.prog) rR2 hT
   have l2 := load_errno rE2
   simp [Leaves, settle, results, Tryz.results207, asAddr, l1, l2]
   exact ⟨rfl, hB.put1 (Or.inr (Nat.le_succ _)) _ _⟩
 | val cs =>
   obtain ⟨hs, h1⟩ := Hr.out
   have H1 := Lib.hid h1
   clear h1 Hr
   have hT : AggTy Tryz.prog 44 cs.size := by rw [hs]; exact .of _ Tryz.underlying44 rfl (by kernel_rfl)
   simp only [Got.end]
   go_wp2_with (first | (refine wpList_store_R rfl _ _ _ rfl _ cs rfl rfl _ rR (by rw [hs]; rfl) hT H1.out ?_; intro w2 r2 o2; replace rE := o2.row (by omega) rE; replace hE := rE.c 0 rfl; replace fE := rE.f 0 rfl))
   replace hB := hB.on o2 (Or.inr (Nat.le_refl _))
   clear hE fE
   have r3 : Row (w2.setCell ⟨w.heap.size + 1, 0, none⟩ (.int .i64 0)) w.heap.size cs.toList := r2.other (by simp) _
   have rE3 : Row (w2.setCell ⟨w.heap.size + 1, 0, none⟩ (.int .i64 0)) (w.heap.size + 1) [.int .i64 0] := rE.set 0 (by simp) _
   replace hB := hB.put1 (b := w.heap.size + 1) (Or.inr (Nat.le_succ _)) 0 (.int .i64 0)
   generalize World.setCell _ _ _ = W3 at r3 rE3 hB ⊢
   refine leaves_cons (f := 221) (args := #[.pointer (some ⟨w.heap.size + 1, 0, none⟩)]) (by simp) (by simp [go_sem]) ?_
   refine (catchP_rat_idle ⟨w.heap.size + 1, 0, none⟩ _).mono ?_
   rintro e u' w'' ⟨rfl, rfl, rfl⟩
   have l1 := loadVar_R (P := Tryz.prog) r3 hT
   have l2 := load_errno rE3
   simp [Leaves, settle, results, Tryz.results207, asAddr, l1, l2]
   exact ⟨rfl, hB⟩
theorem catchP_point_gave (p : Addr) (x c : Int) (older : List PanicEntry) (w : World) (hc : w.cell? p = some (.int .i64 x)) (hz : w.frozen? p = false) :
 CallsD Tryz.prog 194 #[.pointer (some p)] (.panicking ({ v := .iface 26 (.int .i64 c), recovered := false } :: older)) w fun e u' w' =>
  e = .returned (.tuple #[]) ∧ u' = .panicking ({ v := .iface 26 (.int .i64 c), recovered := true } :: older) ∧ w' = w.setCell p (.int .i64 c) := by
 refine callsD_of_wpS Tryz.func194 rfl fun c₀ cs hu => ?_
 apply wpS_seq
 apply wpS_region
 simp [wpOpsS, go_sem, recoverD, hu, Tryz.ntmps194, Exit.thenS]
 change Code.wpS _ _ _ { tmps := #[.pointer (some p), .iface 26 (.int .i64 c), undef, undef, .iface 26 (.int .i64 c), undef, undef, undef, undef, undef, undef, undef, undef, undef, undef, undef], defers := [] } _ _
 have hta : ∀ w, (Instr.typeAssert (.iface 26 (.int .i64 c)) 20 26 true).run Tryz.prog w = .ok (.tuple #[.int .i64 c, .bool true]) w := assert_errno c
 have hnot : ∀ (x : Bool) (w : World), (Op.unary .not (.bool x)).run Tryz.prog w = .ok (.bool (!x)) w := fun _ _ => rfl
 refine wpS_of_wp ?_
 go_wp2
 simp [bodyPostS, results, Tryz.results194]
theorem catchP_point_idle (p : Addr) (w : World) :
 CallsD Tryz.prog 194 #[.pointer (some p)] .returning w fun e u' w' => e = .returned (.tuple #[]) ∧ u' = .returning ∧ w' = w := by
 refine callsD_of_wpS Tryz.func194 rfl fun c₀ cs hu => ?_
 apply wpS_seq
 apply wpS_region
 simp [wpOpsS, go_sem, recoverD, hu, Tryz.ntmps194, Exit.thenS]
 change Code.wpS _ _ _ { tmps := #[.pointer (some p), .nilIface, undef, undef, .nilIface, undef, undef, undef, undef, undef, undef, undef, undef, undef, undef, undef], defers := [] } _ _
 refine wpS_of_wp ?_
 go_wp2
 cases c₀
 simp_all [bodyPostS, results, Tryz.results194]
set_option maxRecDepth 100000 in
set_option maxHeartbeats 1600000 in
theorem caughtP_point (F : FuncId) (caps : Array Value) (N : Nat) (r : Got) (w : World) (hN : N < w.heap.size) (hr : r.fits 20) (eF : ∀ (args : Array Value) (w : World), (callFunc F args).run Tryz.prog w = .ok (.enter F args) w)
 (hw : ∀ W, Below w.heap.size w W → Calls Tryz.prog F caps W (GotPost N W r)) :
 Calls Tryz.prog 172 #[.func (.func F) #[] caps] w fun e w' => e = .returned (r.ans zero_point) ∧ KB w.heap.size N w w' := by
 have hmf : ∀ (fn : Fn) (first cap : Array Value) (w : World), (Instr.makeFunc fn first cap).run Tryz.prog w = .ok (.func fn first cap) w := fun _ _ _ _ => rfl
 have Hw := Lib.hid hw; clear hw
 have Hr := Lib.hid hr; clear hr
 go_enter_defers Tryz.func172, Tryz.ntmps172
 go_wp2_with fail
 generalize hW : World.alloc _ _ = W0
 have rR : Row W0 w.heap.size (zero_point).toList := by rw [← hW]; exact (Row.at rfl _ _).alloc _
 have rE : Row W0 (w.heap.size + 1) [.int .i64 0] := by rw [← hW]; exact Row.at (by simp) _ _
 have hB0 : Below w.heap.size w W0 := by rw [← hW]; exact ((Below.refl w.heap.size w).alloc (Nat.le_refl _) _).alloc (by simp) _
 clear hW
 refine (Hw.out W0 hB0).mono ?_
 rintro e w1 ⟨rfl, hk⟩
 have hl := rE.lt
 replace rR := rR.kb hk (by omega)
 replace rE := rE.kb hk (by omega)
 have hB : KB w.heap.size N w w1 := ((KB.refl w.heap.size N w).below hB0 (Nat.le_refl _)).trans hk hB0.size
 clear hk hB0
 have hE := rE.c 0 rfl
 have fE := rE.f 0 rfl
 cases r with
 | gave k =>
   simp only [Got.end]
   go_wp2
   refine leaves_cons (f := 194) (args := #[.pointer (some ⟨w.heap.size + 1, 0, none⟩)]) (by simp) (by simp [go_sem]) ?_
   refine (catchP_point_gave ⟨w.heap.size + 1, 0, none⟩ 0 k [] _ hE fE).mono ?_
   rintro e u' w'' ⟨rfl, rfl, rfl⟩
   have rR2 : Row (w1.setCell ⟨w.heap.size + 1, 0, none⟩ (.int .i64 k)) w.heap.size (zero_point).toList := rR.other (by simp) _
   have rE2 : Row (w1.setCell ⟨w.heap.size + 1, 0, none⟩ (.int .i64 k)) (w.heap.size + 1) [.int .i64 k] := rE.set 0 (by simp) _
   have hT : AggTy Tryz.prog 46 (zero_point).size := .of _ Tryz.underlying46 rfl (by kernel_rfl)
   have l1 := loadVar_R (P := Tryz.prog) rR2 hT
   have l2 := load_errno rE2
   simp [Leaves, settle, results, Tryz.results172, asAddr, l1, l2]
   exact ⟨rfl, hB.put1 (Or.inr (Nat.le_succ _)) _ _⟩
 | val cs =>
   obtain ⟨hs, h1⟩ := Hr.out
   have H1 := Lib.hid h1
   clear h1 Hr
   have hT : AggTy Tryz.prog 46 cs.size := by rw [hs]; exact .of _ Tryz.underlying46 rfl (by kernel_rfl)
   simp only [Got.end]
   go_wp2_with (first | (refine wpList_store_R rfl _ _ _ rfl _ cs rfl rfl _ rR (by rw [hs]; rfl) hT H1.out ?_; intro w2 r2 o2; replace rE := o2.row (by omega) rE; replace hE := rE.c 0 rfl; replace fE := rE.f 0 rfl))
   replace hB := hB.on o2 (Or.inr (Nat.le_refl _))
   clear hE fE
   have r3 : Row (w2.setCell ⟨w.heap.size + 1, 0, none⟩ (.int .i64 0)) w.heap.size cs.toList := r2.other (by simp) _
   have rE3 : Row (w2.setCell ⟨w.heap.size + 1, 0, none⟩ (.int .i64 0)) (w.heap.size + 1) [.int .i64 0] := rE.set 0 (by simp) _
   replace hB := hB.put1 (b := w.heap.size + 1) (Or.inr (Nat.le_succ _)) 0 (.int .i64 0)
   generalize World.setCell _ _ _ = W3 at r3 rE3 hB ⊢
   refine leaves_cons (f := 194) (args := #[.pointer (some ⟨w.heap.size + 1, 0, none⟩)]) (by simp) (by simp [go_sem]) ?_
   refine (catchP_point_idle ⟨w.heap.size + 1, 0, none⟩ _).mono ?_
   rintro e u' w'' ⟨rfl, rfl, rfl⟩
   have l1 := loadVar_R (P := Tryz.prog) r3 hT
   have l2 := load_errno rE3
   simp [Leaves, settle, results, Tryz.results172, asAddr, l1, l2]
   exact ⟨rfl, hB⟩
set_option maxRecDepth 100000 in
set_option maxHeartbeats 1600000 in
theorem rparse1_core (X B : Nat) (s : ByteArray) (R1 : List Value) (w : World) (hB : w.cell? ⟨B, 0, none⟩ = some (.string s))
 (H : Hid (∀ W, Below w.heap.size w W → Calls Tryz.prog 198 #[.pointer (some ⟨X, 0, none⟩), .string s] W fun e w' => e = .returned (.tuple #[]) ∧ Row w' X R1 ∧ KB W.heap.size X W w')) :
 Calls Tryz.prog 197 #[.pointer (some ⟨X, 0, none⟩), .pointer (some ⟨B, 0, none⟩)] w fun e w' => e = .returned (.tuple #[]) ∧ Row w' X R1 ∧ KB w.heap.size X w w' := by
 go_enter Tryz.func197, Tryz.ntmps197
 go_wp2_with fail
 refine (H.out _ (Below.refl _ _)).mono ?_
 rintro e w1 ⟨rfl, hr, hk⟩
 go_wp2_with fail
 go_end0
 exact ⟨rfl, hr, hk⟩
set_option maxRecDepth 100000 in
set_option maxHeartbeats 1600000 in
theorem rdone1_core (P Q X B : Nat) (fr : Array Value) (w : World) (hs : fr.size = 10) (h1 : OneC fr) (hP : Row w P [.func (.func 197) #[] #[.pointer (some ⟨X, 0, none⟩), .pointer (some ⟨B, 0, none⟩)]])
 (hQ : Row w Q [.pointer (some ⟨X, 0, none⟩)]) (hQX : Q ≠ X)
 (H : Hid (∀ W, Below w.heap.size w W → Calls Tryz.prog 197 #[.pointer (some ⟨X, 0, none⟩), .pointer (some ⟨B, 0, none⟩)] W fun e w' => e = .returned (.tuple #[]) ∧ Row w' X fr.toList ∧ KB W.heap.size X W w')) :
 Calls Tryz.prog 208 #[.pointer (some ⟨P, 0, none⟩), .pointer (some ⟨Q, 0, none⟩)] w (GotPost X w (.val fr)) := by
 have p0 := hP.c 0 rfl
 have hlP := hP.lt
 have hlQ := hQ.lt
 clear hP
 have hT : AggTy Tryz.prog 44 fr.size := by rw [hs]; exact agg_rat
 have HO := Lib.hid h1; clear h1
 have HS := Lib.hid hs; clear hs
 go_enter Tryz.func208, Tryz.ntmps208
 go_wp2_with fail
 have hb0 := (Below.refl w.heap.size w).alloc (Nat.le_refl _) (.cells zero_ratP 44)
 have hZ := Row.at (w := w) rfl zero_ratP.toList 44
 refine (H.out _ hb0).mono ?_
 rintro e w1 ⟨rfl, hr, hk⟩
 have hQ1 := (hQ.alloc (.cells zero_ratP 44)).kb hk hQX
 by_cases hX : w.heap.size = X
 ·subst hX
  have hK := ((KB.refl w.heap.size w.heap.size w).below hb0 (Nat.le_refl _)).trans hk hb0.size
  have q0 := hQ1.c 0 rfl
  clear hk hb0 hQ hQ1 H
  go_wp2_with (first | (refine wpList_load_R rfl _ _ rfl _ rfl fr hr hT ?_) | (refine wpList_store_R rfl _ _ _ rfl _ fr rfl rfl _ hr (by rw [Array.length_toList]) hT HO.out ?_; intro w2 r2 o2))
  exact bodyPost_ret (results_R1 (cs := fr) rfl rfl r2 hT) rfl ⟨rfl, hK.on o2 (.inr (Nat.le_refl _))⟩
 ·replace hZ := hZ.kb hk hX
  have hK := ((KB.refl w.heap.size X w).below hb0 (Nat.le_refl _)).trans hk hb0.size
  have q0 := hQ1.c 0 rfl
  clear hk hb0 hQ hQ1 H
  go_wp2_with (first | (refine wpList_load_R rfl _ _ rfl _ rfl fr hr hT ?_) | (refine wpList_store_R rfl _ _ _ rfl _ fr rfl rfl _ hZ (by rw [HS.out]; rfl) hT HO.out ?_; intro w2 r2 o2))
  exact bodyPost_ret (results_R1 (cs := fr) rfl rfl r2 hT) rfl ⟨rfl, hK.on o2 (.inr (Nat.le_refl _))⟩
set_option maxRecDepth 100000 in
set_option maxHeartbeats 1600000 in
theorem rdone_core (X B : Nat) (fr : Array Value) (w : World) (hs : fr.size = 10) (h1 : OneC fr) (hlX : X < w.heap.size)
 (H : Hid (∀ W, Below w.heap.size w W → Calls Tryz.prog 197 #[.pointer (some ⟨X, 0, none⟩), .pointer (some ⟨B, 0, none⟩)] W fun e w' => e = .returned (.tuple #[]) ∧ Row w' X fr.toList ∧ KB W.heap.size X W w')) :
 Calls Tryz.prog 196 #[.pointer (some ⟨X, 0, none⟩), .func (.func 197) #[] #[.pointer (some ⟨X, 0, none⟩), .pointer (some ⟨B, 0, none⟩)]] w fun e w' => e = .returned (.tuple #[.agg fr, .int .i64 0]) ∧ KB w.heap.size X w w' := by
 have hmf : ∀ (fn : Fn) (first cap : Array Value) (w : World), (Instr.makeFunc fn first cap).run Tryz.prog w = .ok (.func fn first cap) w := fun _ _ _ _ => rfl
 have hT : AggTy Tryz.prog 44 fr.size := by rw [hs]; exact agg_rat
 have HO := Lib.hid h1; clear h1
 have HS := Lib.hid hs; clear hs
 have H1 := Lib.hid (fun W (hb : Below w.heap.size w W) P Q hP hQ hQX => rdone1_core P Q X B fr W HS.out HO.out hP hQ hQX (Lib.hid (fun V hV => H.out V (hb.trans (hV.mono hb.size)))))
 clear H
 go_enter Tryz.func196, Tryz.ntmps196
 go_wp2_with fail
 have r2 := (((Row.at (w := w) rfl [.pointer (some ⟨X, 0, none⟩)] 264).alloc (.cells #[.func (.func 197) #[] #[.pointer (some ⟨X, 0, none⟩), .pointer (some ⟨B, 0, none⟩)]] 1)).alloc (.cells zero_ratP 44))
 have r3 := ((Row.at (w := w.alloc (.cells #[.pointer (some ⟨X, 0, none⟩)] 264)) (n := w.heap.size + 1) (by simp) [.func (.func 197) #[] #[.pointer (some ⟨X, 0, none⟩), .pointer (some ⟨B, 0, none⟩)]] 1).alloc (.cells zero_ratP 44))
 have r4 := (Row.at (w := (w.alloc (.cells #[.pointer (some ⟨X, 0, none⟩)] 264)).alloc (.cells #[.func (.func 197) #[] #[.pointer (some ⟨X, 0, none⟩), .pointer (some ⟨B, 0, none⟩)]] 1)) (n := w.heap.size + 1 + 1) (by simp) zero_ratP.toList 44)
 have hb0 := (((Below.refl w.heap.size w).alloc (Nat.le_refl _) (.cells #[.pointer (some ⟨X, 0, none⟩)] 264)).alloc (by simp) (.cells #[.func (.func 197) #[] #[.pointer (some ⟨X, 0, none⟩), .pointer (some ⟨B, 0, none⟩)]] 1)).alloc (by simp; omega) (.cells zero_ratP 44)
 refine (caughtP_rat 208 #[.pointer (some ⟨w.heap.size + 1, 0, none⟩), .pointer (some ⟨w.heap.size, 0, none⟩)] X (.val fr) _ (Nat.lt_of_lt_of_le hlX hb0.size) ⟨HS.out, HO.out⟩ (fun _ _ => Tryz.call208 _ _)
  (fun W hW => H1.out W (hb0.trans (hW.mono hb0.size)) (w.heap.size + 1) w.heap.size (r3.below hW r3.lt) (r2.below hW r2.lt) (by omega))).mono ?_
 rintro e w1 ⟨rfl, hk⟩
 have hK := ((KB.refl w.heap.size X w).below hb0 (Nat.le_refl _)).trans hk hb0.size
 replace r4 := r4.kb hk (by omega)
 clear r2 r3 hk hb0 H1
 simp only [Got.ans]
 go_wp2_with (first | (refine wpList_store_R rfl _ _ _ rfl _ fr rfl rfl _ r4 (by rw [HS.out]; rfl) hT HO.out ?_; intro w2 q2 o2))
 exact bodyPost_ret (results_R2 (cs := fr) rfl rfl q2 hT) rfl ⟨rfl, hK.on o2 (.inr (by omega))⟩
end Go.Proofs.YtongeeggaigepaaGreatDoor

namespace Go.Proofs.YtongeeggaigepaaGreatDoor
open Go.RowKit Go.Sort
attribute [local go_sem] Oper.semAt_some

def KeepsE (E F : Nat) (X Y : World) : Prop := KeepsB E X Y ∧ KeepsB F X Y
theorem KeepsE.trans {E F : Nat} {X Y Z : World} (h : KeepsE E F X Y) (k : KeepsE E F Y Z) : KeepsE E F X Z := ⟨h.1.trans k.1, h.2.trans k.2⟩
def encS (p : Nat × Nat × ByteArray) : Array Value := #[.pointer (some ⟨p.1, p.2.1, none⟩), .string p.2.2]
set_option maxRecDepth 100000 in
set_option maxHeartbeats 4000000 in
theorem parts_u (n E F X : Nat) (s a b : ByteArray) (w : World) (hE : Row w E [.string s]) (hF : Row w F [.pointer (some ⟨X, 0, none⟩)]) (hs : s.size < 4294967281) (hn : Lib.cut s.data.toList [32] = (a.data.toList, b.data.toList, true)) (hc : CutOk w) :
 SeqU Fence.wide (n + 1) Tryz.prog 195 #[.pointer (some ⟨E, 0, none⟩), .pointer (some ⟨F, 0, none⟩)] encS (fun _ => KeepsE E F) [(X, 0, a), (X, 10, b)] w := by
 intro l J Jx W hW hJ hJx hY h0
 have HC := Lib.hid (strcut_any s ⟨#[32]⟩ a b true W (hc.below hW) hs hn)
 have HY := Lib.hid hY; clear hY
 have hR := hE.after hW
 have hG := hF.after hW
 clear hE hF hW
 have HJ := Lib.hid hJ
 have c0 := hR.c 0 rfl
 refine callsIn_of_wp Tryz.func195 rfl trivial ?_ rfl
 simp only [Tryz.ntmps195, List.size_toArray, List.length_cons, List.length_nil, Nat.reduceAdd, Nat.reduceSub, Array.replicate_succ, Array.replicate_zero, List.push_toArray, List.append_toArray, List.nil_append, List.cons_append]
 gi_wp2_with fail
 refine ⟨trivial, callsIn_wide.2 (HC.out.mono ?_)⟩
 rintro e W1 ⟨rfl, hb⟩
 have h1 := HJ.out _ _ _ h0 hb
 have hG1 := hG.after hb
 have g0 := hG1.c 0 rfl
 obtain ⟨fn, tmps, assign, body, hy, hr⟩ := HY.out [] (X, 0, a) W1 h1 hb.size (by simp)
 have H1 := Lib.hid hr
 have hsz := hb.size
 unfold encS at hy
 clear hr c0 hb HC
 gi_wp2_with fail
 refine H1.out.mono ?_
 rintro e W2 ⟨b1, rfl, hk, hb⟩
 clear hy H1 g0
 cases b1 with
 | false =>
   gi_wp2_with fail
   go_end0
   exact ⟨⟨_, rfl⟩, .inr ⟨[(X, 0, a)], by simp, hb⟩⟩
 | true =>
   have g1 := (hk.2.row hG1).c 0 rfl
   obtain ⟨fn, tmps, assign, body, hy, hr⟩ := HY.out [(X, 0, a)] (X, 10, b) W2 hb (Nat.le_trans hsz hk.1.1) (by simp)
   have H2 := Lib.hid hr
   unfold encS at hy
   clear hr
   gi_wp2_with fail
   refine H2.out.mono ?_
   rintro e W3 ⟨b2, rfl, hk2, hb2⟩
   clear hy H2 g1
   gi_wp2_with fail
   go_end0
   refine ⟨⟨_, rfl⟩, ?_⟩
   cases b2 with
   | false => exact .inr ⟨[(X, 0, a), (X, 10, b)], by simp, hb2⟩
   | true => exact .inl hb2
set_option maxRecDepth 100000 in
set_option maxHeartbeats 800000 in
theorem parts_any2 (X : Nat) (s : ByteArray) (w : World) : Calls Tryz.prog 175 #[.pointer (some ⟨X, 0, none⟩), .string s] w fun e w' => ∃ E F, e = .returned (.func (.func 195) #[] #[.pointer (some ⟨E, 0, none⟩), .pointer (some ⟨F, 0, none⟩)]) ∧ w.heap.size ≤ E ∧ w.heap.size ≤ F ∧ Row w' E [.string s] ∧ Row w' F [.pointer (some ⟨X, 0, none⟩)] ∧ Below w.heap.size w w' := by
 have hmf : ∀ (fn : Fn) (first cap : Array Value) (w : World), (Instr.makeFunc fn first cap).run Tryz.prog w = .ok (.func fn first cap) w := fun _ _ _ _ => rfl
 go_enter Tryz.func175, Tryz.ntmps175
 go_wp2
 go_ret
 exact ⟨_, _, rfl, by omega, Nat.le_refl _, Row.at (by simp) [.string s] _, (Row.at rfl [.pointer (some ⟨X, 0, none⟩)] _).alloc _, ((Below.refl _ _).alloc (Nat.le_refl _) _).alloc (by simp) _⟩
end Go.Proofs.YtongeeggaigepaaGreatDoor

namespace Go.Proofs.YtongeeggaigepaaGreatDoor
open Go.RowKit Go.Sort
attribute [local go_sem] Oper.semAt_some

def sx (L0 L1 L2 : List Value) : List (Nat × Nat × ByteArray) → List Value
 | [] => L0
 | [_] => L1
 | _ :: _ :: _ => L2
theorem two_rounds {α : Type} {pre : List α} {x y z : α} (h : (pre ++ [x]) <+: [y, z]) : (pre = [] ∧ x = y) ∨ (pre = [y] ∧ x = z) := by
 have hl := h.length_le
 match pre, h, hl with
 | [], h, _ =>
   obtain ⟨r, hr⟩ := h
   exact .inl ⟨rfl, by simpa using (List.cons.inj hr).1⟩
 | [u], h, _ =>
   have := h.eq_of_length rfl
   simp at this
   exact .inr ⟨by rw [this.1], this.2⟩
 | u :: v :: r, _, hl => simp at hl
theorem fin {W W3 W4 : World} {X : Nat} (E : Nat) (hE : E ≠ X) (hb : Below W.heap.size W W3) (o : On W3 W4 X) (ob : Obj) : KeepsB E W (W4.alloc ob) :=
 (KeepsB.below hb).trans ⟨by rw [World.size_alloc, o.size]; omega, fun hl => ((Below.refl W4.heap.size W4).alloc (Nat.le_refl _) _ |>.block E (by rw [o.size]; exact hl)).trans (o.block E hE)⟩
set_option maxRecDepth 100000 in
set_option maxHeartbeats 12800000 in
theorem sread_core (X : Nat) (s ta tb : ByteArray) (pg qg rg tg ag bg cg dg : Bool) (p1 p2 p3 p4 q1 q2 q3 q4 r1 r2 r3 r4 t1 t2 t3 t4 a1 a2 a3 a4 b1 b2 b3 b4 c1 c2 c3 c4 d1 d2 d3 d4 : Int) (w : World) (hX : Row w X [.bool pg, .int .u64 p1, .int .u64 p2, .int .u64 p3, .int .u64 p4, .bool qg, .int .u64 q1, .int .u64 q2, .int .u64 q3, .int .u64 q4, .bool rg, .int .u64 r1, .int .u64 r2, .int .u64 r3, .int .u64 r4, .bool tg, .int .u64 t1, .int .u64 t2, .int .u64 t3, .int .u64 t4]) (hs : s.size < 4294967281) (hn : Lib.cut s.data.toList [32] = (ta.data.toList, tb.data.toList, true)) (hc : CutOk w)
 (HPa : Hid (∀ W, KB w.heap.size X w W → Calls Tryz.prog 176 #[.string ta] W fun e w' => e = .returned (.tuple #[.agg #[.bool ag, .int .u64 a1, .int .u64 a2, .int .u64 a3, .int .u64 a4, .bool bg, .int .u64 b1, .int .u64 b2, .int .u64 b3, .int .u64 b4], .int .i64 0]) ∧ Below W.heap.size W w'))
 (HPb : Hid (∀ W, KB w.heap.size X w W → Calls Tryz.prog 176 #[.string tb] W fun e w' => e = .returned (.tuple #[.agg #[.bool cg, .int .u64 c1, .int .u64 c2, .int .u64 c3, .int .u64 c4, .bool dg, .int .u64 d1, .int .u64 d2, .int .u64 d3, .int .u64 d4], .int .i64 0]) ∧ Below W.heap.size W w')) :
 Calls Tryz.prog 154 #[.pointer (some ⟨X, 0, none⟩), .string s] w fun e w' => e = .returned (.tuple #[]) ∧ Row w' X [.bool ag, .int .u64 a1, .int .u64 a2, .int .u64 a3, .int .u64 a4, .bool bg, .int .u64 b1, .int .u64 b2, .int .u64 b3, .int .u64 b4, .bool cg, .int .u64 c1, .int .u64 c2, .int .u64 c3, .int .u64 c4, .bool dg, .int .u64 d1, .int .u64 d2, .int .u64 d3, .int .u64 d4] ∧ KB w.heap.size X w w' := by
 have hlX := hX.lt
 refine (callsIn_wide (n := 9)).1 ?_
 refine callsIn_of_wp_marks Tryz.func154 rfl trivial ?_ rfl
 simp only [Tryz.ntmps154, List.size_toArray, List.length_cons, List.length_nil, Nat.reduceAdd, Nat.reduceSub, Array.replicate_succ, Array.replicate_zero, List.push_toArray, List.append_toArray, List.nil_append, List.cons_append]
 refine wpIn_wide.2 ?_
 first | refine wp_scope_straight ?_ | skip
 go_wp2_with fail
 first | refine wp_scope_straight ?_ | skip
 generalize hW : World.alloc _ _ = W0
 have hR : Row W0 w.heap.size [.int .i64 0] := by rw [← hW]; exact Row.at rfl _ _
 have hB : Below w.heap.size w W0 := by rw [← hW]; exact (Below.refl _ _).alloc (Nat.le_refl _) _
 clear hW
 refine wp_label ?_
 go_wp2_with fail
 refine (parts_any2 X s _).mono ?_
 rintro e W1 ⟨E, F, rfl, hEs, hFs, hRE, hRF, hb⟩
 have l0 := hR.lt
 replace hR := hR.after hb
 replace hB := hB.trans (hb.mono hB.size)
 have hW0 := hb.size
 have hC1 : CutOk W1 := hc.below hB
 have hX1 := hX.below hB hlX
 clear hb
 have hEX : E ≠ X := by omega
 have hFX : F ≠ X := by omega
 have hWX : w.heap.size ≠ X := by omega
 go_wp2_with fail
 refine (wpIn_wide (n := 9)).1 ?_
 refine wpIn_range_u (α := Nat × Nat × ByteArray) rfl (by omega) (gf := 195) (lb := #[.pointer (some ⟨E, 0, none⟩), .pointer (some ⟨F, 0, none⟩)]) rfl trivial (enters_of Tryz.func195 (by kernel_rfl) rfl)
  (parts_u 7 E F X s ta tb W1 hRE hRF hs hn hC1) KeepsE.trans (fun _ l W _ o' h _ _ _ => ⟨KeepsB.turn W o' (by have := hRE.1; omega), KeepsB.turn W o' (by have := hRF.1; omega)⟩) (fun _ _ _ h => ⟨KeepsB.below h, KeepsB.below h⟩) (Below.refl _ _) (fun _ => rfl)
  (fun pre W => Row W w.heap.size [.int .i64 0] ∧ Row W X (sx [.bool pg, .int .u64 p1, .int .u64 p2, .int .u64 p3, .int .u64 p4, .bool qg, .int .u64 q1, .int .u64 q2, .int .u64 q3, .int .u64 q4, .bool rg, .int .u64 r1, .int .u64 r2, .int .u64 r3, .int .u64 r4, .bool tg, .int .u64 t1, .int .u64 t2, .int .u64 t3, .int .u64 t4] [.bool ag, .int .u64 a1, .int .u64 a2, .int .u64 a3, .int .u64 a4, .bool bg, .int .u64 b1, .int .u64 b2, .int .u64 b3, .int .u64 b4, .bool rg, .int .u64 r1, .int .u64 r2, .int .u64 r3, .int .u64 r4, .bool tg, .int .u64 t1, .int .u64 t2, .int .u64 t3, .int .u64 t4] [.bool ag, .int .u64 a1, .int .u64 a2, .int .u64 a3, .int .u64 a4, .bool bg, .int .u64 b1, .int .u64 b2, .int .u64 b3, .int .u64 b4, .bool cg, .int .u64 c1, .int .u64 c2, .int .u64 c3, .int .u64 c4, .bool dg, .int .u64 d1, .int .u64 d2, .int .u64 d3, .int .u64 d4] pre) ∧ KB w.heap.size X w W) (fun _ _ _ => False)
  (fun _ X Y h hb => ⟨h.1.below hb hR.1, h.2.1.below hb hX1.1, h.2.2.below hb hB.size⟩) (fun _ _ _ _ h _ => h.elim) ⟨hR, hX1, KB.ofBelow' hB⟩
  (fun x a' _ => a' = { tmps := #[.pointer (some ⟨X, 0, none⟩), .string s, undef, undef, .pointer (some ⟨w.heap.size, 0, none⟩), .pointer (some ⟨x.1, x.2.1, none⟩), .string x.2.2, undef, undef, .pointer (some ⟨X, 0, none⟩), .string s, .func (.func 195) #[] #[.pointer (some ⟨E, 0, none⟩), .pointer (some ⟨F, 0, none⟩)], .pointer (some ⟨x.1, x.2.1, none⟩), .string x.2.2, undef, undef, undef, undef, undef, undef, undef, undef, undef, undef, undef, undef, undef, undef, undef, undef], defers := [] })
  (fun _ _ _ _ _ _ _ h => h) ?assign ?body ?done ?stop
 case assign =>
  intro l' pre x W K hI hW hK
  clear hI
  unfold encS
  gi_wp2
  exact hK _ _ (Below.refl _ _) rfl
 case body =>
  rintro l' pre x a' W ⟨hI1, hI3, hI4⟩ hW hp rfl
  rcases two_rounds hp with ⟨rfl, rfl⟩ | ⟨rfl, rfl⟩
  ·replace hI3 : Row W X [.bool pg, .int .u64 p1, .int .u64 p2, .int .u64 p3, .int .u64 p4, .bool qg, .int .u64 q1, .int .u64 q2, .int .u64 q3, .int .u64 q4, .bool rg, .int .u64 r1, .int .u64 r2, .int .u64 r3, .int .u64 r4, .bool tg, .int .u64 t1, .int .u64 t2, .int .u64 t3, .int .u64 t4] := hI3
   gi_wp2_with fail
   refine ⟨trivial, callsIn_wide.2 ((HPa.out _ hI4).mono ?_)⟩
   rintro e W3 ⟨rfl, hb⟩
   have r1 := hI1.after hb
   have r3 := hI3.after hb
   have x0 := r3.c 0 rfl
   have f0 := r3.f 0 rfl
   have x1 := r3.c 1 rfl
   have f1 := r3.f 1 rfl
   have x2 := r3.c 2 rfl
   have f2 := r3.f 2 rfl
   have x3 := r3.c 3 rfl
   have f3 := r3.f 3 rfl
   have x4 := r3.c 4 rfl
   have f4 := r3.f 4 rfl
   have x5 := r3.c 5 rfl
   have f5 := r3.f 5 rfl
   have x6 := r3.c 6 rfl
   have f6 := r3.f 6 rfl
   have x7 := r3.c 7 rfl
   have f7 := r3.f 7 rfl
   have x8 := r3.c 8 rfl
   have f8 := r3.f 8 rfl
   have x9 := r3.c 9 rfl
   have f9 := r3.f 9 rfl
   have lX := r3.lt
   have lB := r1.lt
   gi_wp2_with fail
   have o : On W3 ((((((((((W3.setCell ⟨X, 0, none⟩ (.bool ag)).setCell ⟨X, 1, none⟩ (.int .u64 a1)).setCell ⟨X, 2, none⟩ (.int .u64 a2)).setCell ⟨X, 3, none⟩ (.int .u64 a3)).setCell ⟨X, 4, none⟩ (.int .u64 a4)).setCell ⟨X, 5, none⟩ (.bool bg)).setCell ⟨X, 6, none⟩ (.int .u64 b1)).setCell ⟨X, 7, none⟩ (.int .u64 b2)).setCell ⟨X, 8, none⟩ (.int .u64 b3)).setCell ⟨X, 9, none⟩ (.int .u64 b4)) X := (((((((((((On.refl W3 X).put 0 _).put 1 _).put 2 _).put 3 _).put 4 _).put 5 _).put 6 _).put 7 _).put 8 _).put 9 _)
   have rX := ((((((((((r3.set 0 (by simp) (.bool ag)).set 1 (by simp) (.int .u64 a1)).set 2 (by simp) (.int .u64 a2)).set 3 (by simp) (.int .u64 a3)).set 4 (by simp) (.int .u64 a4)).set 5 (by simp) (.bool bg)).set 6 (by simp) (.int .u64 b1)).set 7 (by simp) (.int .u64 b2)).set 8 (by simp) (.int .u64 b3)).set 9 (by simp) (.int .u64 b4))
   have kO : KeepsOthers W3 ((((((((((W3.setCell ⟨X, 0, none⟩ (.bool ag)).setCell ⟨X, 1, none⟩ (.int .u64 a1)).setCell ⟨X, 2, none⟩ (.int .u64 a2)).setCell ⟨X, 3, none⟩ (.int .u64 a3)).setCell ⟨X, 4, none⟩ (.int .u64 a4)).setCell ⟨X, 5, none⟩ (.bool bg)).setCell ⟨X, 6, none⟩ (.int .u64 b1)).setCell ⟨X, 7, none⟩ (.int .u64 b2)).setCell ⟨X, 8, none⟩ (.int .u64 b3)).setCell ⟨X, 9, none⟩ (.int .u64 b4)) := ((((((((((KeepsOthers.setCell W3 _ _).trans (KeepsOthers.setCell _ _ _)).trans (KeepsOthers.setCell _ _ _)).trans (KeepsOthers.setCell _ _ _)).trans (KeepsOthers.setCell _ _ _)).trans (KeepsOthers.setCell _ _ _)).trans (KeepsOthers.setCell _ _ _)).trans (KeepsOthers.setCell _ _ _)).trans (KeepsOthers.setCell _ _ _)).trans (KeepsOthers.setCell _ _ _))
   generalize ((((((((((W3.setCell ⟨X, 0, none⟩ (.bool ag)).setCell ⟨X, 1, none⟩ (.int .u64 a1)).setCell ⟨X, 2, none⟩ (.int .u64 a2)).setCell ⟨X, 3, none⟩ (.int .u64 a3)).setCell ⟨X, 4, none⟩ (.int .u64 a4)).setCell ⟨X, 5, none⟩ (.bool bg)).setCell ⟨X, 6, none⟩ (.int .u64 b1)).setCell ⟨X, 7, none⟩ (.int .u64 b2)).setCell ⟨X, 8, none⟩ (.int .u64 b3)).setCell ⟨X, 9, none⟩ (.int .u64 b4)) = W4 at *
   refine ⟨((keeps_below hb).trans (kO.trans (KeepsOthers.alloc _ _))).from _, ⟨fin E hEX hb o _, fin F hFX hb o _⟩, ?_⟩
   exact ⟨(o.row hWX r1).alloc _, rX.alloc _, ((hI4.below hb hI4.size).on o (.inl rfl)).alloc (by have := hI4.size; rw [o.size]; have := hb.size; omega) _⟩
  ·replace hI3 : Row W X [.bool ag, .int .u64 a1, .int .u64 a2, .int .u64 a3, .int .u64 a4, .bool bg, .int .u64 b1, .int .u64 b2, .int .u64 b3, .int .u64 b4, .bool rg, .int .u64 r1, .int .u64 r2, .int .u64 r3, .int .u64 r4, .bool tg, .int .u64 t1, .int .u64 t2, .int .u64 t3, .int .u64 t4] := hI3
   gi_wp2_with fail
   refine ⟨trivial, callsIn_wide.2 ((HPb.out _ hI4).mono ?_)⟩
   rintro e W3 ⟨rfl, hb⟩
   have r1 := hI1.after hb
   have r3 := hI3.after hb
   have x0 := r3.c 10 rfl
   have f0 := r3.f 10 rfl
   have x1 := r3.c 11 rfl
   have f1 := r3.f 11 rfl
   have x2 := r3.c 12 rfl
   have f2 := r3.f 12 rfl
   have x3 := r3.c 13 rfl
   have f3 := r3.f 13 rfl
   have x4 := r3.c 14 rfl
   have f4 := r3.f 14 rfl
   have x5 := r3.c 15 rfl
   have f5 := r3.f 15 rfl
   have x6 := r3.c 16 rfl
   have f6 := r3.f 16 rfl
   have x7 := r3.c 17 rfl
   have f7 := r3.f 17 rfl
   have x8 := r3.c 18 rfl
   have f8 := r3.f 18 rfl
   have x9 := r3.c 19 rfl
   have f9 := r3.f 19 rfl
   have lX := r3.lt
   have lB := r1.lt
   gi_wp2_with fail
   have o : On W3 ((((((((((W3.setCell ⟨X, 10, none⟩ (.bool cg)).setCell ⟨X, 11, none⟩ (.int .u64 c1)).setCell ⟨X, 12, none⟩ (.int .u64 c2)).setCell ⟨X, 13, none⟩ (.int .u64 c3)).setCell ⟨X, 14, none⟩ (.int .u64 c4)).setCell ⟨X, 15, none⟩ (.bool dg)).setCell ⟨X, 16, none⟩ (.int .u64 d1)).setCell ⟨X, 17, none⟩ (.int .u64 d2)).setCell ⟨X, 18, none⟩ (.int .u64 d3)).setCell ⟨X, 19, none⟩ (.int .u64 d4)) X := (((((((((((On.refl W3 X).put 10 _).put 11 _).put 12 _).put 13 _).put 14 _).put 15 _).put 16 _).put 17 _).put 18 _).put 19 _)
   have rX := ((((((((((r3.set 10 (by simp) (.bool cg)).set 11 (by simp) (.int .u64 c1)).set 12 (by simp) (.int .u64 c2)).set 13 (by simp) (.int .u64 c3)).set 14 (by simp) (.int .u64 c4)).set 15 (by simp) (.bool dg)).set 16 (by simp) (.int .u64 d1)).set 17 (by simp) (.int .u64 d2)).set 18 (by simp) (.int .u64 d3)).set 19 (by simp) (.int .u64 d4))
   have kO : KeepsOthers W3 ((((((((((W3.setCell ⟨X, 10, none⟩ (.bool cg)).setCell ⟨X, 11, none⟩ (.int .u64 c1)).setCell ⟨X, 12, none⟩ (.int .u64 c2)).setCell ⟨X, 13, none⟩ (.int .u64 c3)).setCell ⟨X, 14, none⟩ (.int .u64 c4)).setCell ⟨X, 15, none⟩ (.bool dg)).setCell ⟨X, 16, none⟩ (.int .u64 d1)).setCell ⟨X, 17, none⟩ (.int .u64 d2)).setCell ⟨X, 18, none⟩ (.int .u64 d3)).setCell ⟨X, 19, none⟩ (.int .u64 d4)) := ((((((((((KeepsOthers.setCell W3 _ _).trans (KeepsOthers.setCell _ _ _)).trans (KeepsOthers.setCell _ _ _)).trans (KeepsOthers.setCell _ _ _)).trans (KeepsOthers.setCell _ _ _)).trans (KeepsOthers.setCell _ _ _)).trans (KeepsOthers.setCell _ _ _)).trans (KeepsOthers.setCell _ _ _)).trans (KeepsOthers.setCell _ _ _)).trans (KeepsOthers.setCell _ _ _))
   generalize ((((((((((W3.setCell ⟨X, 10, none⟩ (.bool cg)).setCell ⟨X, 11, none⟩ (.int .u64 c1)).setCell ⟨X, 12, none⟩ (.int .u64 c2)).setCell ⟨X, 13, none⟩ (.int .u64 c3)).setCell ⟨X, 14, none⟩ (.int .u64 c4)).setCell ⟨X, 15, none⟩ (.bool dg)).setCell ⟨X, 16, none⟩ (.int .u64 d1)).setCell ⟨X, 17, none⟩ (.int .u64 d2)).setCell ⟨X, 18, none⟩ (.int .u64 d3)).setCell ⟨X, 19, none⟩ (.int .u64 d4)) = W4 at *
   refine ⟨((keeps_below hb).trans (kO.trans (KeepsOthers.alloc _ _))).from _, ⟨fin E hEX hb o _, fin F hFX hb o _⟩, ?_⟩
   exact ⟨(o.row hWX r1).alloc _, rX.alloc _, ((hI4.below hb hI4.size).on o (.inl rfl)).alloc (by have := hI4.size; rw [o.size]; have := hb.size; omega) _⟩
 case stop => exact fun _ _ _ _ _ _ h => h.elim
 case done =>
  rintro D V hD ⟨hI1, hI3, hI4⟩ hK
  replace hI3 : Row V X [.bool ag, .int .u64 a1, .int .u64 a2, .int .u64 a3, .int .u64 a4, .bool bg, .int .u64 b1, .int .u64 b2, .int .u64 b3, .int .u64 b4, .bool cg, .int .u64 c1, .int .u64 c2, .int .u64 c3, .int .u64 c4, .bool dg, .int .u64 d1, .int .u64 d2, .int .u64 d3, .int .u64 d4] := hI3
  have z0 := hI1.c 0 rfl
  have hD1 : D < V.heap.size := (Array.getElem?_eq_some_iff.1 hK).1
  have hM : Marks W1.heap.size [D] V := ⟨hD, hK, by simp, trivial⟩
  have hF := Lib.hid (And.intro hI3 hI4)
  have hl := hX1.1
  clear hI1 hI3 hI4 hK HPa HPb
  go_wp2_with fail
  refine (for_okS _).mono ?_
  rintro e V2 ⟨rfl, rfl⟩
  go_wp2_with fail
  refine leaves_marks [D] V hM fun V5 hV => ?_
  exact ⟨.tuple #[], by simp [results, Tryz.results154, go_sem], rfl, hF.out.1.below hV hl, hF.out.2.below hV hB.size⟩
end Go.Proofs.YtongeeggaigepaaGreatDoor

namespace Go.Proofs.YtongeeggaigepaaGreatDoor
open Go.RowKit Go.Sort

set_option maxRecDepth 100000 in
set_option maxHeartbeats 1600000 in
theorem settle_core (X : Nat) (ag bg cg dg : Bool) (a1 a2 a3 a4 b1 b2 b3 b4 c1 c2 c3 c4 d1 d2 d3 d4 : Int) (w : World) (hX : Row w X [.bool ag, .int .u64 a1, .int .u64 a2, .int .u64 a3, .int .u64 a4, .bool bg, .int .u64 b1, .int .u64 b2, .int .u64 b3, .int .u64 b4, .bool cg, .int .u64 c1, .int .u64 c2, .int .u64 c3, .int .u64 c4, .bool dg, .int .u64 d1, .int .u64 d2, .int .u64 d3, .int .u64 d4])
 (H1 : Hid (∀ W, Calls Tryz.prog 120 #[.agg #[.bool ag, .int .u64 a1, .int .u64 a2, .int .u64 a3, .int .u64 a4, .bool bg, .int .u64 b1, .int .u64 b2, .int .u64 b3, .int .u64 b4]] W fun e w' => e = .returned (.bool false) ∧ Below W.heap.size W w'))
 (H2 : Hid (∀ W, Calls Tryz.prog 120 #[.agg #[.bool cg, .int .u64 c1, .int .u64 c2, .int .u64 c3, .int .u64 c4, .bool dg, .int .u64 d1, .int .u64 d2, .int .u64 d3, .int .u64 d4]] W fun e w' => e = .returned (.bool false) ∧ Below W.heap.size W w')) :
 Calls Tryz.prog 174 #[.pointer (some ⟨X, 0, none⟩)] w fun e w' => e = .returned (.tuple #[]) ∧ Below w.heap.size w w' := by
 have x0 := hX.c 0 rfl
 have x1 := hX.c 1 rfl
 have x2 := hX.c 2 rfl
 have x3 := hX.c 3 rfl
 have x4 := hX.c 4 rfl
 have x5 := hX.c 5 rfl
 have x6 := hX.c 6 rfl
 have x7 := hX.c 7 rfl
 have x8 := hX.c 8 rfl
 have x9 := hX.c 9 rfl
 have lX := hX.lt
 go_enter Tryz.func174, Tryz.ntmps174
 go_wp2_with fail
 refine (H1.out _).mono ?_
 rintro e w1 ⟨rfl, hb⟩
 have hY := hX.after hb
 have y0 := hY.c 10 rfl
 have y1 := hY.c 11 rfl
 have y2 := hY.c 12 rfl
 have y3 := hY.c 13 rfl
 have y4 := hY.c 14 rfl
 have y5 := hY.c 15 rfl
 have y6 := hY.c 16 rfl
 have y7 := hY.c 17 rfl
 have y8 := hY.c 18 rfl
 have y9 := hY.c 19 rfl
 clear x0 x1 x2 x3 x4 x5 x6 x7 x8 x9
 go_wp2_with fail
 refine (H2.out _).mono ?_
 rintro e w2 ⟨rfl, hb2⟩
 have hB := hb.trans (hb2.mono hb.size)
 clear hb hb2
 go_wp2_with fail
 go_end0
 exact ⟨rfl, hB⟩
set_option maxRecDepth 100000 in
set_option maxHeartbeats 1600000 in
theorem pparse1_core (X B : Nat) (s : ByteArray) (R1 : List Value) (w : World) (hB : w.cell? ⟨B, 0, none⟩ = some (.string s))
 (H : Hid (∀ W, Below w.heap.size w W → Calls Tryz.prog 154 #[.pointer (some ⟨X, 0, none⟩), .string s] W fun e w' => e = .returned (.tuple #[]) ∧ Row w' X R1 ∧ KB W.heap.size X W w')) :
 Calls Tryz.prog 153 #[.pointer (some ⟨X, 0, none⟩), .pointer (some ⟨B, 0, none⟩)] w fun e w' => e = .returned (.tuple #[]) ∧ Row w' X R1 ∧ KB w.heap.size X w w' := by
 go_enter Tryz.func153, Tryz.ntmps153
 go_wp2_with fail
 refine (H.out _ (Below.refl _ _)).mono ?_
 rintro e w1 ⟨rfl, hr, hk⟩
 go_wp2_with fail
 go_end0
 exact ⟨rfl, hr, hk⟩
set_option maxRecDepth 100000 in
set_option maxHeartbeats 1600000 in
theorem pdone1_core (P Q X B : Nat) (fr : Array Value) (w : World) (hs : fr.size = 20) (h1 : OneC fr) (hP : Row w P [.func (.func 153) #[] #[.pointer (some ⟨X, 0, none⟩), .pointer (some ⟨B, 0, none⟩)]])
 (hQ : Row w Q [.pointer (some ⟨X, 0, none⟩)]) (hQX : Q ≠ X)
 (H : Hid (∀ W, Below w.heap.size w W → Calls Tryz.prog 153 #[.pointer (some ⟨X, 0, none⟩), .pointer (some ⟨B, 0, none⟩)] W fun e w' => e = .returned (.tuple #[]) ∧ Row w' X fr.toList ∧ KB W.heap.size X W w'))
 (HS2 : Hid (∀ W, Row W X fr.toList → Calls Tryz.prog 174 #[.pointer (some ⟨X, 0, none⟩)] W fun e w' => e = .returned (.tuple #[]) ∧ Below W.heap.size W w')) :
 Calls Tryz.prog 173 #[.pointer (some ⟨P, 0, none⟩), .pointer (some ⟨Q, 0, none⟩)] w (GotPost X w (.val fr)) := by
 have p0 := hP.c 0 rfl
 have hlP := hP.lt
 have hlQ := hQ.lt
 clear hP
 have hT : AggTy Tryz.prog 46 fr.size := by rw [hs]; exact agg_point
 have HO := Lib.hid h1; clear h1
 have HS := Lib.hid hs; clear hs
 go_enter Tryz.func173, Tryz.ntmps173
 go_wp2_with fail
 have hb0 := (Below.refl w.heap.size w).alloc (Nat.le_refl _) (.cells zero_point 46)
 have hZ := Row.at (w := w) rfl zero_point.toList 46
 refine (H.out _ hb0).mono ?_
 rintro e w1 ⟨rfl, hr, hk⟩
 have hQ1 := (hQ.alloc (.cells zero_point 46)).kb hk hQX
 have hXl := hr.lt
 have hlQ1 := hQ1.lt
 by_cases hX : w.heap.size = X
 ·subst hX
  have hK := ((KB.refl w.heap.size w.heap.size w).below hb0 (Nat.le_refl _)).trans hk hb0.size
  have q0 := hQ1.c 0 rfl
  clear hk hb0 hQ H
  go_wp2_with fail
  refine (HS2.out _ hr).mono ?_
  rintro e w2 ⟨rfl, hb⟩
  replace hr := hr.after hb
  have q1 := (hQ1.after hb).c 0 rfl
  have hK2 := hK.below hb hK.size
  clear hb hK q0 hQ1
  go_wp2_with (first | (refine wpList_load_R rfl _ _ rfl _ rfl fr hr hT ?_) | (refine wpList_store_R rfl _ _ _ rfl _ fr rfl rfl _ hr (by rw [Array.length_toList]) hT HO.out ?_; intro w3 r3 o3))
  exact bodyPost_ret (results_R1 (cs := fr) rfl rfl r3 hT) rfl ⟨rfl, hK2.on o3 (.inr (Nat.le_refl _))⟩
 ·replace hZ := hZ.kb hk hX
  have hK := ((KB.refl w.heap.size X w).below hb0 (Nat.le_refl _)).trans hk hb0.size
  have q0 := hQ1.c 0 rfl
  clear hk hb0 hQ H
  go_wp2_with fail
  refine (HS2.out _ hr).mono ?_
  rintro e w2 ⟨rfl, hb⟩
  replace hr := hr.after hb
  replace hZ := hZ.after hb
  have q1 := (hQ1.after hb).c 0 rfl
  have hK2 := hK.below hb hK.size
  clear hb hK q0 hQ1
  go_wp2_with (first | (refine wpList_load_R rfl _ _ rfl _ rfl fr hr hT ?_) | (refine wpList_store_R rfl _ _ _ rfl _ fr rfl rfl _ hZ (by rw [HS.out]; rfl) hT HO.out ?_; intro w3 r3 o3))
  exact bodyPost_ret (results_R1 (cs := fr) rfl rfl r3 hT) rfl ⟨rfl, hK2.on o3 (.inr (Nat.le_refl _))⟩
set_option maxRecDepth 100000 in
set_option maxHeartbeats 1600000 in
theorem pdone_core (X B : Nat) (fr : Array Value) (w : World) (hs : fr.size = 20) (h1 : OneC fr) (hlX : X < w.heap.size)
 (H : Hid (∀ W, Below w.heap.size w W → Calls Tryz.prog 153 #[.pointer (some ⟨X, 0, none⟩), .pointer (some ⟨B, 0, none⟩)] W fun e w' => e = .returned (.tuple #[]) ∧ Row w' X fr.toList ∧ KB W.heap.size X W w'))
 (HS2 : Hid (∀ W, Row W X fr.toList → Calls Tryz.prog 174 #[.pointer (some ⟨X, 0, none⟩)] W fun e w' => e = .returned (.tuple #[]) ∧ Below W.heap.size W w')) :
 Calls Tryz.prog 152 #[.pointer (some ⟨X, 0, none⟩), .func (.func 153) #[] #[.pointer (some ⟨X, 0, none⟩), .pointer (some ⟨B, 0, none⟩)]] w fun e w' => e = .returned (.tuple #[.agg fr, .int .i64 0]) ∧ KB w.heap.size X w w' := by
 have hmf : ∀ (fn : Fn) (first cap : Array Value) (w : World), (Instr.makeFunc fn first cap).run Tryz.prog w = .ok (.func fn first cap) w := fun _ _ _ _ => rfl
 have hT : AggTy Tryz.prog 46 fr.size := by rw [hs]; exact agg_point
 have HO := Lib.hid h1; clear h1
 have HS := Lib.hid hs; clear hs
 have H1 := Lib.hid (fun W (hb : Below w.heap.size w W) P Q hP hQ hQX => pdone1_core P Q X B fr W HS.out HO.out hP hQ hQX (Lib.hid (fun V hV => H.out V (hb.trans (hV.mono hb.size)))) HS2)
 clear H
 go_enter Tryz.func152, Tryz.ntmps152
 go_wp2_with fail
 have r2 := (((Row.at (w := w) rfl [.pointer (some ⟨X, 0, none⟩)] 226).alloc (.cells #[.func (.func 153) #[] #[.pointer (some ⟨X, 0, none⟩), .pointer (some ⟨B, 0, none⟩)]] 1)).alloc (.cells zero_point 46))
 have r3 := ((Row.at (w := w.alloc (.cells #[.pointer (some ⟨X, 0, none⟩)] 226)) (n := w.heap.size + 1) (by simp) [.func (.func 153) #[] #[.pointer (some ⟨X, 0, none⟩), .pointer (some ⟨B, 0, none⟩)]] 1).alloc (.cells zero_point 46))
 have r4 := (Row.at (w := (w.alloc (.cells #[.pointer (some ⟨X, 0, none⟩)] 226)).alloc (.cells #[.func (.func 153) #[] #[.pointer (some ⟨X, 0, none⟩), .pointer (some ⟨B, 0, none⟩)]] 1)) (n := w.heap.size + 1 + 1) (by simp) zero_point.toList 46)
 have hb0 := (((Below.refl w.heap.size w).alloc (Nat.le_refl _) (.cells #[.pointer (some ⟨X, 0, none⟩)] 226)).alloc (by simp) (.cells #[.func (.func 153) #[] #[.pointer (some ⟨X, 0, none⟩), .pointer (some ⟨B, 0, none⟩)]] 1)).alloc (by simp; omega) (.cells zero_point 46)
 refine (caughtP_point 173 #[.pointer (some ⟨w.heap.size + 1, 0, none⟩), .pointer (some ⟨w.heap.size, 0, none⟩)] X (.val fr) _ (Nat.lt_of_lt_of_le hlX hb0.size) ⟨HS.out, HO.out⟩ (fun _ _ => Tryz.call173 _ _)
  (fun W hW => H1.out W (hb0.trans (hW.mono hb0.size)) (w.heap.size + 1) w.heap.size (r3.below hW r3.lt) (r2.below hW r2.lt) (by omega))).mono ?_
 rintro e w1 ⟨rfl, hk⟩
 have hK := ((KB.refl w.heap.size X w).below hb0 (Nat.le_refl _)).trans hk hb0.size
 replace r4 := r4.kb hk (by omega)
 clear r2 r3 hk hb0 H1
 simp only [Got.ans]
 go_wp2_with (first | (refine wpList_store_R rfl _ _ _ rfl _ fr rfl rfl _ r4 (by rw [HS.out]; rfl) hT HO.out ?_; intro w2 q2 o2))
 exact bodyPost_ret (results_R2 (cs := fr) rfl rfl q2 hT) rfl ⟨rfl, hK.on o2 (.inr (by omega))⟩
end Go.Proofs.YtongeeggaigepaaGreatDoor

namespace Go.Proofs.YtongeeggaigepaaGreatDoor
open Go.RowKit Go.Sort

theorem KB.toBelowP {B N : Nat} {a w : World} (h : KB B N a w) (hN : B ≤ N) : Below B a w := ⟨h.os, h.tape, h.output, h.size, fun k hk => h.block k hk (by omega)⟩
set_option maxRecDepth 100000 in
set_option maxHeartbeats 3200000 in
theorem node_core (s : ByteArray) (fr : Array Value) (x y : Int) (w : World) (hs : fr.size = 20) (h1 : OneC fr)
 (HP : Hid (∀ W, Below w.heap.size w W → Calls Tryz.prog 134 #[.string s] W fun e w' => e = .returned (.tuple #[.agg fr, .int .i64 0]) ∧ Below W.heap.size W w'))
 (HG : Hid (∀ W, Calls Tryz.prog 85 #[.agg fr] W fun e w' => e = .returned (.tuple #[.agg #[.int .i64 x, .int .i64 y], .bool true]) ∧ Below W.heap.size W w')) :
 Calls Tryz.prog 106 #[.string s] w fun e w' => e = .returned (.agg #[.int .i64 x, .int .i64 y]) ∧ Below w.heap.size w w' := by
 have hT : AggTy Tryz.prog 46 fr.size := by rw [hs]; exact .of _ Tryz.underlying46 rfl (by kernel_rfl)
 have HO := Lib.hid h1; clear h1
 have HS := Lib.hid hs; clear hs
 go_enter Tryz.func106, Tryz.ntmps106
 go_upto_region 1 with fail
 generalize hW : World.alloc _ _ = W0
 have rZ : Row W0 w.heap.size [.int .i64 0, .int .i64 0] := by rw [← hW]; exact Row.at rfl _ _
 have hB : Below w.heap.size w W0 := by rw [← hW]; exact (Below.refl _ _).alloc (Nat.le_refl _) _
 clear hW
 go_wp2_with fail
 refine (HP.out W0 hB).mono ?_
 rintro e w1 ⟨rfl, hb⟩
 replace rZ := rZ.after hb
 replace hB := hB.trans (hb.mono hB.size)
 clear hb
 go_upto_region 2 with (refine wpList_store_R rfl _ _ _ rfl _ fr rfl rfl _ (Row.at rfl zero_point.toList _) (by rw [HS.out]; rfl) hT HO.out ?_; intro w2 r2 o2)
 have l1 := rZ.lt
 replace rZ := o2.row (Nat.ne_of_lt rZ.1) (rZ.alloc _)
 replace hB := below_on (hB.alloc hB.size _) o2 hB.size
 clear o2
 generalize w1.heap.size = b1 at *
 go_wp2_with (refine wpList_load_R rfl _ _ rfl b1 rfl fr r2 hT ?_)
 refine (HG.out _).mono ?_
 rintro e w3 ⟨rfl, hb⟩
 replace rZ := rZ.after hb
 replace hB := hB.trans (hb.mono hB.size)
 clear hb r2
 have z0 := rZ.c 0 rfl
 have z1 := rZ.c 1 rfl
 have f0 := rZ.f 0 rfl
 have f1 := rZ.f 1 rfl
 have lZ := rZ.lt
 go_wp2_with fail
 have gN : AggTy Tryz.prog 23 2 := .of _ Tryz.underlying23 rfl (by kernel_rfl)
 exact bodyPost_ret (results_R1 (cs := #[.int .i64 x, .int .i64 y]) rfl rfl ((rZ.putAll [.int .i64 x, .int .i64 y] rfl).alloc _) gN) rfl ⟨rfl, (below_put1 (below_put1 hB (Nat.le_refl _) _ _) (Nat.le_refl _) _ _).alloc (by simp [World.setCell]; exact hB.size) _⟩
end Go.Proofs.YtongeeggaigepaaGreatDoor

namespace Go.Proofs.YtongeeggaigepaaGreatDoor
open Go.RowKit Go.Sort

def Below2 (n L M : Nat) (w w' : World) : Prop := ∀ k, k ≤ n → k ≤ L → k ≤ M → Below k w w'
set_option maxRecDepth 100000 in
set_option maxHeartbeats 1600000 in
theorem read1_core (L M : Nat) (s a b : ByteArray) (m f : Bool) (w : World) (hL : Row w L [.string s]) (hM : Row w M [.bool m]) (hLM : L ≠ M)
 (HC : Hid (∀ W, Below w.heap.size w W → Calls Tryz.prog 105 #[.string s, .string ⟨#[44]⟩] W fun e w' => e = .returned (.tuple #[.string a, .string b, .bool f]) ∧ Below W.heap.size W w')) :
 Calls Tryz.prog 104 #[.pointer (some ⟨L, 0, none⟩), .pointer (some ⟨M, 0, none⟩)] w fun e w' => e = .returned (.string a) ∧ Row w' L [.string b] ∧ Row w' M [.bool f] ∧ Below2 w.heap.size L M w w' := by
 have l0 := hL.c 0 rfl
 go_enter Tryz.func104, Tryz.ntmps104
 go_wp2_with fail
 refine (HC.out _ (Below.refl _ _)).mono ?_
 rintro e w1 ⟨rfl, hb⟩
 have r1 := hL.after hb
 have r2 := hM.after hb
 have c0 := r1.c 0 rfl
 have f0 := r1.f 0 rfl
 have c1 := r2.c 0 rfl
 have f1 := r2.f 0 rfl
 clear l0
 go_wp2_with fail
 go_ret
 refine ⟨rfl, ?_, ?_, ?_⟩
 ·have := (r1.set 0 (by simp) (.string b)).other (p := ⟨M, 0, none⟩) (fun e => hLM e.symm) (.bool f)
  exact this
 ·have := (r2.other (p := ⟨L, 0, none⟩) hLM (.string b)).set 0 (by simp) (.bool f)
  exact this
 ·intro k hk hkL hkM
  exact below_put1 (below_put1 (hb.mono hk) hkL _ _) hkM _ _
set_option maxRecDepth 100000 in
set_option maxHeartbeats 6400000 in
theorem read_core (s a1 b1 a2 b2 : ByteArray) (ax ay bx bY ck : Int) (r : Got) (w : World) (hck : (ck = 0 ∧ r = Got.val #[.int .i64 ax, .int .i64 ay, .int .i64 bx, .int .i64 bY]) ∨ (ck = 2 ∧ r = Got.gave 140))
 (HR1 : Hid (∀ W L M, Below w.heap.size w W → Row W L [.string s] → Row W M [.bool true] → L ≠ M → Calls Tryz.prog 104 #[.pointer (some ⟨L, 0, none⟩), .pointer (some ⟨M, 0, none⟩)] W fun e w' => e = .returned (.string a1) ∧ Row w' L [.string b1] ∧ Row w' M [.bool true] ∧ Below2 W.heap.size L M W w'))
 (HR2 : Hid (∀ W L M, Below w.heap.size w W → Row W L [.string b1] → Row W M [.bool true] → L ≠ M → Calls Tryz.prog 104 #[.pointer (some ⟨L, 0, none⟩), .pointer (some ⟨M, 0, none⟩)] W fun e w' => e = .returned (.string a2) ∧ Row w' L [.string b2] ∧ Row w' M [.bool false] ∧ Below2 W.heap.size L M W w'))
 (HN1 : Hid (∀ W, Below w.heap.size w W → Calls Tryz.prog 106 #[.string a1] W fun e w' => e = .returned (.agg #[.int .i64 ax, .int .i64 ay]) ∧ Below W.heap.size W w'))
 (HN2 : Hid (∀ W, Below w.heap.size w W → Calls Tryz.prog 106 #[.string a2] W fun e w' => e = .returned (.agg #[.int .i64 bx, .int .i64 bY]) ∧ Below W.heap.size W w'))
 (HC : Hid (∀ W, Calls Tryz.prog 14 #[.agg #[.int .i64 ax, .int .i64 ay, .int .i64 bx, .int .i64 bY]] W fun e w' => e = .returned (.int .i64 ck) ∧ Below W.heap.size W w')) :
 Calls Tryz.prog 66 #[.string s] w fun e w' => e = r.end ∧ Below w.heap.size w w' := by
 have hmf : ∀ (fn : Fn) (first cap : Array Value) (w : World), (Instr.makeFunc fn first cap).run Tryz.prog w = .ok (.func fn first cap) w := fun _ _ _ _ => rfl
 go_enter Tryz.func66, Tryz.ntmps66
 go_upto_region 2 with fail
 generalize hW : World.alloc _ _ = W0
 have rZ : Row W0 w.heap.size [.int .i64 0, .int .i64 0, .int .i64 0, .int .i64 0] := by rw [← hW]; exact ((Row.at rfl _ _).alloc _).alloc _
 have rL : Row W0 (w.heap.size + 1) [.string s] := by rw [← hW]; exact (Row.at (by simp) _ _).alloc _
 have rM : Row W0 (w.heap.size + 1 + 1) [.bool true] := by rw [← hW]; exact Row.at (by simp) _ _
 have hB : Below w.heap.size w W0 := by rw [← hW]; exact (((Below.refl _ _).alloc (Nat.le_refl _) _).alloc (by simp) _).alloc (by simp; omega) _
 clear hW
 go_wp2_with fail
 refine (HR1.out W0 _ _ hB rL rM (by omega)).mono ?_
 rintro e w1 ⟨rfl, rL1, rM1, hb⟩
 have lM := rM.lt
 have hb1 := hb (w.heap.size + 1) (by omega) (Nat.le_refl _) (by omega)
 replace rZ := rZ.below hb1 (by omega)
 replace hB := hB.trans (hb1.mono (by omega))
 clear hb hb1 rL rM
 go_wp2_with fail
 refine (HN1.out _ hB).mono ?_
 rintro e w2 ⟨rfl, hb⟩
 replace rZ := rZ.after hb
 replace rL1 := rL1.after hb
 replace rM1 := rM1.after hb
 replace hB := hB.trans (hb.mono hB.size)
 clear hb
 go_wp2_with fail
 refine (HR2.out _ _ _ hB rL1 rM1 (by omega)).mono ?_
 rintro e w3 ⟨rfl, rL2, rM2, hb⟩
 have lM2 := rM1.lt
 have hb1 := hb (w.heap.size + 1) (by omega) (Nat.le_refl _) (by omega)
 replace rZ := rZ.below hb1 (by omega)
 replace hB := hB.trans (hb1.mono (by omega))
 clear hb hb1 rL1 rM1 rL2
 go_wp2_with fail
 refine (HN2.out _ hB).mono ?_
 rintro e w4 ⟨rfl, hb⟩
 replace rZ := rZ.after hb
 replace rM2 := rM2.after hb
 replace hB := hB.trans (hb.mono hB.size)
 clear hb
 go_upto_region 4 with fail
 generalize hW : World.alloc _ _ = W5
 have rS : Row W5 w4.heap.size [.int .i64 ax, .int .i64 ay, .int .i64 bx, .int .i64 bY] := by rw [← hW]; exact Row.at rfl _ _
 replace rZ : Row W5 w.heap.size [.int .i64 0, .int .i64 0, .int .i64 0, .int .i64 0] := by rw [← hW]; exact rZ.alloc _
 replace rM2 : Row W5 (w.heap.size + 1 + 1) [.bool false] := by rw [← hW]; exact rM2.alloc _
 replace hB : Below w.heap.size w W5 := by rw [← hW]; exact hB.alloc hB.size _
 clear hW
 have m0 := rM2.c 0 rfl
 have s0 := rS.c 0 rfl
 have s1 := rS.c 1 rfl
 have s2 := rS.c 2 rfl
 have s3 := rS.c 3 rfl
 go_wp2_with fail
 refine (HC.out _).mono ?_
 rintro e w6 ⟨rfl, hb⟩
 replace rZ := rZ.after hb
 replace rS := rS.after hb
 replace hB := hB.trans (hb.mono hB.size)
 clear hb m0 s0 s1 s2 s3 HR1 HR2 HN1 HN2 HC
 rcases hck with ⟨rfl, rfl⟩ | ⟨rfl, rfl⟩
 ·have s0 := rS.c 0 rfl
  have s1 := rS.c 1 rfl
  have s2 := rS.c 2 rfl
  have s3 := rS.c 3 rfl
  have z0 := rZ.c 0 rfl
  have z1 := rZ.c 1 rfl
  have z2 := rZ.c 2 rfl
  have z3 := rZ.c 3 rfl
  have f0 := rZ.f 0 rfl
  have f1 := rZ.f 1 rfl
  have f2 := rZ.f 2 rfl
  have f3 := rZ.f 3 rfl
  go_wp2_with fail
  have gS : AggTy Tryz.prog 25 4 := .of _ Tryz.underlying25 rfl (by kernel_rfl)
  exact bodyPost_ret (results_R1 (cs := #[.int .i64 ax, .int .i64 ay, .int .i64 bx, .int .i64 bY]) rfl rfl (rZ.putAll [.int .i64 ax, .int .i64 ay, .int .i64 bx, .int .i64 bY] rfl) gS) rfl ⟨rfl, below_put1 (below_put1 (below_put1 (below_put1 hB (Nat.le_refl _) _ _) (Nat.le_refl _) _ _) (Nat.le_refl _) _ _) (Nat.le_refl _) _ _⟩
 ·go_wp2_with fail
  refine (for_gives 140 _ (by decide)).mono ?_
  rintro e w7 ⟨rfl, rfl⟩
  go_wp2
  exact ⟨rfl, rfl, hB⟩
set_option maxRecDepth 100000 in
set_option maxHeartbeats 3200000 in
theorem segparse1_core (B : Nat) (s : ByteArray) (r : Got) (w : World) (hr : r.fits 4) (hB : w.cell? ⟨B, 0, none⟩ = some (.string s))
 (HR : Hid (∀ W, Below w.heap.size w W → Calls Tryz.prog 66 #[.string s] W fun e w' => e = r.end ∧ Below W.heap.size W w')) :
 Calls Tryz.prog 65 #[.pointer (some ⟨B, 0, none⟩)] w fun e w' => e = r.end ∧ Below w.heap.size w w' := by
 have lB := block_lt_of_cell hB
 have Hr := Lib.hid hr; clear hr
 go_enter Tryz.func65, Tryz.ntmps65
 go_upto_region 1 with fail
 generalize hW : World.alloc _ _ = W0
 have rZ : Row W0 w.heap.size [.int .i64 0, .int .i64 0, .int .i64 0, .int .i64 0] := by rw [← hW]; exact Row.at rfl _ _
 have hB0 : Below w.heap.size w W0 := by rw [← hW]; exact (Below.refl _ _).alloc (Nat.le_refl _) _
 have c0 : W0.cell? ⟨B, 0, none⟩ = some (.string s) := (hB0.cell (p := ⟨B, 0, none⟩) lB).trans hB
 clear hW
 go_wp2_with fail
 refine (HR.out _ hB0).mono ?_
 rintro e w1 ⟨rfl, hb⟩
 replace rZ := rZ.after hb
 replace hB0 := hB0.trans (hb.mono hB0.size)
 clear hb c0 HR
 have gS : ∀ cs : Array Value, cs.size = 4 → AggTy Tryz.prog 25 cs.size := fun cs h => by rw [h]; exact .of _ Tryz.underlying25 rfl (by kernel_rfl)
 cases r with
 | gave k =>
   simp only [Got.end]
   go_wp2
   exact ⟨rfl, rfl, hB0⟩
 | val cs =>
   obtain ⟨h4, h1⟩ := Hr.out
   have hT := gS cs h4
   have H1 := Lib.hid h1
   clear h1 Hr
   simp only [Got.end]
   go_wp2_with (first | (refine wpList_store_R rfl _ _ _ rfl _ cs rfl rfl _ rZ (by rw [h4]; rfl) hT H1.out ?_; intro w2 r2 o2))
   exact bodyPost_ret (results_R1 (cs := cs) rfl rfl r2 hT) rfl ⟨rfl, below_on hB0 o2 (Nat.le_refl _)⟩
set_option maxRecDepth 100000 in
set_option maxHeartbeats 3200000 in
theorem segparse_core (s : ByteArray) (r : Got) (w : World) (hr : r.fits 4)
 (HR : Hid (∀ W, Below w.heap.size w W → Calls Tryz.prog 66 #[.string s] W fun e w' => e = r.end ∧ Below W.heap.size W w')) :
 Calls Tryz.prog 26 #[.string s] w fun e w' => e = .returned (r.ans zero_seg) ∧ Below w.heap.size w w' := by
 have hmf : ∀ (fn : Fn) (first cap : Array Value) (w : World), (Instr.makeFunc fn first cap).run Tryz.prog w = .ok (.func fn first cap) w := fun _ _ _ _ => rfl
 have Hr := Lib.hid hr; clear hr
 go_enter Tryz.func26, Tryz.ntmps26
 go_upto_region 1 with fail
 generalize hW : World.alloc _ _ = W0
 have rB : Row W0 w.heap.size [.string s] := by rw [← hW]; exact (Row.at rfl [.string s] _).alloc _
 have rZ : Row W0 (w.heap.size + 1) zero_seg.toList := by rw [← hW]; exact Row.at (by simp) _ _
 have hB : Below w.heap.size w W0 := by rw [← hW]; exact ((Below.refl _ _).alloc (Nat.le_refl _) _).alloc (by simp) _
 clear hW
 go_wp2_with fail
 refine (caught_seg 65 #[.pointer (some ⟨w.heap.size, 0, none⟩)] w.heap.size r _ rB.1 Hr.out (fun _ _ => Tryz.call65 _ _)
  (fun W hW => (segparse1_core w.heap.size s r W Hr.out ((hW.cell (p := ⟨w.heap.size, 0, none⟩) rB.1).trans (rB.c 0 rfl)) (Lib.hid (fun V hV => HR.out V (hB.trans ((hW.trans (hV.mono hW.size)).mono hB.size))))).mono (fun e w' h => ⟨h.1, KB.ofBelow' h.2⟩))).mono ?_
 rintro e w1 ⟨rfl, hk⟩
 replace rZ := rZ.kb hk (by omega)
 have hB1 : Below w.heap.size w w1 := (((KB.refl w.heap.size w.heap.size w).below hB (Nat.le_refl _)).trans hk hB.size).toBelowP (Nat.le_refl _)
 clear hk rB HR
 have gS : ∀ cs : Array Value, cs.size = 4 → AggTy Tryz.prog 25 cs.size := fun cs h => by rw [h]; exact .of _ Tryz.underlying25 rfl (by kernel_rfl)
 have oZ : OneC zero_seg := by simp [OneC, zero_seg, Value.oneCell']
 have HZ := Lib.hid oZ; clear oZ
 cases r with
 | gave k =>
   simp only [Got.ans]
   have hT := gS zero_seg rfl
   go_wp2_with (first | (refine wpList_store_R rfl _ _ _ rfl _ zero_seg rfl rfl _ rZ rfl hT HZ.out ?_; intro w2 r2 o2))
   exact bodyPost_ret (results_R2 (cs := zero_seg) rfl rfl r2 hT) rfl ⟨rfl, below_on hB1 o2 (by omega)⟩
 | val cs =>
   obtain ⟨h4, h1⟩ := Hr.out
   have hT := gS cs h4
   have H1 := Lib.hid h1
   clear h1 Hr
   simp only [Got.ans]
   go_wp2_with (first | (refine wpList_store_R rfl _ _ _ rfl _ cs rfl rfl _ rZ (by rw [h4]; rfl) hT H1.out ?_; intro w2 r2 o2))
   exact bodyPost_ret (results_R2 (cs := cs) rfl rfl r2 hT) rfl ⟨rfl, below_on hB1 o2 (by omega)⟩
end Go.Proofs.YtongeeggaigepaaGreatDoor
