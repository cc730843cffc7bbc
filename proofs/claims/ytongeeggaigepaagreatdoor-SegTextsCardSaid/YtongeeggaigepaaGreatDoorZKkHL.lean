/-
Proved: SegTexts returns true at every two segments and every text (a segment's text, the segment of any text, and which are the same), and leaves its arguments alone. Conditions: those of the given card alone.
-/
import Derived.Test.YtongeeggaigepaaGreatDoorZKkHB
import Derived.Test.YtongeeggaigepaaGreatDoorZKkZF
namespace Go.Proofs.YtongeeggaigepaaGreatDoor
open Go.RowKit Go.Sort CrossMath
attribute [local go_sem] Oper.semAt_some
set_option maxRecDepth 100000 in
set_option maxHeartbeats 4000000 in
theorem parts_f (f : Bool) (n E F X : Nat) (s a b : ByteArray) (w : World) (hE : Row w E [.string s]) (hF : Row w F [.pointer (some ⟨X, 0, none⟩)]) (hs : s.size < 4294967281) (hn : Lib.cut s.data.toList [32] = (a.data.toList, b.data.toList, f)) (hc : CutOk w) :
 SeqU Fence.wide (n + 1) Tryz.prog 195 #[.pointer (some ⟨E, 0, none⟩), .pointer (some ⟨F, 0, none⟩)] encS (fun _ => KeepsE E F) [(X, 0, a), (X, 10, b)] w := by
 intro l J Jx W hW hJ hJx hY h0
 have HC := Lib.hid (strcut_any s ⟨#[32]⟩ a b f W (hc.below hW) hs hn)
 have HY := Lib.hid hY; clear hY
 have hR := hE.after hW
 have hG := hF.after hW
 clear hE hF hW
 have HJ := Lib.hid hJ
 have c0 := hR.c 0 rfl
 refine callsIn_of_wp Tryz.func195 rfl trivial ?_ rfl
 simp only [Tryz.ntmps195, List.size_toArray, List.length_cons, List.length_nil, Nat.reduceAdd, Nat.reduceSub, Array.replicate_succ, Array.replicate_zero, List.push_toArray, List.append_toArray, List.nil_append, List.cons_append]
 gi_wp2_with fail
 refine ⟨trivial, callsIn_wide.2 (HC.out.mono ?_)⟩
 rintro e W1 ⟨rfl, hb⟩
 have h1 := HJ.out _ _ _ h0 hb
 have hG1 := hG.after hb
 have g0 := hG1.c 0 rfl
 obtain ⟨fn, tmps, assign, body, hy, hr⟩ := HY.out [] (X, 0, a) W1 h1 hb.size (by simp)
 have H1 := Lib.hid hr
 have hsz := hb.size
 unfold encS at hy
 clear hr c0 hb HC
 gi_wp2_with fail
 refine H1.out.mono ?_
 rintro e W2 ⟨b1, rfl, hk, hb⟩
 clear hy H1 g0
 cases b1 with
 | false =>
   gi_wp2_with fail
   go_end0
   exact ⟨⟨_, rfl⟩, .inr ⟨[(X, 0, a)], by simp, hb⟩⟩
 | true =>
   have g1 := (hk.2.row hG1).c 0 rfl
   obtain ⟨fn, tmps, assign, body, hy, hr⟩ := HY.out [(X, 0, a)] (X, 10, b) W2 hb (Nat.le_trans hsz hk.1.1) (by simp)
   have H2 := Lib.hid hr
   unfold encS at hy
   clear hr
   gi_wp2_with fail
   refine H2.out.mono ?_
   rintro e W3 ⟨b2, rfl, hk2, hb2⟩
   clear hy H2 g1
   gi_wp2_with fail
   go_end0
   refine ⟨⟨_, rfl⟩, ?_⟩
   cases b2 with
   | false => exact .inr ⟨[(X, 0, a), (X, 10, b)], by simp, hb2⟩
   | true => exact .inl hb2
set_option maxRecDepth 100000 in
set_option maxHeartbeats 12800000 in
theorem sread_a120 (X : Nat) (s ta : ByteArray) (rest : List (Nat × Nat × ByteArray)) (pg qg rg tg ag bg : Bool) (p1 p2 p3 p4 q1 q2 q3 q4 r1 r2 r3 r4 t1 t2 t3 t4 a1 a2 a3 a4 b1 b2 b3 b4 : Int) (w : World) (hX : Row w X [.bool pg, .int .u64 p1, .int .u64 p2, .int .u64 p3, .int .u64 p4, .bool qg, .int .u64 q1, .int .u64 q2, .int .u64 q3, .int .u64 q4, .bool rg, .int .u64 r1, .int .u64 r2, .int .u64 r3, .int .u64 r4, .bool tg, .int .u64 t1, .int .u64 t2, .int .u64 t3, .int .u64 t4]) (hc : CutOk w)
 (HS : ∀ E F W, Row W E [.string s] → Row W F [.pointer (some ⟨X, 0, none⟩)] → CutOk W → SeqU Fence.wide 8 Tryz.prog 195 #[.pointer (some ⟨E, 0, none⟩), .pointer (some ⟨F, 0, none⟩)] encS (fun _ => KeepsE E F) ((X, 0, ta) :: rest) W)
 (HPa : Hid (∀ W, KB w.heap.size X w W → Calls Tryz.prog 176 #[.string ta] W fun e w' => e = .returned (.tuple #[.agg #[.bool ag, .int .u64 a1, .int .u64 a2, .int .u64 a3, .int .u64 a4, .bool bg, .int .u64 b1, .int .u64 b2, .int .u64 b3, .int .u64 b4], .int .i64 120]) ∧ Below W.heap.size W w'))
 : Calls Tryz.prog 154 #[.pointer (some ⟨X, 0, none⟩), .string s] w fun e w' => e = (Got.gave 130).end ∧ KB w.heap.size X w w' := by
 have hlX := hX.lt
 refine (callsIn_wide (n := 9)).1 ?_
 refine callsIn_of_wp_marks Tryz.func154 rfl trivial ?_ rfl
 simp only [Tryz.ntmps154, List.size_toArray, List.length_cons, List.length_nil, Nat.reduceAdd, Nat.reduceSub, Array.replicate_succ, Array.replicate_zero, List.push_toArray, List.append_toArray, List.nil_append, List.cons_append]
 refine wpIn_wide.2 ?_
 first | refine wp_scope_straight ?_ | skip
 go_wp2_with fail
 first | refine wp_scope_straight ?_ | skip
 generalize hW : World.alloc _ _ = W0
 have hR : Row W0 w.heap.size [.int .i64 0] := by rw [← hW]; exact Row.at rfl _ _
 have hB : Below w.heap.size w W0 := by rw [← hW]; exact (Below.refl _ _).alloc (Nat.le_refl _) _
 clear hW
 refine wp_label ?_
 go_wp2_with fail
 refine (parts_any2 X s _).mono ?_
 rintro e W1 ⟨E, F, rfl, hEs, hFs, hRE, hRF, hb⟩
 have l0 := hR.lt
 replace hR := hR.after hb
 replace hB := hB.trans (hb.mono hB.size)
 have hW0 := hb.size
 have hC1 : CutOk W1 := hc.below hB
 have hX1 := hX.below hB hlX
 clear hb
 have hSq := HS E F W1 hRE hRF hC1
 clear HS
 have hEX : E ≠ X := by omega
 have hFX : F ≠ X := by omega
 have hEW : E ≠ w.heap.size := by omega
 have hFW : F ≠ w.heap.size := by omega
 have hWX : w.heap.size ≠ X := by omega
 have lW1 := hRE.1
 go_wp2_with fail
 refine (wpIn_wide (n := 9)).1 ?_
 refine wpIn_range_u (α := Nat × Nat × ByteArray) rfl (by omega) (gf := 195) (lb := #[.pointer (some ⟨E, 0, none⟩), .pointer (some ⟨F, 0, none⟩)]) rfl trivial (enters_of Tryz.func195 (by kernel_rfl) rfl)
  hSq KeepsE.trans (fun _ l W _ o' h _ _ _ => ⟨KeepsB.turn W o' (by have := hRE.1; omega), KeepsB.turn W o' (by have := hRF.1; omega)⟩) (fun _ _ _ h => ⟨KeepsB.below h, KeepsB.below h⟩) (Below.refl _ _) (fun _ => rfl)
  (fun pre W => pre = [] ∧ Row W w.heap.size [.int .i64 0] ∧ Row W X [.bool pg, .int .u64 p1, .int .u64 p2, .int .u64 p3, .int .u64 p4, .bool qg, .int .u64 q1, .int .u64 q2, .int .u64 q3, .int .u64 q4, .bool rg, .int .u64 r1, .int .u64 r2, .int .u64 r3, .int .u64 r4, .bool tg, .int .u64 t1, .int .u64 t2, .int .u64 t3, .int .u64 t4] ∧ KB w.heap.size X w W)
  (fun c _ W => c = .exit 0 ∧ Row W w.heap.size [.int .i64 130] ∧ KB w.heap.size X w W)
  (fun _ X Y h hb => ⟨h.1, h.2.1.below hb hR.1, h.2.2.1.below hb hX1.1, h.2.2.2.below hb hB.size⟩)
  (fun c _ X Y h hb => ⟨h.1, h.2.1.below hb hR.1, h.2.2.below hb hB.size⟩) ⟨rfl, hR, hX1, KB.ofBelow' hB⟩
  (fun x a' _ => a' = { tmps := #[.pointer (some ⟨X, 0, none⟩), .string s, undef, undef, .pointer (some ⟨w.heap.size, 0, none⟩), .pointer (some ⟨x.1, x.2.1, none⟩), .string x.2.2, undef, undef, .pointer (some ⟨X, 0, none⟩), .string s, .func (.func 195) #[] #[.pointer (some ⟨E, 0, none⟩), .pointer (some ⟨F, 0, none⟩)], .pointer (some ⟨x.1, x.2.1, none⟩), .string x.2.2, undef, undef, undef, undef, undef, undef, undef, undef, undef, undef, undef, undef, undef, undef, undef, undef], defers := [] })
  (fun _ _ _ _ _ _ _ h => h) ?assign ?body ?done ?stop
 case assign =>
  intro l' pre x W K hI hW hK
  clear hI
  unfold encS
  gi_wp2
  exact hK _ _ (Below.refl _ _) rfl
 case body =>
  rintro l' pre x a' W ⟨rfl, hI1, hI3, hI4⟩ hW hp rfl
  obtain rfl : x = (X, 0, ta) := by obtain ⟨r, hr⟩ := hp; exact (List.cons.inj hr).1
  gi_wp2_with fail
  refine ⟨trivial, callsIn_wide.2 ((HPa.out _ hI4).mono ?_)⟩
  rintro e W3 ⟨rfl, hb⟩
  have r1 := hI1.after hb
  have r3 := hI3.after hb
  have z0 := r1.c 0 rfl
  have g0 := r1.f 0 rfl
  have lX := r3.lt
  have lB := r1.lt
  have k3 := hI4.below hb hI4.size
  have s3 := k3.size
  gi_wp2_with fail
  refine ⟨((keeps_below hb).trans ((KeepsOthers.setCell _ _ _).trans (KeepsOthers.alloc _ _))).from _, ⟨(KeepsB.put (KeepsB.below hb) hEW _).trans (KeepsB.below ((Below.refl _ _).alloc (Nat.le_refl _) _)), (KeepsB.put (KeepsB.below hb) hFW _).trans (KeepsB.below ((Below.refl _ _).alloc (Nat.le_refl _) _))⟩, ?_⟩
  exact ⟨rfl, (r1.set 0 (by simp) (.int .i64 130)).alloc _, (k3.put1 (Or.inr (Nat.le_refl _)) 0 _).alloc (by simpa [World.setCell] using s3) _⟩
 case done =>
  rintro D V hD ⟨hI0, _⟩ hK
  cases hI0
 case stop =>
  rintro D c pre V hD hpre ⟨rfl, hI2, hI4⟩ hK
  refine wpIn_wide.2 ?_
  have z0 := hI2.c 0 rfl
  have hM : Marks W1.heap.size [D] V := ⟨hD, hK, by simp, trivial⟩
  have HH := Lib.hid (And.intro hM hI4)
  have hBs := hB.size
  clear hI2 hI4 hK hM hpre
  go_wp2_with fail
  refine (for_gives 130 _ (by decide)).mono ?_
  rintro e V2 ⟨rfl, rfl⟩
  go_wp2_with fail
  refine leaves_gave (by simp) [D] V HH.out.1 fun V5 hV => ?_
  exact ⟨rfl, HH.out.2.below hV hBs⟩
set_option maxRecDepth 100000 in
set_option maxHeartbeats 12800000 in
theorem sread_a0_b120 (X : Nat) (s ta tb : ByteArray) (pg qg rg tg ag bg cg dg : Bool) (p1 p2 p3 p4 q1 q2 q3 q4 r1 r2 r3 r4 t1 t2 t3 t4 a1 a2 a3 a4 b1 b2 b3 b4 c1 c2 c3 c4 d1 d2 d3 d4 : Int) (w : World) (hX : Row w X [.bool pg, .int .u64 p1, .int .u64 p2, .int .u64 p3, .int .u64 p4, .bool qg, .int .u64 q1, .int .u64 q2, .int .u64 q3, .int .u64 q4, .bool rg, .int .u64 r1, .int .u64 r2, .int .u64 r3, .int .u64 r4, .bool tg, .int .u64 t1, .int .u64 t2, .int .u64 t3, .int .u64 t4]) (hc : CutOk w)
 (HS : ∀ E F W, Row W E [.string s] → Row W F [.pointer (some ⟨X, 0, none⟩)] → CutOk W → SeqU Fence.wide 8 Tryz.prog 195 #[.pointer (some ⟨E, 0, none⟩), .pointer (some ⟨F, 0, none⟩)] encS (fun _ => KeepsE E F) ([(X, 0, ta), (X, 10, tb)]) W)
 (HPa : Hid (∀ W, KB w.heap.size X w W → Calls Tryz.prog 176 #[.string ta] W fun e w' => e = .returned (.tuple #[.agg #[.bool ag, .int .u64 a1, .int .u64 a2, .int .u64 a3, .int .u64 a4, .bool bg, .int .u64 b1, .int .u64 b2, .int .u64 b3, .int .u64 b4], .int .i64 0]) ∧ Below W.heap.size W w'))
 (HPb : Hid (∀ W, KB w.heap.size X w W → Calls Tryz.prog 176 #[.string tb] W fun e w' => e = .returned (.tuple #[.agg #[.bool cg, .int .u64 c1, .int .u64 c2, .int .u64 c3, .int .u64 c4, .bool dg, .int .u64 d1, .int .u64 d2, .int .u64 d3, .int .u64 d4], .int .i64 120]) ∧ Below W.heap.size W w'))
 : Calls Tryz.prog 154 #[.pointer (some ⟨X, 0, none⟩), .string s] w fun e w' => e = (Got.gave 130).end ∧ KB w.heap.size X w w' := by
 have hlX := hX.lt
 refine (callsIn_wide (n := 9)).1 ?_
 refine callsIn_of_wp_marks Tryz.func154 rfl trivial ?_ rfl
 simp only [Tryz.ntmps154, List.size_toArray, List.length_cons, List.length_nil, Nat.reduceAdd, Nat.reduceSub, Array.replicate_succ, Array.replicate_zero, List.push_toArray, List.append_toArray, List.nil_append, List.cons_append]
 refine wpIn_wide.2 ?_
 first | refine wp_scope_straight ?_ | skip
 go_wp2_with fail
 first | refine wp_scope_straight ?_ | skip
 generalize hW : World.alloc _ _ = W0
 have hR : Row W0 w.heap.size [.int .i64 0] := by rw [← hW]; exact Row.at rfl _ _
 have hB : Below w.heap.size w W0 := by rw [← hW]; exact (Below.refl _ _).alloc (Nat.le_refl _) _
 clear hW
 refine wp_label ?_
 go_wp2_with fail
 refine (parts_any2 X s _).mono ?_
 rintro e W1 ⟨E, F, rfl, hEs, hFs, hRE, hRF, hb⟩
 have l0 := hR.lt
 replace hR := hR.after hb
 replace hB := hB.trans (hb.mono hB.size)
 have hW0 := hb.size
 have hC1 : CutOk W1 := hc.below hB
 have hX1 := hX.below hB hlX
 clear hb
 have hSq := HS E F W1 hRE hRF hC1
 clear HS
 have hEX : E ≠ X := by omega
 have hFX : F ≠ X := by omega
 have hEW : E ≠ w.heap.size := by omega
 have hFW : F ≠ w.heap.size := by omega
 have hWX : w.heap.size ≠ X := by omega
 have lW1 := hRE.1
 go_wp2_with fail
 refine (wpIn_wide (n := 9)).1 ?_
 refine wpIn_range_u (α := Nat × Nat × ByteArray) rfl (by omega) (gf := 195) (lb := #[.pointer (some ⟨E, 0, none⟩), .pointer (some ⟨F, 0, none⟩)]) rfl trivial (enters_of Tryz.func195 (by kernel_rfl) rfl)
  hSq KeepsE.trans (fun _ l W _ o' h _ _ _ => ⟨KeepsB.turn W o' (by have := hRE.1; omega), KeepsB.turn W o' (by have := hRF.1; omega)⟩) (fun _ _ _ h => ⟨KeepsB.below h, KeepsB.below h⟩) (Below.refl _ _) (fun _ => rfl)
  (fun pre W => pre.length ≤ 1 ∧ Row W w.heap.size [.int .i64 (lx 0 0 0 pre)] ∧ Row W X (lx [.bool pg, .int .u64 p1, .int .u64 p2, .int .u64 p3, .int .u64 p4, .bool qg, .int .u64 q1, .int .u64 q2, .int .u64 q3, .int .u64 q4, .bool rg, .int .u64 r1, .int .u64 r2, .int .u64 r3, .int .u64 r4, .bool tg, .int .u64 t1, .int .u64 t2, .int .u64 t3, .int .u64 t4] [.bool ag, .int .u64 a1, .int .u64 a2, .int .u64 a3, .int .u64 a4, .bool bg, .int .u64 b1, .int .u64 b2, .int .u64 b3, .int .u64 b4, .bool rg, .int .u64 r1, .int .u64 r2, .int .u64 r3, .int .u64 r4, .bool tg, .int .u64 t1, .int .u64 t2, .int .u64 t3, .int .u64 t4] [.bool ag, .int .u64 a1, .int .u64 a2, .int .u64 a3, .int .u64 a4, .bool bg, .int .u64 b1, .int .u64 b2, .int .u64 b3, .int .u64 b4, .bool rg, .int .u64 r1, .int .u64 r2, .int .u64 r3, .int .u64 r4, .bool tg, .int .u64 t1, .int .u64 t2, .int .u64 t3, .int .u64 t4] pre) ∧ KB w.heap.size X w W)
  (fun c _ W => c = .exit 0 ∧ Row W w.heap.size [.int .i64 130] ∧ KB w.heap.size X w W)
  (fun _ X Y h hb => ⟨h.1, h.2.1.below hb hR.1, h.2.2.1.below hb hX1.1, h.2.2.2.below hb hB.size⟩)
  (fun c _ X Y h hb => ⟨h.1, h.2.1.below hb hR.1, h.2.2.below hb hB.size⟩) ⟨by simp, hR, hX1, KB.ofBelow' hB⟩
  (fun x a' _ => a' = { tmps := #[.pointer (some ⟨X, 0, none⟩), .string s, undef, undef, .pointer (some ⟨w.heap.size, 0, none⟩), .pointer (some ⟨x.1, x.2.1, none⟩), .string x.2.2, undef, undef, .pointer (some ⟨X, 0, none⟩), .string s, .func (.func 195) #[] #[.pointer (some ⟨E, 0, none⟩), .pointer (some ⟨F, 0, none⟩)], .pointer (some ⟨x.1, x.2.1, none⟩), .string x.2.2, undef, undef, undef, undef, undef, undef, undef, undef, undef, undef, undef, undef, undef, undef, undef, undef], defers := [] })
  (fun _ _ _ _ _ _ _ h => h) ?assign ?body ?done ?stop
 case assign =>
  intro l' pre x W K hI hW hK
  clear hI
  unfold encS
  gi_wp2
  exact hK _ _ (Below.refl _ _) rfl
 case body =>
  rintro l' pre x a' W ⟨_, hI1, hI3, hI4⟩ hW hp rfl
  rcases two_r hp with ⟨rfl, rfl⟩ | ⟨rfl, rfl⟩
  ·replace hI1 : Row W w.heap.size [.int .i64 0] := hI1
   replace hI3 : Row W X [.bool pg, .int .u64 p1, .int .u64 p2, .int .u64 p3, .int .u64 p4, .bool qg, .int .u64 q1, .int .u64 q2, .int .u64 q3, .int .u64 q4, .bool rg, .int .u64 r1, .int .u64 r2, .int .u64 r3, .int .u64 r4, .bool tg, .int .u64 t1, .int .u64 t2, .int .u64 t3, .int .u64 t4] := hI3
   gi_wp2_with fail
   refine ⟨trivial, callsIn_wide.2 ((HPa.out _ hI4).mono ?_)⟩
   rintro e W3 ⟨rfl, hb⟩
   have r1 := hI1.after hb
   have r3 := hI3.after hb
   have z0 := r1.c 0 rfl
   have g0 := r1.f 0 rfl
   have lX := r3.lt
   have lB := r1.lt
   have k3 := hI4.below hb hI4.size
   have s3 := k3.size
   have x0 := r3.c 0 rfl
   have f0 := r3.f 0 rfl
   have x1 := r3.c 1 rfl
   have f1 := r3.f 1 rfl
   have x2 := r3.c 2 rfl
   have f2 := r3.f 2 rfl
   have x3 := r3.c 3 rfl
   have f3 := r3.f 3 rfl
   have x4 := r3.c 4 rfl
   have f4 := r3.f 4 rfl
   have x5 := r3.c 5 rfl
   have f5 := r3.f 5 rfl
   have x6 := r3.c 6 rfl
   have f6 := r3.f 6 rfl
   have x7 := r3.c 7 rfl
   have f7 := r3.f 7 rfl
   have x8 := r3.c 8 rfl
   have f8 := r3.f 8 rfl
   have x9 := r3.c 9 rfl
   have f9 := r3.f 9 rfl
   gi_wp2_with fail
   have o : On W3 ((((((((((W3.setCell ⟨X, 0, none⟩ (.bool ag)).setCell ⟨X, 1, none⟩ (.int .u64 a1)).setCell ⟨X, 2, none⟩ (.int .u64 a2)).setCell ⟨X, 3, none⟩ (.int .u64 a3)).setCell ⟨X, 4, none⟩ (.int .u64 a4)).setCell ⟨X, 5, none⟩ (.bool bg)).setCell ⟨X, 6, none⟩ (.int .u64 b1)).setCell ⟨X, 7, none⟩ (.int .u64 b2)).setCell ⟨X, 8, none⟩ (.int .u64 b3)).setCell ⟨X, 9, none⟩ (.int .u64 b4)) X := (((((((((((On.refl W3 X).put 0 _).put 1 _).put 2 _).put 3 _).put 4 _).put 5 _).put 6 _).put 7 _).put 8 _).put 9 _)
   have rX := ((((((((((r3.set 0 (by simp) (.bool ag)).set 1 (by simp) (.int .u64 a1)).set 2 (by simp) (.int .u64 a2)).set 3 (by simp) (.int .u64 a3)).set 4 (by simp) (.int .u64 a4)).set 5 (by simp) (.bool bg)).set 6 (by simp) (.int .u64 b1)).set 7 (by simp) (.int .u64 b2)).set 8 (by simp) (.int .u64 b3)).set 9 (by simp) (.int .u64 b4))
   have kO : KeepsOthers W3 ((((((((((W3.setCell ⟨X, 0, none⟩ (.bool ag)).setCell ⟨X, 1, none⟩ (.int .u64 a1)).setCell ⟨X, 2, none⟩ (.int .u64 a2)).setCell ⟨X, 3, none⟩ (.int .u64 a3)).setCell ⟨X, 4, none⟩ (.int .u64 a4)).setCell ⟨X, 5, none⟩ (.bool bg)).setCell ⟨X, 6, none⟩ (.int .u64 b1)).setCell ⟨X, 7, none⟩ (.int .u64 b2)).setCell ⟨X, 8, none⟩ (.int .u64 b3)).setCell ⟨X, 9, none⟩ (.int .u64 b4)) := ((((((((((KeepsOthers.setCell W3 _ _).trans (KeepsOthers.setCell _ _ _)).trans (KeepsOthers.setCell _ _ _)).trans (KeepsOthers.setCell _ _ _)).trans (KeepsOthers.setCell _ _ _)).trans (KeepsOthers.setCell _ _ _)).trans (KeepsOthers.setCell _ _ _)).trans (KeepsOthers.setCell _ _ _)).trans (KeepsOthers.setCell _ _ _)).trans (KeepsOthers.setCell _ _ _))
   generalize (((((((((W3.setCell ⟨X, 0, none⟩ (.bool ag)).setCell ⟨X, 1, none⟩ (.int .u64 a1)).setCell ⟨X, 2, none⟩ (.int .u64 a2)).setCell ⟨X, 3, none⟩ (.int .u64 a3)).setCell ⟨X, 4, none⟩ (.int .u64 a4)).setCell ⟨X, 5, none⟩ (.bool bg)).setCell ⟨X, 6, none⟩ (.int .u64 b1)).setCell ⟨X, 7, none⟩ (.int .u64 b2)).setCell ⟨X, 8, none⟩ (.int .u64 b3)).setCell ⟨X, 9, none⟩ (.int .u64 b4) = W4 at *
   refine ⟨((keeps_below hb).trans (kO.trans (KeepsOthers.alloc _ _))).from _, ⟨fin E hEX hb o _, fin F hFX hb o _⟩, ?_⟩
   exact ⟨by simp, (o.row hWX r1).alloc _, rX.alloc _, ((hI4.below hb hI4.size).on o (.inl rfl)).alloc (by have := hI4.size; rw [o.size]; have := hb.size; omega) _⟩
  ·replace hI1 : Row W w.heap.size [.int .i64 0] := hI1
   replace hI3 : Row W X [.bool ag, .int .u64 a1, .int .u64 a2, .int .u64 a3, .int .u64 a4, .bool bg, .int .u64 b1, .int .u64 b2, .int .u64 b3, .int .u64 b4, .bool rg, .int .u64 r1, .int .u64 r2, .int .u64 r3, .int .u64 r4, .bool tg, .int .u64 t1, .int .u64 t2, .int .u64 t3, .int .u64 t4] := hI3
   gi_wp2_with fail
   refine ⟨trivial, callsIn_wide.2 ((HPb.out _ hI4).mono ?_)⟩
   rintro e W3 ⟨rfl, hb⟩
   have r1 := hI1.after hb
   have r3 := hI3.after hb
   have z0 := r1.c 0 rfl
   have g0 := r1.f 0 rfl
   have lX := r3.lt
   have lB := r1.lt
   have k3 := hI4.below hb hI4.size
   have s3 := k3.size
   gi_wp2_with fail
   refine ⟨((keeps_below hb).trans ((KeepsOthers.setCell _ _ _).trans (KeepsOthers.alloc _ _))).from _, ⟨(KeepsB.put (KeepsB.below hb) hEW _).trans (KeepsB.below ((Below.refl _ _).alloc (Nat.le_refl _) _)), (KeepsB.put (KeepsB.below hb) hFW _).trans (KeepsB.below ((Below.refl _ _).alloc (Nat.le_refl _) _))⟩, ?_⟩
   exact ⟨rfl, (r1.set 0 (by simp) (.int .i64 130)).alloc _, (k3.put1 (Or.inr (Nat.le_refl _)) 0 _).alloc (by simpa [World.setCell] using s3) _⟩
 case done =>
  rintro D V hD ⟨hI0, _⟩ hK
  exact absurd hI0 (by simp)
 case stop =>
  rintro D c pre V hD hpre ⟨rfl, hI2, hI4⟩ hK
  refine wpIn_wide.2 ?_
  have z0 := hI2.c 0 rfl
  have hM : Marks W1.heap.size [D] V := ⟨hD, hK, by simp, trivial⟩
  have HH := Lib.hid (And.intro hM hI4)
  have hBs := hB.size
  clear hI2 hI4 hK hM hpre
  go_wp2_with fail
  refine (for_gives 130 _ (by decide)).mono ?_
  rintro e V2 ⟨rfl, rfl⟩
  go_wp2_with fail
  refine leaves_gave (by simp) [D] V HH.out.1 fun V5 hV => ?_
  exact ⟨rfl, HH.out.2.below hV hBs⟩
set_option maxRecDepth 100000 in
set_option maxHeartbeats 12800000 in
theorem sread_a110_b120 (X : Nat) (s ta tb : ByteArray) (pg qg rg tg ag bg cg dg : Bool) (p1 p2 p3 p4 q1 q2 q3 q4 r1 r2 r3 r4 t1 t2 t3 t4 a1 a2 a3 a4 b1 b2 b3 b4 c1 c2 c3 c4 d1 d2 d3 d4 : Int) (w : World) (hX : Row w X [.bool pg, .int .u64 p1, .int .u64 p2, .int .u64 p3, .int .u64 p4, .bool qg, .int .u64 q1, .int .u64 q2, .int .u64 q3, .int .u64 q4, .bool rg, .int .u64 r1, .int .u64 r2, .int .u64 r3, .int .u64 r4, .bool tg, .int .u64 t1, .int .u64 t2, .int .u64 t3, .int .u64 t4]) (hc : CutOk w)
 (HS : ∀ E F W, Row W E [.string s] → Row W F [.pointer (some ⟨X, 0, none⟩)] → CutOk W → SeqU Fence.wide 8 Tryz.prog 195 #[.pointer (some ⟨E, 0, none⟩), .pointer (some ⟨F, 0, none⟩)] encS (fun _ => KeepsE E F) ([(X, 0, ta), (X, 10, tb)]) W)
 (HPa : Hid (∀ W, KB w.heap.size X w W → Calls Tryz.prog 176 #[.string ta] W fun e w' => e = .returned (.tuple #[.agg #[.bool ag, .int .u64 a1, .int .u64 a2, .int .u64 a3, .int .u64 a4, .bool bg, .int .u64 b1, .int .u64 b2, .int .u64 b3, .int .u64 b4], .int .i64 110]) ∧ Below W.heap.size W w'))
 (HPb : Hid (∀ W, KB w.heap.size X w W → Calls Tryz.prog 176 #[.string tb] W fun e w' => e = .returned (.tuple #[.agg #[.bool cg, .int .u64 c1, .int .u64 c2, .int .u64 c3, .int .u64 c4, .bool dg, .int .u64 d1, .int .u64 d2, .int .u64 d3, .int .u64 d4], .int .i64 120]) ∧ Below W.heap.size W w'))
 : Calls Tryz.prog 154 #[.pointer (some ⟨X, 0, none⟩), .string s] w fun e w' => e = (Got.gave 130).end ∧ KB w.heap.size X w w' := by
 have hlX := hX.lt
 refine (callsIn_wide (n := 9)).1 ?_
 refine callsIn_of_wp_marks Tryz.func154 rfl trivial ?_ rfl
 simp only [Tryz.ntmps154, List.size_toArray, List.length_cons, List.length_nil, Nat.reduceAdd, Nat.reduceSub, Array.replicate_succ, Array.replicate_zero, List.push_toArray, List.append_toArray, List.nil_append, List.cons_append]
 refine wpIn_wide.2 ?_
 first | refine wp_scope_straight ?_ | skip
 go_wp2_with fail
 first | refine wp_scope_straight ?_ | skip
 generalize hW : World.alloc _ _ = W0
 have hR : Row W0 w.heap.size [.int .i64 0] := by rw [← hW]; exact Row.at rfl _ _
 have hB : Below w.heap.size w W0 := by rw [← hW]; exact (Below.refl _ _).alloc (Nat.le_refl _) _
 clear hW
 refine wp_label ?_
 go_wp2_with fail
 refine (parts_any2 X s _).mono ?_
 rintro e W1 ⟨E, F, rfl, hEs, hFs, hRE, hRF, hb⟩
 have l0 := hR.lt
 replace hR := hR.after hb
 replace hB := hB.trans (hb.mono hB.size)
 have hW0 := hb.size
 have hC1 : CutOk W1 := hc.below hB
 have hX1 := hX.below hB hlX
 clear hb
 have hSq := HS E F W1 hRE hRF hC1
 clear HS
 have hEX : E ≠ X := by omega
 have hFX : F ≠ X := by omega
 have hEW : E ≠ w.heap.size := by omega
 have hFW : F ≠ w.heap.size := by omega
 have hWX : w.heap.size ≠ X := by omega
 have lW1 := hRE.1
 go_wp2_with fail
 refine (wpIn_wide (n := 9)).1 ?_
 refine wpIn_range_u (α := Nat × Nat × ByteArray) rfl (by omega) (gf := 195) (lb := #[.pointer (some ⟨E, 0, none⟩), .pointer (some ⟨F, 0, none⟩)]) rfl trivial (enters_of Tryz.func195 (by kernel_rfl) rfl)
  hSq KeepsE.trans (fun _ l W _ o' h _ _ _ => ⟨KeepsB.turn W o' (by have := hRE.1; omega), KeepsB.turn W o' (by have := hRF.1; omega)⟩) (fun _ _ _ h => ⟨KeepsB.below h, KeepsB.below h⟩) (Below.refl _ _) (fun _ => rfl)
  (fun pre W => pre.length ≤ 1 ∧ Row W w.heap.size [.int .i64 (lx 0 110 110 pre)] ∧ Row W X (lx [.bool pg, .int .u64 p1, .int .u64 p2, .int .u64 p3, .int .u64 p4, .bool qg, .int .u64 q1, .int .u64 q2, .int .u64 q3, .int .u64 q4, .bool rg, .int .u64 r1, .int .u64 r2, .int .u64 r3, .int .u64 r4, .bool tg, .int .u64 t1, .int .u64 t2, .int .u64 t3, .int .u64 t4] [.bool pg, .int .u64 p1, .int .u64 p2, .int .u64 p3, .int .u64 p4, .bool qg, .int .u64 q1, .int .u64 q2, .int .u64 q3, .int .u64 q4, .bool rg, .int .u64 r1, .int .u64 r2, .int .u64 r3, .int .u64 r4, .bool tg, .int .u64 t1, .int .u64 t2, .int .u64 t3, .int .u64 t4] [.bool pg, .int .u64 p1, .int .u64 p2, .int .u64 p3, .int .u64 p4, .bool qg, .int .u64 q1, .int .u64 q2, .int .u64 q3, .int .u64 q4, .bool rg, .int .u64 r1, .int .u64 r2, .int .u64 r3, .int .u64 r4, .bool tg, .int .u64 t1, .int .u64 t2, .int .u64 t3, .int .u64 t4] pre) ∧ KB w.heap.size X w W)
  (fun c _ W => c = .exit 0 ∧ Row W w.heap.size [.int .i64 130] ∧ KB w.heap.size X w W)
  (fun _ X Y h hb => ⟨h.1, h.2.1.below hb hR.1, h.2.2.1.below hb hX1.1, h.2.2.2.below hb hB.size⟩)
  (fun c _ X Y h hb => ⟨h.1, h.2.1.below hb hR.1, h.2.2.below hb hB.size⟩) ⟨by simp, hR, hX1, KB.ofBelow' hB⟩
  (fun x a' _ => a' = { tmps := #[.pointer (some ⟨X, 0, none⟩), .string s, undef, undef, .pointer (some ⟨w.heap.size, 0, none⟩), .pointer (some ⟨x.1, x.2.1, none⟩), .string x.2.2, undef, undef, .pointer (some ⟨X, 0, none⟩), .string s, .func (.func 195) #[] #[.pointer (some ⟨E, 0, none⟩), .pointer (some ⟨F, 0, none⟩)], .pointer (some ⟨x.1, x.2.1, none⟩), .string x.2.2, undef, undef, undef, undef, undef, undef, undef, undef, undef, undef, undef, undef, undef, undef, undef, undef], defers := [] })
  (fun _ _ _ _ _ _ _ h => h) ?assign ?body ?done ?stop
 case assign =>
  intro l' pre x W K hI hW hK
  clear hI
  unfold encS
  gi_wp2
  exact hK _ _ (Below.refl _ _) rfl
 case body =>
  rintro l' pre x a' W ⟨_, hI1, hI3, hI4⟩ hW hp rfl
  rcases two_r hp with ⟨rfl, rfl⟩ | ⟨rfl, rfl⟩
  ·replace hI1 : Row W w.heap.size [.int .i64 0] := hI1
   replace hI3 : Row W X [.bool pg, .int .u64 p1, .int .u64 p2, .int .u64 p3, .int .u64 p4, .bool qg, .int .u64 q1, .int .u64 q2, .int .u64 q3, .int .u64 q4, .bool rg, .int .u64 r1, .int .u64 r2, .int .u64 r3, .int .u64 r4, .bool tg, .int .u64 t1, .int .u64 t2, .int .u64 t3, .int .u64 t4] := hI3
   gi_wp2_with fail
   refine ⟨trivial, callsIn_wide.2 ((HPa.out _ hI4).mono ?_)⟩
   rintro e W3 ⟨rfl, hb⟩
   have r1 := hI1.after hb
   have r3 := hI3.after hb
   have z0 := r1.c 0 rfl
   have g0 := r1.f 0 rfl
   have lX := r3.lt
   have lB := r1.lt
   have k3 := hI4.below hb hI4.size
   have s3 := k3.size
   gi_wp2_with fail
   refine ⟨((keeps_below hb).trans ((KeepsOthers.setCell _ _ _).trans (KeepsOthers.alloc _ _))).from _, ⟨(KeepsB.put (KeepsB.below hb) hEW _).trans (KeepsB.below ((Below.refl _ _).alloc (Nat.le_refl _) _)), (KeepsB.put (KeepsB.below hb) hFW _).trans (KeepsB.below ((Below.refl _ _).alloc (Nat.le_refl _) _))⟩, ?_⟩
   exact ⟨by simp, (r1.set 0 (by simp) (.int .i64 110)).alloc _, (r3.other hWX _).alloc _, (k3.put1 (Or.inr (Nat.le_refl _)) 0 _).alloc (by simpa [World.setCell] using s3) _⟩
  ·replace hI1 : Row W w.heap.size [.int .i64 110] := hI1
   replace hI3 : Row W X [.bool pg, .int .u64 p1, .int .u64 p2, .int .u64 p3, .int .u64 p4, .bool qg, .int .u64 q1, .int .u64 q2, .int .u64 q3, .int .u64 q4, .bool rg, .int .u64 r1, .int .u64 r2, .int .u64 r3, .int .u64 r4, .bool tg, .int .u64 t1, .int .u64 t2, .int .u64 t3, .int .u64 t4] := hI3
   gi_wp2_with fail
   refine ⟨trivial, callsIn_wide.2 ((HPb.out _ hI4).mono ?_)⟩
   rintro e W3 ⟨rfl, hb⟩
   have r1 := hI1.after hb
   have r3 := hI3.after hb
   have z0 := r1.c 0 rfl
   have g0 := r1.f 0 rfl
   have lX := r3.lt
   have lB := r1.lt
   have k3 := hI4.below hb hI4.size
   have s3 := k3.size
   gi_wp2_with fail
   refine ⟨((keeps_below hb).trans ((KeepsOthers.setCell _ _ _).trans (KeepsOthers.alloc _ _))).from _, ⟨(KeepsB.put (KeepsB.below hb) hEW _).trans (KeepsB.below ((Below.refl _ _).alloc (Nat.le_refl _) _)), (KeepsB.put (KeepsB.below hb) hFW _).trans (KeepsB.below ((Below.refl _ _).alloc (Nat.le_refl _) _))⟩, ?_⟩
   exact ⟨rfl, (r1.set 0 (by simp) (.int .i64 130)).alloc _, (k3.put1 (Or.inr (Nat.le_refl _)) 0 _).alloc (by simpa [World.setCell] using s3) _⟩
 case done =>
  rintro D V hD ⟨hI0, _⟩ hK
  exact absurd hI0 (by simp)
 case stop =>
  rintro D c pre V hD hpre ⟨rfl, hI2, hI4⟩ hK
  refine wpIn_wide.2 ?_
  have z0 := hI2.c 0 rfl
  have hM : Marks W1.heap.size [D] V := ⟨hD, hK, by simp, trivial⟩
  have HH := Lib.hid (And.intro hM hI4)
  have hBs := hB.size
  clear hI2 hI4 hK hM hpre
  go_wp2_with fail
  refine (for_gives 130 _ (by decide)).mono ?_
  rintro e V2 ⟨rfl, rfl⟩
  go_wp2_with fail
  refine leaves_gave (by simp) [D] V HH.out.1 fun V5 hV => ?_
  exact ⟨rfl, HH.out.2.below hV hBs⟩
set_option maxRecDepth 100000 in
set_option maxHeartbeats 12800000 in
theorem sread_a0_b110 (X : Nat) (s ta tb : ByteArray) (pg qg rg tg ag bg cg dg : Bool) (p1 p2 p3 p4 q1 q2 q3 q4 r1 r2 r3 r4 t1 t2 t3 t4 a1 a2 a3 a4 b1 b2 b3 b4 c1 c2 c3 c4 d1 d2 d3 d4 : Int) (w : World) (hX : Row w X [.bool pg, .int .u64 p1, .int .u64 p2, .int .u64 p3, .int .u64 p4, .bool qg, .int .u64 q1, .int .u64 q2, .int .u64 q3, .int .u64 q4, .bool rg, .int .u64 r1, .int .u64 r2, .int .u64 r3, .int .u64 r4, .bool tg, .int .u64 t1, .int .u64 t2, .int .u64 t3, .int .u64 t4]) (hc : CutOk w)
 (HS : ∀ E F W, Row W E [.string s] → Row W F [.pointer (some ⟨X, 0, none⟩)] → CutOk W → SeqU Fence.wide 8 Tryz.prog 195 #[.pointer (some ⟨E, 0, none⟩), .pointer (some ⟨F, 0, none⟩)] encS (fun _ => KeepsE E F) ([(X, 0, ta), (X, 10, tb)]) W)
 (HPa : Hid (∀ W, KB w.heap.size X w W → Calls Tryz.prog 176 #[.string ta] W fun e w' => e = .returned (.tuple #[.agg #[.bool ag, .int .u64 a1, .int .u64 a2, .int .u64 a3, .int .u64 a4, .bool bg, .int .u64 b1, .int .u64 b2, .int .u64 b3, .int .u64 b4], .int .i64 0]) ∧ Below W.heap.size W w'))
 (HPb : Hid (∀ W, KB w.heap.size X w W → Calls Tryz.prog 176 #[.string tb] W fun e w' => e = .returned (.tuple #[.agg #[.bool cg, .int .u64 c1, .int .u64 c2, .int .u64 c3, .int .u64 c4, .bool dg, .int .u64 d1, .int .u64 d2, .int .u64 d3, .int .u64 d4], .int .i64 110]) ∧ Below W.heap.size W w'))
 : Calls Tryz.prog 154 #[.pointer (some ⟨X, 0, none⟩), .string s] w fun e w' => e = (Got.gave 110).end ∧ KB w.heap.size X w w' := by
 have hlX := hX.lt
 refine (callsIn_wide (n := 9)).1 ?_
 refine callsIn_of_wp_marks Tryz.func154 rfl trivial ?_ rfl
 simp only [Tryz.ntmps154, List.size_toArray, List.length_cons, List.length_nil, Nat.reduceAdd, Nat.reduceSub, Array.replicate_succ, Array.replicate_zero, List.push_toArray, List.append_toArray, List.nil_append, List.cons_append]
 refine wpIn_wide.2 ?_
 first | refine wp_scope_straight ?_ | skip
 go_wp2_with fail
 first | refine wp_scope_straight ?_ | skip
 generalize hW : World.alloc _ _ = W0
 have hR : Row W0 w.heap.size [.int .i64 0] := by rw [← hW]; exact Row.at rfl _ _
 have hB : Below w.heap.size w W0 := by rw [← hW]; exact (Below.refl _ _).alloc (Nat.le_refl _) _
 clear hW
 refine wp_label ?_
 go_wp2_with fail
 refine (parts_any2 X s _).mono ?_
 rintro e W1 ⟨E, F, rfl, hEs, hFs, hRE, hRF, hb⟩
 have l0 := hR.lt
 replace hR := hR.after hb
 replace hB := hB.trans (hb.mono hB.size)
 have hW0 := hb.size
 have hC1 : CutOk W1 := hc.below hB
 have hX1 := hX.below hB hlX
 clear hb
 have hSq := HS E F W1 hRE hRF hC1
 clear HS
 have hEX : E ≠ X := by omega
 have hFX : F ≠ X := by omega
 have hEW : E ≠ w.heap.size := by omega
 have hFW : F ≠ w.heap.size := by omega
 have hWX : w.heap.size ≠ X := by omega
 have lW1 := hRE.1
 go_wp2_with fail
 refine (wpIn_wide (n := 9)).1 ?_
 refine wpIn_range_u (α := Nat × Nat × ByteArray) rfl (by omega) (gf := 195) (lb := #[.pointer (some ⟨E, 0, none⟩), .pointer (some ⟨F, 0, none⟩)]) rfl trivial (enters_of Tryz.func195 (by kernel_rfl) rfl)
  hSq KeepsE.trans (fun _ l W _ o' h _ _ _ => ⟨KeepsB.turn W o' (by have := hRE.1; omega), KeepsB.turn W o' (by have := hRF.1; omega)⟩) (fun _ _ _ h => ⟨KeepsB.below h, KeepsB.below h⟩) (Below.refl _ _) (fun _ => rfl)
  (fun pre W => Row W w.heap.size [.int .i64 (lx 0 0 110 pre)] ∧ Row W X (lx [.bool pg, .int .u64 p1, .int .u64 p2, .int .u64 p3, .int .u64 p4, .bool qg, .int .u64 q1, .int .u64 q2, .int .u64 q3, .int .u64 q4, .bool rg, .int .u64 r1, .int .u64 r2, .int .u64 r3, .int .u64 r4, .bool tg, .int .u64 t1, .int .u64 t2, .int .u64 t3, .int .u64 t4] [.bool ag, .int .u64 a1, .int .u64 a2, .int .u64 a3, .int .u64 a4, .bool bg, .int .u64 b1, .int .u64 b2, .int .u64 b3, .int .u64 b4, .bool rg, .int .u64 r1, .int .u64 r2, .int .u64 r3, .int .u64 r4, .bool tg, .int .u64 t1, .int .u64 t2, .int .u64 t3, .int .u64 t4] [.bool ag, .int .u64 a1, .int .u64 a2, .int .u64 a3, .int .u64 a4, .bool bg, .int .u64 b1, .int .u64 b2, .int .u64 b3, .int .u64 b4, .bool rg, .int .u64 r1, .int .u64 r2, .int .u64 r3, .int .u64 r4, .bool tg, .int .u64 t1, .int .u64 t2, .int .u64 t3, .int .u64 t4] pre) ∧ KB w.heap.size X w W)
  (fun _ _ _ => False)
  (fun _ X Y h hb => ⟨h.1.below hb hR.1, h.2.1.below hb hX1.1, h.2.2.below hb hB.size⟩) (fun _ _ _ _ h _ => h.elim) ⟨hR, hX1, KB.ofBelow' hB⟩
  (fun x a' _ => a' = { tmps := #[.pointer (some ⟨X, 0, none⟩), .string s, undef, undef, .pointer (some ⟨w.heap.size, 0, none⟩), .pointer (some ⟨x.1, x.2.1, none⟩), .string x.2.2, undef, undef, .pointer (some ⟨X, 0, none⟩), .string s, .func (.func 195) #[] #[.pointer (some ⟨E, 0, none⟩), .pointer (some ⟨F, 0, none⟩)], .pointer (some ⟨x.1, x.2.1, none⟩), .string x.2.2, undef, undef, undef, undef, undef, undef, undef, undef, undef, undef, undef, undef, undef, undef, undef, undef], defers := [] })
  (fun _ _ _ _ _ _ _ h => h) ?assign ?body ?done ?stop
 case assign =>
  intro l' pre x W K hI hW hK
  clear hI
  unfold encS
  gi_wp2
  exact hK _ _ (Below.refl _ _) rfl
 case body =>
  rintro l' pre x a' W ⟨hI1, hI3, hI4⟩ hW hp rfl
  rcases two_r hp with ⟨rfl, rfl⟩ | ⟨rfl, rfl⟩
  ·replace hI1 : Row W w.heap.size [.int .i64 0] := hI1
   replace hI3 : Row W X [.bool pg, .int .u64 p1, .int .u64 p2, .int .u64 p3, .int .u64 p4, .bool qg, .int .u64 q1, .int .u64 q2, .int .u64 q3, .int .u64 q4, .bool rg, .int .u64 r1, .int .u64 r2, .int .u64 r3, .int .u64 r4, .bool tg, .int .u64 t1, .int .u64 t2, .int .u64 t3, .int .u64 t4] := hI3
   gi_wp2_with fail
   refine ⟨trivial, callsIn_wide.2 ((HPa.out _ hI4).mono ?_)⟩
   rintro e W3 ⟨rfl, hb⟩
   have r1 := hI1.after hb
   have r3 := hI3.after hb
   have z0 := r1.c 0 rfl
   have g0 := r1.f 0 rfl
   have lX := r3.lt
   have lB := r1.lt
   have k3 := hI4.below hb hI4.size
   have s3 := k3.size
   have x0 := r3.c 0 rfl
   have f0 := r3.f 0 rfl
   have x1 := r3.c 1 rfl
   have f1 := r3.f 1 rfl
   have x2 := r3.c 2 rfl
   have f2 := r3.f 2 rfl
   have x3 := r3.c 3 rfl
   have f3 := r3.f 3 rfl
   have x4 := r3.c 4 rfl
   have f4 := r3.f 4 rfl
   have x5 := r3.c 5 rfl
   have f5 := r3.f 5 rfl
   have x6 := r3.c 6 rfl
   have f6 := r3.f 6 rfl
   have x7 := r3.c 7 rfl
   have f7 := r3.f 7 rfl
   have x8 := r3.c 8 rfl
   have f8 := r3.f 8 rfl
   have x9 := r3.c 9 rfl
   have f9 := r3.f 9 rfl
   gi_wp2_with fail
   have o : On W3 ((((((((((W3.setCell ⟨X, 0, none⟩ (.bool ag)).setCell ⟨X, 1, none⟩ (.int .u64 a1)).setCell ⟨X, 2, none⟩ (.int .u64 a2)).setCell ⟨X, 3, none⟩ (.int .u64 a3)).setCell ⟨X, 4, none⟩ (.int .u64 a4)).setCell ⟨X, 5, none⟩ (.bool bg)).setCell ⟨X, 6, none⟩ (.int .u64 b1)).setCell ⟨X, 7, none⟩ (.int .u64 b2)).setCell ⟨X, 8, none⟩ (.int .u64 b3)).setCell ⟨X, 9, none⟩ (.int .u64 b4)) X := (((((((((((On.refl W3 X).put 0 _).put 1 _).put 2 _).put 3 _).put 4 _).put 5 _).put 6 _).put 7 _).put 8 _).put 9 _)
   have rX := ((((((((((r3.set 0 (by simp) (.bool ag)).set 1 (by simp) (.int .u64 a1)).set 2 (by simp) (.int .u64 a2)).set 3 (by simp) (.int .u64 a3)).set 4 (by simp) (.int .u64 a4)).set 5 (by simp) (.bool bg)).set 6 (by simp) (.int .u64 b1)).set 7 (by simp) (.int .u64 b2)).set 8 (by simp) (.int .u64 b3)).set 9 (by simp) (.int .u64 b4))
   have kO : KeepsOthers W3 ((((((((((W3.setCell ⟨X, 0, none⟩ (.bool ag)).setCell ⟨X, 1, none⟩ (.int .u64 a1)).setCell ⟨X, 2, none⟩ (.int .u64 a2)).setCell ⟨X, 3, none⟩ (.int .u64 a3)).setCell ⟨X, 4, none⟩ (.int .u64 a4)).setCell ⟨X, 5, none⟩ (.bool bg)).setCell ⟨X, 6, none⟩ (.int .u64 b1)).setCell ⟨X, 7, none⟩ (.int .u64 b2)).setCell ⟨X, 8, none⟩ (.int .u64 b3)).setCell ⟨X, 9, none⟩ (.int .u64 b4)) := ((((((((((KeepsOthers.setCell W3 _ _).trans (KeepsOthers.setCell _ _ _)).trans (KeepsOthers.setCell _ _ _)).trans (KeepsOthers.setCell _ _ _)).trans (KeepsOthers.setCell _ _ _)).trans (KeepsOthers.setCell _ _ _)).trans (KeepsOthers.setCell _ _ _)).trans (KeepsOthers.setCell _ _ _)).trans (KeepsOthers.setCell _ _ _)).trans (KeepsOthers.setCell _ _ _))
   generalize (((((((((W3.setCell ⟨X, 0, none⟩ (.bool ag)).setCell ⟨X, 1, none⟩ (.int .u64 a1)).setCell ⟨X, 2, none⟩ (.int .u64 a2)).setCell ⟨X, 3, none⟩ (.int .u64 a3)).setCell ⟨X, 4, none⟩ (.int .u64 a4)).setCell ⟨X, 5, none⟩ (.bool bg)).setCell ⟨X, 6, none⟩ (.int .u64 b1)).setCell ⟨X, 7, none⟩ (.int .u64 b2)).setCell ⟨X, 8, none⟩ (.int .u64 b3)).setCell ⟨X, 9, none⟩ (.int .u64 b4) = W4 at *
   refine ⟨((keeps_below hb).trans (kO.trans (KeepsOthers.alloc _ _))).from _, ⟨fin E hEX hb o _, fin F hFX hb o _⟩, ?_⟩
   exact ⟨(o.row hWX r1).alloc _, rX.alloc _, ((hI4.below hb hI4.size).on o (.inl rfl)).alloc (by have := hI4.size; rw [o.size]; have := hb.size; omega) _⟩
  ·replace hI1 : Row W w.heap.size [.int .i64 0] := hI1
   replace hI3 : Row W X [.bool ag, .int .u64 a1, .int .u64 a2, .int .u64 a3, .int .u64 a4, .bool bg, .int .u64 b1, .int .u64 b2, .int .u64 b3, .int .u64 b4, .bool rg, .int .u64 r1, .int .u64 r2, .int .u64 r3, .int .u64 r4, .bool tg, .int .u64 t1, .int .u64 t2, .int .u64 t3, .int .u64 t4] := hI3
   gi_wp2_with fail
   refine ⟨trivial, callsIn_wide.2 ((HPb.out _ hI4).mono ?_)⟩
   rintro e W3 ⟨rfl, hb⟩
   have r1 := hI1.after hb
   have r3 := hI3.after hb
   have z0 := r1.c 0 rfl
   have g0 := r1.f 0 rfl
   have lX := r3.lt
   have lB := r1.lt
   have k3 := hI4.below hb hI4.size
   have s3 := k3.size
   gi_wp2_with fail
   refine ⟨((keeps_below hb).trans ((KeepsOthers.setCell _ _ _).trans (KeepsOthers.alloc _ _))).from _, ⟨(KeepsB.put (KeepsB.below hb) hEW _).trans (KeepsB.below ((Below.refl _ _).alloc (Nat.le_refl _) _)), (KeepsB.put (KeepsB.below hb) hFW _).trans (KeepsB.below ((Below.refl _ _).alloc (Nat.le_refl _) _))⟩, ?_⟩
   exact ⟨(r1.set 0 (by simp) (.int .i64 110)).alloc _, (r3.other hWX _).alloc _, (k3.put1 (Or.inr (Nat.le_refl _)) 0 _).alloc (by simpa [World.setCell] using s3) _⟩
 case stop => exact fun _ _ _ _ _ _ h => h.elim
 case done =>
  rintro D V hD ⟨hI2, hI3, hI4⟩ hK
  replace hI2 : Row V w.heap.size [.int .i64 110] := hI2
  have z0 := hI2.c 0 rfl
  have hM : Marks W1.heap.size [D] V := ⟨hD, hK, by simp, trivial⟩
  have HH := Lib.hid (And.intro hM hI4)
  have hBs := hB.size
  clear hI2 hI4 hK hM hI3
  go_wp2_with fail
  refine (for_gives 110 _ (by decide)).mono ?_
  rintro e V2 ⟨rfl, rfl⟩
  go_wp2_with fail
  refine leaves_gave (by simp) [D] V HH.out.1 fun V5 hV => ?_
  exact ⟨rfl, HH.out.2.below hV hBs⟩
set_option maxRecDepth 100000 in
set_option maxHeartbeats 12800000 in
theorem sread_a110_b110 (X : Nat) (s ta tb : ByteArray) (pg qg rg tg ag bg cg dg : Bool) (p1 p2 p3 p4 q1 q2 q3 q4 r1 r2 r3 r4 t1 t2 t3 t4 a1 a2 a3 a4 b1 b2 b3 b4 c1 c2 c3 c4 d1 d2 d3 d4 : Int) (w : World) (hX : Row w X [.bool pg, .int .u64 p1, .int .u64 p2, .int .u64 p3, .int .u64 p4, .bool qg, .int .u64 q1, .int .u64 q2, .int .u64 q3, .int .u64 q4, .bool rg, .int .u64 r1, .int .u64 r2, .int .u64 r3, .int .u64 r4, .bool tg, .int .u64 t1, .int .u64 t2, .int .u64 t3, .int .u64 t4]) (hc : CutOk w)
 (HS : ∀ E F W, Row W E [.string s] → Row W F [.pointer (some ⟨X, 0, none⟩)] → CutOk W → SeqU Fence.wide 8 Tryz.prog 195 #[.pointer (some ⟨E, 0, none⟩), .pointer (some ⟨F, 0, none⟩)] encS (fun _ => KeepsE E F) ([(X, 0, ta), (X, 10, tb)]) W)
 (HPa : Hid (∀ W, KB w.heap.size X w W → Calls Tryz.prog 176 #[.string ta] W fun e w' => e = .returned (.tuple #[.agg #[.bool ag, .int .u64 a1, .int .u64 a2, .int .u64 a3, .int .u64 a4, .bool bg, .int .u64 b1, .int .u64 b2, .int .u64 b3, .int .u64 b4], .int .i64 110]) ∧ Below W.heap.size W w'))
 (HPb : Hid (∀ W, KB w.heap.size X w W → Calls Tryz.prog 176 #[.string tb] W fun e w' => e = .returned (.tuple #[.agg #[.bool cg, .int .u64 c1, .int .u64 c2, .int .u64 c3, .int .u64 c4, .bool dg, .int .u64 d1, .int .u64 d2, .int .u64 d3, .int .u64 d4], .int .i64 110]) ∧ Below W.heap.size W w'))
 : Calls Tryz.prog 154 #[.pointer (some ⟨X, 0, none⟩), .string s] w fun e w' => e = (Got.gave 110).end ∧ KB w.heap.size X w w' := by
 have hlX := hX.lt
 refine (callsIn_wide (n := 9)).1 ?_
 refine callsIn_of_wp_marks Tryz.func154 rfl trivial ?_ rfl
 simp only [Tryz.ntmps154, List.size_toArray, List.length_cons, List.length_nil, Nat.reduceAdd, Nat.reduceSub, Array.replicate_succ, Array.replicate_zero, List.push_toArray, List.append_toArray, List.nil_append, List.cons_append]
 refine wpIn_wide.2 ?_
 first | refine wp_scope_straight ?_ | skip
 go_wp2_with fail
 first | refine wp_scope_straight ?_ | skip
 generalize hW : World.alloc _ _ = W0
 have hR : Row W0 w.heap.size [.int .i64 0] := by rw [← hW]; exact Row.at rfl _ _
 have hB : Below w.heap.size w W0 := by rw [← hW]; exact (Below.refl _ _).alloc (Nat.le_refl _) _
 clear hW
 refine wp_label ?_
 go_wp2_with fail
 refine (parts_any2 X s _).mono ?_
 rintro e W1 ⟨E, F, rfl, hEs, hFs, hRE, hRF, hb⟩
 have l0 := hR.lt
 replace hR := hR.after hb
 replace hB := hB.trans (hb.mono hB.size)
 have hW0 := hb.size
 have hC1 : CutOk W1 := hc.below hB
 have hX1 := hX.below hB hlX
 clear hb
 have hSq := HS E F W1 hRE hRF hC1
 clear HS
 have hEX : E ≠ X := by omega
 have hFX : F ≠ X := by omega
 have hEW : E ≠ w.heap.size := by omega
 have hFW : F ≠ w.heap.size := by omega
 have hWX : w.heap.size ≠ X := by omega
 have lW1 := hRE.1
 go_wp2_with fail
 refine (wpIn_wide (n := 9)).1 ?_
 refine wpIn_range_u (α := Nat × Nat × ByteArray) rfl (by omega) (gf := 195) (lb := #[.pointer (some ⟨E, 0, none⟩), .pointer (some ⟨F, 0, none⟩)]) rfl trivial (enters_of Tryz.func195 (by kernel_rfl) rfl)
  hSq KeepsE.trans (fun _ l W _ o' h _ _ _ => ⟨KeepsB.turn W o' (by have := hRE.1; omega), KeepsB.turn W o' (by have := hRF.1; omega)⟩) (fun _ _ _ h => ⟨KeepsB.below h, KeepsB.below h⟩) (Below.refl _ _) (fun _ => rfl)
  (fun pre W => Row W w.heap.size [.int .i64 (lx 0 110 110 pre)] ∧ Row W X (lx [.bool pg, .int .u64 p1, .int .u64 p2, .int .u64 p3, .int .u64 p4, .bool qg, .int .u64 q1, .int .u64 q2, .int .u64 q3, .int .u64 q4, .bool rg, .int .u64 r1, .int .u64 r2, .int .u64 r3, .int .u64 r4, .bool tg, .int .u64 t1, .int .u64 t2, .int .u64 t3, .int .u64 t4] [.bool pg, .int .u64 p1, .int .u64 p2, .int .u64 p3, .int .u64 p4, .bool qg, .int .u64 q1, .int .u64 q2, .int .u64 q3, .int .u64 q4, .bool rg, .int .u64 r1, .int .u64 r2, .int .u64 r3, .int .u64 r4, .bool tg, .int .u64 t1, .int .u64 t2, .int .u64 t3, .int .u64 t4] [.bool pg, .int .u64 p1, .int .u64 p2, .int .u64 p3, .int .u64 p4, .bool qg, .int .u64 q1, .int .u64 q2, .int .u64 q3, .int .u64 q4, .bool rg, .int .u64 r1, .int .u64 r2, .int .u64 r3, .int .u64 r4, .bool tg, .int .u64 t1, .int .u64 t2, .int .u64 t3, .int .u64 t4] pre) ∧ KB w.heap.size X w W)
  (fun _ _ _ => False)
  (fun _ X Y h hb => ⟨h.1.below hb hR.1, h.2.1.below hb hX1.1, h.2.2.below hb hB.size⟩) (fun _ _ _ _ h _ => h.elim) ⟨hR, hX1, KB.ofBelow' hB⟩
  (fun x a' _ => a' = { tmps := #[.pointer (some ⟨X, 0, none⟩), .string s, undef, undef, .pointer (some ⟨w.heap.size, 0, none⟩), .pointer (some ⟨x.1, x.2.1, none⟩), .string x.2.2, undef, undef, .pointer (some ⟨X, 0, none⟩), .string s, .func (.func 195) #[] #[.pointer (some ⟨E, 0, none⟩), .pointer (some ⟨F, 0, none⟩)], .pointer (some ⟨x.1, x.2.1, none⟩), .string x.2.2, undef, undef, undef, undef, undef, undef, undef, undef, undef, undef, undef, undef, undef, undef, undef, undef], defers := [] })
  (fun _ _ _ _ _ _ _ h => h) ?assign ?body ?done ?stop
 case assign =>
  intro l' pre x W K hI hW hK
  clear hI
  unfold encS
  gi_wp2
  exact hK _ _ (Below.refl _ _) rfl
 case body =>
  rintro l' pre x a' W ⟨hI1, hI3, hI4⟩ hW hp rfl
  rcases two_r hp with ⟨rfl, rfl⟩ | ⟨rfl, rfl⟩
  ·replace hI1 : Row W w.heap.size [.int .i64 0] := hI1
   replace hI3 : Row W X [.bool pg, .int .u64 p1, .int .u64 p2, .int .u64 p3, .int .u64 p4, .bool qg, .int .u64 q1, .int .u64 q2, .int .u64 q3, .int .u64 q4, .bool rg, .int .u64 r1, .int .u64 r2, .int .u64 r3, .int .u64 r4, .bool tg, .int .u64 t1, .int .u64 t2, .int .u64 t3, .int .u64 t4] := hI3
   gi_wp2_with fail
   refine ⟨trivial, callsIn_wide.2 ((HPa.out _ hI4).mono ?_)⟩
   rintro e W3 ⟨rfl, hb⟩
   have r1 := hI1.after hb
   have r3 := hI3.after hb
   have z0 := r1.c 0 rfl
   have g0 := r1.f 0 rfl
   have lX := r3.lt
   have lB := r1.lt
   have k3 := hI4.below hb hI4.size
   have s3 := k3.size
   gi_wp2_with fail
   refine ⟨((keeps_below hb).trans ((KeepsOthers.setCell _ _ _).trans (KeepsOthers.alloc _ _))).from _, ⟨(KeepsB.put (KeepsB.below hb) hEW _).trans (KeepsB.below ((Below.refl _ _).alloc (Nat.le_refl _) _)), (KeepsB.put (KeepsB.below hb) hFW _).trans (KeepsB.below ((Below.refl _ _).alloc (Nat.le_refl _) _))⟩, ?_⟩
   exact ⟨(r1.set 0 (by simp) (.int .i64 110)).alloc _, (r3.other hWX _).alloc _, (k3.put1 (Or.inr (Nat.le_refl _)) 0 _).alloc (by simpa [World.setCell] using s3) _⟩
  ·replace hI1 : Row W w.heap.size [.int .i64 110] := hI1
   replace hI3 : Row W X [.bool pg, .int .u64 p1, .int .u64 p2, .int .u64 p3, .int .u64 p4, .bool qg, .int .u64 q1, .int .u64 q2, .int .u64 q3, .int .u64 q4, .bool rg, .int .u64 r1, .int .u64 r2, .int .u64 r3, .int .u64 r4, .bool tg, .int .u64 t1, .int .u64 t2, .int .u64 t3, .int .u64 t4] := hI3
   gi_wp2_with fail
   refine ⟨trivial, callsIn_wide.2 ((HPb.out _ hI4).mono ?_)⟩
   rintro e W3 ⟨rfl, hb⟩
   have r1 := hI1.after hb
   have r3 := hI3.after hb
   have z0 := r1.c 0 rfl
   have g0 := r1.f 0 rfl
   have lX := r3.lt
   have lB := r1.lt
   have k3 := hI4.below hb hI4.size
   have s3 := k3.size
   gi_wp2_with fail
   refine ⟨((keeps_below hb).trans ((KeepsOthers.setCell _ _ _).trans (KeepsOthers.alloc _ _))).from _, ⟨(KeepsB.put (KeepsB.below hb) hEW _).trans (KeepsB.below ((Below.refl _ _).alloc (Nat.le_refl _) _)), (KeepsB.put (KeepsB.below hb) hFW _).trans (KeepsB.below ((Below.refl _ _).alloc (Nat.le_refl _) _))⟩, ?_⟩
   exact ⟨(r1.set 0 (by simp) (.int .i64 110)).alloc _, (r3.other hWX _).alloc _, (k3.put1 (Or.inr (Nat.le_refl _)) 0 _).alloc (by simpa [World.setCell] using s3) _⟩
 case stop => exact fun _ _ _ _ _ _ h => h.elim
 case done =>
  rintro D V hD ⟨hI2, hI3, hI4⟩ hK
  replace hI2 : Row V w.heap.size [.int .i64 110] := hI2
  have z0 := hI2.c 0 rfl
  have hM : Marks W1.heap.size [D] V := ⟨hD, hK, by simp, trivial⟩
  have HH := Lib.hid (And.intro hM hI4)
  have hBs := hB.size
  clear hI2 hI4 hK hM hI3
  go_wp2_with fail
  refine (for_gives 110 _ (by decide)).mono ?_
  rintro e V2 ⟨rfl, rfl⟩
  go_wp2_with fail
  refine leaves_gave (by simp) [D] V HH.out.1 fun V5 hV => ?_
  exact ⟨rfl, HH.out.2.below hV hBs⟩
set_option maxRecDepth 100000 in
set_option maxHeartbeats 12800000 in
theorem sread_a110_b0 (X : Nat) (s ta tb : ByteArray) (pg qg rg tg ag bg cg dg : Bool) (p1 p2 p3 p4 q1 q2 q3 q4 r1 r2 r3 r4 t1 t2 t3 t4 a1 a2 a3 a4 b1 b2 b3 b4 c1 c2 c3 c4 d1 d2 d3 d4 : Int) (w : World) (hX : Row w X [.bool pg, .int .u64 p1, .int .u64 p2, .int .u64 p3, .int .u64 p4, .bool qg, .int .u64 q1, .int .u64 q2, .int .u64 q3, .int .u64 q4, .bool rg, .int .u64 r1, .int .u64 r2, .int .u64 r3, .int .u64 r4, .bool tg, .int .u64 t1, .int .u64 t2, .int .u64 t3, .int .u64 t4]) (hc : CutOk w)
 (HS : ∀ E F W, Row W E [.string s] → Row W F [.pointer (some ⟨X, 0, none⟩)] → CutOk W → SeqU Fence.wide 8 Tryz.prog 195 #[.pointer (some ⟨E, 0, none⟩), .pointer (some ⟨F, 0, none⟩)] encS (fun _ => KeepsE E F) ([(X, 0, ta), (X, 10, tb)]) W)
 (HPa : Hid (∀ W, KB w.heap.size X w W → Calls Tryz.prog 176 #[.string ta] W fun e w' => e = .returned (.tuple #[.agg #[.bool ag, .int .u64 a1, .int .u64 a2, .int .u64 a3, .int .u64 a4, .bool bg, .int .u64 b1, .int .u64 b2, .int .u64 b3, .int .u64 b4], .int .i64 110]) ∧ Below W.heap.size W w'))
 (HPb : Hid (∀ W, KB w.heap.size X w W → Calls Tryz.prog 176 #[.string tb] W fun e w' => e = .returned (.tuple #[.agg #[.bool cg, .int .u64 c1, .int .u64 c2, .int .u64 c3, .int .u64 c4, .bool dg, .int .u64 d1, .int .u64 d2, .int .u64 d3, .int .u64 d4], .int .i64 0]) ∧ Below W.heap.size W w'))
 : Calls Tryz.prog 154 #[.pointer (some ⟨X, 0, none⟩), .string s] w fun e w' => e = (Got.gave 110).end ∧ KB w.heap.size X w w' := by
 have hlX := hX.lt
 refine (callsIn_wide (n := 9)).1 ?_
 refine callsIn_of_wp_marks Tryz.func154 rfl trivial ?_ rfl
 simp only [Tryz.ntmps154, List.size_toArray, List.length_cons, List.length_nil, Nat.reduceAdd, Nat.reduceSub, Array.replicate_succ, Array.replicate_zero, List.push_toArray, List.append_toArray, List.nil_append, List.cons_append]
 refine wpIn_wide.2 ?_
 first | refine wp_scope_straight ?_ | skip
 go_wp2_with fail
 first | refine wp_scope_straight ?_ | skip
 generalize hW : World.alloc _ _ = W0
 have hR : Row W0 w.heap.size [.int .i64 0] := by rw [← hW]; exact Row.at rfl _ _
 have hB : Below w.heap.size w W0 := by rw [← hW]; exact (Below.refl _ _).alloc (Nat.le_refl _) _
 clear hW
 refine wp_label ?_
 go_wp2_with fail
 refine (parts_any2 X s _).mono ?_
 rintro e W1 ⟨E, F, rfl, hEs, hFs, hRE, hRF, hb⟩
 have l0 := hR.lt
 replace hR := hR.after hb
 replace hB := hB.trans (hb.mono hB.size)
 have hW0 := hb.size
 have hC1 : CutOk W1 := hc.below hB
 have hX1 := hX.below hB hlX
 clear hb
 have hSq := HS E F W1 hRE hRF hC1
 clear HS
 have hEX : E ≠ X := by omega
 have hFX : F ≠ X := by omega
 have hEW : E ≠ w.heap.size := by omega
 have hFW : F ≠ w.heap.size := by omega
 have hWX : w.heap.size ≠ X := by omega
 have lW1 := hRE.1
 go_wp2_with fail
 refine (wpIn_wide (n := 9)).1 ?_
 refine wpIn_range_u (α := Nat × Nat × ByteArray) rfl (by omega) (gf := 195) (lb := #[.pointer (some ⟨E, 0, none⟩), .pointer (some ⟨F, 0, none⟩)]) rfl trivial (enters_of Tryz.func195 (by kernel_rfl) rfl)
  hSq KeepsE.trans (fun _ l W _ o' h _ _ _ => ⟨KeepsB.turn W o' (by have := hRE.1; omega), KeepsB.turn W o' (by have := hRF.1; omega)⟩) (fun _ _ _ h => ⟨KeepsB.below h, KeepsB.below h⟩) (Below.refl _ _) (fun _ => rfl)
  (fun pre W => Row W w.heap.size [.int .i64 (lx 0 110 110 pre)] ∧ Row W X (lx [.bool pg, .int .u64 p1, .int .u64 p2, .int .u64 p3, .int .u64 p4, .bool qg, .int .u64 q1, .int .u64 q2, .int .u64 q3, .int .u64 q4, .bool rg, .int .u64 r1, .int .u64 r2, .int .u64 r3, .int .u64 r4, .bool tg, .int .u64 t1, .int .u64 t2, .int .u64 t3, .int .u64 t4] [.bool pg, .int .u64 p1, .int .u64 p2, .int .u64 p3, .int .u64 p4, .bool qg, .int .u64 q1, .int .u64 q2, .int .u64 q3, .int .u64 q4, .bool rg, .int .u64 r1, .int .u64 r2, .int .u64 r3, .int .u64 r4, .bool tg, .int .u64 t1, .int .u64 t2, .int .u64 t3, .int .u64 t4] [.bool pg, .int .u64 p1, .int .u64 p2, .int .u64 p3, .int .u64 p4, .bool qg, .int .u64 q1, .int .u64 q2, .int .u64 q3, .int .u64 q4, .bool cg, .int .u64 c1, .int .u64 c2, .int .u64 c3, .int .u64 c4, .bool dg, .int .u64 d1, .int .u64 d2, .int .u64 d3, .int .u64 d4] pre) ∧ KB w.heap.size X w W)
  (fun _ _ _ => False)
  (fun _ X Y h hb => ⟨h.1.below hb hR.1, h.2.1.below hb hX1.1, h.2.2.below hb hB.size⟩) (fun _ _ _ _ h _ => h.elim) ⟨hR, hX1, KB.ofBelow' hB⟩
  (fun x a' _ => a' = { tmps := #[.pointer (some ⟨X, 0, none⟩), .string s, undef, undef, .pointer (some ⟨w.heap.size, 0, none⟩), .pointer (some ⟨x.1, x.2.1, none⟩), .string x.2.2, undef, undef, .pointer (some ⟨X, 0, none⟩), .string s, .func (.func 195) #[] #[.pointer (some ⟨E, 0, none⟩), .pointer (some ⟨F, 0, none⟩)], .pointer (some ⟨x.1, x.2.1, none⟩), .string x.2.2, undef, undef, undef, undef, undef, undef, undef, undef, undef, undef, undef, undef, undef, undef, undef, undef], defers := [] })
  (fun _ _ _ _ _ _ _ h => h) ?assign ?body ?done ?stop
 case assign =>
  intro l' pre x W K hI hW hK
  clear hI
  unfold encS
  gi_wp2
  exact hK _ _ (Below.refl _ _) rfl
 case body =>
  rintro l' pre x a' W ⟨hI1, hI3, hI4⟩ hW hp rfl
  rcases two_r hp with ⟨rfl, rfl⟩ | ⟨rfl, rfl⟩
  ·replace hI1 : Row W w.heap.size [.int .i64 0] := hI1
   replace hI3 : Row W X [.bool pg, .int .u64 p1, .int .u64 p2, .int .u64 p3, .int .u64 p4, .bool qg, .int .u64 q1, .int .u64 q2, .int .u64 q3, .int .u64 q4, .bool rg, .int .u64 r1, .int .u64 r2, .int .u64 r3, .int .u64 r4, .bool tg, .int .u64 t1, .int .u64 t2, .int .u64 t3, .int .u64 t4] := hI3
   gi_wp2_with fail
   refine ⟨trivial, callsIn_wide.2 ((HPa.out _ hI4).mono ?_)⟩
   rintro e W3 ⟨rfl, hb⟩
   have r1 := hI1.after hb
   have r3 := hI3.after hb
   have z0 := r1.c 0 rfl
   have g0 := r1.f 0 rfl
   have lX := r3.lt
   have lB := r1.lt
   have k3 := hI4.below hb hI4.size
   have s3 := k3.size
   gi_wp2_with fail
   refine ⟨((keeps_below hb).trans ((KeepsOthers.setCell _ _ _).trans (KeepsOthers.alloc _ _))).from _, ⟨(KeepsB.put (KeepsB.below hb) hEW _).trans (KeepsB.below ((Below.refl _ _).alloc (Nat.le_refl _) _)), (KeepsB.put (KeepsB.below hb) hFW _).trans (KeepsB.below ((Below.refl _ _).alloc (Nat.le_refl _) _))⟩, ?_⟩
   exact ⟨(r1.set 0 (by simp) (.int .i64 110)).alloc _, (r3.other hWX _).alloc _, (k3.put1 (Or.inr (Nat.le_refl _)) 0 _).alloc (by simpa [World.setCell] using s3) _⟩
  ·replace hI1 : Row W w.heap.size [.int .i64 110] := hI1
   replace hI3 : Row W X [.bool pg, .int .u64 p1, .int .u64 p2, .int .u64 p3, .int .u64 p4, .bool qg, .int .u64 q1, .int .u64 q2, .int .u64 q3, .int .u64 q4, .bool rg, .int .u64 r1, .int .u64 r2, .int .u64 r3, .int .u64 r4, .bool tg, .int .u64 t1, .int .u64 t2, .int .u64 t3, .int .u64 t4] := hI3
   gi_wp2_with fail
   refine ⟨trivial, callsIn_wide.2 ((HPb.out _ hI4).mono ?_)⟩
   rintro e W3 ⟨rfl, hb⟩
   have r1 := hI1.after hb
   have r3 := hI3.after hb
   have z0 := r1.c 0 rfl
   have g0 := r1.f 0 rfl
   have lX := r3.lt
   have lB := r1.lt
   have k3 := hI4.below hb hI4.size
   have s3 := k3.size
   have x0 := r3.c 10 rfl
   have f0 := r3.f 10 rfl
   have x1 := r3.c 11 rfl
   have f1 := r3.f 11 rfl
   have x2 := r3.c 12 rfl
   have f2 := r3.f 12 rfl
   have x3 := r3.c 13 rfl
   have f3 := r3.f 13 rfl
   have x4 := r3.c 14 rfl
   have f4 := r3.f 14 rfl
   have x5 := r3.c 15 rfl
   have f5 := r3.f 15 rfl
   have x6 := r3.c 16 rfl
   have f6 := r3.f 16 rfl
   have x7 := r3.c 17 rfl
   have f7 := r3.f 17 rfl
   have x8 := r3.c 18 rfl
   have f8 := r3.f 18 rfl
   have x9 := r3.c 19 rfl
   have f9 := r3.f 19 rfl
   gi_wp2_with fail
   have o : On W3 ((((((((((W3.setCell ⟨X, 10, none⟩ (.bool cg)).setCell ⟨X, 11, none⟩ (.int .u64 c1)).setCell ⟨X, 12, none⟩ (.int .u64 c2)).setCell ⟨X, 13, none⟩ (.int .u64 c3)).setCell ⟨X, 14, none⟩ (.int .u64 c4)).setCell ⟨X, 15, none⟩ (.bool dg)).setCell ⟨X, 16, none⟩ (.int .u64 d1)).setCell ⟨X, 17, none⟩ (.int .u64 d2)).setCell ⟨X, 18, none⟩ (.int .u64 d3)).setCell ⟨X, 19, none⟩ (.int .u64 d4)) X := (((((((((((On.refl W3 X).put 10 _).put 11 _).put 12 _).put 13 _).put 14 _).put 15 _).put 16 _).put 17 _).put 18 _).put 19 _)
   have rX := ((((((((((r3.set 10 (by simp) (.bool cg)).set 11 (by simp) (.int .u64 c1)).set 12 (by simp) (.int .u64 c2)).set 13 (by simp) (.int .u64 c3)).set 14 (by simp) (.int .u64 c4)).set 15 (by simp) (.bool dg)).set 16 (by simp) (.int .u64 d1)).set 17 (by simp) (.int .u64 d2)).set 18 (by simp) (.int .u64 d3)).set 19 (by simp) (.int .u64 d4))
   have kO : KeepsOthers W3 ((((((((((W3.setCell ⟨X, 10, none⟩ (.bool cg)).setCell ⟨X, 11, none⟩ (.int .u64 c1)).setCell ⟨X, 12, none⟩ (.int .u64 c2)).setCell ⟨X, 13, none⟩ (.int .u64 c3)).setCell ⟨X, 14, none⟩ (.int .u64 c4)).setCell ⟨X, 15, none⟩ (.bool dg)).setCell ⟨X, 16, none⟩ (.int .u64 d1)).setCell ⟨X, 17, none⟩ (.int .u64 d2)).setCell ⟨X, 18, none⟩ (.int .u64 d3)).setCell ⟨X, 19, none⟩ (.int .u64 d4)) := ((((((((((KeepsOthers.setCell W3 _ _).trans (KeepsOthers.setCell _ _ _)).trans (KeepsOthers.setCell _ _ _)).trans (KeepsOthers.setCell _ _ _)).trans (KeepsOthers.setCell _ _ _)).trans (KeepsOthers.setCell _ _ _)).trans (KeepsOthers.setCell _ _ _)).trans (KeepsOthers.setCell _ _ _)).trans (KeepsOthers.setCell _ _ _)).trans (KeepsOthers.setCell _ _ _))
   generalize (((((((((W3.setCell ⟨X, 10, none⟩ (.bool cg)).setCell ⟨X, 11, none⟩ (.int .u64 c1)).setCell ⟨X, 12, none⟩ (.int .u64 c2)).setCell ⟨X, 13, none⟩ (.int .u64 c3)).setCell ⟨X, 14, none⟩ (.int .u64 c4)).setCell ⟨X, 15, none⟩ (.bool dg)).setCell ⟨X, 16, none⟩ (.int .u64 d1)).setCell ⟨X, 17, none⟩ (.int .u64 d2)).setCell ⟨X, 18, none⟩ (.int .u64 d3)).setCell ⟨X, 19, none⟩ (.int .u64 d4) = W4 at *
   refine ⟨((keeps_below hb).trans (kO.trans (KeepsOthers.alloc _ _))).from _, ⟨fin E hEX hb o _, fin F hFX hb o _⟩, ?_⟩
   exact ⟨(o.row hWX r1).alloc _, rX.alloc _, ((hI4.below hb hI4.size).on o (.inl rfl)).alloc (by have := hI4.size; rw [o.size]; have := hb.size; omega) _⟩
 case stop => exact fun _ _ _ _ _ _ h => h.elim
 case done =>
  rintro D V hD ⟨hI2, hI3, hI4⟩ hK
  replace hI2 : Row V w.heap.size [.int .i64 110] := hI2
  have z0 := hI2.c 0 rfl
  have hM : Marks W1.heap.size [D] V := ⟨hD, hK, by simp, trivial⟩
  have HH := Lib.hid (And.intro hM hI4)
  have hBs := hB.size
  clear hI2 hI4 hK hM hI3
  go_wp2_with fail
  refine (for_gives 110 _ (by decide)).mono ?_
  rintro e V2 ⟨rfl, rfl⟩
  go_wp2_with fail
  refine leaves_gave (by simp) [D] V HH.out.1 fun V5 hV => ?_
  exact ⟨rfl, HH.out.2.below hV hBs⟩
end Go.Proofs.YtongeeggaigepaaGreatDoor

namespace Go.Proofs.YtongeeggaigepaaGreatDoor
open Go.RowKit Go.Sort CrossMath

set_option maxRecDepth 100000 in
set_option maxHeartbeats 1600000 in
theorem settle_first (X : Nat) (ag bg cg dg : Bool) (a1 a2 a3 a4 b1 b2 b3 b4 c1 c2 c3 c4 d1 d2 d3 d4 : Int) (w : World) (hX : Row w X [.bool ag, .int .u64 a1, .int .u64 a2, .int .u64 a3, .int .u64 a4, .bool bg, .int .u64 b1, .int .u64 b2, .int .u64 b3, .int .u64 b4, .bool cg, .int .u64 c1, .int .u64 c2, .int .u64 c3, .int .u64 c4, .bool dg, .int .u64 d1, .int .u64 d2, .int .u64 d3, .int .u64 d4])
 (H1 : Hid (∀ W, Calls Tryz.prog 120 #[.agg #[.bool ag, .int .u64 a1, .int .u64 a2, .int .u64 a3, .int .u64 a4, .bool bg, .int .u64 b1, .int .u64 b2, .int .u64 b3, .int .u64 b4]] W fun e w' => e = .returned (.bool true) ∧ Below W.heap.size W w')) :
 Calls Tryz.prog 174 #[.pointer (some ⟨X, 0, none⟩)] w fun e w' => e = (Got.gave 110).end ∧ Below w.heap.size w w' := by
 have x0 := hX.c 0 rfl
 have x1 := hX.c 1 rfl
 have x2 := hX.c 2 rfl
 have x3 := hX.c 3 rfl
 have x4 := hX.c 4 rfl
 have x5 := hX.c 5 rfl
 have x6 := hX.c 6 rfl
 have x7 := hX.c 7 rfl
 have x8 := hX.c 8 rfl
 have x9 := hX.c 9 rfl
 have lX := hX.lt
 go_enter Tryz.func174, Tryz.ntmps174
 go_wp2_with fail
 refine (H1.out _).mono ?_
 rintro e w1 ⟨rfl, hb⟩
 clear x0 x1 x2 x3 x4 x5 x6 x7 x8 x9 hX
 go_wp2_with fail
 all_goals try (rename_i hu _; have hv : some undef = some (Value.bool _) := hu; cases hv)
 refine (for_gives 110 _ (by decide)).mono ?_
 rintro e w2 ⟨rfl, rfl⟩
 go_wp2
 exact ⟨rfl, rfl, hb⟩
set_option maxRecDepth 100000 in
set_option maxHeartbeats 1600000 in
theorem settle_second (X : Nat) (ag bg cg dg : Bool) (a1 a2 a3 a4 b1 b2 b3 b4 c1 c2 c3 c4 d1 d2 d3 d4 : Int) (w : World) (hX : Row w X [.bool ag, .int .u64 a1, .int .u64 a2, .int .u64 a3, .int .u64 a4, .bool bg, .int .u64 b1, .int .u64 b2, .int .u64 b3, .int .u64 b4, .bool cg, .int .u64 c1, .int .u64 c2, .int .u64 c3, .int .u64 c4, .bool dg, .int .u64 d1, .int .u64 d2, .int .u64 d3, .int .u64 d4])
 (H1 : Hid (∀ W, Calls Tryz.prog 120 #[.agg #[.bool ag, .int .u64 a1, .int .u64 a2, .int .u64 a3, .int .u64 a4, .bool bg, .int .u64 b1, .int .u64 b2, .int .u64 b3, .int .u64 b4]] W fun e w' => e = .returned (.bool false) ∧ Below W.heap.size W w'))
 (H2 : Hid (∀ W, Calls Tryz.prog 120 #[.agg #[.bool cg, .int .u64 c1, .int .u64 c2, .int .u64 c3, .int .u64 c4, .bool dg, .int .u64 d1, .int .u64 d2, .int .u64 d3, .int .u64 d4]] W fun e w' => e = .returned (.bool true) ∧ Below W.heap.size W w')) :
 Calls Tryz.prog 174 #[.pointer (some ⟨X, 0, none⟩)] w fun e w' => e = (Got.gave 110).end ∧ Below w.heap.size w w' := by
 have x0 := hX.c 0 rfl
 have x1 := hX.c 1 rfl
 have x2 := hX.c 2 rfl
 have x3 := hX.c 3 rfl
 have x4 := hX.c 4 rfl
 have x5 := hX.c 5 rfl
 have x6 := hX.c 6 rfl
 have x7 := hX.c 7 rfl
 have x8 := hX.c 8 rfl
 have x9 := hX.c 9 rfl
 have lX := hX.lt
 go_enter Tryz.func174, Tryz.ntmps174
 go_wp2_with fail
 refine (H1.out _).mono ?_
 rintro e w1 ⟨rfl, hb⟩
 have hY := hX.after hb
 have y0 := hY.c 10 rfl
 have y1 := hY.c 11 rfl
 have y2 := hY.c 12 rfl
 have y3 := hY.c 13 rfl
 have y4 := hY.c 14 rfl
 have y5 := hY.c 15 rfl
 have y6 := hY.c 16 rfl
 have y7 := hY.c 17 rfl
 have y8 := hY.c 18 rfl
 have y9 := hY.c 19 rfl
 clear x0 x1 x2 x3 x4 x5 x6 x7 x8 x9
 go_wp2_with fail
 refine (H2.out _).mono ?_
 rintro e w2 ⟨rfl, hb2⟩
 have hB := hb.trans (hb2.mono hb.size)
 clear hb hb2
 go_wp2_with fail
 refine (for_gives 110 _ (by decide)).mono ?_
 rintro e w3 ⟨rfl, rfl⟩
 go_wp2
 exact ⟨rfl, rfl, hB⟩
set_option maxRecDepth 100000 in
set_option maxHeartbeats 1600000 in
theorem pparse1_bad (X B : Nat) (s : ByteArray) (k : Int) (w : World) (hB : w.cell? ⟨B, 0, none⟩ = some (.string s))
 (H : Hid (∀ W, Below w.heap.size w W → Calls Tryz.prog 154 #[.pointer (some ⟨X, 0, none⟩), .string s] W fun e w' => e = (Got.gave k).end ∧ KB W.heap.size X W w')) :
 Calls Tryz.prog 153 #[.pointer (some ⟨X, 0, none⟩), .pointer (some ⟨B, 0, none⟩)] w fun e w' => e = (Got.gave k).end ∧ KB w.heap.size X w w' := by
 go_enter Tryz.func153, Tryz.ntmps153
 go_wp2_with fail
 refine (H.out _ (Below.refl _ _)).mono ?_
 rintro e w1 ⟨rfl, hk⟩
 unfold Got.end
 go_wp2
 exact ⟨rfl, rfl, hk⟩
set_option maxRecDepth 100000 in
set_option maxHeartbeats 1600000 in
theorem pdone1_bad (P Q X B : Nat) (k : Int) (w : World) (hP : Row w P [.func (.func 153) #[] #[.pointer (some ⟨X, 0, none⟩), .pointer (some ⟨B, 0, none⟩)]])
 (H : Hid (∀ W, Below w.heap.size w W → Calls Tryz.prog 153 #[.pointer (some ⟨X, 0, none⟩), .pointer (some ⟨B, 0, none⟩)] W fun e w' => e = (Got.gave k).end ∧ KB W.heap.size X W w')) :
 Calls Tryz.prog 173 #[.pointer (some ⟨P, 0, none⟩), .pointer (some ⟨Q, 0, none⟩)] w (GotPost X w (.gave k)) := by
 have p0 := hP.c 0 rfl
 have hlP := hP.lt
 clear hP
 go_enter Tryz.func173, Tryz.ntmps173
 go_wp2_with fail
 have hb0 := (Below.refl w.heap.size w).alloc (Nat.le_refl _) (.cells zero_point 46)
 refine (H.out _ hb0).mono ?_
 rintro e w1 ⟨rfl, hk⟩
 have hK := ((KB.refl w.heap.size X w).below hb0 (Nat.le_refl _)).trans hk hb0.size
 clear hk hb0 H
 unfold Got.end
 go_wp2
 exact ⟨rfl, rfl, hK⟩
set_option maxRecDepth 100000 in
set_option maxHeartbeats 1600000 in
theorem pdone1_great (P Q X B : Nat) (fr : Array Value) (k : Int) (w : World) (hP : Row w P [.func (.func 153) #[] #[.pointer (some ⟨X, 0, none⟩), .pointer (some ⟨B, 0, none⟩)]])
 (hQ : Row w Q [.pointer (some ⟨X, 0, none⟩)]) (hQX : Q ≠ X)
 (H : Hid (∀ W, Below w.heap.size w W → Calls Tryz.prog 153 #[.pointer (some ⟨X, 0, none⟩), .pointer (some ⟨B, 0, none⟩)] W fun e w' => e = .returned (.tuple #[]) ∧ Row w' X fr.toList ∧ KB W.heap.size X W w'))
 (HS2 : Hid (∀ W, Row W X fr.toList → Calls Tryz.prog 174 #[.pointer (some ⟨X, 0, none⟩)] W fun e w' => e = (Got.gave k).end ∧ Below W.heap.size W w')) :
 Calls Tryz.prog 173 #[.pointer (some ⟨P, 0, none⟩), .pointer (some ⟨Q, 0, none⟩)] w (GotPost X w (.gave k)) := by
 have p0 := hP.c 0 rfl
 have hlP := hP.lt
 have hlQ := hQ.lt
 clear hP
 go_enter Tryz.func173, Tryz.ntmps173
 go_wp2_with fail
 have hb0 := (Below.refl w.heap.size w).alloc (Nat.le_refl _) (.cells zero_point 46)
 refine (H.out _ hb0).mono ?_
 rintro e w1 ⟨rfl, hr, hk⟩
 have hQ1 := (hQ.alloc (.cells zero_point 46)).kb hk hQX
 have hK := ((KB.refl w.heap.size X w).below hb0 (Nat.le_refl _)).trans hk hb0.size
 have q0 := hQ1.c 0 rfl
 clear hk hb0 hQ H
 go_wp2_with fail
 refine (HS2.out _ hr).mono ?_
 rintro e w2 ⟨rfl, hb⟩
 have hK2 := hK.below hb hK.size
 clear hb hK q0 hQ1
 unfold Got.end
 go_wp2
 exact ⟨rfl, rfl, hK2⟩
set_option maxRecDepth 100000 in
set_option maxHeartbeats 1600000 in
theorem pdone_bad (X B : Nat) (k : Int) (w : World) (hk0 : k ≠ 0) (hlX : X < w.heap.size)
 (H1 : Hid (∀ W, Below w.heap.size w W → ∀ P Q, Row W P [.func (.func 153) #[] #[.pointer (some ⟨X, 0, none⟩), .pointer (some ⟨B, 0, none⟩)]] → Row W Q [.pointer (some ⟨X, 0, none⟩)] → Q ≠ X → Calls Tryz.prog 173 #[.pointer (some ⟨P, 0, none⟩), .pointer (some ⟨Q, 0, none⟩)] W (GotPost X W (.gave k)))) :
 Calls Tryz.prog 152 #[.pointer (some ⟨X, 0, none⟩), .func (.func 153) #[] #[.pointer (some ⟨X, 0, none⟩), .pointer (some ⟨B, 0, none⟩)]] w fun e w' => e = .returned (.tuple #[.agg zero_point, .int .i64 k]) ∧ KB w.heap.size X w w' := by
 have hmf : ∀ (fn : Fn) (first cap : Array Value) (w : World), (Instr.makeFunc fn first cap).run Tryz.prog w = .ok (.func fn first cap) w := fun _ _ _ _ => rfl
 have hT : AggTy Tryz.prog 46 zero_point.size := agg_point
 have HO : Hid (OneC zero_point) := Lib.hid (by simp [OneC, zero_point, Value.oneCell'])
 have HK0 := Lib.hid hk0; clear hk0
 go_enter Tryz.func152, Tryz.ntmps152
 go_wp2_with fail
 have r2 := (((Row.at (w := w) rfl [.pointer (some ⟨X, 0, none⟩)] 226).alloc (.cells #[.func (.func 153) #[] #[.pointer (some ⟨X, 0, none⟩), .pointer (some ⟨B, 0, none⟩)]] 1)).alloc (.cells zero_point 46))
 have r3 := ((Row.at (w := w.alloc (.cells #[.pointer (some ⟨X, 0, none⟩)] 226)) (n := w.heap.size + 1) (by simp) [.func (.func 153) #[] #[.pointer (some ⟨X, 0, none⟩), .pointer (some ⟨B, 0, none⟩)]] 1).alloc (.cells zero_point 46))
 have r4 := (Row.at (w := (w.alloc (.cells #[.pointer (some ⟨X, 0, none⟩)] 226)).alloc (.cells #[.func (.func 153) #[] #[.pointer (some ⟨X, 0, none⟩), .pointer (some ⟨B, 0, none⟩)]] 1)) (n := w.heap.size + 1 + 1) (by simp) zero_point.toList 46)
 have hb0 := (((Below.refl w.heap.size w).alloc (Nat.le_refl _) (.cells #[.pointer (some ⟨X, 0, none⟩)] 226)).alloc (by simp) (.cells #[.func (.func 153) #[] #[.pointer (some ⟨X, 0, none⟩), .pointer (some ⟨B, 0, none⟩)]] 1)).alloc (by simp; omega) (.cells zero_point 46)
 refine (caughtP_point 173 #[.pointer (some ⟨w.heap.size + 1, 0, none⟩), .pointer (some ⟨w.heap.size, 0, none⟩)] X (.gave k) _ (Nat.lt_of_lt_of_le hlX hb0.size) HK0.out (fun _ _ => Tryz.call173 _ _)
  (fun W hW => H1.out W (hb0.trans (hW.mono hb0.size)) (w.heap.size + 1) w.heap.size (r3.below hW r3.lt) (r2.below hW r2.lt) (by omega))).mono ?_
 rintro e w1 ⟨rfl, hk⟩
 have hK := ((KB.refl w.heap.size X w).below hb0 (Nat.le_refl _)).trans hk hb0.size
 replace r4 := r4.kb hk (by omega)
 clear r2 r3 hk hb0 H1
 simp only [Got.ans]
 go_wp2_with (first | (refine wpList_store_R rfl _ _ _ rfl _ zero_point rfl rfl _ r4 rfl hT HO.out ?_; intro w2 q2 o2))
 exact bodyPost_ret (results_R2 (cs := zero_point) rfl rfl q2 hT) rfl ⟨rfl, hK.on o2 (.inr (by omega))⟩
set_option maxRecDepth 100000 in
set_option maxHeartbeats 3200000 in
theorem pparseK_core (s : ByteArray) (fr : Array Value) (K : Int) (w : World) (hs : fr.size = 20) (h1 : OneC fr)
 (HD : Hid (∀ W, Below w.heap.size w W → ∀ X B, w.heap.size ≤ X → W.cell? ⟨B, 0, none⟩ = some (.string s) → Row W X zero_point.toList →
   Calls Tryz.prog 152 #[.pointer (some ⟨X, 0, none⟩), .func (.func 153) #[] #[.pointer (some ⟨X, 0, none⟩), .pointer (some ⟨B, 0, none⟩)]] W fun e w' => e = .returned (.tuple #[.agg fr, .int .i64 K]) ∧ KB W.heap.size X W w')) :
 Calls Tryz.prog 134 #[.string s] w fun e w' => e = .returned (.tuple #[.agg fr, .int .i64 K]) ∧ Below w.heap.size w w' := by
 have hmf : ∀ (fn : Fn) (first cap : Array Value) (w : World), (Instr.makeFunc fn first cap).run Tryz.prog w = .ok (.func fn first cap) w := fun _ _ _ _ => rfl
 have hT : AggTy Tryz.prog 46 fr.size := by rw [hs]; exact .of _ Tryz.underlying46 rfl (by kernel_rfl)
 have HO := Lib.hid h1; clear h1
 have HS := Lib.hid hs; clear hs
 go_enter Tryz.func134, Tryz.ntmps134
 go_upto_region 2 with fail
 generalize hW : World.alloc _ _ = W0
 have rB : Row W0 w.heap.size [.string s] := by rw [← hW]; exact ((Row.at rfl [.string s] _).alloc _).alloc _
 have rZ : Row W0 (w.heap.size + 1) zero_point.toList := by rw [← hW]; exact (Row.at (by simp) zero_point.toList _).alloc _
 have rX : Row W0 (w.heap.size + 1 + 1) zero_point.toList := by rw [← hW]; exact Row.at (by simp) _ _
 have hB : Below w.heap.size w W0 := by rw [← hW]; exact (((Below.refl _ _).alloc (Nat.le_refl _) _).alloc (by simp) _).alloc (by simp; omega) _
 clear hW
 go_wp2_with fail
 refine (HD.out W0 hB _ _ (by omega) (rB.c 0 rfl) rX).mono ?_
 rintro e w3 ⟨rfl, hk⟩
 replace rZ := rZ.kb hk (by omega)
 have hB3 : Below w.heap.size w w3 := (((KB.refl w.heap.size (w.heap.size + 1 + 1) w).below hB (Nat.le_refl _)).trans hk hB.size).toBelowP (by omega)
 clear hk rB rX HD
 go_wp2_with (first | (refine wpList_store_R rfl _ _ _ rfl _ fr rfl rfl _ rZ (by rw [HS.out]; rfl) hT HO.out ?_; intro w4 q2 o2))
 exact bodyPost_ret (results_R2 (cs := fr) rfl rfl q2 hT) rfl ⟨rfl, below_on hB3 o2 (by omega)⟩
set_option maxRecDepth 100000 in
set_option maxHeartbeats 3200000 in
theorem node_bad_core (s : ByteArray) (fr : Array Value) (x y K : Int) (g : Bool) (w : World) (hKg : (K == 0 && g) = false) (hs : fr.size = 20) (h1 : OneC fr)
 (HP : Hid (∀ W, Below w.heap.size w W → Calls Tryz.prog 134 #[.string s] W fun e w' => e = .returned (.tuple #[.agg fr, .int .i64 K]) ∧ Below W.heap.size W w'))
 (HG : Hid (∀ W, Calls Tryz.prog 85 #[.agg fr] W fun e w' => e = .returned (.tuple #[.agg #[.int .i64 x, .int .i64 y], .bool g]) ∧ Below W.heap.size W w')) :
 Calls Tryz.prog 106 #[.string s] w fun e w' => e = (Got.gave 140).end ∧ Below w.heap.size w w' := by
 have HKg := Lib.hid hKg; clear hKg
 have hT : AggTy Tryz.prog 46 fr.size := by rw [hs]; exact .of _ Tryz.underlying46 rfl (by kernel_rfl)
 have HO := Lib.hid h1; clear h1
 have HS := Lib.hid hs; clear hs
 go_enter Tryz.func106, Tryz.ntmps106
 go_upto_region 1 with fail
 generalize hW : World.alloc _ _ = W0
 have rZ : Row W0 w.heap.size [.int .i64 0, .int .i64 0] := by rw [← hW]; exact Row.at rfl _ _
 have hB : Below w.heap.size w W0 := by rw [← hW]; exact (Below.refl _ _).alloc (Nat.le_refl _) _
 clear hW
 go_wp2_with fail
 refine (HP.out W0 hB).mono ?_
 rintro e w1 ⟨rfl, hb⟩
 replace rZ := rZ.after hb
 replace hB := hB.trans (hb.mono hB.size)
 clear hb
 go_upto_region 2 with (refine wpList_store_R rfl _ _ _ rfl _ fr rfl rfl _ (Row.at rfl zero_point.toList _) (by rw [HS.out]; rfl) hT HO.out ?_; intro w2 r2 o2)
 have l1 := rZ.lt
 replace rZ := o2.row (Nat.ne_of_lt rZ.1) (rZ.alloc _)
 replace hB := below_on (hB.alloc hB.size _) o2 hB.size
 clear o2
 generalize w1.heap.size = b1 at *
 go_wp2_with (refine wpList_load_R rfl _ _ rfl b1 rfl fr r2 hT ?_)
 refine (HG.out _).mono ?_
 rintro e w3 ⟨rfl, hb⟩
 replace rZ := rZ.after hb
 replace hB := hB.trans (hb.mono hB.size)
 clear hb r2
 clear rZ
 cases hK0 : (K == 0)
 ·have hK1 : (K != 0) = true := by simpa using hK0
  go_wp2_with fail
  all_goals try (rename_i hu _; have hv : some undef = some (Value.bool _) := hu; cases hv)
  refine (for_gives 140 _ (by decide)).mono ?_
  rintro e w4 ⟨rfl, rfl⟩
  go_wp2
  exact ⟨rfl, rfl, hB.alloc hB.size _⟩
 ·have hg := HKg.out
  rw [hK0] at hg
  obtain rfl : g = false := hg
  have hK1 : (K != 0) = false := by simpa using hK0
  go_wp2_with fail
  refine (for_gives 140 _ (by decide)).mono ?_
  rintro e w4 ⟨rfl, rfl⟩
  go_wp2
  exact ⟨rfl, rfl, hB.alloc hB.size _⟩
end Go.Proofs.YtongeeggaigepaaGreatDoor

namespace Go.Proofs.YtongeeggaigepaaGreatDoor
open Go.RowKit Go.Sort CrossMath

set_option maxRecDepth 100000 in
set_option maxHeartbeats 6400000 in
theorem read_bad1 (s a1 b1 : ByteArray) (m1 : Bool) (w : World)
 (HR1 : Hid (∀ W L M, Below w.heap.size w W → Row W L [.string s] → Row W M [.bool true] → L ≠ M → Calls Tryz.prog 104 #[.pointer (some ⟨L, 0, none⟩), .pointer (some ⟨M, 0, none⟩)] W fun e w' => e = .returned (.string a1) ∧ Row w' L [.string b1] ∧ Row w' M [.bool m1] ∧ Below2 W.heap.size L M W w'))
 (HN1 : Hid (∀ W, Below w.heap.size w W → Calls Tryz.prog 106 #[.string a1] W fun e w' => e = (Got.gave 140).end ∧ Below W.heap.size W w')) :
 Calls Tryz.prog 66 #[.string s] w fun e w' => e = (Got.gave 140).end ∧ Below w.heap.size w w' := by
 have hmf : ∀ (fn : Fn) (first cap : Array Value) (w : World), (Instr.makeFunc fn first cap).run Tryz.prog w = .ok (.func fn first cap) w := fun _ _ _ _ => rfl
 go_enter Tryz.func66, Tryz.ntmps66
 go_upto_region 2 with fail
 generalize hW : World.alloc _ _ = W0
 have rZ : Row W0 w.heap.size [.int .i64 0, .int .i64 0, .int .i64 0, .int .i64 0] := by rw [← hW]; exact ((Row.at rfl _ _).alloc _).alloc _
 have rL : Row W0 (w.heap.size + 1) [.string s] := by rw [← hW]; exact (Row.at (by simp) _ _).alloc _
 have rM : Row W0 (w.heap.size + 1 + 1) [.bool true] := by rw [← hW]; exact Row.at (by simp) _ _
 have hB : Below w.heap.size w W0 := by rw [← hW]; exact (((Below.refl _ _).alloc (Nat.le_refl _) _).alloc (by simp) _).alloc (by simp; omega) _
 clear hW
 go_wp2_with fail
 refine (HR1.out W0 _ _ hB rL rM (by omega)).mono ?_
 rintro e w1 ⟨rfl, rL1, rM1, hb⟩
 have lM := rM.lt
 have hb1 := hb (w.heap.size + 1) (by omega) (Nat.le_refl _) (by omega)
 replace rZ := rZ.below hb1 (by omega)
 replace hB := hB.trans (hb1.mono (by omega))
 clear hb hb1 rL rM
 go_wp2_with fail
 refine (HN1.out _ hB).mono ?_
 rintro e w9 ⟨rfl, hb⟩
 replace hB := hB.trans (hb.mono hB.size)
 clear hb
 unfold Got.end
 go_wp2
 exact ⟨rfl, rfl, hB⟩
set_option maxRecDepth 100000 in
set_option maxHeartbeats 6400000 in
theorem read_bad2 (s a1 b1 a2 b2 : ByteArray) (m1 m2 : Bool) (ax ay : Int) (w : World)
 (HR1 : Hid (∀ W L M, Below w.heap.size w W → Row W L [.string s] → Row W M [.bool true] → L ≠ M → Calls Tryz.prog 104 #[.pointer (some ⟨L, 0, none⟩), .pointer (some ⟨M, 0, none⟩)] W fun e w' => e = .returned (.string a1) ∧ Row w' L [.string b1] ∧ Row w' M [.bool m1] ∧ Below2 W.heap.size L M W w'))
 (HR2 : Hid (∀ W L M, Below w.heap.size w W → Row W L [.string b1] → Row W M [.bool m1] → L ≠ M → Calls Tryz.prog 104 #[.pointer (some ⟨L, 0, none⟩), .pointer (some ⟨M, 0, none⟩)] W fun e w' => e = .returned (.string a2) ∧ Row w' L [.string b2] ∧ Row w' M [.bool m2] ∧ Below2 W.heap.size L M W w'))
 (HN1 : Hid (∀ W, Below w.heap.size w W → Calls Tryz.prog 106 #[.string a1] W fun e w' => e = .returned (.agg #[.int .i64 ax, .int .i64 ay]) ∧ Below W.heap.size W w'))
 (HN2 : Hid (∀ W, Below w.heap.size w W → Calls Tryz.prog 106 #[.string a2] W fun e w' => e = (Got.gave 140).end ∧ Below W.heap.size W w')) :
 Calls Tryz.prog 66 #[.string s] w fun e w' => e = (Got.gave 140).end ∧ Below w.heap.size w w' := by
 have hmf : ∀ (fn : Fn) (first cap : Array Value) (w : World), (Instr.makeFunc fn first cap).run Tryz.prog w = .ok (.func fn first cap) w := fun _ _ _ _ => rfl
 go_enter Tryz.func66, Tryz.ntmps66
 go_upto_region 2 with fail
 generalize hW : World.alloc _ _ = W0
 have rZ : Row W0 w.heap.size [.int .i64 0, .int .i64 0, .int .i64 0, .int .i64 0] := by rw [← hW]; exact ((Row.at rfl _ _).alloc _).alloc _
 have rL : Row W0 (w.heap.size + 1) [.string s] := by rw [← hW]; exact (Row.at (by simp) _ _).alloc _
 have rM : Row W0 (w.heap.size + 1 + 1) [.bool true] := by rw [← hW]; exact Row.at (by simp) _ _
 have hB : Below w.heap.size w W0 := by rw [← hW]; exact (((Below.refl _ _).alloc (Nat.le_refl _) _).alloc (by simp) _).alloc (by simp; omega) _
 clear hW
 go_wp2_with fail
 refine (HR1.out W0 _ _ hB rL rM (by omega)).mono ?_
 rintro e w1 ⟨rfl, rL1, rM1, hb⟩
 have lM := rM.lt
 have hb1 := hb (w.heap.size + 1) (by omega) (Nat.le_refl _) (by omega)
 replace rZ := rZ.below hb1 (by omega)
 replace hB := hB.trans (hb1.mono (by omega))
 clear hb hb1 rL rM
 go_wp2_with fail
 refine (HN1.out _ hB).mono ?_
 rintro e w2 ⟨rfl, hb⟩
 replace rZ := rZ.after hb
 replace rL1 := rL1.after hb
 replace rM1 := rM1.after hb
 replace hB := hB.trans (hb.mono hB.size)
 clear hb
 go_wp2_with fail
 refine (HR2.out _ _ _ hB rL1 rM1 (by omega)).mono ?_
 rintro e w3 ⟨rfl, rL2, rM2, hb⟩
 have lM2 := rM1.lt
 have hb1 := hb (w.heap.size + 1) (by omega) (Nat.le_refl _) (by omega)
 replace rZ := rZ.below hb1 (by omega)
 replace hB := hB.trans (hb1.mono (by omega))
 clear hb hb1 rL1 rM1 rL2
 go_wp2_with fail
 refine (HN2.out _ hB).mono ?_
 rintro e w9 ⟨rfl, hb⟩
 replace hB := hB.trans (hb.mono hB.size)
 clear hb
 unfold Got.end
 go_wp2
 exact ⟨rfl, rfl, hB⟩
set_option maxRecDepth 100000 in
set_option maxHeartbeats 6400000 in
theorem read_more (s a1 b1 a2 b2 : ByteArray) (m1 : Bool) (ax ay bx bY : Int) (w : World)
 (HR1 : Hid (∀ W L M, Below w.heap.size w W → Row W L [.string s] → Row W M [.bool true] → L ≠ M → Calls Tryz.prog 104 #[.pointer (some ⟨L, 0, none⟩), .pointer (some ⟨M, 0, none⟩)] W fun e w' => e = .returned (.string a1) ∧ Row w' L [.string b1] ∧ Row w' M [.bool m1] ∧ Below2 W.heap.size L M W w'))
 (HR2 : Hid (∀ W L M, Below w.heap.size w W → Row W L [.string b1] → Row W M [.bool m1] → L ≠ M → Calls Tryz.prog 104 #[.pointer (some ⟨L, 0, none⟩), .pointer (some ⟨M, 0, none⟩)] W fun e w' => e = .returned (.string a2) ∧ Row w' L [.string b2] ∧ Row w' M [.bool true] ∧ Below2 W.heap.size L M W w'))
 (HN1 : Hid (∀ W, Below w.heap.size w W → Calls Tryz.prog 106 #[.string a1] W fun e w' => e = .returned (.agg #[.int .i64 ax, .int .i64 ay]) ∧ Below W.heap.size W w'))
 (HN2 : Hid (∀ W, Below w.heap.size w W → Calls Tryz.prog 106 #[.string a2] W fun e w' => e = .returned (.agg #[.int .i64 bx, .int .i64 bY]) ∧ Below W.heap.size W w')) :
 Calls Tryz.prog 66 #[.string s] w fun e w' => e = (Got.gave 140).end ∧ Below w.heap.size w w' := by
 have hmf : ∀ (fn : Fn) (first cap : Array Value) (w : World), (Instr.makeFunc fn first cap).run Tryz.prog w = .ok (.func fn first cap) w := fun _ _ _ _ => rfl
 go_enter Tryz.func66, Tryz.ntmps66
 go_upto_region 2 with fail
 generalize hW : World.alloc _ _ = W0
 have rZ : Row W0 w.heap.size [.int .i64 0, .int .i64 0, .int .i64 0, .int .i64 0] := by rw [← hW]; exact ((Row.at rfl _ _).alloc _).alloc _
 have rL : Row W0 (w.heap.size + 1) [.string s] := by rw [← hW]; exact (Row.at (by simp) _ _).alloc _
 have rM : Row W0 (w.heap.size + 1 + 1) [.bool true] := by rw [← hW]; exact Row.at (by simp) _ _
 have hB : Below w.heap.size w W0 := by rw [← hW]; exact (((Below.refl _ _).alloc (Nat.le_refl _) _).alloc (by simp) _).alloc (by simp; omega) _
 clear hW
 go_wp2_with fail
 refine (HR1.out W0 _ _ hB rL rM (by omega)).mono ?_
 rintro e w1 ⟨rfl, rL1, rM1, hb⟩
 have lM := rM.lt
 have hb1 := hb (w.heap.size + 1) (by omega) (Nat.le_refl _) (by omega)
 replace rZ := rZ.below hb1 (by omega)
 replace hB := hB.trans (hb1.mono (by omega))
 clear hb hb1 rL rM
 go_wp2_with fail
 refine (HN1.out _ hB).mono ?_
 rintro e w2 ⟨rfl, hb⟩
 replace rZ := rZ.after hb
 replace rL1 := rL1.after hb
 replace rM1 := rM1.after hb
 replace hB := hB.trans (hb.mono hB.size)
 clear hb
 go_wp2_with fail
 refine (HR2.out _ _ _ hB rL1 rM1 (by omega)).mono ?_
 rintro e w3 ⟨rfl, rL2, rM2, hb⟩
 have lM2 := rM1.lt
 have hb1 := hb (w.heap.size + 1) (by omega) (Nat.le_refl _) (by omega)
 replace rZ := rZ.below hb1 (by omega)
 replace hB := hB.trans (hb1.mono (by omega))
 clear hb hb1 rL1 rM1 rL2
 go_wp2_with fail
 refine (HN2.out _ hB).mono ?_
 rintro e w4 ⟨rfl, hb⟩
 replace rZ := rZ.after hb
 replace rM2 := rM2.after hb
 replace hB := hB.trans (hb.mono hB.size)
 clear hb
 go_upto_region 4 with fail
 generalize hW : World.alloc _ _ = W5
 have rS : Row W5 w4.heap.size [.int .i64 ax, .int .i64 ay, .int .i64 bx, .int .i64 bY] := by rw [← hW]; exact Row.at rfl _ _
 replace rZ : Row W5 w.heap.size [.int .i64 0, .int .i64 0, .int .i64 0, .int .i64 0] := by rw [← hW]; exact rZ.alloc _
 replace rM2 : Row W5 (w.heap.size + 1 + 1) [.bool true] := by rw [← hW]; exact rM2.alloc _
 replace hB : Below w.heap.size w W5 := by rw [← hW]; exact hB.alloc hB.size _
 clear hW
 have m0 := rM2.c 0 rfl
 clear rS rZ HR1 HR2 HN1 HN2
 go_wp2_with fail
 all_goals try (rename_i hu _; have hv : some undef = some (Value.bool _) := hu; cases hv)
 refine (for_gives 140 _ (by decide)).mono ?_
 rintro e w7 ⟨rfl, rfl⟩
 go_wp2
 exact ⟨rfl, rfl, hB⟩
theorem ratT_err (l : List UInt8) : (ratT l).1 = 0 ∨ (ratT l).1 = 110 ∨ (ratT l).1 = 120 := by
 rcases cut_cases l 47 with ⟨hn, hc⟩ | ⟨a, b, hl, ha, hc⟩
 ·rw [ratT_no hn]
  unfold rat1
  rcases prsT_err l with h | h | h <;> rw [h] <;> simp
 ·rw [ratT_two hc]
  unfold rat2
  rcases prsT_err a with h | h | h <;> rcases prsT_err b with h2 | h2 | h2 <;> rw [h, h2] <;> cases behB b <;> cases riB (some (prsT a).1) (some (prsT b).1) <;> simp
theorem ratT_lt (l : List UInt8) : (ratT l).2.1.natAbs < T256 ∧ (ratT l).2.2.natAbs < T256 := by
 have h0 : (0 : Int).natAbs < T256 := by decide
 have h1 : (1 : Int).natAbs < T256 := by decide
 rcases cut_cases l 47 with ⟨hn, hc⟩ | ⟨a, b, hl, ha, hc⟩
 ·rw [ratT_no hn]
  unfold rat1
  split
  ·exact ⟨h0, h0⟩
  ·split
   ·exact ⟨prsT_lt l, h1⟩
   ·exact ⟨h0, h0⟩
 ·rw [ratT_two hc]
  unfold rat2
  split
  ·exact ⟨h0, h0⟩
  split
  ·exact ⟨h0, h0⟩
  split
  ·exact ⟨h0, h0⟩
  split
  ·exact ⟨h0, h0⟩
  split
  ·exact ⟨prsT_lt a, prsT_lt b⟩
  ·exact ⟨h0, h0⟩
theorem ratV_cells (t : Int × Int × Int) : ∃ (g h : Bool) (a1 a2 a3 a4 b1 b2 b3 b4 : Int), ratV t = #[.bool g, .int .u64 a1, .int .u64 a2, .int .u64 a3, .int .u64 a4, .bool h, .int .u64 b1, .int .u64 b2, .int .u64 b3, .int .u64 b4] := by
 unfold ratV
 split
 ·exact ⟨_, _, _, _, _, _, _, _, _, _, rfl⟩
 ·exact ⟨_, _, _, _, _, _, _, _, _, _, rfl⟩
theorem ratV_ok {t : Int × Int × Int} (h : t.1 = 0) : ratV t = ratA t.2.1 t.2.2 := by unfold ratV; rw [if_pos h]
def pt4 (A B : Int × Int × Int) : Array Value := pO (some A.2.1) (some A.2.2) (some B.2.1) (some B.2.2)
def ptV (A B : Int × Int × Int) : Array Value := if ptK A B = 0 then pt4 A B else zero_point
set_option maxRecDepth 100000 in
set_option maxHeartbeats 3200000 in
theorem pparse_any (s A B : ByteArray) (f : Bool) (w : World) (hs : s.size ≤ 1000) (hcut : Lib.cut s.data.toList [32] = (A.data.toList, B.data.toList, f)) (hc : CutOk w) (ht : TabTz w) (hw0 : 3 < w.heap.size) :
 Calls Tryz.prog 134 #[.string s] w fun e w' => e = .returned (.tuple #[.agg (ptV (ratT A.data.toList) (ratT B.data.toList)), .int .i64 (ptK (ratT A.data.toList) (ratT B.data.toList))]) ∧ Below w.heap.size w w' := by
 have hm0 : 0 < w.heap.size := by obtain ⟨m, hm⟩ := hc; exact block_lt_of_cell hm
 have hg0 : 3 < w.heap.size := block_lt_of_cell (ht 0 (by decide))
 have hs2 : s.size < 4294967281 := by omega
 have hl1 := cut_len s.data.toList 32
 rw [hcut] at hl1
 have hsA := size_le s A hl1.1 hs
 have hsB := size_le s B hl1.2 hs
 clear hl1
 have hzs : zero_point.size = 20 := rfl
 have hz1 : OneC zero_point := by simp [OneC, zero_point, Value.oneCell']
 have hS := fun X E F W (hE : Row W E [.string s]) (hF : Row W F [.pointer (some ⟨X, 0, none⟩)]) (hC : CutOk W) => parts_f f 7 E F X s A B W hE hF hs2 hcut hC
 have hfl : (ratT B.data.toList).1 = 0 → f = true := fun h => by
  rcases cut_cases s.data.toList 32 with ⟨_, e⟩ | ⟨a, b, _, _, e⟩
  ·rw [hcut] at e
   have e2 : B.data.toList = [] := congrArg (·.2.1) e
   rw [e2] at h
   exact absurd (h.symm.trans rat_nil) (by decide)
  ·rw [hcut] at e
   exact congrArg (·.2.2) e
 have hPA : ∀ (w U : World) X, Below w.heap.size w U → 3 ≠ X → 0 ≠ X → CutOk w → TabTz w → 3 < w.heap.size → ∀ V, KB U.heap.size X U V → Calls Tryz.prog 176 #[.string A] V fun e w' => e = .returned (.tuple #[.agg (ratV (ratT A.data.toList)), .int .i64 (ratT A.data.toList).1]) ∧ Below V.heap.size V w' :=
  fun w U X hU h1 h2 hc ht hw0 V hk => ratparse_any A V hsA ((hc.below hU).kb hk h2) ((ht.below hw0 hU).kb hk (Nat.lt_of_lt_of_le hw0 hU.size) h1) (Nat.lt_of_lt_of_le hw0 (Nat.le_trans hU.size hk.size))
 have hPB : ∀ (w U : World) X, Below w.heap.size w U → 3 ≠ X → 0 ≠ X → CutOk w → TabTz w → 3 < w.heap.size → ∀ V, KB U.heap.size X U V → Calls Tryz.prog 176 #[.string B] V fun e w' => e = .returned (.tuple #[.agg (ratV (ratT B.data.toList)), .int .i64 (ratT B.data.toList).1]) ∧ Below V.heap.size V w' :=
  fun w U X hU h1 h2 hc ht hw0 V hk => ratparse_any B V hsB ((hc.below hU).kb hk h2) ((ht.below hw0 hU).kb hk (Nat.lt_of_lt_of_le hw0 hU.size) h1) (Nat.lt_of_lt_of_le hw0 (Nat.le_trans hU.size hk.size))
 have hltA := ratT_lt A.data.toList
 have hltB := ratT_lt B.data.toList
 have heA := ratT_err A.data.toList
 have heB := ratT_err B.data.toList
 generalize ratT A.data.toList = tA at *
 generalize ratT B.data.toList = tB at *
 -- where the read gives up
 have hbad : ∀ k : Int, k ≠ 0 → ptK tA tB = k →
  (∀ U X, Below w.heap.size w U → w.heap.size ≤ X → Row U X zero_point.toList → Calls Tryz.prog 154 #[.pointer (some ⟨X, 0, none⟩), .string s] U fun e w' => e = (Got.gave k).end ∧ KB U.heap.size X U w') →
  Calls Tryz.prog 134 #[.string s] w fun e w' => e = .returned (.tuple #[.agg (ptV tA tB), .int .i64 (ptK tA tB)]) ∧ Below w.heap.size w w' := fun k hk0 hk H => by
  unfold ptV
  rw [hk, if_neg hk0]
  refine pparseK_core s _ k w hzs hz1 (Lib.hid (fun W hW X B' hX hB hR => ?_))
  refine pdone_bad X B' k W hk0 hR.lt (Lib.hid (fun V hV P Q hP hQ hQX => ?_))
  refine pdone1_bad P Q X B' k V hP (Lib.hid (fun V2 hV2 => ?_))
  have hVV := hV.trans (hV2.mono hV.size)
  refine pparse1_bad X B' s k V2 ((hVV.cell (p := ⟨B', 0, none⟩) (block_lt_of_cell hB)).trans hB) (Lib.hid (fun U hU => ?_))
  have hWU := hVV.trans (hU.mono hVV.size)
  exact H U X (hW.trans (hWU.mono hW.size)) hX (hR.after hWU)
 obtain ⟨g1, g2, x1, x2, x3, x4, x5, x6, x7, x8, eA⟩ := ratV_cells tA
 obtain ⟨g3, g4, y1, y2, y3, y4, y5, y6, y7, y8, eB⟩ := ratV_cells tB
 rcases heA with a0 | a0 | a0
 ·rcases heB with b0 | b0 | b0
  ·-- both are Rats
   obtain rfl := hfl b0
   have hread : ∀ U X, Below w.heap.size w U → w.heap.size ≤ X → Row U X zero_point.toList → Calls Tryz.prog 154 #[.pointer (some ⟨X, 0, none⟩), .string s] U fun e w' => e = .returned (.tuple #[]) ∧ Row w' X (pt4 tA tB).toList ∧ KB U.heap.size X U w' := fun U X hU hX hR => by
    have h1 := hPA w U X hU (by omega) (by omega) hc ht hw0
    have h2 := hPB w U X hU (by omega) (by omega) hc ht hw0
    rw [a0, ratV_ok a0] at h1
    rw [b0, ratV_ok b0] at h2
    exact sread_core X s A B _ _ _ _ _ _ _ _ _ _ _ _ _ _ _ _ _ _ _ _ _ _ _ _ _ _ _ _ _ _ _ _ _ _ _ _ _ _ _ _ U hR hs2 hcut (hc.below hU) (Lib.hid h1) (Lib.hid h2)
   have hg1 := fun W => great_O (some tA.2.1) (some tA.2.2) hltA.1 hltA.2 W
   have hg2 := fun W => great_O (some tB.2.1) (some tB.2.2) hltB.1 hltB.2 W
   have hdn : ∀ k : Int, k ≠ 0 → ptK tA tB = k → (∀ V X, Row V X (pt4 tA tB).toList → Calls Tryz.prog 174 #[.pointer (some ⟨X, 0, none⟩)] V fun e w' => e = (Got.gave k).end ∧ Below V.heap.size V w') →
    Calls Tryz.prog 134 #[.string s] w fun e w' => e = .returned (.tuple #[.agg (ptV tA tB), .int .i64 (ptK tA tB)]) ∧ Below w.heap.size w w' := fun k hk0 hk H => by
    unfold ptV
    rw [hk, if_neg hk0]
    refine pparseK_core s _ k w hzs hz1 (Lib.hid (fun W hW X B' hX hB hR => ?_))
    refine pdone_bad X B' k W hk0 hR.lt (Lib.hid (fun V hV P Q hP hQ hQX => ?_))
    refine pdone1_great P Q X B' (pt4 tA tB) k V hP hQ hQX (Lib.hid (fun V2 hV2 => ?_)) (Lib.hid (fun V2 hr => H V2 X hr))
    have hVV := hV.trans (hV2.mono hV.size)
    refine pparse1_core X B' s _ V2 ((hVV.cell (p := ⟨B', 0, none⟩) (block_lt_of_cell hB)).trans hB) (Lib.hid (fun U hU => ?_))
    have hWU := hVV.trans (hU.mono hVV.size)
    exact hread U X (hW.trans (hWU.mono hW.size)) hX (hR.after hWU)
   cases hgA : grB (some tA.2.1) (some tA.2.2) with
   | true =>
     rw [hgA] at hg1
     exact hdn 110 (by decide) (by unfold ptK; rw [a0, b0, hgA]; simp) (fun V X hr => settle_first X _ _ _ _ _ _ _ _ _ _ _ _ _ _ _ _ _ _ _ _ V hr (Lib.hid hg1))
   | false =>
     rw [hgA] at hg1
     cases hgB : grB (some tB.2.1) (some tB.2.2) with
     | true =>
       rw [hgB] at hg2
       exact hdn 110 (by decide) (by unfold ptK; rw [a0, b0, hgA, hgB]; simp) (fun V X hr => settle_second X _ _ _ _ _ _ _ _ _ _ _ _ _ _ _ _ _ _ _ _ V hr (Lib.hid hg1) (Lib.hid hg2))
     | false =>
       rw [hgB] at hg2
       have hk : ptK tA tB = 0 := by unfold ptK; rw [a0, b0, hgA, hgB]; simp
       unfold ptV
       rw [hk, if_pos rfl]
       refine pparseK_core s (pt4 tA tB) 0 w rfl (pO_one _ _ _ _) (Lib.hid (fun W hW X B' hX hB hR => ?_))
       refine pdone_core X B' (pt4 tA tB) W rfl (pO_one _ _ _ _) hR.lt (Lib.hid (fun V hV => ?_)) (Lib.hid (fun V hr => settle_core X _ _ _ _ _ _ _ _ _ _ _ _ _ _ _ _ _ _ _ _ V hr (Lib.hid hg1) (Lib.hid hg2)))
       refine pparse1_core X B' s _ V ((hV.cell (p := ⟨B', 0, none⟩) (block_lt_of_cell hB)).trans hB) (Lib.hid (fun U hU => ?_))
       have hWU := hV.trans (hU.mono hV.size)
       exact hread U X (hW.trans (hWU.mono hW.size)) hX (hR.after hWU)
  ·refine hbad 110 (by decide) (by unfold ptK; rw [a0, b0]; simp) (fun U X hU hX hR => ?_)
   have h1 := hPA w U X hU (by omega) (by omega) hc ht hw0
   have h2 := hPB w U X hU (by omega) (by omega) hc ht hw0
   rw [a0, eA] at h1
   rw [b0, eB] at h2
   exact sread_a0_b110 X s A B _ _ _ _ _ _ _ _ _ _ _ _ _ _ _ _ _ _ _ _ _ _ _ _ _ _ _ _ _ _ _ _ _ _ _ _ _ _ _ _ U hR (hc.below hU) (hS X) (Lib.hid h1) (Lib.hid h2)
  ·refine hbad 130 (by decide) (by unfold ptK; rw [a0, b0]; simp) (fun U X hU hX hR => ?_)
   have h1 := hPA w U X hU (by omega) (by omega) hc ht hw0
   have h2 := hPB w U X hU (by omega) (by omega) hc ht hw0
   rw [a0, eA] at h1
   rw [b0, eB] at h2
   exact sread_a0_b120 X s A B _ _ _ _ _ _ _ _ _ _ _ _ _ _ _ _ _ _ _ _ _ _ _ _ _ _ _ _ _ _ _ _ _ _ _ _ _ _ _ _ U hR (hc.below hU) (hS X) (Lib.hid h1) (Lib.hid h2)
 ·rcases heB with b0 | b0 | b0
  ·refine hbad 110 (by decide) (by unfold ptK; rw [a0, b0]; simp) (fun U X hU hX hR => ?_)
   have h1 := hPA w U X hU (by omega) (by omega) hc ht hw0
   have h2 := hPB w U X hU (by omega) (by omega) hc ht hw0
   rw [a0, eA] at h1
   rw [b0, eB] at h2
   exact sread_a110_b0 X s A B _ _ _ _ _ _ _ _ _ _ _ _ _ _ _ _ _ _ _ _ _ _ _ _ _ _ _ _ _ _ _ _ _ _ _ _ _ _ _ _ U hR (hc.below hU) (hS X) (Lib.hid h1) (Lib.hid h2)
  ·refine hbad 110 (by decide) (by unfold ptK; rw [a0, b0]; simp) (fun U X hU hX hR => ?_)
   have h1 := hPA w U X hU (by omega) (by omega) hc ht hw0
   have h2 := hPB w U X hU (by omega) (by omega) hc ht hw0
   rw [a0, eA] at h1
   rw [b0, eB] at h2
   exact sread_a110_b110 X s A B _ _ _ _ _ _ _ _ _ _ _ _ _ _ _ _ _ _ _ _ _ _ _ _ _ _ _ _ _ _ _ _ _ _ _ _ _ _ _ _ U hR (hc.below hU) (hS X) (Lib.hid h1) (Lib.hid h2)
  ·refine hbad 130 (by decide) (by unfold ptK; rw [a0, b0]; simp) (fun U X hU hX hR => ?_)
   have h1 := hPA w U X hU (by omega) (by omega) hc ht hw0
   have h2 := hPB w U X hU (by omega) (by omega) hc ht hw0
   rw [a0, eA] at h1
   rw [b0, eB] at h2
   exact sread_a110_b120 X s A B _ _ _ _ _ _ _ _ _ _ _ _ _ _ _ _ _ _ _ _ _ _ _ _ _ _ _ _ _ _ _ _ _ _ _ _ _ _ _ _ U hR (hc.below hU) (hS X) (Lib.hid h1) (Lib.hid h2)
 ·refine hbad 130 (by decide) (by unfold ptK; rw [a0]; simp) (fun U X hU hX hR => ?_)
  have h1 := hPA w U X hU (by omega) (by omega) hc ht hw0
  rw [a0, eA] at h1
  exact sread_a120 X s A [(X, 10, B)] _ _ _ _ _ _ _ _ _ _ _ _ _ _ _ _ _ _ _ _ _ _ _ _ _ _ _ _ _ _ U hR (hc.below hU) (hS X) (Lib.hid h1)
theorem ba_of (l : List UInt8) : ∃ A : ByteArray, A.data.toList = l := ⟨⟨l.toArray⟩, rfl⟩
theorem zero_pO : zero_point = pO (some 0) (some 0) (some 0) (some 0) := by simp [zero_point, pO, oS, oM, W64]
theorem snode_all (s : ByteArray) (w : World) (hs : s.size ≤ 1000) (hc : CutOk w) (ht : TabTz w) (hw0 : 3 < w.heap.size) :
 Calls Tryz.prog 106 #[.string s] w fun e w' => e = (if (nodeT s.data.toList).2 = true then Got.val (nodeA (nodeT s.data.toList).1.1 (nodeT s.data.toList).1.2) else Got.gave 140).end ∧ Below w.heap.size w w' := by
 obtain ⟨a, b, f, hcut⟩ : ∃ a b f, Lib.cut s.data.toList [32] = (a, b, f) := ⟨_, _, _, rfl⟩
 obtain ⟨A, rfl⟩ := ba_of a
 obtain ⟨B, rfl⟩ := ba_of b
 have hltA := ratT_lt A.data.toList
 have hltB := ratT_lt B.data.toList
 have hP := fun W (hW : Below w.heap.size w W) => pparse_any s A B f W hs hcut (hc.below hW) (ht.below hw0 hW) (Nat.lt_of_lt_of_le hw0 hW.size)
 have hnd : ndOk s.data.toList = (decide (ptK (ratT A.data.toList) (ratT B.data.toList) = 0) && gridB (some (ratT A.data.toList).2.1) (some (ratT A.data.toList).2.2) (some (ratT B.data.toList).2.1) (some (ratT B.data.toList).2.2)) := by
  unfold ndOk; rw [hcut]
 have hG := fun W => grid_O (some (ratT A.data.toList).2.1) (some (ratT A.data.toList).2.2) (some (ratT B.data.toList).2.1) (some (ratT B.data.toList).2.2) hltA.1 hltA.2 hltB.1 hltB.2 W
 cases hok : ndOk s.data.toList with
 | true =>
   have hn := nd_says hok
   rw [hcut] at hn
   rw [hn]
   show Calls _ _ _ _ fun e w' => e = (Got.val (nodeA (ratT A.data.toList).2.1 (ratT B.data.toList).2.1)).end ∧ _
   rw [hok, eq_comm, Bool.and_eq_true, decide_eq_true_eq] at hnd
   obtain ⟨h1, h2⟩ := hnd
   obtain ⟨x, y, e1, e2, e3, e4, i1, i2⟩ := gridB_true h2
   rw [h2] at hG
   simp only [if_true] at hG
   cases e1
   cases e3
   rw [sm_in i1, sm_in i2] at hG
   unfold ptV at hP
   rw [h1] at hP
   simp only [if_true] at hP
   exact node_core s (pt4 (ratT A.data.toList) (ratT B.data.toList)) _ _ w rfl (pO_one _ _ _ _) (Lib.hid hP) (Lib.hid hG)
 | false =>
   have hn : (nodeT s.data.toList).2 = false := by
    cases h : (nodeT s.data.toList).2 with
    | false => rfl
    | true => rw [nd_of h] at hok; cases hok
   rw [hn]
   show Calls _ _ _ _ fun e w' => e = (Got.gave 140).end ∧ _
   rw [hok, eq_comm] at hnd
   by_cases h1 : ptK (ratT A.data.toList) (ratT B.data.toList) = 0
   ·rw [h1] at hnd
    have h2 : gridB (some (ratT A.data.toList).2.1) (some (ratT A.data.toList).2.2) (some (ratT B.data.toList).2.1) (some (ratT B.data.toList).2.2) = false := hnd
    rw [h2] at hG
    unfold ptV at hP
    rw [h1] at hP
    simp only [if_true] at hP
    exact node_bad_core s (pt4 (ratT A.data.toList) (ratT B.data.toList)) _ _ 0 false w rfl rfl (pO_one _ _ _ _) (Lib.hid hP) (Lib.hid hG)
   ·unfold ptV at hP
    rw [if_neg h1] at hP
    have hG0 := fun W => grid_O (some 0) (some 0) (some 0) (some 0) (by decide) (by decide) (by decide) (by decide) W
    rw [← zero_pO, show gridB (some 0) (some 0) (some 0) (some 0) = false by decide] at hG0
    have hz1 : OneC zero_point := by simp [OneC, zero_point, Value.oneCell']
    exact node_bad_core s zero_point _ _ _ false w (by simp) rfl hz1 (Lib.hid hP) (Lib.hid hG0)
theorem node_nd (x y : Int) : nodeB x y = ndB (x, y) := by
 rw [Bool.eq_iff_iff, nodeB_iff]
 unfold ndB
 rw [Bool.and_eq_true, inB_iff, inB_iff]
theorem ck_seg (A B : (Int × Int) × Bool) : (ckI A.1.1 A.1.2 B.1.1 B.1.2 = 0 ∧ rightS (segT A B) = true) ∨ (ckI A.1.1 A.1.2 B.1.1 B.1.2 = 2 ∧ rightS (segT A B) = false) := by
 have e : ckI A.1.1 A.1.2 B.1.1 B.1.2 = if rightS (segT A B) = true then 0 else 2 := by
  unfold ckI rightS segT
  simp only [node_nd]
 rw [e]
 cases rightS (segT A B) with
 | true => exact .inl ⟨rfl, rfl⟩
 | false => exact .inr ⟨rfl, rfl⟩
theorem segparse_any (s : ByteArray) (w : World) (hs : s.size ≤ 1000) (hc : CutOk w) (ht : TabTz w) (hw0 : 3 < w.heap.size) :
 Calls Tryz.prog 26 #[.string s] w fun e w' => e = .returned (.tuple #[.agg (sgA (parseT s.data.toList).1), .int .i64 (parseT s.data.toList).2]) ∧ Below w.heap.size w w' := by
 obtain ⟨a, r, f, hcut⟩ : ∃ a r f, Lib.cut s.data.toList [44] = (a, r, f) := ⟨_, _, _, rfl⟩
 obtain ⟨b, r2, f2, hcut2⟩ : ∃ b r2 f2, Lib.cut r [44] = (b, r2, f2) := ⟨_, _, _, rfl⟩
 obtain ⟨A, rfl⟩ := ba_of a
 obtain ⟨R, rfl⟩ := ba_of r
 obtain ⟨B, rfl⟩ := ba_of b
 obtain ⟨R2, rfl⟩ := ba_of r2
 have hl1 := cut_len s.data.toList 44
 rw [hcut] at hl1
 have hsA := size_le s A hl1.1 hs
 have hsR := size_le s R hl1.2 hs
 have hl2 := cut_len R.data.toList 44
 rw [hcut2] at hl2
 have hsB := size_le R B hl2.1 hsR
 have HR1 := Lib.hid (fun W L M (hW : Below w.heap.size w W) hL hM hLM => read1_core L M s A R true f W hL hM hLM (Lib.hid (fun V hV => strcut_any _ _ _ _ _ V (hc.below (hW.trans (hV.mono hW.size))) (by omega) hcut)))
 have HR2 := Lib.hid (fun W L M (hW : Below w.heap.size w W) hL hM hLM => read1_core L M R B R2 f f2 W hL hM hLM (Lib.hid (fun V hV => strcut_any _ _ _ _ _ V (hc.below (hW.trans (hV.mono hW.size))) (by omega) hcut2)))
 have hNA := fun W (hW : Below w.heap.size w W) => snode_all A W hsA (hc.below hW) (ht.below hw0 hW) (Nat.lt_of_lt_of_le hw0 hW.size)
 have hNB := fun W (hW : Below w.heap.size w W) => snode_all B W hsB (hc.below hW) (ht.below hw0 hW) (Nat.lt_of_lt_of_le hw0 hW.size)
 have hno : (nodeT []).2 = false := by decide
 have hR0 : f = false → R.data.toList = [] := fun h => by
  rcases cut_cases s.data.toList 44 with ⟨_, e⟩ | ⟨_, _, _, _, e⟩
  ·rw [hcut] at e; exact congrArg (·.2.1) e
  ·rw [hcut] at e
   have : f = true := congrArg (·.2.2) e
   rw [h] at this; cases this
 have hB1 : f2 = false → B.data.toList = R.data.toList := fun h => by
  rcases cut_cases R.data.toList 44 with ⟨_, e⟩ | ⟨_, _, _, _, e⟩
  ·rw [hcut2] at e; exact congrArg (·.1) e
  ·rw [hcut2] at e
   have : f2 = true := congrArg (·.2.2) e
   rw [h] at this; cases this
 have hR44 : f2 = true → (nodeT R.data.toList).2 = false := fun h => by
  cases hn : (nodeT R.data.toList).2 with
  | false => rfl
  | true =>
    have := Lib.cut_none (node_no hn)
    rw [hcut2, h] at this
    exact absurd (congrArg (·.2.2) this) (by simp)
 -- where it is none
 have hbad : parseT s.data.toList = (⟨0, 0, 0, 0⟩, 140) → (∀ W, Below w.heap.size w W → Calls Tryz.prog 66 #[.string s] W fun e w' => e = (Got.gave 140).end ∧ Below W.heap.size W w') →
  Calls Tryz.prog 26 #[.string s] w fun e w' => e = .returned (.tuple #[.agg (sgA (parseT s.data.toList).1), .int .i64 (parseT s.data.toList).2]) ∧ Below w.heap.size w w' := fun hp H => by
  rw [hp]
  exact segparse_core s (.gave 140) w (show (140 : Int) ≠ 0 by decide) (Lib.hid H)
 have hpT : parseT s.data.toList = if f = true then (if ((nodeT A.data.toList).2 && ((nodeT R.data.toList).2 && rightS (segT (nodeT A.data.toList) (nodeT R.data.toList)))) = true then (segT (nodeT A.data.toList) (nodeT R.data.toList), 0) else (⟨0, 0, 0, 0⟩, 140)) else (⟨0, 0, 0, 0⟩, 140) := by
  unfold parseT; rw [hcut]
 cases hna : (nodeT A.data.toList).2 with
 | false =>
   refine hbad (by rw [hpT, hna]; simp) (fun W hW => ?_)
   rw [hna] at hNA
   exact read_bad1 s A R f W (Lib.hid (fun V L M hV => HR1.out V L M (hW.trans (hV.mono hW.size)))) (Lib.hid (fun V hV => hNA V (hW.trans (hV.mono hW.size))))
 | true =>
   rw [hna] at hNA
   cases hnb : (nodeT B.data.toList).2 with
   | false =>
     refine hbad ?_ (fun W hW => ?_)
     ·rw [hpT]
      cases f2 with
      | false => rw [← hB1 rfl, hnb]; simp
      | true => rw [hR44 rfl]; simp
     ·rw [hnb] at hNB
      exact read_bad2 s A R B R2 f f2 _ _ W (Lib.hid (fun V L M hV => HR1.out V L M (hW.trans (hV.mono hW.size)))) (Lib.hid (fun V L M hV => HR2.out V L M (hW.trans (hV.mono hW.size)))) (Lib.hid (fun V hV => hNA V (hW.trans (hV.mono hW.size)))) (Lib.hid (fun V hV => hNB V (hW.trans (hV.mono hW.size))))
   | true =>
     rw [hnb] at hNB
     have hft : f = true := by
      cases f with
      | true => rfl
      | false =>
        exfalso
        have e := hR0 rfl
        rw [e] at hcut2
        have e2 : B.data.toList = [] := by rw [Lib.cut_none (by simp)] at hcut2; exact (congrArg (·.1) hcut2).symm
        rw [e2, hno] at hnb; cases hnb
     subst hft
     cases f2 with
     | true =>
       refine hbad (by rw [hpT, hR44 rfl]; simp) (fun W hW => ?_)
       exact read_more s A R B R2 true _ _ _ _ W (Lib.hid (fun V L M hV => HR1.out V L M (hW.trans (hV.mono hW.size)))) (Lib.hid (fun V L M hV => HR2.out V L M (hW.trans (hV.mono hW.size)))) (Lib.hid (fun V hV => hNA V (hW.trans (hV.mono hW.size)))) (Lib.hid (fun V hV => hNB V (hW.trans (hV.mono hW.size))))
     | false =>
       have eB := hB1 rfl
       rw [← eB, hna, hnb] at hpT
       simp only [Bool.true_and, if_true] at hpT
       have hck : (ckI (nodeT A.data.toList).1.1 (nodeT A.data.toList).1.2 (nodeT B.data.toList).1.1 (nodeT B.data.toList).1.2 = 0 ∧ rightS (segT (nodeT A.data.toList) (nodeT B.data.toList)) = true) ∨
        (ckI (nodeT A.data.toList).1.1 (nodeT A.data.toList).1.2 (nodeT B.data.toList).1.1 (nodeT B.data.toList).1.2 = 2 ∧ rightS (segT (nodeT A.data.toList) (nodeT B.data.toList)) = false) := ck_seg _ _
       rcases hck with ⟨h1, h2⟩ | ⟨h1, h2⟩
       ·rw [h2] at hpT
        rw [hpT]
        refine segparse_core s (.val (sgA (segT (nodeT A.data.toList) (nodeT B.data.toList)))) w ⟨rfl, segA_one _ _ _ _⟩ (Lib.hid (fun W hW => ?_))
        refine read_core s A R B R2 _ _ _ _ 0 _ W (.inl ⟨rfl, rfl⟩) (Lib.hid (fun V L M hV => HR1.out V L M (hW.trans (hV.mono hW.size)))) (Lib.hid (fun V L M hV => HR2.out V L M (hW.trans (hV.mono hW.size)))) (Lib.hid (fun V hV => hNA V (hW.trans (hV.mono hW.size)))) (Lib.hid (fun V hV => hNB V (hW.trans (hV.mono hW.size)))) (Lib.hid (fun V => ?_))
        have h := check_any4 (nodeT A.data.toList).1.1 (nodeT A.data.toList).1.2 (nodeT B.data.toList).1.1 (nodeT B.data.toList).1.2 V
        rw [h1] at h
        exact h
       ·rw [h2] at hpT
        refine hbad hpT (fun W hW => ?_)
        refine read_core s A R B R2 _ _ _ _ 2 _ W (.inr ⟨rfl, rfl⟩) (Lib.hid (fun V L M hV => HR1.out V L M (hW.trans (hV.mono hW.size)))) (Lib.hid (fun V L M hV => HR2.out V L M (hW.trans (hV.mono hW.size)))) (Lib.hid (fun V hV => hNA V (hW.trans (hV.mono hW.size)))) (Lib.hid (fun V hV => hNB V (hW.trans (hV.mono hW.size)))) (Lib.hid (fun V => ?_))
        have h := check_any4 (nodeT A.data.toList).1.1 (nodeT A.data.toList).1.2 (nodeT B.data.toList).1.1 (nodeT B.data.toList).1.2 V
        rw [h1] at h
        exact h
end Go.Proofs.YtongeeggaigepaaGreatDoor

namespace Go.Proofs.YtongeeggaigepaaGreatDoor
open Go.RowKit Go.Sort CrossMath

theorem eqlB (a b c d p q r s : Int) (W : World) : (binOp .eql 25 (.agg #[.int .i64 a, .int .i64 b, .int .i64 c, .int .i64 d]) (.agg #[.int .i64 p, .int .i64 q, .int .i64 r, .int .i64 s])).run Tryz.prog W = .ok (.bool (decide (a = p ∧ b = q ∧ c = r ∧ d = s))) W := by
 have u := Tryz.underlying25
 rw [run_eql_struct]
 by_cases h : a = p ∧ b = q ∧ c = r ∧ d = s
 ·obtain ⟨rfl, rfl, rfl, rfl⟩ := h
  go_simp
 ·rw [decide_eq_false h]
  go_simp
  exact fun e1 e2 e3 e4 => h ⟨e1, e2, e3, e4⟩
attribute [local irreducible] wpQuiet
set_option maxRecDepth 100000 in
set_option maxHeartbeats 600000 in
theorem same_no1 (ax ay bx bY cx cy dx dY lx ly mx mY px py qx qY : Int) (w : World)
 (H1 : Hid (∀ W, Calls Tryz.prog 11 #[.agg (segA ax ay bx bY)] W fun e w' => e = .returned (.tuple #[.agg (segA lx ly mx mY), .int .i64 2]) ∧ Below W.heap.size W w'))
 (H2 : Hid (∀ W, Calls Tryz.prog 11 #[.agg (segA cx cy dx dY)] W fun e w' => e = .returned (.tuple #[.agg (segA px py qx qY), .int .i64 0]) ∧ Below W.heap.size W w')) :
 Calls Tryz.prog 28 #[.agg (segA ax ay bx bY), .agg (segA cx cy dx dY)] w fun e w' => e = .returned (.bool false) ∧ Below w.heap.size w w' := by
 have rS : Row ((w.alloc (.cells (segA ax ay bx bY) 25)).alloc (.cells (segA cx cy dx dY) 25)) w.heap.size [.int .i64 ax, .int .i64 ay, .int .i64 bx, .int .i64 bY] := (Row.at rfl (segA ax ay bx bY).toList _).alloc _
 have rC : Row ((w.alloc (.cells (segA ax ay bx bY) 25)).alloc (.cells (segA cx cy dx dY) 25)) (w.heap.size + 1) [.int .i64 cx, .int .i64 cy, .int .i64 dx, .int .i64 dY] := Row.at (by simp) (segA cx cy dx dY).toList _
 have hB : Below w.heap.size w ((w.alloc (.cells (segA ax ay bx bY) 25)).alloc (.cells (segA cx cy dx dY) 25)) := ((Below.refl w.heap.size w).alloc (Nat.le_refl _) _).alloc (by simp) _
 go_enter Tryz.func28, Tryz.ntmps28
 have a0 := rS.c 0 rfl
 have a1 := rS.c 1 rfl
 have a2 := rS.c 2 rfl
 have a3 := rS.c 3 rfl
 have c0 := rC.c 0 rfl
 have c1 := rC.c 1 rfl
 have c2 := rC.c 2 rfl
 have c3 := rC.c 3 rfl
 go_wp2_with fail
 refine (H1.out _).mono ?_
 rintro e w1 ⟨rfl, hb⟩
 clear a0 a1 a2 a3 c0 c1 c2 c3
 replace rS := rS.after hb
 replace rC := rC.after hb
 replace hB := hB.trans (hb.mono hB.size)
 clear hb
 go_upto_region 2 with fail
 generalize hW : World.alloc _ _ = w2
 have rL : Row w2 w1.heap.size [.int .i64 lx, .int .i64 ly, .int .i64 mx, .int .i64 mY] := by rw [← hW]; exact Row.at rfl [.int .i64 lx, .int .i64 ly, .int .i64 mx, .int .i64 mY] _
 have hb : Below w1.heap.size w1 w2 := by rw [← hW]; exact (Below.refl _ _).alloc (Nat.le_refl _) _
 clear hW
 replace rS := rS.after hb
 replace rC := rC.after hb
 replace hB := hB.trans (hb.mono hB.size)
 clear hb
 generalize w1.heap.size = l at *
 have a0 := rS.c 0 rfl
 have a1 := rS.c 1 rfl
 have a2 := rS.c 2 rfl
 have a3 := rS.c 3 rfl
 have c0 := rC.c 0 rfl
 have c1 := rC.c 1 rfl
 have c2 := rC.c 2 rfl
 have c3 := rC.c 3 rfl
 go_wp2_with fail
 refine (H2.out _).mono ?_
 rintro e w3 ⟨rfl, hb⟩
 clear a0 a1 a2 a3 c0 c1 c2 c3
 replace rS := rS.after hb
 replace rC := rC.after hb
 replace rL := rL.after hb
 replace hB := hB.trans (hb.mono hB.size)
 clear hb
 go_upto_region 3 with fail
 generalize hW : World.alloc _ _ = w4
 have rM : Row w4 w3.heap.size [.int .i64 px, .int .i64 py, .int .i64 qx, .int .i64 qY] := by rw [← hW]; exact Row.at rfl [.int .i64 px, .int .i64 py, .int .i64 qx, .int .i64 qY] _
 have hb : Below w3.heap.size w3 w4 := by rw [← hW]; exact (Below.refl _ _).alloc (Nat.le_refl _) _
 clear hW
 replace rS := rS.after hb
 replace rC := rC.after hb
 replace rL := rL.after hb
 replace hB := hB.trans (hb.mono hB.size)
 clear hb
 generalize w3.heap.size = m at *
 have y0 := rL.c 0 rfl
 have y1 := rL.c 1 rfl
 have y2 := rL.c 2 rfl
 have y3 := rL.c 3 rfl
 have z0 := rM.c 0 rfl
 have z1 := rM.c 1 rfl
 have z2 := rM.c 2 rfl
 have z3 := rM.c 3 rfl
 go_wp2_with fail
 go_ret
 exact ⟨rfl, hB⟩
set_option maxRecDepth 100000 in
set_option maxHeartbeats 600000 in
theorem same_no1b (ax ay bx bY cx cy dx dY lx ly mx mY px py qx qY : Int) (w : World)
 (H1 : Hid (∀ W, Calls Tryz.prog 11 #[.agg (segA ax ay bx bY)] W fun e w' => e = .returned (.tuple #[.agg (segA lx ly mx mY), .int .i64 2]) ∧ Below W.heap.size W w'))
 (H2 : Hid (∀ W, Calls Tryz.prog 11 #[.agg (segA cx cy dx dY)] W fun e w' => e = .returned (.tuple #[.agg (segA px py qx qY), .int .i64 2]) ∧ Below W.heap.size W w')) :
 Calls Tryz.prog 28 #[.agg (segA ax ay bx bY), .agg (segA cx cy dx dY)] w fun e w' => e = .returned (.bool false) ∧ Below w.heap.size w w' := by
 have rS : Row ((w.alloc (.cells (segA ax ay bx bY) 25)).alloc (.cells (segA cx cy dx dY) 25)) w.heap.size [.int .i64 ax, .int .i64 ay, .int .i64 bx, .int .i64 bY] := (Row.at rfl (segA ax ay bx bY).toList _).alloc _
 have rC : Row ((w.alloc (.cells (segA ax ay bx bY) 25)).alloc (.cells (segA cx cy dx dY) 25)) (w.heap.size + 1) [.int .i64 cx, .int .i64 cy, .int .i64 dx, .int .i64 dY] := Row.at (by simp) (segA cx cy dx dY).toList _
 have hB : Below w.heap.size w ((w.alloc (.cells (segA ax ay bx bY) 25)).alloc (.cells (segA cx cy dx dY) 25)) := ((Below.refl w.heap.size w).alloc (Nat.le_refl _) _).alloc (by simp) _
 go_enter Tryz.func28, Tryz.ntmps28
 have a0 := rS.c 0 rfl
 have a1 := rS.c 1 rfl
 have a2 := rS.c 2 rfl
 have a3 := rS.c 3 rfl
 have c0 := rC.c 0 rfl
 have c1 := rC.c 1 rfl
 have c2 := rC.c 2 rfl
 have c3 := rC.c 3 rfl
 go_wp2_with fail
 refine (H1.out _).mono ?_
 rintro e w1 ⟨rfl, hb⟩
 clear a0 a1 a2 a3 c0 c1 c2 c3
 replace rS := rS.after hb
 replace rC := rC.after hb
 replace hB := hB.trans (hb.mono hB.size)
 clear hb
 go_upto_region 2 with fail
 generalize hW : World.alloc _ _ = w2
 have rL : Row w2 w1.heap.size [.int .i64 lx, .int .i64 ly, .int .i64 mx, .int .i64 mY] := by rw [← hW]; exact Row.at rfl [.int .i64 lx, .int .i64 ly, .int .i64 mx, .int .i64 mY] _
 have hb : Below w1.heap.size w1 w2 := by rw [← hW]; exact (Below.refl _ _).alloc (Nat.le_refl _) _
 clear hW
 replace rS := rS.after hb
 replace rC := rC.after hb
 replace hB := hB.trans (hb.mono hB.size)
 clear hb
 generalize w1.heap.size = l at *
 have a0 := rS.c 0 rfl
 have a1 := rS.c 1 rfl
 have a2 := rS.c 2 rfl
 have a3 := rS.c 3 rfl
 have c0 := rC.c 0 rfl
 have c1 := rC.c 1 rfl
 have c2 := rC.c 2 rfl
 have c3 := rC.c 3 rfl
 go_wp2_with fail
 refine (H2.out _).mono ?_
 rintro e w3 ⟨rfl, hb⟩
 clear a0 a1 a2 a3 c0 c1 c2 c3
 replace rS := rS.after hb
 replace rC := rC.after hb
 replace rL := rL.after hb
 replace hB := hB.trans (hb.mono hB.size)
 clear hb
 go_upto_region 3 with fail
 generalize hW : World.alloc _ _ = w4
 have rM : Row w4 w3.heap.size [.int .i64 px, .int .i64 py, .int .i64 qx, .int .i64 qY] := by rw [← hW]; exact Row.at rfl [.int .i64 px, .int .i64 py, .int .i64 qx, .int .i64 qY] _
 have hb : Below w3.heap.size w3 w4 := by rw [← hW]; exact (Below.refl _ _).alloc (Nat.le_refl _) _
 clear hW
 replace rS := rS.after hb
 replace rC := rC.after hb
 replace rL := rL.after hb
 replace hB := hB.trans (hb.mono hB.size)
 clear hb
 generalize w3.heap.size = m at *
 have y0 := rL.c 0 rfl
 have y1 := rL.c 1 rfl
 have y2 := rL.c 2 rfl
 have y3 := rL.c 3 rfl
 have z0 := rM.c 0 rfl
 have z1 := rM.c 1 rfl
 have z2 := rM.c 2 rfl
 have z3 := rM.c 3 rfl
 go_wp2_with fail
 go_ret
 exact ⟨rfl, hB⟩
set_option maxRecDepth 100000 in
set_option maxHeartbeats 600000 in
theorem same_no2 (ax ay bx bY cx cy dx dY lx ly mx mY px py qx qY : Int) (w : World)
 (H1 : Hid (∀ W, Calls Tryz.prog 11 #[.agg (segA ax ay bx bY)] W fun e w' => e = .returned (.tuple #[.agg (segA lx ly mx mY), .int .i64 0]) ∧ Below W.heap.size W w'))
 (H2 : Hid (∀ W, Calls Tryz.prog 11 #[.agg (segA cx cy dx dY)] W fun e w' => e = .returned (.tuple #[.agg (segA px py qx qY), .int .i64 2]) ∧ Below W.heap.size W w')) :
 Calls Tryz.prog 28 #[.agg (segA ax ay bx bY), .agg (segA cx cy dx dY)] w fun e w' => e = .returned (.bool false) ∧ Below w.heap.size w w' := by
 have rS : Row ((w.alloc (.cells (segA ax ay bx bY) 25)).alloc (.cells (segA cx cy dx dY) 25)) w.heap.size [.int .i64 ax, .int .i64 ay, .int .i64 bx, .int .i64 bY] := (Row.at rfl (segA ax ay bx bY).toList _).alloc _
 have rC : Row ((w.alloc (.cells (segA ax ay bx bY) 25)).alloc (.cells (segA cx cy dx dY) 25)) (w.heap.size + 1) [.int .i64 cx, .int .i64 cy, .int .i64 dx, .int .i64 dY] := Row.at (by simp) (segA cx cy dx dY).toList _
 have hB : Below w.heap.size w ((w.alloc (.cells (segA ax ay bx bY) 25)).alloc (.cells (segA cx cy dx dY) 25)) := ((Below.refl w.heap.size w).alloc (Nat.le_refl _) _).alloc (by simp) _
 go_enter Tryz.func28, Tryz.ntmps28
 have a0 := rS.c 0 rfl
 have a1 := rS.c 1 rfl
 have a2 := rS.c 2 rfl
 have a3 := rS.c 3 rfl
 have c0 := rC.c 0 rfl
 have c1 := rC.c 1 rfl
 have c2 := rC.c 2 rfl
 have c3 := rC.c 3 rfl
 go_wp2_with fail
 refine (H1.out _).mono ?_
 rintro e w1 ⟨rfl, hb⟩
 clear a0 a1 a2 a3 c0 c1 c2 c3
 replace rS := rS.after hb
 replace rC := rC.after hb
 replace hB := hB.trans (hb.mono hB.size)
 clear hb
 go_upto_region 2 with fail
 generalize hW : World.alloc _ _ = w2
 have rL : Row w2 w1.heap.size [.int .i64 lx, .int .i64 ly, .int .i64 mx, .int .i64 mY] := by rw [← hW]; exact Row.at rfl [.int .i64 lx, .int .i64 ly, .int .i64 mx, .int .i64 mY] _
 have hb : Below w1.heap.size w1 w2 := by rw [← hW]; exact (Below.refl _ _).alloc (Nat.le_refl _) _
 clear hW
 replace rS := rS.after hb
 replace rC := rC.after hb
 replace hB := hB.trans (hb.mono hB.size)
 clear hb
 generalize w1.heap.size = l at *
 have a0 := rS.c 0 rfl
 have a1 := rS.c 1 rfl
 have a2 := rS.c 2 rfl
 have a3 := rS.c 3 rfl
 have c0 := rC.c 0 rfl
 have c1 := rC.c 1 rfl
 have c2 := rC.c 2 rfl
 have c3 := rC.c 3 rfl
 go_wp2_with fail
 refine (H2.out _).mono ?_
 rintro e w3 ⟨rfl, hb⟩
 clear a0 a1 a2 a3 c0 c1 c2 c3
 replace rS := rS.after hb
 replace rC := rC.after hb
 replace rL := rL.after hb
 replace hB := hB.trans (hb.mono hB.size)
 clear hb
 go_upto_region 3 with fail
 generalize hW : World.alloc _ _ = w4
 have rM : Row w4 w3.heap.size [.int .i64 px, .int .i64 py, .int .i64 qx, .int .i64 qY] := by rw [← hW]; exact Row.at rfl [.int .i64 px, .int .i64 py, .int .i64 qx, .int .i64 qY] _
 have hb : Below w3.heap.size w3 w4 := by rw [← hW]; exact (Below.refl _ _).alloc (Nat.le_refl _) _
 clear hW
 replace rS := rS.after hb
 replace rC := rC.after hb
 replace rL := rL.after hb
 replace hB := hB.trans (hb.mono hB.size)
 clear hb
 generalize w3.heap.size = m at *
 have y0 := rL.c 0 rfl
 have y1 := rL.c 1 rfl
 have y2 := rL.c 2 rfl
 have y3 := rL.c 3 rfl
 have z0 := rM.c 0 rfl
 have z1 := rM.c 1 rfl
 have z2 := rM.c 2 rfl
 have z3 := rM.c 3 rfl
 go_wp2_with fail
 go_ret
 exact ⟨rfl, hB⟩
set_option maxRecDepth 100000 in
set_option maxHeartbeats 600000 in
theorem same_two (ax ay bx bY cx cy dx dY lx ly mx mY px py qx qY : Int) (b : Bool) (nz : ∀ W, (binOp .eql 25 (.agg #[.int .i64 lx, .int .i64 ly, .int .i64 mx, .int .i64 mY]) (.agg #[.int .i64 px, .int .i64 py, .int .i64 qx, .int .i64 qY])).run Tryz.prog W = .ok (.bool b) W) (w : World)
 (H1 : Hid (∀ W, Calls Tryz.prog 11 #[.agg (segA ax ay bx bY)] W fun e w' => e = .returned (.tuple #[.agg (segA lx ly mx mY), .int .i64 0]) ∧ Below W.heap.size W w'))
 (H2 : Hid (∀ W, Calls Tryz.prog 11 #[.agg (segA cx cy dx dY)] W fun e w' => e = .returned (.tuple #[.agg (segA px py qx qY), .int .i64 0]) ∧ Below W.heap.size W w')) :
 Calls Tryz.prog 28 #[.agg (segA ax ay bx bY), .agg (segA cx cy dx dY)] w fun e w' => e = .returned (.bool b) ∧ Below w.heap.size w w' := by
 have rS : Row ((w.alloc (.cells (segA ax ay bx bY) 25)).alloc (.cells (segA cx cy dx dY) 25)) w.heap.size [.int .i64 ax, .int .i64 ay, .int .i64 bx, .int .i64 bY] := (Row.at rfl (segA ax ay bx bY).toList _).alloc _
 have rC : Row ((w.alloc (.cells (segA ax ay bx bY) 25)).alloc (.cells (segA cx cy dx dY) 25)) (w.heap.size + 1) [.int .i64 cx, .int .i64 cy, .int .i64 dx, .int .i64 dY] := Row.at (by simp) (segA cx cy dx dY).toList _
 have hB : Below w.heap.size w ((w.alloc (.cells (segA ax ay bx bY) 25)).alloc (.cells (segA cx cy dx dY) 25)) := ((Below.refl w.heap.size w).alloc (Nat.le_refl _) _).alloc (by simp) _
 have NZ := Lib.hid nz
 clear nz
 go_enter Tryz.func28, Tryz.ntmps28
 have a0 := rS.c 0 rfl
 have a1 := rS.c 1 rfl
 have a2 := rS.c 2 rfl
 have a3 := rS.c 3 rfl
 have c0 := rC.c 0 rfl
 have c1 := rC.c 1 rfl
 have c2 := rC.c 2 rfl
 have c3 := rC.c 3 rfl
 go_wp2_with fail
 refine (H1.out _).mono ?_
 rintro e w1 ⟨rfl, hb⟩
 clear a0 a1 a2 a3 c0 c1 c2 c3
 replace rS := rS.after hb
 replace rC := rC.after hb
 replace hB := hB.trans (hb.mono hB.size)
 clear hb
 go_upto_region 2 with fail
 generalize hW : World.alloc _ _ = w2
 have rL : Row w2 w1.heap.size [.int .i64 lx, .int .i64 ly, .int .i64 mx, .int .i64 mY] := by rw [← hW]; exact Row.at rfl [.int .i64 lx, .int .i64 ly, .int .i64 mx, .int .i64 mY] _
 have hb : Below w1.heap.size w1 w2 := by rw [← hW]; exact (Below.refl _ _).alloc (Nat.le_refl _) _
 clear hW
 replace rS := rS.after hb
 replace rC := rC.after hb
 replace hB := hB.trans (hb.mono hB.size)
 clear hb
 generalize w1.heap.size = l at *
 have a0 := rS.c 0 rfl
 have a1 := rS.c 1 rfl
 have a2 := rS.c 2 rfl
 have a3 := rS.c 3 rfl
 have c0 := rC.c 0 rfl
 have c1 := rC.c 1 rfl
 have c2 := rC.c 2 rfl
 have c3 := rC.c 3 rfl
 go_wp2_with fail
 refine (H2.out _).mono ?_
 rintro e w3 ⟨rfl, hb⟩
 clear a0 a1 a2 a3 c0 c1 c2 c3
 replace rS := rS.after hb
 replace rC := rC.after hb
 replace rL := rL.after hb
 replace hB := hB.trans (hb.mono hB.size)
 clear hb
 go_upto_region 3 with fail
 generalize hW : World.alloc _ _ = w4
 have rM : Row w4 w3.heap.size [.int .i64 px, .int .i64 py, .int .i64 qx, .int .i64 qY] := by rw [← hW]; exact Row.at rfl [.int .i64 px, .int .i64 py, .int .i64 qx, .int .i64 qY] _
 have hb : Below w3.heap.size w3 w4 := by rw [← hW]; exact (Below.refl _ _).alloc (Nat.le_refl _) _
 clear hW
 replace rS := rS.after hb
 replace rC := rC.after hb
 replace rL := rL.after hb
 replace hB := hB.trans (hb.mono hB.size)
 clear hb
 generalize w3.heap.size = m at *
 have y0 := rL.c 0 rfl
 have y1 := rL.c 1 rfl
 have y2 := rL.c 2 rfl
 have y3 := rL.c 3 rfl
 have z0 := rM.c 0 rfl
 have z1 := rM.c 1 rfl
 have z2 := rM.c 2 rfl
 have z3 := rM.c 3 rfl
 have nz := NZ.out
 clear NZ
 go_wp2_with fail
 go_ret
 exact ⟨rfl, hB⟩
set_option maxRecDepth 100000 in
set_option maxHeartbeats 6400000 in
theorem texts_no (tx x : ByteArray) (htx : tx.size ≤ 100) (hx : x.toList.isEmpty = true) (ax ay bx bY cx cy dx dY p0 p1 p2 p3 no : Int) (w : World)
 (HX : Hid (∀ W, Below w.heap.size w W → Calls Tryz.prog 25 #[.agg (segA ax ay bx bY)] W fun e w' => e = .returned (.tuple #[.string x, .int .i64 2]) ∧ Below W.heap.size W w'))
 (HP : Hid (∀ W, Below w.heap.size w W → Calls Tryz.prog 26 #[.string tx] W fun e w' => e = .returned (.tuple #[.agg (segA p0 p1 p2 p3), .int .i64 no]) ∧ Below W.heap.size W w'))
 (HQ : Hid (∀ W, Below w.heap.size w W → Calls Tryz.prog 27 #[.string tx] W fun e w' => e = .returned (.tuple #[.agg (segA p0 p1 p2 p3), .int .i64 no]) ∧ Below W.heap.size W w'))
 (R1 : Hid (∀ W, Calls Tryz.prog 12 #[.agg (segA ax ay bx bY)] W fun e w' => e = .returned (.bool false) ∧ Below W.heap.size W w'))
 (S1 : Hid (∀ W, Calls Tryz.prog 28 #[.agg (segA ax ay bx bY), .agg (segA cx cy dx dY)] W fun e w' => e = .returned (.bool false) ∧ Below W.heap.size W w'))
 (S2 : Hid (∀ W, Calls Tryz.prog 28 #[.agg (segA cx cy dx dY), .agg (segA ax ay bx bY)] W fun e w' => e = .returned (.bool false) ∧ Below W.heap.size W w'))
 (HW : Hid (∀ W, Below w.heap.size w W → Calls Tryz.prog 17 #[] W fun e w' => e = .returned (.bool true) ∧ Below W.heap.size W w')) :
 Calls Tryz.prog 5 #[.agg (segA ax ay bx bY), .agg (segA cx cy dx dY), .string tx] w fun e w' => e = .returned (.bool true) ∧ Below w.heap.size w w' := by
 have rS : Row ((w.alloc (.cells (segA ax ay bx bY) 25)).alloc (.cells (segA cx cy dx dY) 25)) w.heap.size [.int .i64 ax, .int .i64 ay, .int .i64 bx, .int .i64 bY] := (Row.at rfl (segA ax ay bx bY).toList _).alloc _
 have rC : Row ((w.alloc (.cells (segA ax ay bx bY) 25)).alloc (.cells (segA cx cy dx dY) 25)) (w.heap.size + 1) [.int .i64 cx, .int .i64 cy, .int .i64 dx, .int .i64 dY] := Row.at (by simp) (segA cx cy dx dY).toList _
 have hB : Below w.heap.size w ((w.alloc (.cells (segA ax ay bx bY) 25)).alloc (.cells (segA cx cy dx dY) 25)) := ((Below.refl w.heap.size w).alloc (Nat.le_refl _) _).alloc (by simp) _
 have h100 : ¬ (100 : Int) < (tx.size : Int) := by omega
 clear htx
 have HXE := Lib.hid hx
 clear hx
 go_enter Tryz.func5, Tryz.ntmps5
 have a0 := rS.c 0 rfl
 have a1 := rS.c 1 rfl
 have a2 := rS.c 2 rfl
 have a3 := rS.c 3 rfl
 go_wp2_with fail
 refine (HX.out _ hB).mono ?_
 rintro e w1 ⟨rfl, hb⟩
 clear a0 a1 a2 a3
 replace rS := rS.after hb
 replace rC := rC.after hb
 replace hB := hB.trans (hb.mono hB.size)
 clear hb
 clear h100
 go_wp2_with fail
 refine (HP.out _ hB).mono ?_
 rintro e w2 ⟨rfl, hb⟩
 replace rS := rS.after hb
 replace rC := rC.after hb
 replace hB := hB.trans (hb.mono hB.size)
 clear hb
 go_upto_region 5 with fail
 generalize hW : World.alloc _ _ = w3
 have rP : Row w3 w2.heap.size [.int .i64 p0, .int .i64 p1, .int .i64 p2, .int .i64 p3] := by rw [← hW]; exact Row.at rfl [.int .i64 p0, .int .i64 p1, .int .i64 p2, .int .i64 p3] _
 have hb : Below w2.heap.size w2 w3 := by rw [← hW]; exact (Below.refl _ _).alloc (Nat.le_refl _) _
 clear hW
 replace rS := rS.after hb
 replace rC := rC.after hb
 replace hB := hB.trans (hb.mono hB.size)
 clear hb
 generalize w2.heap.size = pp at *
 go_wp2_with fail
 refine (HQ.out _ hB).mono ?_
 rintro e w4 ⟨rfl, hb⟩
 replace rS := rS.after hb
 replace rC := rC.after hb
 replace rP := rP.after hb
 replace hB := hB.trans (hb.mono hB.size)
 clear hb
 go_upto_region 6 with fail
 generalize hW : World.alloc _ _ = w5
 have rQ : Row w5 w4.heap.size [.int .i64 p0, .int .i64 p1, .int .i64 p2, .int .i64 p3] := by rw [← hW]; exact Row.at rfl [.int .i64 p0, .int .i64 p1, .int .i64 p2, .int .i64 p3] _
 have hb : Below w4.heap.size w4 w5 := by rw [← hW]; exact (Below.refl _ _).alloc (Nat.le_refl _) _
 clear hW
 replace rS := rS.after hb
 replace rC := rC.after hb
 replace rP := rP.after hb
 replace hB := hB.trans (hb.mono hB.size)
 clear hb
 generalize w4.heap.size = qq at *
 have nE := neqE p0 p1 p2 p3
 have y0 := rP.c 0 rfl
 have y1 := rP.c 1 rfl
 have y2 := rP.c 2 rfl
 have y3 := rP.c 3 rfl
 have z0 := rQ.c 0 rfl
 have z1 := rQ.c 1 rfl
 have z2 := rQ.c 2 rfl
 have z3 := rQ.c 3 rfl
 go_wp2_with fail
 refine (num4_any _ _).mono ?_
 rintro e w6 ⟨rfl, hb⟩
 clear y0 y1 y2 y3 z0 z1 z2 z3
 replace rS := rS.after hb
 replace rC := rC.after hb
 replace rP := rP.after hb
 replace rQ := rQ.after hb
 replace hB := hB.trans (hb.mono hB.size)
 clear hb
 clear nE
 clear rP rQ
 go_upto_region 8 with fail
 have a0 := cell_regrown (rS.c 0 rfl)
 have a1 := cell_regrown (rS.c 1 rfl)
 have a2 := cell_regrown (rS.c 2 rfl)
 have a3 := cell_regrown (rS.c 3 rfl)
 have c0 := cell_regrown (rC.c 0 rfl)
 have c1 := cell_regrown (rC.c 1 rfl)
 have c2 := cell_regrown (rC.c 2 rfl)
 have c3 := cell_regrown (rC.c 3 rfl)
 have C0 := Lib.hid (fun d os => Calls.regrown_of (R1.out (grow (redrawn w6 d) os)))
 have KR := Lib.hid (And.intro hB (And.intro rS rC))
 clear hB rS rC
 refine wp_region_quiet_below (by kernel_rfl) (by kernel_rfl) ?_
 iterate 3 (quiet_step ((first | with_reducible exact C0.out _ _)))
 iterate 2 (refine wpQuiet_skip (by kernel_rfl) ?_)
 iterate 2 (quiet_step ((first | with_reducible exact C0.out _ _)))
 iterate 5 (refine wpQuiet_skip (by kernel_rfl) ?_)
 repeat (quiet_step ((first | with_reducible exact C0.out _ _)))
 refine wpQuiet_nil ?_
 intro _ hw'
 obtain ⟨⟨dq, osq⟩, hw''⟩ := hw'
 subst hw''
 clear a0 a1 a2 a3 c0 c1 c2 c3
 clear C0
 obtain ⟨hB, rS, rC⟩ := KR.out
 clear KR
 have hb := below_regrown w6 dq osq
 replace rS := rS.after hb
 replace rC := rC.after hb
 replace hB := hB.trans (hb.mono hB.size)
 clear hb
 generalize grow (redrawn w6 dq) osq = w7 at *
 have a0 := rS.c 0 rfl
 have a1 := rS.c 1 rfl
 have a2 := rS.c 2 rfl
 have a3 := rS.c 3 rfl
 have c0 := rC.c 0 rfl
 have c1 := rC.c 1 rfl
 have c2 := rC.c 2 rfl
 have c3 := rC.c 3 rfl
 go_wp2_with fail
 refine (S1.out _).mono ?_
 rintro e w8 ⟨rfl, hb⟩
 clear a0 a1 a2 a3 c0 c1 c2 c3
 replace rS := rS.after hb
 replace rC := rC.after hb
 replace hB := hB.trans (hb.mono hB.size)
 clear hb
 have a0 := rS.c 0 rfl
 have a1 := rS.c 1 rfl
 have a2 := rS.c 2 rfl
 have a3 := rS.c 3 rfl
 have c0 := rC.c 0 rfl
 have c1 := rC.c 1 rfl
 have c2 := rC.c 2 rfl
 have c3 := rC.c 3 rfl
 go_wp2_with fail
 refine (S2.out _).mono ?_
 rintro e w9 ⟨rfl, hb⟩
 clear a0 a1 a2 a3 c0 c1 c2 c3
 replace rS := rS.after hb
 replace rC := rC.after hb
 replace hB := hB.trans (hb.mono hB.size)
 clear hb
 have a0 := rS.c 0 rfl
 have a1 := rS.c 1 rfl
 have a2 := rS.c 2 rfl
 have a3 := rS.c 3 rfl
 go_wp2_with fail
 refine (R1.out _).mono ?_
 rintro e w10 ⟨rfl, hb⟩
 clear a0 a1 a2 a3
 replace rS := rS.after hb
 replace rC := rC.after hb
 replace hB := hB.trans (hb.mono hB.size)
 clear hb
 have hx := HXE.out
 go_wp2_with fail
 refine (num4_any _ _).mono ?_
 rintro e w11 ⟨rfl, hb⟩
 replace rS := rS.after hb
 replace rC := rC.after hb
 replace hB := hB.trans (hb.mono hB.size)
 clear hb
 go_wp2_with fail
 refine (HW.out _ hB).mono ?_
 rintro e w12 ⟨rfl, hb⟩
 replace rS := rS.after hb
 replace rC := rC.after hb
 replace hB := hB.trans (hb.mono hB.size)
 clear hb
 go_wp2_with fail
 go_ret
 exact ⟨rfl, hB⟩
set_option maxRecDepth 100000 in
set_option maxHeartbeats 6400000 in
theorem texts_no2 (tx x : ByteArray) (htx : tx.size ≤ 100) (ax ay bx bY cx cy dx dY p0 p1 p2 p3 no : Int) (w : World)
 (HX : Hid (∀ W, Below w.heap.size w W → Calls Tryz.prog 25 #[.agg (segA ax ay bx bY)] W fun e w' => e = .returned (.tuple #[.string x, .int .i64 0]) ∧ Below W.heap.size W w'))
 (HP : Hid (∀ W, Below w.heap.size w W → Calls Tryz.prog 26 #[.string tx] W fun e w' => e = .returned (.tuple #[.agg (segA p0 p1 p2 p3), .int .i64 no]) ∧ Below W.heap.size W w'))
 (HQ : Hid (∀ W, Below w.heap.size w W → Calls Tryz.prog 27 #[.string tx] W fun e w' => e = .returned (.tuple #[.agg (segA p0 p1 p2 p3), .int .i64 no]) ∧ Below W.heap.size W w'))
 (R1 : Hid (∀ W, Calls Tryz.prog 12 #[.agg (segA ax ay bx bY)] W fun e w' => e = .returned (.bool true) ∧ Below W.heap.size W w'))
 (R2 : Hid (∀ W, Calls Tryz.prog 12 #[.agg (segA cx cy dx dY)] W fun e w' => e = .returned (.bool false) ∧ Below W.heap.size W w'))
 (S1 : Hid (∀ W, Calls Tryz.prog 28 #[.agg (segA ax ay bx bY), .agg (segA cx cy dx dY)] W fun e w' => e = .returned (.bool false) ∧ Below W.heap.size W w'))
 (S2 : Hid (∀ W, Calls Tryz.prog 28 #[.agg (segA cx cy dx dY), .agg (segA ax ay bx bY)] W fun e w' => e = .returned (.bool false) ∧ Below W.heap.size W w'))
 (HT : Hid (∀ W, Below w.heap.size w W → Calls Tryz.prog 29 #[.agg (segA ax ay bx bY)] W fun e w' => e = .returned (.string x) ∧ Below W.heap.size W w'))
 (HW : Hid (∀ W, Below w.heap.size w W → Calls Tryz.prog 17 #[] W fun e w' => e = .returned (.bool true) ∧ Below W.heap.size W w')) :
 Calls Tryz.prog 5 #[.agg (segA ax ay bx bY), .agg (segA cx cy dx dY), .string tx] w fun e w' => e = .returned (.bool true) ∧ Below w.heap.size w w' := by
 have rS : Row ((w.alloc (.cells (segA ax ay bx bY) 25)).alloc (.cells (segA cx cy dx dY) 25)) w.heap.size [.int .i64 ax, .int .i64 ay, .int .i64 bx, .int .i64 bY] := (Row.at rfl (segA ax ay bx bY).toList _).alloc _
 have rC : Row ((w.alloc (.cells (segA ax ay bx bY) 25)).alloc (.cells (segA cx cy dx dY) 25)) (w.heap.size + 1) [.int .i64 cx, .int .i64 cy, .int .i64 dx, .int .i64 dY] := Row.at (by simp) (segA cx cy dx dY).toList _
 have hB : Below w.heap.size w ((w.alloc (.cells (segA ax ay bx bY) 25)).alloc (.cells (segA cx cy dx dY) 25)) := ((Below.refl w.heap.size w).alloc (Nat.le_refl _) _).alloc (by simp) _
 have h100 : ¬ (100 : Int) < (tx.size : Int) := by omega
 clear htx
 go_enter Tryz.func5, Tryz.ntmps5
 have a0 := rS.c 0 rfl
 have a1 := rS.c 1 rfl
 have a2 := rS.c 2 rfl
 have a3 := rS.c 3 rfl
 go_wp2_with fail
 refine (HX.out _ hB).mono ?_
 rintro e w1 ⟨rfl, hb⟩
 clear a0 a1 a2 a3
 replace rS := rS.after hb
 replace rC := rC.after hb
 replace hB := hB.trans (hb.mono hB.size)
 clear hb
 clear h100
 go_wp2_with fail
 refine (HP.out _ hB).mono ?_
 rintro e w2 ⟨rfl, hb⟩
 replace rS := rS.after hb
 replace rC := rC.after hb
 replace hB := hB.trans (hb.mono hB.size)
 clear hb
 go_upto_region 5 with fail
 generalize hW : World.alloc _ _ = w3
 have rP : Row w3 w2.heap.size [.int .i64 p0, .int .i64 p1, .int .i64 p2, .int .i64 p3] := by rw [← hW]; exact Row.at rfl [.int .i64 p0, .int .i64 p1, .int .i64 p2, .int .i64 p3] _
 have hb : Below w2.heap.size w2 w3 := by rw [← hW]; exact (Below.refl _ _).alloc (Nat.le_refl _) _
 clear hW
 replace rS := rS.after hb
 replace rC := rC.after hb
 replace hB := hB.trans (hb.mono hB.size)
 clear hb
 generalize w2.heap.size = pp at *
 go_wp2_with fail
 refine (HQ.out _ hB).mono ?_
 rintro e w4 ⟨rfl, hb⟩
 replace rS := rS.after hb
 replace rC := rC.after hb
 replace rP := rP.after hb
 replace hB := hB.trans (hb.mono hB.size)
 clear hb
 go_upto_region 6 with fail
 generalize hW : World.alloc _ _ = w5
 have rQ : Row w5 w4.heap.size [.int .i64 p0, .int .i64 p1, .int .i64 p2, .int .i64 p3] := by rw [← hW]; exact Row.at rfl [.int .i64 p0, .int .i64 p1, .int .i64 p2, .int .i64 p3] _
 have hb : Below w4.heap.size w4 w5 := by rw [← hW]; exact (Below.refl _ _).alloc (Nat.le_refl _) _
 clear hW
 replace rS := rS.after hb
 replace rC := rC.after hb
 replace rP := rP.after hb
 replace hB := hB.trans (hb.mono hB.size)
 clear hb
 generalize w4.heap.size = qq at *
 have nE := neqE p0 p1 p2 p3
 have y0 := rP.c 0 rfl
 have y1 := rP.c 1 rfl
 have y2 := rP.c 2 rfl
 have y3 := rP.c 3 rfl
 have z0 := rQ.c 0 rfl
 have z1 := rQ.c 1 rfl
 have z2 := rQ.c 2 rfl
 have z3 := rQ.c 3 rfl
 go_wp2_with fail
 refine (num4_any _ _).mono ?_
 rintro e w6 ⟨rfl, hb⟩
 clear y0 y1 y2 y3 z0 z1 z2 z3
 replace rS := rS.after hb
 replace rC := rC.after hb
 replace rP := rP.after hb
 replace rQ := rQ.after hb
 replace hB := hB.trans (hb.mono hB.size)
 clear hb
 clear nE
 clear rP rQ
 go_upto_region 8 with fail
 have a0 := cell_regrown (rS.c 0 rfl)
 have a1 := cell_regrown (rS.c 1 rfl)
 have a2 := cell_regrown (rS.c 2 rfl)
 have a3 := cell_regrown (rS.c 3 rfl)
 have c0 := cell_regrown (rC.c 0 rfl)
 have c1 := cell_regrown (rC.c 1 rfl)
 have c2 := cell_regrown (rC.c 2 rfl)
 have c3 := cell_regrown (rC.c 3 rfl)
 have C0 := Lib.hid (fun d os => Calls.regrown_of (R1.out (grow (redrawn w6 d) os)))
 have C1 := Lib.hid (fun d os => Calls.regrown_of (R2.out (grow (redrawn w6 d) os)))
 have KR := Lib.hid (And.intro hB (And.intro rS rC))
 clear hB rS rC
 refine wp_region_quiet_below (by kernel_rfl) (by kernel_rfl) ?_
 iterate 7 (quiet_step ((first | with_reducible exact C0.out _ _ | with_reducible exact C1.out _ _)))
 iterate 5 (refine wpQuiet_skip (by kernel_rfl) ?_)
 repeat (quiet_step ((first | with_reducible exact C0.out _ _ | with_reducible exact C1.out _ _)))
 refine wpQuiet_nil ?_
 intro _ hw'
 obtain ⟨⟨dq, osq⟩, hw''⟩ := hw'
 subst hw''
 clear a0 a1 a2 a3 c0 c1 c2 c3
 clear C0 C1
 obtain ⟨hB, rS, rC⟩ := KR.out
 clear KR
 have hb := below_regrown w6 dq osq
 replace rS := rS.after hb
 replace rC := rC.after hb
 replace hB := hB.trans (hb.mono hB.size)
 clear hb
 generalize grow (redrawn w6 dq) osq = w7 at *
 have a0 := rS.c 0 rfl
 have a1 := rS.c 1 rfl
 have a2 := rS.c 2 rfl
 have a3 := rS.c 3 rfl
 have c0 := rC.c 0 rfl
 have c1 := rC.c 1 rfl
 have c2 := rC.c 2 rfl
 have c3 := rC.c 3 rfl
 go_wp2_with fail
 refine (S1.out _).mono ?_
 rintro e w8 ⟨rfl, hb⟩
 clear a0 a1 a2 a3 c0 c1 c2 c3
 replace rS := rS.after hb
 replace rC := rC.after hb
 replace hB := hB.trans (hb.mono hB.size)
 clear hb
 have a0 := rS.c 0 rfl
 have a1 := rS.c 1 rfl
 have a2 := rS.c 2 rfl
 have a3 := rS.c 3 rfl
 have c0 := rC.c 0 rfl
 have c1 := rC.c 1 rfl
 have c2 := rC.c 2 rfl
 have c3 := rC.c 3 rfl
 go_wp2_with fail
 refine (S2.out _).mono ?_
 rintro e w9 ⟨rfl, hb⟩
 clear a0 a1 a2 a3 c0 c1 c2 c3
 replace rS := rS.after hb
 replace rC := rC.after hb
 replace hB := hB.trans (hb.mono hB.size)
 clear hb
 have a0 := rS.c 0 rfl
 have a1 := rS.c 1 rfl
 have a2 := rS.c 2 rfl
 have a3 := rS.c 3 rfl
 go_wp2_with fail
 refine (R1.out _).mono ?_
 rintro e w10 ⟨rfl, hb⟩
 clear a0 a1 a2 a3
 replace rS := rS.after hb
 replace rC := rC.after hb
 replace hB := hB.trans (hb.mono hB.size)
 clear hb
 have a0 := rS.c 0 rfl
 have a1 := rS.c 1 rfl
 have a2 := rS.c 2 rfl
 have a3 := rS.c 3 rfl
 go_wp2_with fail
 refine (HT.out _ hB).mono ?_
 rintro e w11 ⟨rfl, hb⟩
 clear a0 a1 a2 a3
 replace rS := rS.after hb
 replace rC := rC.after hb
 replace hB := hB.trans (hb.mono hB.size)
 clear hb
 go_wp2_with fail
 refine (num4_any _ _).mono ?_
 rintro e w12 ⟨rfl, hb⟩
 replace rS := rS.after hb
 replace rC := rC.after hb
 replace hB := hB.trans (hb.mono hB.size)
 clear hb
 go_wp2_with fail
 refine (HW.out _ hB).mono ?_
 rintro e w13 ⟨rfl, hb⟩
 replace rS := rS.after hb
 replace rC := rC.after hb
 replace hB := hB.trans (hb.mono hB.size)
 clear hb
 go_wp2_with fail
 go_ret
 exact ⟨rfl, hB⟩
set_option maxRecDepth 100000 in
set_option maxHeartbeats 6400000 in
theorem texts_yes (tx x : ByteArray) (htx : tx.size ≤ 100) (ax ay bx bY cx cy dx dY p0 p1 p2 p3 no lx ly mx mY px py qx qY : Int) (b : Bool) (nz : ∀ W, (binOp .eql 25 (.agg #[.int .i64 lx, .int .i64 ly, .int .i64 mx, .int .i64 mY]) (.agg #[.int .i64 px, .int .i64 py, .int .i64 qx, .int .i64 qY])).run Tryz.prog W = .ok (.bool b) W) (w : World)
 (HX : Hid (∀ W, Below w.heap.size w W → Calls Tryz.prog 25 #[.agg (segA ax ay bx bY)] W fun e w' => e = .returned (.tuple #[.string x, .int .i64 0]) ∧ Below W.heap.size W w'))
 (HP : Hid (∀ W, Below w.heap.size w W → Calls Tryz.prog 26 #[.string tx] W fun e w' => e = .returned (.tuple #[.agg (segA p0 p1 p2 p3), .int .i64 no]) ∧ Below W.heap.size W w'))
 (HQ : Hid (∀ W, Below w.heap.size w W → Calls Tryz.prog 27 #[.string tx] W fun e w' => e = .returned (.tuple #[.agg (segA p0 p1 p2 p3), .int .i64 no]) ∧ Below W.heap.size W w'))
 (R1 : Hid (∀ W, Calls Tryz.prog 12 #[.agg (segA ax ay bx bY)] W fun e w' => e = .returned (.bool true) ∧ Below W.heap.size W w'))
 (R2 : Hid (∀ W, Calls Tryz.prog 12 #[.agg (segA cx cy dx dY)] W fun e w' => e = .returned (.bool true) ∧ Below W.heap.size W w'))
 (L1 : Hid (∀ W, Calls Tryz.prog 15 #[.agg (segA ax ay bx bY)] W fun e w' => e = .returned (.agg (segA lx ly mx mY)) ∧ Below W.heap.size W w'))
 (L2 : Hid (∀ W, Calls Tryz.prog 15 #[.agg (segA cx cy dx dY)] W fun e w' => e = .returned (.agg (segA px py qx qY)) ∧ Below W.heap.size W w'))
 (S1 : Hid (∀ W, Calls Tryz.prog 28 #[.agg (segA ax ay bx bY), .agg (segA cx cy dx dY)] W fun e w' => e = .returned (.bool b) ∧ Below W.heap.size W w'))
 (S2 : Hid (∀ W, Calls Tryz.prog 28 #[.agg (segA cx cy dx dY), .agg (segA ax ay bx bY)] W fun e w' => e = .returned (.bool b) ∧ Below W.heap.size W w'))
 (HT : Hid (∀ W, Below w.heap.size w W → Calls Tryz.prog 29 #[.agg (segA ax ay bx bY)] W fun e w' => e = .returned (.string x) ∧ Below W.heap.size W w'))
 (HW : Hid (∀ W, Below w.heap.size w W → Calls Tryz.prog 17 #[] W fun e w' => e = .returned (.bool true) ∧ Below W.heap.size W w')) :
 Calls Tryz.prog 5 #[.agg (segA ax ay bx bY), .agg (segA cx cy dx dY), .string tx] w fun e w' => e = .returned (.bool true) ∧ Below w.heap.size w w' := by
 have rS : Row ((w.alloc (.cells (segA ax ay bx bY) 25)).alloc (.cells (segA cx cy dx dY) 25)) w.heap.size [.int .i64 ax, .int .i64 ay, .int .i64 bx, .int .i64 bY] := (Row.at rfl (segA ax ay bx bY).toList _).alloc _
 have rC : Row ((w.alloc (.cells (segA ax ay bx bY) 25)).alloc (.cells (segA cx cy dx dY) 25)) (w.heap.size + 1) [.int .i64 cx, .int .i64 cy, .int .i64 dx, .int .i64 dY] := Row.at (by simp) (segA cx cy dx dY).toList _
 have hB : Below w.heap.size w ((w.alloc (.cells (segA ax ay bx bY) 25)).alloc (.cells (segA cx cy dx dY) 25)) := ((Below.refl w.heap.size w).alloc (Nat.le_refl _) _).alloc (by simp) _
 have h100 : ¬ (100 : Int) < (tx.size : Int) := by omega
 clear htx
 have NZ := Lib.hid nz
 clear nz
 go_enter Tryz.func5, Tryz.ntmps5
 have a0 := rS.c 0 rfl
 have a1 := rS.c 1 rfl
 have a2 := rS.c 2 rfl
 have a3 := rS.c 3 rfl
 go_wp2_with fail
 refine (HX.out _ hB).mono ?_
 rintro e w1 ⟨rfl, hb⟩
 clear a0 a1 a2 a3
 replace rS := rS.after hb
 replace rC := rC.after hb
 replace hB := hB.trans (hb.mono hB.size)
 clear hb
 clear h100
 go_wp2_with fail
 refine (HP.out _ hB).mono ?_
 rintro e w2 ⟨rfl, hb⟩
 replace rS := rS.after hb
 replace rC := rC.after hb
 replace hB := hB.trans (hb.mono hB.size)
 clear hb
 go_upto_region 5 with fail
 generalize hW : World.alloc _ _ = w3
 have rP : Row w3 w2.heap.size [.int .i64 p0, .int .i64 p1, .int .i64 p2, .int .i64 p3] := by rw [← hW]; exact Row.at rfl [.int .i64 p0, .int .i64 p1, .int .i64 p2, .int .i64 p3] _
 have hb : Below w2.heap.size w2 w3 := by rw [← hW]; exact (Below.refl _ _).alloc (Nat.le_refl _) _
 clear hW
 replace rS := rS.after hb
 replace rC := rC.after hb
 replace hB := hB.trans (hb.mono hB.size)
 clear hb
 generalize w2.heap.size = pp at *
 go_wp2_with fail
 refine (HQ.out _ hB).mono ?_
 rintro e w4 ⟨rfl, hb⟩
 replace rS := rS.after hb
 replace rC := rC.after hb
 replace rP := rP.after hb
 replace hB := hB.trans (hb.mono hB.size)
 clear hb
 go_upto_region 6 with fail
 generalize hW : World.alloc _ _ = w5
 have rQ : Row w5 w4.heap.size [.int .i64 p0, .int .i64 p1, .int .i64 p2, .int .i64 p3] := by rw [← hW]; exact Row.at rfl [.int .i64 p0, .int .i64 p1, .int .i64 p2, .int .i64 p3] _
 have hb : Below w4.heap.size w4 w5 := by rw [← hW]; exact (Below.refl _ _).alloc (Nat.le_refl _) _
 clear hW
 replace rS := rS.after hb
 replace rC := rC.after hb
 replace rP := rP.after hb
 replace hB := hB.trans (hb.mono hB.size)
 clear hb
 generalize w4.heap.size = qq at *
 have nE := neqE p0 p1 p2 p3
 have y0 := rP.c 0 rfl
 have y1 := rP.c 1 rfl
 have y2 := rP.c 2 rfl
 have y3 := rP.c 3 rfl
 have z0 := rQ.c 0 rfl
 have z1 := rQ.c 1 rfl
 have z2 := rQ.c 2 rfl
 have z3 := rQ.c 3 rfl
 go_wp2_with fail
 refine (num4_any _ _).mono ?_
 rintro e w6 ⟨rfl, hb⟩
 clear y0 y1 y2 y3 z0 z1 z2 z3
 replace rS := rS.after hb
 replace rC := rC.after hb
 replace rP := rP.after hb
 replace rQ := rQ.after hb
 replace hB := hB.trans (hb.mono hB.size)
 clear hb
 clear nE
 clear rP rQ
 go_upto_region 8 with fail
 have a0 := cell_regrown (rS.c 0 rfl)
 have a1 := cell_regrown (rS.c 1 rfl)
 have a2 := cell_regrown (rS.c 2 rfl)
 have a3 := cell_regrown (rS.c 3 rfl)
 have c0 := cell_regrown (rC.c 0 rfl)
 have c1 := cell_regrown (rC.c 1 rfl)
 have c2 := cell_regrown (rC.c 2 rfl)
 have c3 := cell_regrown (rC.c 3 rfl)
 have C0 := Lib.hid (fun d os => Calls.regrown_of (R1.out (grow (redrawn w6 d) os)))
 have C1 := Lib.hid (fun d os => Calls.regrown_of (R2.out (grow (redrawn w6 d) os)))
 have C2 := Lib.hid (fun d os => Calls.regrown_of (L1.out (grow (redrawn w6 d) os)))
 have C3 := Lib.hid (fun d os => Calls.regrown_of (L2.out (grow (redrawn w6 d) os)))
 have KR := Lib.hid (And.intro hB (And.intro rS rC))
 clear hB rS rC
 refine wp_region_quiet_below (by kernel_rfl) (by kernel_rfl) ?_
 have nz := NZ.out
 repeat (quiet_step ((first | with_reducible exact C0.out _ _ | with_reducible exact C1.out _ _ | with_reducible exact C2.out _ _ | with_reducible exact C3.out _ _)))
 refine wpQuiet_nil ?_
 intro _ hw'
 obtain ⟨⟨dq, osq⟩, hw''⟩ := hw'
 subst hw''
 clear a0 a1 a2 a3 c0 c1 c2 c3
 clear C0 C1 C2 C3 nz
 obtain ⟨hB, rS, rC⟩ := KR.out
 clear KR
 have hb := below_regrown w6 dq osq
 replace rS := rS.after hb
 replace rC := rC.after hb
 replace hB := hB.trans (hb.mono hB.size)
 clear hb
 generalize grow (redrawn w6 dq) osq = w7 at *
 have a0 := rS.c 0 rfl
 have a1 := rS.c 1 rfl
 have a2 := rS.c 2 rfl
 have a3 := rS.c 3 rfl
 have c0 := rC.c 0 rfl
 have c1 := rC.c 1 rfl
 have c2 := rC.c 2 rfl
 have c3 := rC.c 3 rfl
 go_wp2_with fail
 refine (S1.out _).mono ?_
 rintro e w8 ⟨rfl, hb⟩
 clear a0 a1 a2 a3 c0 c1 c2 c3
 replace rS := rS.after hb
 replace rC := rC.after hb
 replace hB := hB.trans (hb.mono hB.size)
 clear hb
 have a0 := rS.c 0 rfl
 have a1 := rS.c 1 rfl
 have a2 := rS.c 2 rfl
 have a3 := rS.c 3 rfl
 have c0 := rC.c 0 rfl
 have c1 := rC.c 1 rfl
 have c2 := rC.c 2 rfl
 have c3 := rC.c 3 rfl
 go_wp2_with fail
 refine (S2.out _).mono ?_
 rintro e w9 ⟨rfl, hb⟩
 clear a0 a1 a2 a3 c0 c1 c2 c3
 replace rS := rS.after hb
 replace rC := rC.after hb
 replace hB := hB.trans (hb.mono hB.size)
 clear hb
 have a0 := rS.c 0 rfl
 have a1 := rS.c 1 rfl
 have a2 := rS.c 2 rfl
 have a3 := rS.c 3 rfl
 go_wp2_with fail
 refine (R1.out _).mono ?_
 rintro e w10 ⟨rfl, hb⟩
 clear a0 a1 a2 a3
 replace rS := rS.after hb
 replace rC := rC.after hb
 replace hB := hB.trans (hb.mono hB.size)
 clear hb
 have a0 := rS.c 0 rfl
 have a1 := rS.c 1 rfl
 have a2 := rS.c 2 rfl
 have a3 := rS.c 3 rfl
 go_wp2_with fail
 refine (HT.out _ hB).mono ?_
 rintro e w11 ⟨rfl, hb⟩
 clear a0 a1 a2 a3
 replace rS := rS.after hb
 replace rC := rC.after hb
 replace hB := hB.trans (hb.mono hB.size)
 clear hb
 go_wp2_with fail
 refine (num4_any _ _).mono ?_
 rintro e w12 ⟨rfl, hb⟩
 replace rS := rS.after hb
 replace rC := rC.after hb
 replace hB := hB.trans (hb.mono hB.size)
 clear hb
 go_wp2_with fail
 refine (HW.out _ hB).mono ?_
 rintro e w13 ⟨rfl, hb⟩
 replace rS := rS.after hb
 replace rC := rC.after hb
 replace hB := hB.trans (hb.mono hB.size)
 clear hb
 go_wp2_with fail
 go_ret
 exact ⟨rfl, hB⟩
end Go.Proofs.YtongeeggaigepaaGreatDoor

namespace Go.Proofs.YtongeeggaigepaaGreatDoor
open Go.RowKit Go.Sort CrossMath

set_option maxRecDepth 100000 in
set_option maxHeartbeats 800000 in
theorem texts_long (S T : Array Value) (tx : ByteArray) (htx : 100 < tx.size) (w : World)
 (HW : Hid (∀ W, Below w.heap.size w W → Calls Tryz.prog 17 #[] W fun e w' => e = .returned (.bool true) ∧ Below W.heap.size W w')) :
 Calls Tryz.prog 5 #[.agg S, .agg T, .string tx] w fun e w' => e = .returned (.bool true) ∧ Below w.heap.size w w' := by
 have hB : Below w.heap.size w ((w.alloc (.cells S 25)).alloc (.cells T 25)) := ((Below.refl w.heap.size w).alloc (Nat.le_refl _) _).alloc (by simp) _
 have h100 : (100 : Int) < (tx.size : Int) := by omega
 clear htx
 go_enter Tryz.func5, Tryz.ntmps5
 go_wp2_with fail
 refine (HW.out _ hB).mono ?_
 rintro e w1 ⟨rfl, hb⟩
 replace hB := hB.trans (hb.mono hB.size)
 clear hb
 go_wp2_with fail
 go_ret
 exact ⟨rfl, hB⟩
theorem eqSg_symm (L M : Sg) : decide (M.ax = L.ax ∧ M.ay = L.ay ∧ M.bx = L.bx ∧ M.bY = L.bY) = decide (L.ax = M.ax ∧ L.ay = M.ay ∧ L.bx = M.bx ∧ L.bY = M.bY) := by
 rw [Bool.eq_iff_iff, decide_eq_true_eq, decide_eq_true_eq]
 exact ⟨fun ⟨a, b, c, d⟩ => ⟨a.symm, b.symm, c.symm, d.symm⟩, fun ⟨a, b, c, d⟩ => ⟨a.symm, b.symm, c.symm, d.symm⟩⟩
theorem texts4_true (s t : Sg) (tx : ByteArray) (w : World) (htab : Tab10 w) (ht : TabTz w) (hcu : CutOk w) (hw0 : 3 < w.heap.size) :
 Calls Tryz.prog 5 #[.agg (sgA s), .agg (sgA t), .string tx] w fun e w' => e = .returned (.bool true) ∧ Below w.heap.size w w' := by
 have HW : Hid (∀ W, Below w.heap.size w W → Calls Tryz.prog 17 #[] W fun e w' => e = .returned (.bool true) ∧ Below W.heap.size W w') := Lib.hid (fun W hW => works4_of W (htab.below hW) (ht.below hw0 hW) (Nat.lt_of_lt_of_le hw0 hW.size) (fun V hV => by
  have h := segparse_any ⟨#[48, 32, 48, 44, 48, 32, 48]⟩ V (by decide) (hcu.below (hW.trans (hV.mono hW.size))) (ht.below hw0 (hW.trans (hV.mono hW.size))) (Nat.lt_of_lt_of_le hw0 (Nat.le_trans hW.size hV.size))
  rw [show parseT (⟨#[48, 32, 48, 44, 48, 32, 48]⟩ : ByteArray).data.toList = (⟨0, 0, 0, 0⟩, 140) by decide] at h
  exact h))
 by_cases hl : 100 < tx.size
 ·exact texts_long _ _ tx hl w HW
 have hl1 : tx.size ≤ 100 := by omega
 have at0 : ∀ {W : World}, Below w.heap.size w W → TabTz W ∧ 3 < W.heap.size := fun hW => ⟨ht.below hw0 hW, Nat.lt_of_lt_of_le hw0 hW.size⟩
 have HP := Lib.hid (fun W (hW : Below w.heap.size w W) => segparse_any tx W (by omega) (hcu.below hW) (at0 hW).1 (at0 hW).2)
 have HQ := Lib.hid (fun W (_ : Below w.heap.size w W) => refparse_any tx W (by omega))
 have R1 := Lib.hid (fun W => refright_any s W)
 have R2 := Lib.hid (fun W => refright_any t W)
 cases hr : rightS s with
 | false =>
   rw [hr] at R1
   have hc : ckI s.ax s.ay s.bx s.bY = 2 := by rw [ck_right, hr]; rfl
   have HX := Lib.hid (fun W (_ : Below w.heap.size w W) => Text_noseg s.ax s.ay s.bx s.bY W hc)
   have hS : (∀ W, Calls Tryz.prog 28 #[.agg (sgA s), .agg (sgA t)] W fun e w' => e = .returned (.bool false) ∧ Below W.heap.size W w') ∧ (∀ W, Calls Tryz.prog 28 #[.agg (sgA t), .agg (sgA s)] W fun e w' => e = .returned (.bool false) ∧ Below W.heap.size W w') := by
    have l1 := Lib.hid (fun W => Laid_wrong s.ax s.ay s.bx s.bY W hc)
    cases hr2 : rightS t with
    | false =>
      have hc2 : ckI t.ax t.ay t.bx t.bY = 2 := by rw [ck_right, hr2]; rfl
      have l2 := Lib.hid (fun W => Laid_wrong t.ax t.ay t.bx t.bY W hc2)
      exact ⟨fun W => same_no1b _ _ _ _ _ _ _ _ _ _ _ _ _ _ _ _ W l1 l2, fun W => same_no1b _ _ _ _ _ _ _ _ _ _ _ _ _ _ _ _ W l2 l1⟩
    | true =>
      obtain ⟨hs, hne⟩ := rightS_iff.1 hr2
      have l2 := Lib.hid (fun W => Laid_any t.ax t.ay t.bx t.bY W hs.1 hs.2.1 hs.2.2.1 hs.2.2.2 hne)
      rw [laid_sg4] at l2
      exact ⟨fun W => same_no1 _ _ _ _ _ _ _ _ _ _ _ _ _ _ _ _ W l1 l2, fun W => same_no2 _ _ _ _ _ _ _ _ _ _ _ _ _ _ _ _ W l2 l1⟩
   exact texts_no tx ⟨#[]⟩ hl1 (by rw [ByteArray.toList_eq]; rfl) _ _ _ _ _ _ _ _ _ _ _ _ _ w HX HP HQ R1 (Lib.hid hS.1) (Lib.hid hS.2) HW
 | true =>
   rw [hr] at R1
   obtain ⟨hs, hne⟩ := rightS_iff.1 hr
   have HX := Lib.hid (fun W (hW : Below w.heap.size w W) => Text_num s W hs hne (htab.below hW) (at0 hW).1 (at0 hW).2)
   have HT := Lib.hid (fun W (hW : Below w.heap.size w W) => reftext_any s W hs (htab.below hW))
   have l1 := Lib.hid (fun W => Laid_any s.ax s.ay s.bx s.bY W hs.1 hs.2.1 hs.2.2.1 hs.2.2.2 hne)
   rw [laid_sg4] at l1
   cases hr2 : rightS t with
   | false =>
     rw [hr2] at R2
     have hc2 : ckI t.ax t.ay t.bx t.bY = 2 := by rw [ck_right, hr2]; rfl
     have l2 := Lib.hid (fun W => Laid_wrong t.ax t.ay t.bx t.bY W hc2)
     exact texts_no2 tx _ hl1 _ _ _ _ _ _ _ _ _ _ _ _ _ w HX HP HQ R1 R2 (Lib.hid (fun W => same_no2 _ _ _ _ _ _ _ _ _ _ _ _ _ _ _ _ W l1 l2)) (Lib.hid (fun W => same_no1 _ _ _ _ _ _ _ _ _ _ _ _ _ _ _ _ W l2 l1)) HT HW
   | true =>
     rw [hr2] at R2
     obtain ⟨hs2, hne2⟩ := rightS_iff.1 hr2
     have l2 := Lib.hid (fun W => Laid_any t.ax t.ay t.bx t.bY W hs2.1 hs2.2.1 hs2.2.2.1 hs2.2.2.2 hne2)
     rw [laid_sg4] at l2
     have L1 := Lib.hid (fun W => relaid_any s W)
     have L2 := Lib.hid (fun W => relaid_any t W)
     have e1 := fun W => eqlB (laidS s).ax (laidS s).ay (laidS s).bx (laidS s).bY (laidS t).ax (laidS t).ay (laidS t).bx (laidS t).bY W
     have e2 := fun W => eqlB (laidS t).ax (laidS t).ay (laidS t).bx (laidS t).bY (laidS s).ax (laidS s).ay (laidS s).bx (laidS s).bY W
     rw [eqSg_symm] at e2
     exact texts_yes tx _ hl1 _ _ _ _ _ _ _ _ _ _ _ _ _ _ _ _ _ _ _ _ _ _ e1 w HX HP HQ R1 R2 L1 L2 (Lib.hid (fun W => same_two _ _ _ _ _ _ _ _ _ _ _ _ _ _ _ _ _ e1 W l1 l2)) (Lib.hid (fun W => same_two _ _ _ _ _ _ _ _ _ _ _ _ _ _ _ _ _ e2 W l2 l1)) HT HW
end Go.Proofs.YtongeeggaigepaaGreatDoor

namespace Go.Proofs.YtongeeggaigepaaGreatDoor.fnTexts
open Go.ChangeShapes Go.WideShapes Go.ChangeAt Go.RowKit

set_option maxRecDepth 100000 in
theorem contract (H : Type) (enc : TypeId × Value → H) (W : World) (base : Nat) (args : Array Value) (ds gs : List (DataW H)) (before : List MemPlace)
 (hval : ∀ (j : Nat) t v, Tryz.f5.params[j]? = some t → args[j]? = some v → Value.okWide Tryz.prog W .any base t v)
 (hW : DataW.Whole enc Tryz.prog Tryz.f5.params.toList Rows.segTextsSpec.vars false W args.toList ds gs before) (hL : laidMetH Tryz.prog Rows.segTextsRow.laid W) (hsh : W.ShapedOpen Tryz.prog) :
 Calls Tryz.prog 5 args W fun e W' => ∃ v, e = .returned v ∧ Rows.segTextsSpec.post enc Tryz.prog Tryz.f5 false true false false W args v W' := by
 have hW' := hW
 obtain ⟨p, q, hA0, hV, rfl, hfz, hnd⟩ := hW
 have hA : DataW.TrodAll enc Tryz.prog W 0 (fun _ => true) true Tryz.f5.params.toList args.toList ds p := hA0
 rw [Tryz.params5] at hA hval
 obtain ⟨v0, vs0, d0, ds0, p0, q0, hargs0, rfl, rfl, h0, r0⟩ := trodAll_cons hA
 obtain ⟨v1, vs1, d1, ds1, p1, q1, hargs1, rfl, rfl, h1, r1⟩ := trodAll_cons r0
 obtain ⟨v2, vs2, d2, ds2, p2, q2, hargs2, rfl, rfl, h2, r2⟩ := trodAll_cons r1
 obtain ⟨rfl, rfl, rfl⟩ := trodAll_nil r2
 subst hargs2
 subst hargs1
 obtain rfl : args = #[v0, v1, v2] := by cases args; simp_all
 obtain ⟨rfl, rfl⟩ := trodVars_none hV
 obtain ⟨ax0, ay0, bx0, bY0, rfl, rfl, rfl, w0⟩ := open_seg (hval 0 25 v0 rfl rfl) h0
 obtain ⟨ax1, ay1, bx1, bY1, rfl, rfl, rfl, w1⟩ := open_seg (hval 1 25 v1 rfl rfl) h1
 obtain ⟨n2, rfl, rfl, rfl, w2⟩ := Go.ChangeMaps.open_string Tryz.underlying9 (hval 2 9 v2 rfl rfl) h2
 clear hA0
 obtain ⟨hz, htab, hcut⟩ := tables hL hsh
 have hw0 : 3 < W.heap.size := block_lt_of_cell (hz 0 (by decide))
 refine (texts4_true ⟨ax0, ay0, bx0, bY0⟩ ⟨ax1, ay1, bx1, bY1⟩ n2 W htab hz hcut hw0).mono ?_
 rintro e W' ⟨rfl, hb⟩
 exact ⟨_, rfl, post_plain (ds := [datS H ax0 ay0 bx0 bY0, datS H ax1 ay1 bx1 bY1, .lit (.string n2.data.toList)]) (gs := []) hW' (fun _ _ _ => trodAll_cons_mk (shut_bool Tryz.underlying4 _) trodAll_mk0) (fun _ => trodAll_cons_mk (shut_seg w0) (trodAll_cons_mk (shut_seg w1) (trodAll_cons_mk (Go.ChangeMaps.shut_string Tryz.underlying9 w2) (trodAll_mk0)))) (fun _ => rfl) hb (ok_one (by kernel_rfl) rfl (okWide_bool_mk Tryz.underlying4 _))⟩

abbrev wit : Array Value := #[.agg #[.int .i64 0, .int .i64 0, .int .i64 0, .int .i64 0], .agg #[.int .i64 0, .int .i64 0, .int .i64 0, .int .i64 0], .string ⟨#[]⟩]
theorem laid_met (os : Os) : laidMet Tryz.prog Rows.segTextsRow.laid ((laidWorld os).forCall (fun _ _ => 0) ⟨#[], wit, []⟩).memory :=
 laidMet_of_run' 8 (by kernel_rfl) (by kernel_rfl)
theorem reads (os : Os) {H : Type} (enc : TypeId × Value → H) : ∃ places, DataW.whole enc Tryz.prog ((laidWorld os).forCall (fun _ _ => 0) ⟨#[], wit, []⟩).memory Tryz.f5.params.toList Rows.segTextsSpec.vars false wit.toList 8 = some ([datS H 0 0 0 0, datS H 0 0 0 0, .lit (.string [])], [], places) :=
 ⟨[], by kernel_rfl⟩

set_option maxRecDepth 100000 in
theorem lifted (os : Os) (started : os.Started) (H : Type) (enc : TypeId × Value → H) (F : Stop.Interp) :
 ReturnsInHanded {} Tryz.checked os 5 .any ((OpenSpec.ofChange Rows.segTextsSpec).preRow enc Tryz.prog Tryz.f5 Rows.segTextsRow.domain false Rows.segTextsRow.laid) (((OpenSpec.ofChange Rows.segTextsSpec).at F).post enc Tryz.prog Tryz.f5 false true false false) := by
 obtain ⟨places, hx⟩ := reads os enc
 refine returnsInHanded_of_row (C := Tryz.checked) (s := OpenSpec.ofChange Rows.segTextsSpec) own started (by kernel_rfl) Tryz.func5
  (witness_row_at (enc := enc) (C := Tryz.checked) false (laidWorld os) wit rfl (by kernel_rfl) (by kernel_rfl) (by kernel_rfl)
    (OpenSpec.preRow_of_cond 8 hx (by kernel_rfl) (fun k hk => by cases hk) (by kernel_rfl) (laid_met os))) ?_
 intro W base args ds gs before hval hW _ _ _ hL hsh _
 exact contract H enc W base args ds gs before hval hW hL hsh

theorem said : Rows.SegTextsSaid :=
 OpenClaim.holds_of_cond 5 Tryz.f5 rfl rfl rfl rfl rfl rfl rfl ⟨rfl, rfl, rfl, rfl, rfl⟩ rfl rfl rfl rfl rfl (by kernel_rfl) Tryz.func5 (by kernel_rfl)
  (of_decide_eq_true (by kernel_rfl)) (by unfold Func.isWrapper; first | (rw [if_pos (by decide +kernel)]; kernel_rfl) | (rw [if_neg (by decide +kernel)]; exact ⟨rfl, rfl⟩))
  (fun os started H enc _ F => by rw [OpenClaim.pre_eq_preRow]; exact lifted os started H enc F)

theorem plain (f : FuncId) (fn : Func) (hf : Tryz.pinned.checked.prog.funcNamed "merestone/merestonelaw04.SegTexts" = some f) (hfn : Tryz.pinned.checked.prog.funcs[f]? = some fn) :
 true = Tryz.pinned.checked.prog.looks [] ∧ ∀ (j : Nat) t, fn.params[j]? = some t → Tryz.pinned.checked.prog.wantsStandIn t = false := by
 obtain rfl : f = 5 := Option.some.inj ((show Tryz.prog.funcNamed "merestone/merestonelaw04.SegTexts" = some 5 by kernel_rfl).symm.trans hf) |>.symm
 obtain rfl : fn = Tryz.f5 := (Option.some.inj (Tryz.func5.symm.trans hfn)).symm
 refine ⟨by kernel_rfl, fun j t ht => ?_⟩
 rw [Tryz.params5] at ht
 have h := Array.mem_of_getElem? ht
 simp only [Array.mem_def, List.mem_cons, List.not_mem_nil, or_false] at h
 rcases h with rfl | rfl | rfl
 ·exact (show Tryz.prog.wantsStandIn 25 = false by kernel_rfl)
 ·exact (show Tryz.prog.wantsStandIn 25 = false by kernel_rfl)
 ·exact (show Tryz.prog.wantsStandIn 9 = false by kernel_rfl)

theorem card : Rows.SegTextsCardSaid :=
 Claim7.holds_tied_plain_at .later [] _ _ _ _ said (fun _ h => by cases h) (by kernel_rfl) (fun _ h => by cases h) segTexts_row_tie rfl ⟨rfl, rfl⟩ (by kernel_rfl) rfl plain (by kernel_rfl)
end Go.Proofs.YtongeeggaigepaaGreatDoor.fnTexts
