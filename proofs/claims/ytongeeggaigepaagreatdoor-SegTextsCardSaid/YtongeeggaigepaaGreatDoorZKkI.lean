import Derived.Test.YtongeeggaigepaaGreatDoorZKkCar
import Derived.Test.YtongeeggaigepaaGreatDoorZKkBase
import Derived.Deep.RegionWith
namespace Go.Proofs.YtongeeggaigepaaGreatDoor
open Go.RowKit
abbrev numv (s : Bool) (x : Nat → Int) (o : Int) : List Value := [.bool s, .int .u64 (x 0), .int .u64 (x 1), .int .u64 (x 2), .int .u64 (x 3), .int .u64 o]
abbrev intv (s : Bool) (x : Nat → Int) : Value := iv s (x 0) (x 1) (x 2) (x 3)
abbrev zeroF (x : Nat → Int) : Bool := zeroB (x 0) (x 1) (x 2) (x 3)
structure KB (B N : Nat) (w w' : World) : Prop where
 os : w'.os = w.os
 tape : w'.tape = w.tape
 output : w'.output = w.output
 size : w.heap.size ≤ w'.heap.size
 block : ∀ k, k < B → k ≠ N → w'.heap[k]? = w.heap[k]?
theorem KB.refl (B N : Nat) (w : World) : KB B N w w := ⟨rfl, rfl, rfl, Nat.le_refl _, fun _ _ _ => rfl⟩
theorem KB.below {B N B' : Nat} {a w w' : World} (h : KB B N a w) (hb : Below B' w w') (hB : B ≤ B') : KB B N a w' :=
 ⟨hb.os.trans h.os, hb.tape.trans h.tape, hb.output.trans h.output, Nat.le_trans h.size hb.size, fun k h1 h2 => (hb.block k (by omega)).trans (h.block k h1 h2)⟩
theorem KB.alloc {B N : Nat} {a w : World} (h : KB B N a w) (hB : B ≤ w.heap.size) (o : Obj) : KB B N a (w.alloc o) := h.below ((Below.refl B w).alloc hB o) (Nat.le_refl _)
theorem KB.drew {B N : Nat} {a w : World} (h : KB B N a w) : KB B N a w.drew := h.below ((Below.refl B w).drew) (Nat.le_refl _)
theorem KB.drewN {B N : Nat} {a w : World} (h : KB B N a w) (n : Nat) : KB B N a (w.drewN n) := h.below (below_drewN (Below.refl B w) n) (Nat.le_refl _)
theorem KB.on {B N b : Nat} {a w w' : World} (h : KB B N a w) (ho : On w w' b) (hb : b = N ∨ B ≤ b) : KB B N a w' :=
 ⟨ho.os.trans h.os, ho.tape.trans h.tape, ho.output.trans h.output, by rw [ho.size]; exact h.size, fun k h1 h2 => (ho.block k (by omega)).trans (h.block k h1 h2)⟩
theorem KB.put1 {B N b : Nat} {a w : World} (h : KB B N a w) (hb : b = N ∨ B ≤ b) (i : Nat) (v : Value) : KB B N a (w.setCell ⟨b, i, none⟩ v) := h.on ((On.refl w b).put i v) hb
theorem KB.put5 {B N c : Nat} {a w : World} (h : KB B N a w) (hc : c = N ∨ B ≤ c) (y0 y1 y2 y3 y4 : Value) :
 KB B N a (((((w.setCell ⟨c, 0, none⟩ y0).setCell ⟨c, 1, none⟩ y1).setCell ⟨c, 2, none⟩ y2).setCell ⟨c, 3, none⟩ y3).setCell ⟨c, 4, none⟩ y4) :=
 ((((h.put1 hc 0 y0).put1 hc 1 y1).put1 hc 2 y2).put1 hc 3 y3).put1 hc 4 y4
theorem KB.toBelow {B N : Nat} {a w : World} (h : KB B N a w) (hN : N ≤ B) : Below N a w := ⟨h.os, h.tape, h.output, h.size, fun k hk => h.block k (by omega) (by omega)⟩
theorem KB.cell {B N : Nat} {w w' : World} (h : KB B N w w') {p : Addr} (hp : p.block < B) (hn : p.block ≠ N) : w'.cell? p = w.cell? p := World.cell?_of_block (w := w) (h.block p.block hp hn)
theorem KB.frozen {B N : Nat} {w w' : World} (h : KB B N w w') {p : Addr} (hp : p.block < B) (hn : p.block ≠ N) : w'.frozen? p = w.frozen? p := World.frozen?_of_block (w := w) (h.block p.block hp hn)
theorem KB.trans {B N B' : Nat} {a w w' : World} (h : KB B N a w) (k : KB B' N w w') (hB : B ≤ B') : KB B N a w' :=
 ⟨k.os.trans h.os, k.tape.trans h.tape, k.output.trans h.output, Nat.le_trans h.size k.size, fun i h1 h2 => (k.block i (by omega) h2).trans (h.block i h1 h2)⟩
theorem Row.kb {w w1 : World} {b N : Nat} {vs : List Value} (h : Row w b vs) (hk : KB w.heap.size N w w1) (hn : b ≠ N) : Row w1 b vs :=
 ⟨Nat.lt_of_lt_of_le h.lt hk.size, fun i _ hv => ⟨(hk.cell (p := ⟨b, i, none⟩) h.lt hn).trans (h.c i hv), (hk.frozen (p := ⟨b, i, none⟩) h.lt hn).trans (h.f i hv)⟩⟩
theorem Row.put56 {w : World} {b : Nat} {x0 x1 x2 x3 x4 x5 : Value} (h : Row w b [x0, x1, x2, x3, x4, x5]) (y0 y1 y2 y3 y4 : Value) :
 Row (((((w.setCell ⟨b, 0, none⟩ y0).setCell ⟨b, 1, none⟩ y1).setCell ⟨b, 2, none⟩ y2).setCell ⟨b, 3, none⟩ y3).setCell ⟨b, 4, none⟩ y4) b [y0, y1, y2, y3, y4, x5] :=
 ((((h.set 0 (by simp) y0).set 1 (by simp) y1).set 2 (by simp) y2).set 3 (by simp) y3).set 4 (by simp) y4
theorem Row.of_on {w w' : World} {b : Nat} {vs us : List Value} (h : On w w' b) (hr : Row w b vs) (hl : us.length = vs.length) (hc : ∀ i u, us[i]? = some u → w'.cell? ⟨b, i, none⟩ = some u) : Row w' b us :=
 ⟨by rw [h.size]; exact hr.lt, fun i u hu => ⟨hc i u hu, by
  rw [h.frozen]
  have hi : i < us.length := by by_cases e : i < us.length; exact e; (simp [e] at hu)
  exact hr.f i (List.getElem?_eq_getElem (by omega))⟩⟩
section
variable (N A c c' : Nat) (s t : Bool) (x y : Nat → Int) (w : World) (hne : A ≠ N) (hr : Row w N (numv s x 0)) (ha : Row w A [.bool t, .int .u64 (y 0), .int .u64 (y 1), .int .u64 (y 2), .int .u64 (y 3)])
 (hbx : ∀ i, 0 ≤ x i ∧ x i < B64) (hby : ∀ i, 0 ≤ y i ∧ y i < B64)
include hne hr ha hbx hby
theorem addTo_num : Calls Tryz.prog 190 #[.slice (some ⟨N, 1, none⟩) 4 c, .slice (some ⟨A, 1, none⟩) 4 c'] w fun e w' =>
 e = .returned (.int .u64 (carF x y 4)) ∧ Row w' N (numv s (sumF x y) 0) ∧ On w w' N := by
 refine (addTo_any x y 4 4 N 1 A 1 c c' w (by omega) hne (fun i hi => ?_) (fun i hi => ?_) (fun i h1 h2 => by omega) hbx hby).mono ?_
 ·match i, hi with
  | 0, _ => exact ⟨hr.c 1 rfl, hr.f 1 rfl⟩
  | 1, _ => exact ⟨hr.c 2 rfl, hr.f 2 rfl⟩
  | 2, _ => exact ⟨hr.c 3 rfl, hr.f 3 rfl⟩
  | 3, _ => exact ⟨hr.c 4 rfl, hr.f 4 rfl⟩
 ·match i, hi with
  | 0, _ => exact ha.c 1 rfl
  | 1, _ => exact ha.c 2 rfl
  | 2, _ => exact ha.c 3 rfl
  | 3, _ => exact ha.c 4 rfl
 ·rintro e w' ⟨rfl, ho, h1, h2⟩
  refine ⟨rfl, Row.of_on ho hr rfl (fun i u hu => ?_), ho⟩
  match i, hu with
  | 0, hu => rw [h2 0 (by omega)]; exact (hr.c 0 rfl).trans hu
  | 1, hu => exact (h1 0 (by omega)).trans hu
  | 2, hu => exact (h1 1 (by omega)).trans hu
  | 3, hu => exact (h1 2 (by omega)).trans hu
  | 4, hu => exact (h1 3 (by omega)).trans hu
  | 5, hu => rw [h2 5 (by omega)]; exact (hr.c 5 rfl).trans hu
theorem takeFrom_num : Calls Tryz.prog 186 #[.slice (some ⟨N, 1, none⟩) 4 c, .slice (some ⟨A, 1, none⟩) 4 c'] w fun e w' =>
 e = .returned (.tuple #[]) ∧ Row w' N (numv s (difF x y) 0) ∧ On w w' N := by
 refine (takeFrom_any x y 4 N 1 A 1 c c' w (by omega) hne (fun i hi => ?_) (fun i hi => ?_) hbx hby).mono ?_
 ·match i, hi with
  | 0, _ => exact ⟨hr.c 1 rfl, hr.f 1 rfl⟩
  | 1, _ => exact ⟨hr.c 2 rfl, hr.f 2 rfl⟩
  | 2, _ => exact ⟨hr.c 3 rfl, hr.f 3 rfl⟩
  | 3, _ => exact ⟨hr.c 4 rfl, hr.f 4 rfl⟩
 ·match i, hi with
  | 0, _ => exact ha.c 1 rfl
  | 1, _ => exact ha.c 2 rfl
  | 2, _ => exact ha.c 3 rfl
  | 3, _ => exact ha.c 4 rfl
 ·rintro e w' ⟨rfl, ho, h1, h2⟩
  refine ⟨rfl, Row.of_on ho hr rfl (fun i u hu => ?_), ho⟩
  match i, hu with
  | 0, hu => rw [h2 0 (by omega)]; exact (hr.c 0 rfl).trans hu
  | 1, hu => exact (h1 0 (by omega)).trans hu
  | 2, hu => exact (h1 1 (by omega)).trans hu
  | 3, hu => exact (h1 2 (by omega)).trans hu
  | 4, hu => exact (h1 3 (by omega)).trans hu
  | 5, hu => rw [h2 5 (by omega)]; exact (hr.c 5 rfl).trans hu
end
def NumPost (N : Nat) (w : World) (r : Option (Bool × (Nat → Int))) (e : Ending) (w' : World) : Prop :=
 KB w.heap.size N w w' ∧ match r with
  | some (s, x) => e = .returned (.tuple #[]) ∧ Row w' N (numv s x 0)
  | none => e = .panicked [{ v := .iface 26 (.int .i64 110), recovered := false }]
def plusR (s t : Bool) (x y : Nat → Int) : Option (Bool × (Nat → Int)) :=
 if s = t then (if carF x y 4 = 0 then some (s && !zeroF (sumF x y), sumF x y) else none)
 else if ordF x y 4 < 0 then some (t && !zeroF (difF y x), difF y x) else some (s && !zeroF (difF x y), difF x y)
set_option maxHeartbeats 800000 in
theorem plus_same (N : Nat) (s : Bool) (x y : Nat → Int) (w : World) (hr : Row w N (numv s x 0)) (hbx : ∀ i, 0 ≤ x i ∧ x i < B64) (hby : ∀ i, 0 ≤ y i ∧ y i < B64) :
 Calls Tryz.prog 164 #[.pointer (some ⟨N, 0, none⟩), intv s y] w (NumPost N w (plusR s s x y)) := by
 have h0 := hr.c 0 rfl
 have lt := hr.lt
 have Hbx := Lib.hid hbx; clear hbx
 have Hby := Lib.hid hby; clear hby
 go_enter Tryz.func164, Tryz.ntmps164
 go_wp2
 go_quiet (fail)
 go_wp2_with fail
 generalize hW : World.drewN _ _ = W0
 have rN : Row W0 N (numv s x 0) := by rw [← hW]; exact (hr.alloc _).drewN _
 have rA : Row W0 w.heap.size [.bool s, .int .u64 (y 0), .int .u64 (y 1), .int .u64 (y 2), .int .u64 (y 3)] := by rw [← hW]; exact (Row.at rfl _ _).drewN _
 have hB : KB w.heap.size N w W0 := by rw [← hW]; exact ((KB.refl w.heap.size N w).alloc (Nat.le_refl _) _).drewN _
 clear hW hr h0
 have hne : w.heap.size ≠ N := by omega
 go_region_with ((go_at_call 190; refine (addTo_num N w.heap.size _ _ s s x y _ hne (Row.drew rN) (Row.drew rA) Hbx.out Hby.out).mono ?_; rintro e w1 ⟨rfl, r1, o1⟩; have c5 := r1.c 5 rfl; have f5 := r1.f 5 rfl))
 clear c5 f5
 generalize hW : World.setCell _ _ _ = W2
 have r2 : Row W2 N (numv s (sumF x y) (carF x y 4)) := by rw [← hW]; exact r1.set 5 (by simp) _
 have hB2 : KB w.heap.size N w W2 := by rw [← hW]; exact (hB.drew.on o1 (Or.inl rfl)).put1 (Or.inl rfl) _ _
 clear hW rN rA hB o1 r1
 by_cases hc : carF x y 4 = 0
 ·rw [hc] at r2
  have HP : Hid (∀ e w', e = .returned (.tuple #[]) → Row w' N (numv (s && !zeroF (sumF x y)) (sumF x y) 0) → KB w.heap.size N w w' → NumPost N w (plusR s s x y) e w') :=
   Lib.hid (fun e w' h1 h2 h3 => ⟨h3, by rw [plusR, if_pos rfl, if_pos hc]; exact ⟨h1, h2⟩⟩)
  have HC := Lib.hid hc; clear hc
  go_wp2_with fail
  refine (settle_ok N s _ _ _ _ W2 r2).mono ?_
  rintro e w3 ⟨rfl, rfl⟩
  go_wp2
  go_end0
  exact HP.out _ _ rfl (r2.set 0 (by simp) _) (hB2.put1 (Or.inl rfl) _ _)
 ·have HP : Hid (∀ e w', e = .panicked [{ v := .iface 26 (.int .i64 110), recovered := false }] → KB w.heap.size N w w' → NumPost N w (plusR s s x y) e w') :=
   Lib.hid (fun e w' h1 h3 => ⟨h3, by rw [plusR, if_pos rfl, if_neg hc]; exact h1⟩)
  have HC := Lib.hid hc; clear hc
  go_wp2_with fail
  refine (settle_over N s _ _ _ _ _ W2 HC.out r2).mono ?_
  rintro e w3 ⟨rfl, rfl⟩
  go_wp2
  exact ⟨rfl, HP.out _ _ rfl hB2⟩
section
variable (N A c c' : Nat) (s t : Bool) (x y : Nat → Int) (w : World) (hr : Row w N (numv s x 0)) (ha : Row w A [.bool t, .int .u64 (y 0), .int .u64 (y 1), .int .u64 (y 2), .int .u64 (y 3)])
include hr ha
theorem order_num : Calls Tryz.prog 126 #[.slice (some ⟨N, 1, none⟩) 4 c, .slice (some ⟨A, 1, none⟩) 4 c'] w fun e w' => e = .returned (.int .i64 (ordF x y 4)) ∧ ∃ k, w' = w.drewN k := by
 refine order_any x y 4 N 1 A 1 c c' w (by omega) (fun i hi => ?_) (fun i hi => ?_)
 ·match i, hi with
  | 0, _ => exact hr.c 1 rfl
  | 1, _ => exact hr.c 2 rfl
  | 2, _ => exact hr.c 3 rfl
  | 3, _ => exact hr.c 4 rfl
 ·match i, hi with
  | 0, _ => exact ha.c 1 rfl
  | 1, _ => exact ha.c 2 rfl
  | 2, _ => exact ha.c 3 rfl
  | 3, _ => exact ha.c 4 rfl
end
set_option maxHeartbeats 800000 in
theorem plus_more (N : Nat) (s t : Bool) (hst : (s == t) = false) (x y : Nat → Int) (w : World) (hr : Row w N (numv s x 0)) (hbx : ∀ i, 0 ≤ x i ∧ x i < B64) (hby : ∀ i, 0 ≤ y i ∧ y i < B64) (ho : 0 ≤ ordF x y 4) :
 Calls Tryz.prog 164 #[.pointer (some ⟨N, 0, none⟩), intv t y] w (NumPost N w (plusR s t x y)) := by
 have HP : Hid (∀ e w', e = .returned (.tuple #[]) → Row w' N (numv (s && !zeroF (difF x y)) (difF x y) 0) → KB w.heap.size N w w' → NumPost N w (plusR s t x y) e w') :=
  Lib.hid (fun e w' h1 h2 h3 => ⟨h3, by rw [plusR, if_neg (by simpa using hst), if_neg (by omega)]; exact ⟨h1, h2⟩⟩)
 have h0 := hr.c 0 rfl
 have lt := hr.lt
 have Hbx := Lib.hid hbx; clear hbx
 have Hby := Lib.hid hby; clear hby
 go_enter Tryz.func164, Tryz.ntmps164
 go_wp2
 go_quiet (fail)
 go_wp2_with fail
 generalize hW : World.drewN _ _ = W0
 have rN : Row W0 N (numv s x 0) := by rw [← hW]; exact (hr.alloc _).drewN _
 have rA : Row W0 w.heap.size [.bool t, .int .u64 (y 0), .int .u64 (y 1), .int .u64 (y 2), .int .u64 (y 3)] := by rw [← hW]; exact (Row.at rfl _ _).drewN _
 have hB : KB w.heap.size N w W0 := by rw [← hW]; exact ((KB.refl w.heap.size N w).alloc (Nat.le_refl _) _).drewN _
 clear hW hr h0
 have hne : w.heap.size ≠ N := by omega
 go_quiet ((go_at_call 126; exact Calls.quiet_of (order_num N w.heap.size _ _ s t x y _ (Row.drewN rN _) (Row.drewN rA _))))
 go_wp2_with fail
 go_region_with ((go_at_call 186; refine (takeFrom_num N w.heap.size _ _ s t x y _ hne (Row.drewN rN _) (Row.drewN rA _) Hbx.out Hby.out).mono ?_; rintro e w1 ⟨rfl, r1, o1⟩))
 have hB1 : KB w.heap.size N w w1 := (hB.drewN _).on o1 (Or.inl rfl)
 clear rN rA hB o1
 go_wp2_with fail
 refine (settle_ok N s _ _ _ _ w1 r1).mono ?_
 rintro e w3 ⟨rfl, rfl⟩
 go_wp2
 go_end0
 exact HP.out _ _ rfl (r1.set 0 (by simp) _) (hB1.put1 (Or.inl rfl) _ _)
set_option maxHeartbeats 1600000 in
theorem plus_less (N : Nat) (s t : Bool) (hst : (s == t) = false) (x y : Nat → Int) (w : World) (hr : Row w N (numv s x 0)) (hbx : ∀ i, 0 ≤ x i ∧ x i < B64) (hby : ∀ i, 0 ≤ y i ∧ y i < B64) (ho : ordF x y 4 < 0) :
 Calls Tryz.prog 164 #[.pointer (some ⟨N, 0, none⟩), intv t y] w (NumPost N w (plusR s t x y)) := by
 have HP : Hid (∀ e w', e = .returned (.tuple #[]) → Row w' N (numv (t && !zeroF (difF y x)) (difF y x) 0) → KB w.heap.size N w w' → NumPost N w (plusR s t x y) e w') :=
  Lib.hid (fun e w' h1 h2 h3 => ⟨h3, by rw [plusR, if_neg (by simpa using hst), if_pos ho]; exact ⟨h1, h2⟩⟩)
 have h0 := hr.c 0 rfl
 have lt := hr.lt
 have Hbx := Lib.hid hbx; clear hbx
 have Hby := Lib.hid hby; clear hby
 go_enter Tryz.func164, Tryz.ntmps164
 go_wp2
 go_quiet (fail)
 go_wp2_with fail
 generalize hW : World.drewN _ _ = W0
 have rN : Row W0 N (numv s x 0) := by rw [← hW]; exact (hr.alloc _).drewN _
 have rA : Row W0 w.heap.size [.bool t, .int .u64 (y 0), .int .u64 (y 1), .int .u64 (y 2), .int .u64 (y 3)] := by rw [← hW]; exact (Row.at rfl _ _).drewN _
 have hB : KB w.heap.size N w W0 := by rw [← hW]; exact ((KB.refl w.heap.size N w).alloc (Nat.le_refl _) _).drewN _
 clear hW hr h0
 have hne : w.heap.size ≠ N := by omega
 generalize w.heap.size = A at *
 go_quiet ((go_at_call 126; exact Calls.quiet_of (order_num N A _ _ s t x y _ (Row.drewN rN _) (Row.drewN rA _))))
 have hne' : N ≠ A := fun h => hne h.symm
 have a0 := rA.c 0 rfl
 have a1 := rA.c 1 rfl
 have a2 := rA.c 2 rfl
 have a3 := rA.c 3 rfl
 have a4 := rA.c 4 rfl
 have b0 := rN.c 0 rfl
 have b1 := rN.c 1 rfl
 have b2 := rN.c 2 rfl
 have b3 := rN.c 3 rfl
 have b4 := rN.c 4 rfl
 have c0 := rA.f 0 rfl
 have c1 := rA.f 1 rfl
 have c2 := rA.f 2 rfl
 have c3 := rA.f 3 rfl
 have c4 := rA.f 4 rfl
 have d0 := rN.f 0 rfl
 have d1 := rN.f 1 rfl
 have d2 := rN.f 2 rfl
 have d3 := rN.f 3 rfl
 have d4 := rN.f 4 rfl
 go_wp2_with fail
 go_region
 go_wp2_with fail
 clear a0 a1 a2 a3 a4 b0 b1 b2 b3 b4 c0 c1 c2 c3 c4 d0 d1 d2 d3 d4
 generalize hW : World.setCell _ _ _ = W2
 have rN2 : Row W2 N (numv t y 0) := by rw [← hW]; exact ((rN.drewN _).put56 _ _ _ _ _).other5 hne _ _ _ _ _
 have rA2 : Row W2 A [.bool s, .int .u64 (x 0), .int .u64 (x 1), .int .u64 (x 2), .int .u64 (x 3)] := by rw [← hW]; exact ((rA.drewN _).other5 hne' _ _ _ _ _).put5 _ _ _ _ _
 have hB2 : KB A N w W2 := by rw [← hW]; exact ((hB.drewN _).put5 (Or.inl rfl) _ _ _ _ _).put5 (Or.inr (Nat.le_refl _)) _ _ _ _ _
 clear hW rN rA hB
 go_region_with ((go_at_call 186; refine (takeFrom_num N A _ _ t s y x _ hne (Row.drew rN2) (Row.drew rA2) Hby.out Hbx.out).mono ?_; rintro e w1 ⟨rfl, r1, o1⟩))
 have hB1 : KB A N w w1 := hB2.drew.on o1 (Or.inl rfl)
 clear rN2 rA2 hB2 o1
 go_wp2_with fail
 refine (settle_ok N t _ _ _ _ w1 r1).mono ?_
 rintro e w3 ⟨rfl, rfl⟩
 go_wp2
 go_end0
 exact HP.out _ _ rfl (r1.set 0 (by simp) _) (hB1.put1 (Or.inl rfl) _ _)
theorem plus_any (N : Nat) (s t : Bool) (x y : Nat → Int) (w : World) (hr : Row w N (numv s x 0)) (hbx : ∀ i, 0 ≤ x i ∧ x i < B64) (hby : ∀ i, 0 ≤ y i ∧ y i < B64) :
 Calls Tryz.prog 164 #[.pointer (some ⟨N, 0, none⟩), intv t y] w (NumPost N w (plusR s t x y)) := by
 by_cases e : s = t
 ·subst e; exact plus_same N s x y w hr hbx hby
 ·by_cases ho : ordF x y 4 < 0
  ·exact plus_less N s t (by simpa using e) x y w hr hbx hby ho
  ·exact plus_more N s t (by simpa using e) x y w hr hbx hby (by omega)
end Go.Proofs.YtongeeggaigepaaGreatDoor

namespace Go.Proofs.YtongeeggaigepaaGreatDoor
open Go.RowKit
abbrev StepR := Bool → Bool → (Nat → Int) → (Nat → Int) → Option (Bool × (Nat → Int))
def foldR (st : StepR) (neg : Nat → Bool) (m : Nat → Nat → Int) (s0 : Bool) (x0 : Nat → Int) : Nat → Option (Bool × (Nat → Int))
 | 0 => some (s0, x0)
 | k + 1 => match foldR st neg m s0 x0 k with
   | some (s, x) => st s (neg k) x (m k)
   | none => none
theorem foldR_none {st : StepR} {neg : Nat → Bool} {m : Nat → Nat → Int} {s0 : Bool} {x0 : Nat → Int} {k n : Nat} (hk : k ≤ n) (h : foldR st neg m s0 x0 k = none) : foldR st neg m s0 x0 n = none := by
 induction n with
 | zero => obtain rfl : k = 0 := by omega
           exact h
 | succ n ih =>
   by_cases e : k = n + 1
   ·subst e; exact h
   ·rw [foldR, ih (by omega)]
def BdF (x : Nat → Int) : Prop := ∀ i, 0 ≤ x i ∧ x i < B64
theorem sumF_bd (x y : Nat → Int) : BdF (sumF x y) := fun _ => ⟨Int.emod_nonneg _ (by decide), Int.emod_lt_of_pos _ (by decide)⟩
theorem difF_bd (x y : Nat → Int) : BdF (difF x y) := fun _ => ⟨Int.emod_nonneg _ (by decide), Int.emod_lt_of_pos _ (by decide)⟩
theorem plusR_bd {s t : Bool} {x y : Nat → Int} {q : Bool × (Nat → Int)} (h : plusR s t x y = some q) : BdF q.2 := by
 unfold plusR at h
 split at h
 ·split at h
  ·cases h; exact sumF_bd _ _
  ·cases h
 ·split at h <;> (cases h; exact difF_bd _ _)
theorem IntsAt.kb {w w1 : World} {b o n N : Nat} {neg : Nat → Bool} {m : Nat → Nat → Int} (h : IntsAt w b o n neg m) (hb : KB w.heap.size N w w1) (hlt : b < w.heap.size) (hn : b ≠ N) : IntsAt w1 b o n neg m := by
 intro i hi
 have hc : ∀ j, w1.cell? ⟨b, j, none⟩ = w.cell? ⟨b, j, none⟩ := fun j => hb.cell (p := ⟨b, j, none⟩) hlt hn
 rw [hc, hc, hc, hc, hc]
 exact h i hi
def IsStep (P : FuncId) (st : StepR) : Prop :=
 (∀ (N : Nat) (s t : Bool) (x y : Nat → Int) (w : World), Row w N (numv s x 0) → BdF x → BdF y → Calls Tryz.prog P #[.pointer (some ⟨N, 0, none⟩), intv t y] w (NumPost N w (st s t x y))) ∧
   (∀ (s t : Bool) (x y : Nat → Int) (q : Bool × (Nat → Int)), st s t x y = some q → BdF q.2) ∧ ∀ (args : Array Value) (w : World), (callFunc P args).run Tryz.prog w = .ok (.enter P args) w
theorem plus_step : IsStep 164 plusR := ⟨fun N s t x y w hr hx hy => plus_any N s t x y w hr hx hy, fun _ _ _ _ _ h => plusR_bd h, fun _ _ => Tryz.call164 _ _⟩
def WorkPost (N : Nat) (w : World) (r : Option (Bool × (Nat → Int))) (e : Ending) (w' : World) : Prop :=
 KB w.heap.size N w w' ∧ match r with
  | some (s, x) => e = .returned (intv s x)
  | none => e = .panicked [{ v := .iface 26 (.int .i64 110), recovered := false }]
set_option maxRecDepth 100000 in
set_option maxHeartbeats 1600000 in
theorem run_o (P : FuncId) (st : StepR) (hst : IsStep P st) (A : Option Addr) (N L S M b o n c : Nat) (neg : Nat → Bool) (m : Nat → Nat → Int) (s0 : Bool) (x0 : Nat → Int) (w : World) (hn : n ≤ 1000000000000000000)
 (hL : w.cell? ⟨L, 0, none⟩ = some (.slice A n c)) (hS : w.cell? ⟨S, 0, none⟩ = some (.func (.func P) #[.pointer (some ⟨N, 0, none⟩)] #[])) (hM : w.cell? ⟨M, 0, none⟩ = some (.pointer (some ⟨N, 0, none⟩)))
 (lS : S < w.heap.size) (lM : M < w.heap.size) (lb : b < w.heap.size) (lL : L < w.heap.size) (nS : S ≠ N) (nM : M ≠ N) (nb : b ≠ N) (lN : N < w.heap.size)
 (hi : IntsAt w b o n neg m) (hr : Row w N (numv s0 x0 0)) (hx : BdF x0) (hm : ∀ k, BdF (m k)) (hA : 0 < n → A = some ⟨b, o, none⟩) :
 Calls Tryz.prog 141 #[.pointer (some ⟨L, 0, none⟩), .pointer (some ⟨S, 0, none⟩), .pointer (some ⟨M, 0, none⟩)] w (WorkPost N w (foldR st neg m s0 x0 n)) := by
 have Hst := Lib.hid hst; clear hst
 have Hi := Lib.hid hi; clear hi
 have Hm := Lib.hid hm; clear hm
 have Hx := Lib.hid hx; clear hx
 have HAd := Lib.hid hA; clear hA
 have HM := Lib.hid hM; clear hM
 have HS := Lib.hid hS; clear hS
 have eP := Hst.out.2.2
 go_enter Tryz.func141, Tryz.ntmps141
 go_wp2
 have rR : Row (w.alloc (.cells #[.bool false, .int .u64 0, .int .u64 0, .int .u64 0, .int .u64 0] 42)) w.heap.size [.bool false, .int .u64 0, .int .u64 0, .int .u64 0, .int .u64 0] := Row.at rfl _ _
 have hB0 : KB w.heap.size N w (w.alloc (.cells #[.bool false, .int .u64 0, .int .u64 0, .int .u64 0, .int .u64 0] 42)) := (KB.refl _ _ _).alloc (Nat.le_refl _) _
 have hr0 := hr.alloc (.cells #[.bool false, .int .u64 0, .int .u64 0, .int .u64 0, .int .u64 0] 42)
 clear hr hL
 generalize World.alloc _ _ = W0 at rR hB0 hr0 ⊢
 have hN0 : N ≠ w.heap.size := by omega
 go_loopw [8] (fun i wr => ∃ k : Nat, k ≤ n ∧ i = .int .i64 k ∧ KB w.heap.size N w wr ∧ Row wr w.heap.size [.bool false, .int .u64 0, .int .u64 0, .int .u64 0, .int .u64 0] ∧ ∃ s x, Hid (foldR st neg m s0 x0 k = some (s, x)) ∧ Row wr N (numv s x 0) ∧ Hid (BdF x)) (fun i _ => n - (intOf i).toNat)
 case atStart => exact ⟨0, Nat.zero_le _, rfl, hB0, rR, s0, x0, Lib.hid rfl, hr0, Hx⟩
 case round =>
  obtain ⟨k, hk, rfl, hB, hR, s, x, HF, hr', HB⟩ := hrel
  clear hB0 rR hr0
  by_cases hkn : k < n
  ·obtain ⟨c0, c1, c2, c3, c4⟩ := (Hi.out.kb hB lb nb) k hkn
   obtain rfl := HAd.out (by omega)
   have hk1 : (k : Int) < n := by omega
   have hS' : ∀ ob, (wr.alloc ob).cell? ⟨S, 0, none⟩ = some (.func (.func P) #[.pointer (some ⟨N, 0, none⟩)] #[]) := fun ob => by
    rw [World.cell?_alloc_past ob S 0 (Nat.lt_of_lt_of_le lS hB.size)]; exact (hB.cell (p := ⟨S, 0, none⟩) lS nS).trans HS.out
   go_wp2_with fail
   refine (Hst.out.1 N s (neg k) x (m k) _ (hr'.alloc _) HB.out (Hm.out k)).mono ?_
   rintro e w2 ⟨hk2, h2⟩
   have hB2 : KB w.heap.size N w w2 := (hB.alloc hB.size _).trans hk2 (by have := hB.size; simp; omega)
   have hR2 : Row w2 w.heap.size [.bool false, .int .u64 0, .int .u64 0, .int .u64 0, .int .u64 0] := (hR.alloc _).kb hk2 hN0.symm
   clear hk2 c0 c1 c2 c3 c4 hS'
   cases hq : st s (neg k) x (m k) with
   | none =>
     rw [hq] at h2
     have HP : Hid (∀ w', KB w.heap.size N w w' → WorkPost N w (foldR st neg m s0 x0 n) (.panicked [{ v := .iface 26 (.int .i64 110), recovered := false }]) w') := by
      have hf : foldR st neg m s0 x0 n = none := foldR_none (k := k + 1) (by omega) (by rw [foldR, HF.out]; exact hq)
      rw [hf]
      exact Lib.hid (fun w' h => ⟨h, rfl⟩)
     clear hq
     obtain rfl := h2
     go_wp2
     exact ⟨rfl, HP.out _ hB2⟩
   | some q =>
     obtain ⟨s', x'⟩ := q
     rw [hq] at h2
     obtain ⟨rfl, h3⟩ := h2
     have HF' : Hid (foldR st neg m s0 x0 (k + 1) = some (s', x')) := Lib.hid (by rw [foldR, HF.out]; exact hq)
     have HB' : Hid (BdF x') := Lib.hid (Hst.out.2.1 _ _ _ _ _ hq)
     clear hq
     go_wp2
     go_roundw
     case rel => exact ⟨k + 1, by omega, by go_num, hB2, hR2, s', x', HF', h3, HB'⟩
     case measure => simp [intOf]; omega
  ·obtain rfl : k = n := by omega
   have HP : Hid (∀ w', KB w.heap.size N w w' → WorkPost N w (foldR st neg m s0 x0 k) (.returned (intv s x)) w') := by
    rw [HF.out]
    exact Lib.hid (fun w' h1 => ⟨h1, rfl⟩)
   have hM' : wr.cell? ⟨M, 0, none⟩ = some (.pointer (some ⟨N, 0, none⟩)) := (hB.cell (p := ⟨M, 0, none⟩) lM nM).trans HM.out
   have n0 := hr'.c 0 rfl
   have n1 := hr'.c 1 rfl
   have n2 := hr'.c 2 rfl
   have n3 := hr'.c 3 rfl
   have n4 := hr'.c 4 rfl
   have a0 := hR.c 0 rfl
   have a1 := hR.c 1 rfl
   have a2 := hR.c 2 rfl
   have a3 := hR.c 3 rfl
   have a4 := hR.c 4 rfl
   have b0 := hR.f 0 rfl
   have b1 := hR.f 1 rfl
   have b2 := hR.f 2 rfl
   have b3 := hR.f 3 rfl
   have b4 := hR.f 4 rfl
   go_wp2
   clear n0 n1 n2 n3 n4 a0 a1 a2 a3 a4 b0 b1 b2 b3 b4 hM'
   generalize hW : World.setCell _ _ _ = W3
   have rR3 : Row W3 w.heap.size [.bool s, .int .u64 (x 0), .int .u64 (x 1), .int .u64 (x 2), .int .u64 (x 3)] := by rw [← hW]; exact hR.put5 _ _ _ _ _
   have hB3 : KB w.heap.size N w W3 := by rw [← hW]; exact hB.put5 (Or.inr (Nat.le_refl _)) _ _ _ _ _
   clear hW
   exact bodyPost_ret (v := intv s x) (by simp [results, Tryz.results141, go_sem, rR3.c 0 rfl, rR3.c 1 rfl, rR3.c 2 rfl, rR3.c 3 rfl, rR3.c 4 rfl]) rfl (HP.out _ hB3)
def caughtV : Option (Bool × (Nat → Int)) → Value
 | some (s, x) => .tuple #[intv s x, .int .i64 0]
 | none => .tuple #[iv false 0 0 0 0, .int .i64 110]
set_option maxRecDepth 100000 in
set_option maxHeartbeats 1600000 in
theorem caught_any (F : FuncId) (caps : Array Value) (N : Nat) (r : Option (Bool × (Nat → Int))) (w : World) (hN : N < w.heap.size) (eF : ∀ (args : Array Value) (w : World), (callFunc F args).run Tryz.prog w = .ok (.enter F args) w)
 (hw : ∀ W, Below w.heap.size w W → Calls Tryz.prog F caps W (WorkPost N W r)) :
 Calls Tryz.prog 140 #[.func (.func F) #[] caps] w fun e w' => KB w.heap.size N w w' ∧ e = .returned (caughtV r) := by
 have hmf : ∀ (fn : Fn) (first cap : Array Value) (w : World), (Instr.makeFunc fn first cap).run Tryz.prog w = .ok (.func fn first cap) w := fun _ _ _ _ => rfl
 have Hw := Lib.hid hw; clear hw
 go_enter_defers Tryz.func140, Tryz.ntmps140
 go_wp2_with fail
 generalize hW : World.alloc _ _ = W0
 have rR : Row W0 w.heap.size [.bool false, .int .u64 0, .int .u64 0, .int .u64 0, .int .u64 0] := by rw [← hW]; exact (Row.at rfl _ _).alloc _
 have rE : Row W0 (w.heap.size + 1) [.int .i64 0] := by rw [← hW]; exact Row.at (by simp) _ _
 have hB0 : Below w.heap.size w W0 := by rw [← hW]; exact ((Below.refl w.heap.size w).alloc (Nat.le_refl _) _).alloc (by simp) _
 clear hW
 refine (Hw.out W0 hB0).mono ?_
 rintro e w1 ⟨hk, h1⟩
 have hl := rE.lt
 replace rR := rR.kb hk (by omega)
 replace rE := rE.kb hk (by omega)
 have hB : KB w.heap.size N w w1 := ((KB.refl w.heap.size N w).below hB0 (Nat.le_refl _)).trans hk hB0.size
 clear hk hB0
 have hE := rE.c 0 rfl
 have fE := rE.f 0 rfl
 have a0 := rR.c 0 rfl
 have a1 := rR.c 1 rfl
 have a2 := rR.c 2 rfl
 have a3 := rR.c 3 rfl
 have a4 := rR.c 4 rfl
 cases r with
 | none =>
   obtain rfl := h1
   go_wp2
   refine leaves_cons (f := 162) (args := #[.pointer (some ⟨w.heap.size + 1, 0, none⟩)]) (by simp) (by simp [go_sem]) ?_
   refine (catch_panicking ⟨w.heap.size + 1, 0, none⟩ 0 110 [] _ hE fE).mono ?_
   rintro e u' w'' ⟨rfl, rfl, rfl⟩
   have hS := World.cell?_setCell_same' w1 ⟨w.heap.size + 1, 0, none⟩ (.int .i64 110) (by rw [hE]; rfl)
   have rR2 : Row (w1.setCell ⟨w.heap.size + 1, 0, none⟩ (.int .i64 110)) w.heap.size [.bool false, .int .u64 0, .int .u64 0, .int .u64 0, .int .u64 0] := rR.other (by simp) _
   simp [Leaves, settle, results, Tryz.results140, go_sem, hS, rR2.c 0 rfl, rR2.c 1 rfl, rR2.c 2 rfl, rR2.c 3 rfl, rR2.c 4 rfl]
   exact ⟨hB.put1 (Or.inr (Nat.le_succ _)) _ _, rfl⟩
 | some q =>
   obtain ⟨s, x⟩ := q
   obtain rfl := h1
   have b0 := rR.f 0 rfl
   have b1 := rR.f 1 rfl
   have b2 := rR.f 2 rfl
   have b3 := rR.f 3 rfl
   have b4 := rR.f 4 rfl
   have hl2 := rR.lt
   go_wp2
   clear a0 a1 a2 a3 a4 b0 b1 b2 b3 b4 hE fE
   have rR3 : Row ((((((w1.setCell ⟨w.heap.size, 0, none⟩ (.bool s)).setCell ⟨w.heap.size, 1, none⟩ (.int .u64 (x 0))).setCell ⟨w.heap.size, 2, none⟩ (.int .u64 (x 1))).setCell ⟨w.heap.size, 3, none⟩ (.int .u64 (x 2))).setCell ⟨w.heap.size, 4, none⟩ (.int .u64 (x 3))).setCell ⟨w.heap.size + 1, 0, none⟩ (.int .i64 0)) w.heap.size [.bool s, .int .u64 (x 0), .int .u64 (x 1), .int .u64 (x 2), .int .u64 (x 3)] :=
    (rR.put5 _ _ _ _ _).other (by simp) _
   have rE3 : Row ((((((w1.setCell ⟨w.heap.size, 0, none⟩ (.bool s)).setCell ⟨w.heap.size, 1, none⟩ (.int .u64 (x 0))).setCell ⟨w.heap.size, 2, none⟩ (.int .u64 (x 1))).setCell ⟨w.heap.size, 3, none⟩ (.int .u64 (x 2))).setCell ⟨w.heap.size, 4, none⟩ (.int .u64 (x 3))).setCell ⟨w.heap.size + 1, 0, none⟩ (.int .i64 0)) (w.heap.size + 1) [.int .i64 0] :=
    (rE.other5 (by simp) _ _ _ _ _).set 0 (by simp) _
   have hB3 : KB w.heap.size N w ((((((w1.setCell ⟨w.heap.size, 0, none⟩ (.bool s)).setCell ⟨w.heap.size, 1, none⟩ (.int .u64 (x 0))).setCell ⟨w.heap.size, 2, none⟩ (.int .u64 (x 1))).setCell ⟨w.heap.size, 3, none⟩ (.int .u64 (x 2))).setCell ⟨w.heap.size, 4, none⟩ (.int .u64 (x 3))).setCell ⟨w.heap.size + 1, 0, none⟩ (.int .i64 0)) :=
    (hB.put5 (Or.inr (Nat.le_refl _)) _ _ _ _ _).put1 (Or.inr (Nat.le_succ _)) _ _
   generalize World.setCell _ _ _ = W3 at rR3 rE3 hB3 ⊢
   clear rR rE hB
   refine leaves_cons (f := 162) (args := #[.pointer (some ⟨w.heap.size + 1, 0, none⟩)]) (by simp) (by simp [go_sem]) ?_
   refine (catch_idle ⟨w.heap.size + 1, 0, none⟩ _).mono ?_
   rintro e u' w'' ⟨rfl, rfl, rfl⟩
   simp [Leaves, settle, results, Tryz.results140, go_sem, rR3.c 0 rfl, rR3.c 1 rfl, rR3.c 2 rfl, rR3.c 3 rfl, rR3.c 4 rfl, rE3.c 0 rfl]
   exact ⟨hB3, rfl⟩
end Go.Proofs.YtongeeggaigepaaGreatDoor
namespace Go.Proofs.YtongeeggaigepaaGreatDoor
open Go.RowKit
def afterR (st : StepR) (neg : Nat → Bool) (m : Nat → Nat → Int) (s0 : Bool) (x0 : Nat → Int) (n : Nat) : Value :=
 if errAll neg m n = 0 then (match foldR st neg m s0 x0 n with
  | some (s, x) => .tuple #[intv s x, .int .i64 0]
  | none => .tuple #[iv false 0 0 0 0, .int .i64 110])
 else .tuple #[iv false 0 0 0 0, .int .i64 (errAll neg m n)]
def AfterPost (N : Nat) (w : World) (v : Value) (e : Ending) (w' : World) : Prop := e = .returned v ∧ KB w.heap.size N w w'
theorem afterR_eq (st : StepR) (neg : Nat → Bool) (m : Nat → Nat → Int) (s0 : Bool) (x0 : Nat → Int) (n : Nat) (h : errAll neg m n = 0) : afterR st neg m s0 x0 n = caughtV (foldR st neg m s0 x0 n) := by
 rw [afterR, if_pos h]
 cases foldR st neg m s0 x0 n <;> rfl
theorem caughtV_form (r : Option (Bool × (Nat → Int))) : ∃ s x k, caughtV r = .tuple #[intv s x, .int .i64 k] := by
 cases r with
 | none => exact ⟨false, fun _ => 0, 110, rfl⟩
 | some q => exact ⟨q.1, q.2, 0, rfl⟩
set_option maxHeartbeats 400000 in
theorem checkAll_o (A : Option Addr) (neg : Nat → Bool) (m : Nat → Nat → Int) (n b o c : Nat) (w : World) (hn : n ≤ 1000000000000000000) (hlt : b < w.heap.size) (hx : IntsAt w b o n neg m) (hA : 0 < n → A = some ⟨b, o, none⟩) :
 Calls Tryz.prog 125 #[.slice A n c] w fun e w' => e = .returned (.int .i64 (errAll neg m n)) ∧ Below w.heap.size w w' := by
 have HAd := Lib.hid hA; clear hA
 go_enter Tryz.func125, Tryz.ntmps125
 have Hx := Lib.hid hx; clear hx
 go_wp2
 go_loopw [8] (fun i wr => ∃ k : Nat, k ≤ n ∧ i = .int .i64 k ∧ Hid (errAll neg m k = 0) ∧ Below w.heap.size w wr) (fun i _ => n - (intOf i).toNat)
 case atStart => exact ⟨0, Nat.zero_le _, rfl, Lib.hid rfl, Below.refl _ _⟩
 case round =>
  obtain ⟨k, hk, rfl, HO, hB⟩ := hrel
  by_cases hkn : k < n
  ·obtain ⟨c0, c1, c2, c3, c4⟩ := (Hx.out.below hB hlt) k hkn
   obtain rfl := HAd.out (by omega)
   have hk1 : (k : Int) < n := by omega
   by_cases hc : errArg (neg k) (m k 0) (m k 1) (m k 2) (m k 3) = 0
   ·have HO' : Hid (errAll neg m (k + 1) = 0) := Lib.hid (by rw [errAll, if_pos HO.out, hc])
    go_wp2_with fail
    refine (check_any _ _ _ _ _ _).mono ?_
    rintro e w1 ⟨rfl, hb1⟩
    rw [hc]; clear hc
    go_wp2
    go_roundw
    case rel => exact ⟨k + 1, by omega, by go_num, HO', (hB.alloc hB.size _).trans (hb1.mono (by simp; have := hB.size; omega))⟩
    case measure => simp [intOf]; omega
   ·have HO' : Hid (errAll neg m n = errArg (neg k) (m k 0) (m k 1) (m k 2) (m k 3)) := Lib.hid (errAll_some hkn HO.out hc)
    have hne : (errArg (neg k) (m k 0) (m k 1) (m k 2) (m k 3) != 0) = true := by simpa using hc
    clear hc
    go_wp2_with fail
    refine (check_any _ _ _ _ _ _).mono ?_
    rintro e w1 ⟨rfl, hb1⟩
    go_wp2
    go_ret
    exact ⟨by rw [HO'.out]; rfl, (hB.alloc hB.size _).trans (hb1.mono (by simp; have := hB.size; omega))⟩
  ·have hkn' : k = n := by omega
   have HN : Hid (errAll neg m n = 0) := Lib.hid (by rw [← hkn']; exact HO.out)
   clear hkn'
   go_wp2
   go_ret
   exact ⟨by rw [HN.out]; rfl, hB⟩
set_option maxRecDepth 100000 in
set_option maxHeartbeats 1600000 in
theorem after_o (P : FuncId) (st : StepR) (hst : IsStep P st) (A : Option Addr) (N b o n c : Nat) (neg : Nat → Bool) (m : Nat → Nat → Int) (s0 : Bool) (x0 : Nat → Int) (w : World) (hn : n ≤ 1000000000000000000)
 (lN : N < w.heap.size) (lb : b < w.heap.size) (nb : b ≠ N) (hi : IntsAt w b o n neg m) (hr : Row w N (numv s0 x0 0)) (hx : BdF x0) (hm : ∀ k, BdF (m k)) (hA : 0 < n → A = some ⟨b, o, none⟩) :
 Calls Tryz.prog 122 #[.pointer (some ⟨N, 0, none⟩), .func (.func P) #[.pointer (some ⟨N, 0, none⟩)] #[], .slice A n c] w (AfterPost N w (afterR st neg m s0 x0 n)) := by
 have hmf : ∀ (fn : Fn) (first cap : Array Value) (w : World), (Instr.makeFunc fn first cap).run Tryz.prog w = .ok (.func fn first cap) w := fun _ _ _ _ => rfl
 have Hi := Lib.hid hi; clear hi
 have Hm := Lib.hid hm; clear hm
 have Hx := Lib.hid hx; clear hx
 have HAd := Lib.hid hA; clear hA
 have Hst := Lib.hid hst; clear hst
 go_enter Tryz.func122, Tryz.ntmps122
 go_wp2_with fail
 generalize hW : World.alloc _ _ = W0
 have rM : Row W0 w.heap.size [.pointer (some ⟨N, 0, none⟩)] := by rw [← hW]; exact (((Row.at rfl _ _).alloc _).alloc _).alloc _
 have rS : Row W0 (w.heap.size + 1) [.func (.func P) #[.pointer (some ⟨N, 0, none⟩)] #[]] := by rw [← hW]; exact ((Row.at (by simp) _ _).alloc _).alloc _
 have rL : Row W0 (w.heap.size + 1 + 1) [.slice A n c] := by rw [← hW]; exact (Row.at (by simp) _ _).alloc _
 have rR : Row W0 (w.heap.size + 1 + 1 + 1) [.bool false, .int .u64 0, .int .u64 0, .int .u64 0, .int .u64 0] := by rw [← hW]; exact Row.at (by simp) _ _
 have rN : Row W0 N (numv s0 x0 0) := by rw [← hW]; exact (((hr.alloc _).alloc _).alloc _).alloc _
 have hB : Below w.heap.size w W0 := by rw [← hW]; exact ((((Below.refl w.heap.size w).alloc (Nat.le_refl _) _).alloc (by simp) _).alloc (by simp; omega) _).alloc (by simp; omega) _
 clear hW hr
 have hi0 : IntsAt W0 b o n neg m := Hi.out.below hB lb
 refine (checkAll_o A neg m n b o c W0 hn (by have := hB.size; omega) hi0 HAd.out).mono ?_
 rintro e w1 ⟨rfl, hb1⟩
 have hi1 : Hid (IntsAt w1 b o n neg m) := Lib.hid (hi0.below hb1 (by have := hB.size; omega))
 replace hB := hB.trans (hb1.mono hB.size)
 replace rM := rM.after hb1
 replace rS := rS.after hb1
 replace rL := rL.after hb1
 replace rR := rR.after hb1
 replace rN := rN.after hb1
 have lw : w.heap.size + 1 + 1 + 1 < w1.heap.size := rR.lt
 clear hb1 hi0 Hi
 by_cases he : errAll neg m n = 0
 ·have HA := Lib.hid (afterR_eq st neg m s0 x0 n he)
  obtain ⟨s, x, k, hV⟩ := caughtV_form (foldR st neg m s0 x0 n)
  have HV := Lib.hid hV
  rw [he]
  clear he hV
  go_wp2_with fail
  refine (caught_any 141 _ N (foldR st neg m s0 x0 n) w1 (by omega) (fun _ _ => Tryz.call141 _ _) (fun W hW => run_o P st Hst.out A N (w.heap.size + 1 + 1) (w.heap.size + 1) w.heap.size b o n c neg m s0 x0 W hn ((rL.after hW).c 0 rfl) ((rS.after hW).c 0 rfl) ((rM.after hW).c 0 rfl) (rS.after hW).lt (rM.after hW).lt (by have := hW.size; omega) (rL.after hW).lt (by omega) (by omega) nb (rN.after hW).lt (hi1.out.below hW (by omega)) (rN.after hW) Hx.out Hm.out HAd.out)).mono ?_
  rintro e w2 ⟨hk, rfl⟩
  rw [HV.out]
  have hB2 : KB w.heap.size N w w2 := (KB.refl _ _ _ |>.below hB (Nat.le_refl _)).trans hk (by omega)
  have rR2 : Row w2 (w.heap.size + 1 + 1 + 1) [.bool false, .int .u64 0, .int .u64 0, .int .u64 0, .int .u64 0] := rR.kb hk (by omega)
  clear hk rS rL rR rN rM hB
  have a0 := rR2.c 0 rfl
  have a1 := rR2.c 1 rfl
  have a2 := rR2.c 2 rfl
  have a3 := rR2.c 3 rfl
  have a4 := rR2.c 4 rfl
  have b0 := rR2.f 0 rfl
  have b1 := rR2.f 1 rfl
  have b2 := rR2.f 2 rfl
  have b3 := rR2.f 3 rfl
  have b4 := rR2.f 4 rfl
  go_wp2
  clear a0 a1 a2 a3 a4 b0 b1 b2 b3 b4
  generalize hW : World.setCell _ _ _ = W3
  have rR3 : Row W3 (w.heap.size + 1 + 1 + 1) [.bool s, .int .u64 (x 0), .int .u64 (x 1), .int .u64 (x 2), .int .u64 (x 3)] := by rw [← hW]; exact rR2.put5 _ _ _ _ _
  replace hB2 : KB w.heap.size N w W3 := by rw [← hW]; exact hB2.put5 (Or.inr (by omega)) _ _ _ _ _
  clear hW rR2
  exact bodyPost_ret (v := .tuple #[intv s x, .int .i64 k]) (by simp [results, Tryz.results122, go_sem, rR3.c 0 rfl, rR3.c 1 rfl, rR3.c 2 rfl, rR3.c 3 rfl, rR3.c 4 rfl]) rfl ⟨by rw [HA.out, HV.out], hB2⟩
 ·have HA : Hid (afterR st neg m s0 x0 n = .tuple #[iv false 0 0 0 0, .int .i64 (errAll neg m n)]) := Lib.hid (by rw [afterR, if_neg he])
  have hne : (errAll neg m n != 0) = true := by simpa using he
  clear he rS rL rN rM
  have a0 := rR.c 0 rfl
  have a1 := rR.c 1 rfl
  have a2 := rR.c 2 rfl
  have a3 := rR.c 3 rfl
  have a4 := rR.c 4 rfl
  have b0 := rR.f 0 rfl
  have b1 := rR.f 1 rfl
  have b2 := rR.f 2 rfl
  have b3 := rR.f 3 rfl
  have b4 := rR.f 4 rfl
  go_wp2
  clear a0 a1 a2 a3 a4 b0 b1 b2 b3 b4
  generalize hW : World.setCell _ _ _ = W3
  have rR3 : Row W3 (w.heap.size + 1 + 1 + 1) [.bool false, .int .u64 0, .int .u64 0, .int .u64 0, .int .u64 0] := by rw [← hW]; exact rR.put5 _ _ _ _ _
  have hB2 : KB w.heap.size N w W3 := by rw [← hW]; exact (KB.refl _ _ _ |>.below hB (Nat.le_refl _)).put5 (Or.inr (by omega)) _ _ _ _ _
  clear hW rR
  exact bodyPost_ret (v := .tuple #[iv false 0 0 0 0, .int .i64 (errAll neg m n)]) (by simp [results, Tryz.results122, go_sem, rR3.c 0 rfl, rR3.c 1 rfl, rR3.c 2 rfl, rR3.c 3 rfl, rR3.c 4 rfl]) rfl ⟨by rw [HA.out], hB2⟩
theorem afterR_form (st : StepR) (neg : Nat → Bool) (m : Nat → Nat → Int) (s0 : Bool) (x0 : Nat → Int) (n : Nat) :
 ∃ s x k, afterR st neg m s0 x0 n = .tuple #[intv s x, .int .i64 k] := by
 unfold afterR
 split
 ·cases foldR st neg m s0 x0 n with
  | none => exact ⟨false, fun _ => 0, 110, rfl⟩
  | some q => exact ⟨q.1, q.2, 0, rfl⟩
 ·exact ⟨false, fun _ => 0, _, rfl⟩
theorem zero_bd : BdF (fun _ => 0) := fun _ => ⟨Int.le_refl _, by show (0 : Int) < B64; decide⟩
theorem of_zero (w : World) : Calls Tryz.prog 89 #[.int .i64 0] w fun e w' => e = .returned (iv false 0 0 0 0) ∧ Below w.heap.size w w' := of_any 0 w
theorem of_one (w : World) : Calls Tryz.prog 89 #[.int .i64 1] w fun e w' => e = .returned (iv false 1 0 0 0) ∧ Below w.heap.size w w' := of_any 1 w
set_option maxHeartbeats 800000 in
theorem add_o (A : Option Addr) (b o n c : Nat) (neg : Nat → Bool) (m : Nat → Nat → Int) (w : World) (hn : n ≤ 1000000000000000000)
 (lb : b < w.heap.size) (hi : IntsAt w b o n neg m) (hm : ∀ k, BdF (m k)) (hA : 0 < n → A = some ⟨b, o, none⟩) :
 Calls Tryz.prog 145 #[.slice A n c] w fun e w' => e = .returned (afterR plusR neg m false (fun _ => 0) n) ∧ Below w.heap.size w w' := by
 have hmf : ∀ (fn : Fn) (first cap : Array Value) (w : World), (Instr.makeFunc fn first cap).run Tryz.prog w = .ok (.func fn first cap) w := fun _ _ _ _ => rfl
 have Hi := Lib.hid hi; clear hi
 have Hm := Lib.hid hm; clear hm
 obtain ⟨s, x, k, hA⟩ := afterR_form plusR neg m false (fun _ => 0) n
 have HA := Lib.hid hA; clear hA
 have HAd := Lib.hid hA; clear hA
 go_enter Tryz.func145, Tryz.ntmps145
 go_wp2_with fail
 refine (of_zero _).mono ?_
 rintro e w1 ⟨rfl, hb1⟩
 have hB : Below w.heap.size w w1 := ((Below.refl w.heap.size w).alloc (Nat.le_refl _) _).trans (hb1.mono (by simp))
 have rR : Row w1 w.heap.size [.bool false, .int .u64 0, .int .u64 0, .int .u64 0, .int .u64 0] := (Row.at rfl _ _).after hb1
 clear hb1
 go_wp2_with fail
 generalize hW : World.alloc _ _ = W2
 have rN : Row W2 w1.heap.size (numv false (fun _ => 0) 0) := by rw [← hW]; exact Row.at rfl _ _
 have lR := rR.lt
 have hB2 : Below w.heap.size w W2 := by rw [← hW]; exact hB.alloc hB.size _
 have rR2 : Row W2 w.heap.size [.bool false, .int .u64 0, .int .u64 0, .int .u64 0, .int .u64 0] := by rw [← hW]; exact rR.alloc _
 clear hW rR
 have hsz := hB.size
 refine (after_o 164 plusR plus_step A w1.heap.size b o n c neg m false (fun _ => 0) W2 hn rN.lt (by have := hB2.size; omega) (by omega) (Hi.out.below hB2 lb) rN zero_bd Hm.out HAd.out).mono ?_
 rintro e w3 ⟨rfl, hk⟩
 rw [HA.out]
 have rR3 : Row w3 w.heap.size [.bool false, .int .u64 0, .int .u64 0, .int .u64 0, .int .u64 0] :=
  ⟨Nat.lt_of_lt_of_le rR2.lt hk.size, fun i _ hv => ⟨(hk.cell (p := ⟨w.heap.size, i, none⟩) rR2.lt (by simp; omega)).trans (rR2.c i hv), (hk.frozen (p := ⟨w.heap.size, i, none⟩) rR2.lt (by simp; omega)).trans (rR2.f i hv)⟩⟩
 have hB3 : Below w.heap.size w w3 := hB2.trans ((hk.toBelow (by have := rN.lt; omega)).mono hsz)
 clear hk rR2 hB2 rN hB
 have a0 := rR3.c 0 rfl
 have a1 := rR3.c 1 rfl
 have a2 := rR3.c 2 rfl
 have a3 := rR3.c 3 rfl
 have a4 := rR3.c 4 rfl
 have b0 := rR3.f 0 rfl
 have b1 := rR3.f 1 rfl
 have b2 := rR3.f 2 rfl
 have b3 := rR3.f 3 rfl
 have b4 := rR3.f 4 rfl
 go_wp2
 clear a0 a1 a2 a3 a4 b0 b1 b2 b3 b4
 generalize hW : World.setCell _ _ _ = W4
 have rR4 : Row W4 w.heap.size [.bool s, .int .u64 (x 0), .int .u64 (x 1), .int .u64 (x 2), .int .u64 (x 3)] := by rw [← hW]; exact rR3.put5 _ _ _ _ _
 replace hB3 : Below w.heap.size w W4 := by rw [← hW]; exact below_put5 hB3 (Nat.le_refl _) _ _ _ _ _
 clear hW rR3
 exact bodyPost_ret (v := .tuple #[intv s x, .int .i64 k]) (by simp [results, Tryz.results145, go_sem, rR4.c 0 rfl, rR4.c 1 rfl, rR4.c 2 rfl, rR4.c 3 rfl, rR4.c 4 rfl]) rfl ⟨by rw [HA.out], hB3⟩
theorem add_any (b o n c : Nat) (neg : Nat → Bool) (m : Nat → Nat → Int) (w : World) (hn : n ≤ 1000000000000000000)
 (lb : b < w.heap.size) (hi : IntsAt w b o n neg m) (hm : ∀ k, BdF (m k)) :
 Calls Tryz.prog 145 #[.slice (some ⟨b, o, none⟩) n c] w fun e w' => e = .returned (afterR plusR neg m false (fun _ => 0) n) ∧ Below w.heap.size w w' :=
 add_o (some ⟨b, o, none⟩) b o n c neg m w hn lb hi hm (fun _ => rfl)
end Go.Proofs.YtongeeggaigepaaGreatDoor
