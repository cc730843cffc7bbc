/- Contracts of package limb's plus, the step of sums; the number lies in memory, and the Int may be. -/
import Derived.Test.YthmobcpdbgmbeaaGreatDoorCar
import Derived.Test.YthmobcpdbgmbeaaGreatDoorF
import Derived.Test.YthmobcpdbgmbeaaGreatDoorBase
import Derived.Deep.RegionWith
namespace Go.Proofs.YthmobcpdbgmbeaaGreatDoor
open Go.RowKit
/-- The words of one row, as a number holds them. -/
abbrev numv (s : Bool) (x : Nat → Int) (o : Int) : List Value := [.bool s, .int .u64 (x 0), .int .u64 (x 1), .int .u64 (x 2), .int .u64 (x 3), .int .u64 o]
abbrev intv (s : Bool) (x : Nat → Int) : Value := iv s (x 0) (x 1) (x 2) (x 3)
abbrev zeroF (x : Nat → Int) : Bool := zeroB (x 0) (x 1) (x 2) (x 3)
/-- Below B nothing but block N has turned. -/
structure KB (B N : Nat) (w w' : World) : Prop where
  os : w'.os = w.os
  tape : w'.tape = w.tape
  output : w'.output = w.output
  size : w.heap.size ≤ w'.heap.size
  block : ∀ k, k < B → k ≠ N → w'.heap[k]? = w.heap[k]?
theorem KB.refl (B N : Nat) (w : World) : KB B N w w := ⟨rfl, rfl, rfl, Nat.le_refl _, fun _ _ _ => rfl⟩
theorem KB.below {B N B' : Nat} {a w w' : World} (h : KB B N a w) (hb : Below B' w w') (hB : B ≤ B') : KB B N a w' :=
  ⟨hb.os.trans h.os, hb.tape.trans h.tape, hb.output.trans h.output, Nat.le_trans h.size hb.size, fun k h1 h2 => (hb.block k (by omega)).trans (h.block k h1 h2)⟩
theorem KB.alloc {B N : Nat} {a w : World} (h : KB B N a w) (hB : B ≤ w.heap.size) (o : Obj) : KB B N a (w.alloc o) := h.below ((Below.refl B w).alloc hB o) (Nat.le_refl _)
theorem KB.drew {B N : Nat} {a w : World} (h : KB B N a w) : KB B N a w.drew := h.below ((Below.refl B w).drew) (Nat.le_refl _)
theorem KB.drewN {B N : Nat} {a w : World} (h : KB B N a w) (n : Nat) : KB B N a (w.drewN n) := h.below (below_drewN (Below.refl B w) n) (Nat.le_refl _)
theorem KB.on {B N b : Nat} {a w w' : World} (h : KB B N a w) (ho : On w w' b) (hb : b = N ∨ B ≤ b) : KB B N a w' :=
  ⟨ho.os.trans h.os, ho.tape.trans h.tape, ho.output.trans h.output, by rw [ho.size]; exact h.size, fun k h1 h2 => (ho.block k (by omega)).trans (h.block k h1 h2)⟩
theorem KB.put1 {B N b : Nat} {a w : World} (h : KB B N a w) (hb : b = N ∨ B ≤ b) (i : Nat) (v : Value) : KB B N a (w.setCell ⟨b, i, none⟩ v) := h.on ((On.refl w b).put i v) hb
theorem KB.put5 {B N c : Nat} {a w : World} (h : KB B N a w) (hc : c = N ∨ B ≤ c) (y0 y1 y2 y3 y4 : Value) :
    KB B N a (((((w.setCell ⟨c, 0, none⟩ y0).setCell ⟨c, 1, none⟩ y1).setCell ⟨c, 2, none⟩ y2).setCell ⟨c, 3, none⟩ y3).setCell ⟨c, 4, none⟩ y4) :=
  ((((h.put1 hc 0 y0).put1 hc 1 y1).put1 hc 2 y2).put1 hc 3 y3).put1 hc 4 y4
theorem KB.toBelow {B N : Nat} {a w : World} (h : KB B N a w) (hN : N ≤ B) : Below N a w := ⟨h.os, h.tape, h.output, h.size, fun k hk => h.block k (by omega) (by omega)⟩
theorem KB.cell {B N : Nat} {w w' : World} (h : KB B N w w') {p : Addr} (hp : p.block < B) (hn : p.block ≠ N) : w'.cell? p = w.cell? p := World.cell?_of_block (w := w) (h.block p.block hp hn)
theorem KB.frozen {B N : Nat} {w w' : World} (h : KB B N w w') {p : Addr} (hp : p.block < B) (hn : p.block ≠ N) : w'.frozen? p = w.frozen? p := World.frozen?_of_block (w := w) (h.block p.block hp hn)
theorem KB.trans {B N B' : Nat} {a w w' : World} (h : KB B N a w) (k : KB B' N w w') (hB : B ≤ B') : KB B N a w' :=
  ⟨k.os.trans h.os, k.tape.trans h.tape, k.output.trans h.output, Nat.le_trans h.size k.size, fun i h1 h2 => (k.block i (by omega) h2).trans (h.block i h1 h2)⟩
theorem Row.kb {w w1 : World} {b N : Nat} {vs : List Value} (h : Row w b vs) (hk : KB w.heap.size N w w1) (hn : b ≠ N) : Row w1 b vs :=
  ⟨Nat.lt_of_lt_of_le h.lt hk.size, fun i _ hv => ⟨(hk.cell (p := ⟨b, i, none⟩) h.lt hn).trans (h.c i hv), (hk.frozen (p := ⟨b, i, none⟩) h.lt hn).trans (h.f i hv)⟩⟩
theorem Row.put56 {w : World} {b : Nat} {x0 x1 x2 x3 x4 x5 : Value} (h : Row w b [x0, x1, x2, x3, x4, x5]) (y0 y1 y2 y3 y4 : Value) :
    Row (((((w.setCell ⟨b, 0, none⟩ y0).setCell ⟨b, 1, none⟩ y1).setCell ⟨b, 2, none⟩ y2).setCell ⟨b, 3, none⟩ y3).setCell ⟨b, 4, none⟩ y4) b [y0, y1, y2, y3, y4, x5] :=
  ((((h.set 0 (by simp) y0).set 1 (by simp) y1).set 2 (by simp) y2).set 3 (by simp) y3).set 4 (by simp) y4
theorem Row.of_on {w w' : World} {b : Nat} {vs us : List Value} (h : On w w' b) (hr : Row w b vs) (hl : us.length = vs.length) (hc : ∀ i u, us[i]? = some u → w'.cell? ⟨b, i, none⟩ = some u) : Row w' b us :=
  ⟨by rw [h.size]; exact hr.lt, fun i u hu => ⟨hc i u hu, by
    rw [h.frozen]
    have hi : i < us.length := by by_cases e : i < us.length; exact e; (simp [e] at hu)
    exact hr.f i (List.getElem?_eq_getElem (by omega))⟩⟩
section
variable (N A c c' : Nat) (s t : Bool) (x y : Nat → Int) (w : World) (hne : A ≠ N) (hr : Row w N (numv s x 0)) (ha : Row w A [.bool t, .int .u64 (y 0), .int .u64 (y 1), .int .u64 (y 2), .int .u64 (y 3)])
  (hbx : ∀ i, 0 ≤ x i ∧ x i < B64) (hby : ∀ i, 0 ≤ y i ∧ y i < B64)
include hne hr ha hbx hby
theorem addTo_num : Calls Tryz.prog 151 #[.slice (some ⟨N, 1, none⟩) 4 c, .slice (some ⟨A, 1, none⟩) 4 c'] w fun e w' =>
    e = .returned (.int .u64 (carF x y 4)) ∧ Row w' N (numv s (sumF x y) 0) ∧ On w w' N := by
  refine (addTo_any x y 4 4 N 1 A 1 c c' w (by omega) hne (fun i hi => ?_) (fun i hi => ?_) (fun i h1 h2 => by omega) hbx hby).mono ?_
  · match i, hi with
    | 0, _ => exact ⟨hr.c 1 rfl, hr.f 1 rfl⟩
    | 1, _ => exact ⟨hr.c 2 rfl, hr.f 2 rfl⟩
    | 2, _ => exact ⟨hr.c 3 rfl, hr.f 3 rfl⟩
    | 3, _ => exact ⟨hr.c 4 rfl, hr.f 4 rfl⟩
  · match i, hi with
    | 0, _ => exact ha.c 1 rfl
    | 1, _ => exact ha.c 2 rfl
    | 2, _ => exact ha.c 3 rfl
    | 3, _ => exact ha.c 4 rfl
  · rintro e w' ⟨rfl, ho, h1, h2⟩
    refine ⟨rfl, Row.of_on ho hr rfl (fun i u hu => ?_), ho⟩
    match i, hu with
    | 0, hu => rw [h2 0 (by omega)]; exact (hr.c 0 rfl).trans hu
    | 1, hu => exact (h1 0 (by omega)).trans hu
    | 2, hu => exact (h1 1 (by omega)).trans hu
    | 3, hu => exact (h1 2 (by omega)).trans hu
    | 4, hu => exact (h1 3 (by omega)).trans hu
    | 5, hu => rw [h2 5 (by omega)]; exact (hr.c 5 rfl).trans hu
theorem takeFrom_num : Calls Tryz.prog 152 #[.slice (some ⟨N, 1, none⟩) 4 c, .slice (some ⟨A, 1, none⟩) 4 c'] w fun e w' =>
    e = .returned (.tuple #[]) ∧ Row w' N (numv s (difF x y) 0) ∧ On w w' N := by
  refine (takeFrom_any x y 4 N 1 A 1 c c' w (by omega) hne (fun i hi => ?_) (fun i hi => ?_) hbx hby).mono ?_
  · match i, hi with
    | 0, _ => exact ⟨hr.c 1 rfl, hr.f 1 rfl⟩
    | 1, _ => exact ⟨hr.c 2 rfl, hr.f 2 rfl⟩
    | 2, _ => exact ⟨hr.c 3 rfl, hr.f 3 rfl⟩
    | 3, _ => exact ⟨hr.c 4 rfl, hr.f 4 rfl⟩
  · match i, hi with
    | 0, _ => exact ha.c 1 rfl
    | 1, _ => exact ha.c 2 rfl
    | 2, _ => exact ha.c 3 rfl
    | 3, _ => exact ha.c 4 rfl
  · rintro e w' ⟨rfl, ho, h1, h2⟩
    refine ⟨rfl, Row.of_on ho hr rfl (fun i u hu => ?_), ho⟩
    match i, hu with
    | 0, hu => rw [h2 0 (by omega)]; exact (hr.c 0 rfl).trans hu
    | 1, hu => exact (h1 0 (by omega)).trans hu
    | 2, hu => exact (h1 1 (by omega)).trans hu
    | 3, hu => exact (h1 2 (by omega)).trans hu
    | 4, hu => exact (h1 3 (by omega)).trans hu
    | 5, hu => rw [h2 5 (by omega)]; exact (hr.c 5 rfl).trans hu
end
/-- What a number holds behind a step, or that it is too great. -/
def NumPost (N : Nat) (w : World) (r : Option (Bool × (Nat → Int))) (e : Ending) (w' : World) : Prop :=
  KB w.heap.size N w w' ∧ match r with
    | some (s, x) => e = .returned (.tuple #[]) ∧ Row w' N (numv s x 0)
    | none => e = .panicked [{ v := .iface 37 (.int .i64 110), recovered := false }]
/-- The sum of two numbers, or that it is too great. -/
def plusR (s t : Bool) (x y : Nat → Int) : Option (Bool × (Nat → Int)) :=
  if s = t then (if carF x y 4 = 0 then some (s && !zeroF (sumF x y), sumF x y) else none)
  else if ordF x y 4 < 0 then some (t && !zeroF (difF y x), difF y x) else some (s && !zeroF (difF x y), difF x y)
set_option maxHeartbeats 800000 in
theorem plus_same (N : Nat) (s : Bool) (x y : Nat → Int) (w : World) (hr : Row w N (numv s x 0)) (hbx : ∀ i, 0 ≤ x i ∧ x i < B64) (hby : ∀ i, 0 ≤ y i ∧ y i < B64) :
    Calls Tryz.prog 141 #[.pointer (some ⟨N, 0, none⟩), intv s y] w (NumPost N w (plusR s s x y)) := by
  have h0 := hr.c 0 rfl
  have lt := hr.lt
  have Hbx := Lib.hid hbx; clear hbx
  have Hby := Lib.hid hby; clear hby
  go_enter Tryz.func141, Tryz.ntmps141
  go_wp2
  go_quiet (fail)
  go_wp2_with fail
  generalize hW : World.drewN _ _ = W0
  have rN : Row W0 N (numv s x 0) := by rw [← hW]; exact (hr.alloc _).drewN _
  have rA : Row W0 w.heap.size [.bool s, .int .u64 (y 0), .int .u64 (y 1), .int .u64 (y 2), .int .u64 (y 3)] := by rw [← hW]; exact (Row.at rfl _ _).drewN _
  have hB : KB w.heap.size N w W0 := by rw [← hW]; exact ((KB.refl w.heap.size N w).alloc (Nat.le_refl _) _).drewN _
  clear hW hr h0
  have hne : w.heap.size ≠ N := by omega
  go_region_with ((go_at_call 151; refine (addTo_num N w.heap.size _ _ s s x y _ hne (Row.drew rN) (Row.drew rA) Hbx.out Hby.out).mono ?_; rintro e w1 ⟨rfl, r1, o1⟩; have c5 := r1.c 5 rfl; have f5 := r1.f 5 rfl))
  clear c5 f5
  generalize hW : World.setCell _ _ _ = W2
  have r2 : Row W2 N (numv s (sumF x y) (carF x y 4)) := by rw [← hW]; exact r1.set 5 (by simp) _
  have hB2 : KB w.heap.size N w W2 := by rw [← hW]; exact (hB.drew.on o1 (Or.inl rfl)).put1 (Or.inl rfl) _ _
  clear hW rN rA hB o1 r1
  by_cases hc : carF x y 4 = 0
  · rw [hc] at r2
    have HP : Hid (∀ e w', e = .returned (.tuple #[]) → Row w' N (numv (s && !zeroF (sumF x y)) (sumF x y) 0) → KB w.heap.size N w w' → NumPost N w (plusR s s x y) e w') :=
      Lib.hid (fun e w' h1 h2 h3 => ⟨h3, by rw [plusR, if_pos rfl, if_pos hc]; exact ⟨h1, h2⟩⟩)
    have HC := Lib.hid hc; clear hc
    go_wp2_with fail
    refine (settle_ok N s _ _ _ _ W2 r2).mono ?_
    rintro e w3 ⟨rfl, rfl⟩
    go_wp2
    go_end0
    exact HP.out _ _ rfl (r2.set 0 (by simp) _) (hB2.put1 (Or.inl rfl) _ _)
  · have HP : Hid (∀ e w', e = .panicked [{ v := .iface 37 (.int .i64 110), recovered := false }] → KB w.heap.size N w w' → NumPost N w (plusR s s x y) e w') :=
      Lib.hid (fun e w' h1 h3 => ⟨h3, by rw [plusR, if_pos rfl, if_neg hc]; exact h1⟩)
    have HC := Lib.hid hc; clear hc
    go_wp2_with fail
    refine (settle_over N s _ _ _ _ _ W2 HC.out r2).mono ?_
    rintro e w3 ⟨rfl, rfl⟩
    go_wp2
    exact ⟨rfl, HP.out _ _ rfl hB2⟩
section
variable (N A c c' : Nat) (s t : Bool) (x y : Nat → Int) (w : World) (hr : Row w N (numv s x 0)) (ha : Row w A [.bool t, .int .u64 (y 0), .int .u64 (y 1), .int .u64 (y 2), .int .u64 (y 3)])
include hr ha
theorem order_num : Calls Tryz.prog 114 #[.slice (some ⟨N, 1, none⟩) 4 c, .slice (some ⟨A, 1, none⟩) 4 c'] w fun e w' => e = .returned (.int .i64 (ordF x y 4)) ∧ ∃ k, w' = w.drewN k := by
  refine order_any x y 4 N 1 A 1 c c' w (by omega) (fun i hi => ?_) (fun i hi => ?_)
  · match i, hi with
    | 0, _ => exact hr.c 1 rfl
    | 1, _ => exact hr.c 2 rfl
    | 2, _ => exact hr.c 3 rfl
    | 3, _ => exact hr.c 4 rfl
  · match i, hi with
    | 0, _ => exact ha.c 1 rfl
    | 1, _ => exact ha.c 2 rfl
    | 2, _ => exact ha.c 3 rfl
    | 3, _ => exact ha.c 4 rfl
end
set_option maxHeartbeats 800000 in
theorem plus_more (N : Nat) (s t : Bool) (hst : (s == t) = false) (x y : Nat → Int) (w : World) (hr : Row w N (numv s x 0)) (hbx : ∀ i, 0 ≤ x i ∧ x i < B64) (hby : ∀ i, 0 ≤ y i ∧ y i < B64) (ho : 0 ≤ ordF x y 4) :
    Calls Tryz.prog 141 #[.pointer (some ⟨N, 0, none⟩), intv t y] w (NumPost N w (plusR s t x y)) := by
  have HP : Hid (∀ e w', e = .returned (.tuple #[]) → Row w' N (numv (s && !zeroF (difF x y)) (difF x y) 0) → KB w.heap.size N w w' → NumPost N w (plusR s t x y) e w') :=
    Lib.hid (fun e w' h1 h2 h3 => ⟨h3, by rw [plusR, if_neg (by simpa using hst), if_neg (by omega)]; exact ⟨h1, h2⟩⟩)
  have h0 := hr.c 0 rfl
  have lt := hr.lt
  have Hbx := Lib.hid hbx; clear hbx
  have Hby := Lib.hid hby; clear hby
  go_enter Tryz.func141, Tryz.ntmps141
  go_wp2
  go_quiet (fail)
  go_wp2_with fail
  generalize hW : World.drewN _ _ = W0
  have rN : Row W0 N (numv s x 0) := by rw [← hW]; exact (hr.alloc _).drewN _
  have rA : Row W0 w.heap.size [.bool t, .int .u64 (y 0), .int .u64 (y 1), .int .u64 (y 2), .int .u64 (y 3)] := by rw [← hW]; exact (Row.at rfl _ _).drewN _
  have hB : KB w.heap.size N w W0 := by rw [← hW]; exact ((KB.refl w.heap.size N w).alloc (Nat.le_refl _) _).drewN _
  clear hW hr h0
  have hne : w.heap.size ≠ N := by omega
  go_quiet ((go_at_call 114; exact Calls.quiet_of (order_num N w.heap.size _ _ s t x y _ (Row.drewN rN _) (Row.drewN rA _))))
  go_wp2_with fail
  go_region_with ((go_at_call 152; refine (takeFrom_num N w.heap.size _ _ s t x y _ hne (Row.drewN rN _) (Row.drewN rA _) Hbx.out Hby.out).mono ?_; rintro e w1 ⟨rfl, r1, o1⟩))
  have hB1 : KB w.heap.size N w w1 := (hB.drewN _).on o1 (Or.inl rfl)
  clear rN rA hB o1
  go_wp2_with fail
  refine (settle_ok N s _ _ _ _ w1 r1).mono ?_
  rintro e w3 ⟨rfl, rfl⟩
  go_wp2
  go_end0
  exact HP.out _ _ rfl (r1.set 0 (by simp) _) (hB1.put1 (Or.inl rfl) _ _)
set_option maxHeartbeats 1600000 in
theorem plus_less (N : Nat) (s t : Bool) (hst : (s == t) = false) (x y : Nat → Int) (w : World) (hr : Row w N (numv s x 0)) (hbx : ∀ i, 0 ≤ x i ∧ x i < B64) (hby : ∀ i, 0 ≤ y i ∧ y i < B64) (ho : ordF x y 4 < 0) :
    Calls Tryz.prog 141 #[.pointer (some ⟨N, 0, none⟩), intv t y] w (NumPost N w (plusR s t x y)) := by
  have HP : Hid (∀ e w', e = .returned (.tuple #[]) → Row w' N (numv (t && !zeroF (difF y x)) (difF y x) 0) → KB w.heap.size N w w' → NumPost N w (plusR s t x y) e w') :=
    Lib.hid (fun e w' h1 h2 h3 => ⟨h3, by rw [plusR, if_neg (by simpa using hst), if_pos ho]; exact ⟨h1, h2⟩⟩)
  have h0 := hr.c 0 rfl
  have lt := hr.lt
  have Hbx := Lib.hid hbx; clear hbx
  have Hby := Lib.hid hby; clear hby
  go_enter Tryz.func141, Tryz.ntmps141
  go_wp2
  go_quiet (fail)
  go_wp2_with fail
  generalize hW : World.drewN _ _ = W0
  have rN : Row W0 N (numv s x 0) := by rw [← hW]; exact (hr.alloc _).drewN _
  have rA : Row W0 w.heap.size [.bool t, .int .u64 (y 0), .int .u64 (y 1), .int .u64 (y 2), .int .u64 (y 3)] := by rw [← hW]; exact (Row.at rfl _ _).drewN _
  have hB : KB w.heap.size N w W0 := by rw [← hW]; exact ((KB.refl w.heap.size N w).alloc (Nat.le_refl _) _).drewN _
  clear hW hr h0
  have hne : w.heap.size ≠ N := by omega
  generalize w.heap.size = A at *
  go_quiet ((go_at_call 114; exact Calls.quiet_of (order_num N A _ _ s t x y _ (Row.drewN rN _) (Row.drewN rA _))))
  have hne' : N ≠ A := fun h => hne h.symm
  have a0 := rA.c 0 rfl
  have a1 := rA.c 1 rfl
  have a2 := rA.c 2 rfl
  have a3 := rA.c 3 rfl
  have a4 := rA.c 4 rfl
  have b0 := rN.c 0 rfl
  have b1 := rN.c 1 rfl
  have b2 := rN.c 2 rfl
  have b3 := rN.c 3 rfl
  have b4 := rN.c 4 rfl
  have c0 := rA.f 0 rfl
  have c1 := rA.f 1 rfl
  have c2 := rA.f 2 rfl
  have c3 := rA.f 3 rfl
  have c4 := rA.f 4 rfl
  have d0 := rN.f 0 rfl
  have d1 := rN.f 1 rfl
  have d2 := rN.f 2 rfl
  have d3 := rN.f 3 rfl
  have d4 := rN.f 4 rfl
  go_wp2_with fail
  go_region
  go_wp2_with fail
  clear a0 a1 a2 a3 a4 b0 b1 b2 b3 b4 c0 c1 c2 c3 c4 d0 d1 d2 d3 d4
  generalize hW : World.setCell _ _ _ = W2
  have rN2 : Row W2 N (numv t y 0) := by rw [← hW]; exact ((rN.drewN _).put56 _ _ _ _ _).other5 hne _ _ _ _ _
  have rA2 : Row W2 A [.bool s, .int .u64 (x 0), .int .u64 (x 1), .int .u64 (x 2), .int .u64 (x 3)] := by rw [← hW]; exact ((rA.drewN _).other5 hne' _ _ _ _ _).put5 _ _ _ _ _
  have hB2 : KB A N w W2 := by rw [← hW]; exact ((hB.drewN _).put5 (Or.inl rfl) _ _ _ _ _).put5 (Or.inr (Nat.le_refl _)) _ _ _ _ _
  clear hW rN rA hB
  go_region_with ((go_at_call 152; refine (takeFrom_num N A _ _ t s y x _ hne (Row.drew rN2) (Row.drew rA2) Hby.out Hbx.out).mono ?_; rintro e w1 ⟨rfl, r1, o1⟩))
  have hB1 : KB A N w w1 := hB2.drew.on o1 (Or.inl rfl)
  clear rN2 rA2 hB2 o1
  go_wp2_with fail
  refine (settle_ok N t _ _ _ _ w1 r1).mono ?_
  rintro e w3 ⟨rfl, rfl⟩
  go_wp2
  go_end0
  exact HP.out _ _ rfl (r1.set 0 (by simp) _) (hB1.put1 (Or.inl rfl) _ _)
/-- The step of sums. -/
theorem plus_any (N : Nat) (s t : Bool) (x y : Nat → Int) (w : World) (hr : Row w N (numv s x 0)) (hbx : ∀ i, 0 ≤ x i ∧ x i < B64) (hby : ∀ i, 0 ≤ y i ∧ y i < B64) :
    Calls Tryz.prog 141 #[.pointer (some ⟨N, 0, none⟩), intv t y] w (NumPost N w (plusR s t x y)) := by
  by_cases e : s = t
  · subst e; exact plus_same N s x y w hr hbx hby
  · by_cases ho : ordF x y 4 < 0
    · exact plus_less N s t (by simpa using e) x y w hr hbx hby ho
    · exact plus_more N s t (by simpa using e) x y w hr hbx hby (by omega)
end Go.Proofs.YthmobcpdbgmbeaaGreatDoor
