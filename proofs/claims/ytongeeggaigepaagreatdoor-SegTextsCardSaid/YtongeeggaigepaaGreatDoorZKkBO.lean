import Derived.Test.YtongeeggaigepaaGreatDoorZKkBM
import Derived.Test.YtongeeggaigepaaGreatDoorZKkI
import Derived.Test.YtongeeggaigepaaGreatDoorZKkBase
namespace Go.Proofs.YtongeeggaigepaaGreatDoor
open Go.RowKit
def prodF (x y : Nat → Int) : Nat := valW (fun i => (x i).toNat) 4 * valW (fun i => (y i).toNat) 4
def timesR (s t : Bool) (x y : Nat → Int) : Option (Bool × (Nat → Int)) :=
 if prodF x y < 18446744073709551616 ^ 4 then some ((s != t) && !zeroF (fun i => ((W64 (prodF x y) i : Nat) : Int)), fun i => ((W64 (prodF x y) i : Nat) : Int)) else none
theorem timesR_def (s t : Bool) (x y : Nat → Int) : timesR s t x y = if prodF x y < 18446744073709551616 ^ 4 then some ((s != t) && !zeroF (fun i => ((W64 (prodF x y) i : Nat) : Int)), fun i => ((W64 (prodF x y) i : Nat) : Int)) else none := rfl
theorem timesR_bd {s t : Bool} {x y : Nat → Int} {q : Bool × (Nat → Int)} (h : timesR s t x y = some q) : BdF q.2 := by
 unfold timesR at h
 split at h
 ·cases h
  exact fun i => W64_bd _ i
 ·cases h
theorem nat_row {x : Nat → Int} (h : BdF x) : ∃ X : Nat → Nat, x = (fun i => (X i : Int)) ∧ ∀ i, X i < 18446744073709551616 :=
 ⟨fun i => (x i).toNat, funext fun i => by have := (h i).1; show x i = ((x i).toNat : Nat); omega, fun i => by have := (h i).1; have := (h i).2; unfold B64 at this; show (x i).toNat < _; omega⟩
theorem product_int (x y : Nat → Int) (w : World) (hx : BdF x) (hy : BdF y) :
 Calls Tryz.prog 142 #[wv (x 0) (x 1) (x 2) (x 3), wv (y 0) (y 1) (y 2) (y 3)] w fun e w' => ∃ o : Int, e = .returned (.tuple #[wv (W64 (prodF x y) 0 : Nat) (W64 (prodF x y) 1 : Nat) (W64 (prodF x y) 2 : Nat) (W64 (prodF x y) 3 : Nat), .int .u64 o]) ∧
  (o = 0 ↔ prodF x y < 18446744073709551616 ^ 4) ∧ Below w.heap.size w w' := by
 obtain ⟨X, rfl, hX⟩ := nat_row hx
 obtain ⟨Y, rfl, hY⟩ := nat_row hy
 refine (product_any X Y w hX hY).mono ?_
 rintro e w' ⟨⟨v, rfl, o, rfl, ho⟩, hb⟩
 have e : prodF (fun i => (X i : Int)) (fun i => (Y i : Int)) = valW X 4 * valW Y 4 := rfl
 rw [e]
 exact ⟨o, rfl, by rw [← ho]; omega, hb⟩
set_option maxHeartbeats 1600000 in
theorem times_any (N : Nat) (s t : Bool) (x y : Nat → Int) (w : World) (hr : Row w N (numv s x 0)) (hbx : BdF x) (hby : BdF y) :
 Calls Tryz.prog 123 #[.pointer (some ⟨N, 0, none⟩), intv t y] w (NumPost N w (timesR s t x y)) := by
 have h0 := hr.c 0 rfl
 have f0 := hr.f 0 rfl
 have lt := hr.lt
 have HC := Lib.hid (fun W => product_int x y W hbx hby)
 have HT := Lib.hid (timesR_def s t x y)
 clear hbx hby
 go_enter Tryz.func123, Tryz.ntmps123
 go_wp2_with fail
 go_region
 clear h0 f0
 generalize hW : World.drew _ = W0
 have rN : Row W0 N [.bool (!(s == t)), .int .u64 (x 0), .int .u64 (x 1), .int .u64 (x 2), .int .u64 (x 3), .int .u64 0] := by rw [← hW]; exact ((hr.set 0 (by simp) _).alloc _).drew
 have rA : Row W0 w.heap.size [.bool t, .int .u64 (y 0), .int .u64 (y 1), .int .u64 (y 2), .int .u64 (y 3)] := by rw [← hW]; exact (Row.at (by simp [World.setCell]) _ _).drew
 have hB : KB w.heap.size N w W0 := by rw [← hW]; exact (((KB.refl w.heap.size N w).put1 (Or.inl rfl) 0 _).alloc (by simp [World.setCell]) _).drew
 clear hW hr
 have a1 := rN.c 1 rfl
 have a2 := rN.c 2 rfl
 have a3 := rN.c 3 rfl
 have a4 := rN.c 4 rfl
 have b1 := rA.c 1 rfl
 have b2 := rA.c 2 rfl
 have b3 := rA.c 3 rfl
 have b4 := rA.c 4 rfl
 go_wp2_with fail
 go_region_with ((go_at_call 142; with_reducible refine (HC.out _).mono ?_; rintro e w1 ⟨o, rfl, ho, hb⟩; have rN1 := (Row.drew rN).after hb; have hB1 := Lib.hid ((KB.drew hB).below hb (by have := hB.size; simp; omega)); have HO := Lib.hid ho; clear ho hb; have c1 := rN1.c 1 rfl; have c2 := rN1.c 2 rfl; have c3 := rN1.c 3 rfl; have c4 := rN1.c 4 rfl; have c5 := rN1.c 5 rfl; have f1 := rN1.f 1 rfl; have f2 := rN1.f 2 rfl; have f3 := rN1.f 3 rfl; have f4 := rN1.f 4 rfl; have f5 := rN1.f 5 rfl))
 all_goals
  clear a1 a2 a3 a4 b1 b2 b3 b4 c1 c2 c3 c4 c5 f1 f2 f3 f4 f5
  generalize hW : World.setCell _ _ _ = W2
  have r2 : Row W2 N [.bool (!(s == t)), .int .u64 ((W64 (prodF x y) 0 : Nat) : Int), .int .u64 ((W64 (prodF x y) 1 : Nat) : Int), .int .u64 ((W64 (prodF x y) 2 : Nat) : Int), .int .u64 ((W64 (prodF x y) 3 : Nat) : Int), .int .u64 o] := by
   rw [← hW]
   first
    | exact ((((rN1.set 1 (by simp) _).set 2 (by simp) _).set 3 (by simp) _).set 4 (by simp) _).set 5 (by simp) _
    | exact ((((rN1.set 5 (by simp) _).set 1 (by simp) _).set 2 (by simp) _).set 3 (by simp) _).set 4 (by simp) _
  have hB2 : KB w.heap.size N w W2 := by
   rw [← hW]
   exact ((((hB1.out.put1 (Or.inl rfl) _ _).put1 (Or.inl rfl) _ _).put1 (Or.inl rfl) _ _).put1 (Or.inl rfl) _ _).put1 (Or.inl rfl) _ _
  clear hW rN1 hB1 rN rA hB
  by_cases hP : prodF x y < 18446744073709551616 ^ 4
  ·obtain rfl : o = 0 := HO.out.2 hP
   have HP : Hid (∀ e w', e = .returned (.tuple #[]) → Row w' N (numv ((s != t) && !zeroF (fun i => ((W64 (prodF x y) i : Nat) : Int))) (fun i => ((W64 (prodF x y) i : Nat) : Int)) 0) → KB w.heap.size N w w' → NumPost N w (timesR s t x y) e w') :=
    Lib.hid (fun e w' h1 h2 h3 => ⟨h3, by rw [HT.out, if_pos hP]; exact ⟨h1, h2⟩⟩)
   clear hP HO
   go_wp2_with fail
   refine (settle_ok N _ _ _ _ _ W2 r2).mono ?_
   rintro e w3 ⟨rfl, rfl⟩
   go_wp2_with fail
   go_end0
   exact HP.out _ _ rfl (r2.set 0 (by simp) _) (hB2.put1 (Or.inl rfl) _ _)
  ·have ho : o ≠ 0 := fun h => hP (HO.out.1 h)
   have HP : Hid (∀ e w', e = .panicked [{ v := .iface 26 (.int .i64 110), recovered := false }] → KB w.heap.size N w w' → NumPost N w (timesR s t x y) e w') :=
    Lib.hid (fun e w' h1 h3 => ⟨h3, by rw [HT.out, if_neg hP]; exact h1⟩)
   have Ho := Lib.hid ho
   clear hP HO ho
   go_wp2_with fail
   refine (settle_over N _ _ _ _ _ _ W2 Ho.out r2).mono ?_
   rintro e w3 ⟨rfl, rfl⟩
   go_wp2_with fail
   exact ⟨rfl, HP.out _ _ rfl hB2⟩
end Go.Proofs.YtongeeggaigepaaGreatDoor
namespace Go.Proofs.YtongeeggaigepaaGreatDoor
open Go.RowKit
theorem times_step : IsStep 123 timesR := ⟨fun N s t x y w hr hx hy => times_any N s t x y w hr hx hy, fun _ _ _ _ _ h => timesR_bd h, fun _ _ => Tryz.call123 _ _⟩
def oneF : Nat → Int
 | 0 => 1
 | _ => 0
theorem one_bd : BdF oneF := fun i => by
 match i with
 | 0 => exact ⟨by decide, by decide⟩
 | _ + 1 => exact ⟨Int.le_refl _, by show (0 : Int) < B64; decide⟩
set_option maxHeartbeats 800000 in
theorem mul_o (A : Option Addr) (b o n c : Nat) (neg : Nat → Bool) (m : Nat → Nat → Int) (w : World) (hn : n ≤ 1000000000000000000)
 (lb : b < w.heap.size) (hi : IntsAt w b o n neg m) (hm : ∀ k, BdF (m k)) (hA : 0 < n → A = some ⟨b, o, none⟩) :
 Calls Tryz.prog 88 #[.slice A n c] w fun e w' => e = .returned (afterR timesR neg m false oneF n) ∧ Below w.heap.size w w' := by
 have hmf : ∀ (fn : Fn) (first cap : Array Value) (w : World), (Instr.makeFunc fn first cap).run Tryz.prog w = .ok (.func fn first cap) w := fun _ _ _ _ => rfl
 have Hi := Lib.hid hi; clear hi
 have Hm := Lib.hid hm; clear hm
 obtain ⟨s, x, k, hA⟩ := afterR_form timesR neg m false oneF n
 have HA := Lib.hid hA; clear hA
 have HAd := Lib.hid hA; clear hA
 go_enter Tryz.func88, Tryz.ntmps88
 go_wp2_with fail
 refine (of_one _).mono ?_
 rintro e w1 ⟨rfl, hb1⟩
 have hB : Below w.heap.size w w1 := ((Below.refl w.heap.size w).alloc (Nat.le_refl _) _).trans (hb1.mono (by simp))
 have rR : Row w1 w.heap.size [.bool false, .int .u64 0, .int .u64 0, .int .u64 0, .int .u64 0] := (Row.at rfl _ _).after hb1
 clear hb1
 go_wp2_with fail
 generalize hW : World.alloc _ _ = W2
 have rN : Row W2 w1.heap.size (numv false oneF 0) := by rw [← hW]; exact Row.at rfl _ _
 have lR := rR.lt
 have hB2 : Below w.heap.size w W2 := by rw [← hW]; exact hB.alloc hB.size _
 have rR2 : Row W2 w.heap.size [.bool false, .int .u64 0, .int .u64 0, .int .u64 0, .int .u64 0] := by rw [← hW]; exact rR.alloc _
 clear hW rR
 have hsz := hB.size
 refine (after_o 123 timesR times_step A w1.heap.size b o n c neg m false oneF W2 hn rN.lt (by have := hB2.size; omega) (by omega) (Hi.out.below hB2 lb) rN one_bd Hm.out HAd.out).mono ?_
 rintro e w3 ⟨rfl, hk⟩
 rw [HA.out]
 have rR3 : Row w3 w.heap.size [.bool false, .int .u64 0, .int .u64 0, .int .u64 0, .int .u64 0] :=
  ⟨Nat.lt_of_lt_of_le rR2.lt hk.size, fun i _ hv => ⟨(hk.cell (p := ⟨w.heap.size, i, none⟩) rR2.lt (by simp; omega)).trans (rR2.c i hv), (hk.frozen (p := ⟨w.heap.size, i, none⟩) rR2.lt (by simp; omega)).trans (rR2.f i hv)⟩⟩
 have hB3 : Below w.heap.size w w3 := hB2.trans ((hk.toBelow (by have := rN.lt; omega)).mono hsz)
 clear hk rR2 hB2 rN hB
 have a0 := rR3.c 0 rfl
 have a1 := rR3.c 1 rfl
 have a2 := rR3.c 2 rfl
 have a3 := rR3.c 3 rfl
 have a4 := rR3.c 4 rfl
 have b0 := rR3.f 0 rfl
 have b1 := rR3.f 1 rfl
 have b2 := rR3.f 2 rfl
 have b3 := rR3.f 3 rfl
 have b4 := rR3.f 4 rfl
 go_wp2
 clear a0 a1 a2 a3 a4 b0 b1 b2 b3 b4
 generalize hW : World.setCell _ _ _ = W4
 have rR4 : Row W4 w.heap.size [.bool s, .int .u64 (x 0), .int .u64 (x 1), .int .u64 (x 2), .int .u64 (x 3)] := by rw [← hW]; exact rR3.put5 _ _ _ _ _
 replace hB3 : Below w.heap.size w W4 := by rw [← hW]; exact below_put5 hB3 (Nat.le_refl _) _ _ _ _ _
 clear hW rR3
 exact bodyPost_ret (v := .tuple #[intv s x, .int .i64 k]) (by simp [results, Tryz.results88, go_sem, rR4.c 0 rfl, rR4.c 1 rfl, rR4.c 2 rfl, rR4.c 3 rfl, rR4.c 4 rfl]) rfl ⟨by rw [HA.out], hB3⟩
end Go.Proofs.YtongeeggaigepaaGreatDoor
