import Derived.Test.YtcabndpmfkimgaaGreatDoorZKkBG
import Derived.Test.YtcabndpmfkimgaaGreatDoorKkE
import Derived.Test.YtcabndpmfkimgaaGreatDoorZKkBX
import Derived.Deep.RegionHeld3
import Derived.Deep.CutBlock
namespace Go.Proofs.YtcabndpmfkimgaaGreatDoor
open Go.RowKit
theorem tdiv_sign (x y : Int) : x.tdiv y = (if (!(decide (x < 0) == decide (y < 0))) = true then -((x.natAbs / y.natAbs : Nat) : Int) else ((x.natAbs / y.natAbs : Nat) : Int)) := by
 rcases Int.natAbs_eq x with h | h <;> rcases Int.natAbs_eq y with k | k <;> generalize x.natAbs = m at * <;> generalize y.natAbs = n at * <;> subst h <;> subst k
 ·simp [Int.not_lt.2 (Int.natCast_nonneg _)]
 ·rcases Nat.eq_zero_or_pos n with rfl | hn
  ·simp
  ·have h1 : decide (-(n : Int) < 0) = true := decide_eq_true (by omega)
   have h2 : decide ((m : Int) < 0) = false := decide_eq_false (by omega)
   rw [h1, h2, Int.tdiv_neg]; rfl
 ·rcases Nat.eq_zero_or_pos m with rfl | hm
  ·simp
  ·have h1 : decide (-(m : Int) < 0) = true := decide_eq_true (by omega)
   have h2 : decide ((n : Int) < 0) = false := decide_eq_false (by omega)
   rw [h1, h2, Int.neg_tdiv]; rfl
 ·rcases Nat.eq_zero_or_pos m with rfl | hm
  ·simp
  ·rcases Nat.eq_zero_or_pos n with rfl | hn
   ·simp
   ·have h1 : decide (-(m : Int) < 0) = true := decide_eq_true (by omega)
    have h2 : decide (-(n : Int) < 0) = true := decide_eq_true (by omega)
    rw [h1, h2, Int.neg_tdiv, Int.tdiv_neg, Int.neg_neg]; rfl
theorem tmod_sign (x y : Int) : x.tmod y = (if decide (x < 0) = true then -((x.natAbs % y.natAbs : Nat) : Int) else ((x.natAbs % y.natAbs : Nat) : Int)) := by
 rcases Int.natAbs_eq x with h | h <;> rcases Int.natAbs_eq y with k | k <;> generalize x.natAbs = m at * <;> generalize y.natAbs = n at * <;> subst h <;> subst k
 ·rw [if_neg (by simp)]; rfl
 ·rw [if_neg (by simp), Int.tmod_neg]; rfl
 ·rcases Nat.eq_zero_or_pos m with rfl | hm
  ·simp
  ·rw [if_pos (by simp; omega), Int.neg_tmod]; rfl
 ·rcases Nat.eq_zero_or_pos m with rfl | hm
  ·simp
  ·rw [if_pos (by simp; omega), Int.neg_tmod, Int.tmod_neg]; rfl
theorem tdiv_abs (x y : Int) : (x.tdiv y).natAbs = x.natAbs / y.natAbs := by rw [tdiv_sign]; generalize x.natAbs / y.natAbs = q; split <;> omega
theorem tmod_abs (x y : Int) : (x.tmod y).natAbs = x.natAbs % y.natAbs := by rw [tmod_sign]; generalize x.natAbs % y.natAbs = q; split <;> omega
def QB (w : World) (xs ys us vs : List Value) (W : World) : Prop := Row W w.heap.size xs ∧ Row W (w.heap.size + 1) ys ∧ Row W (w.heap.size + 1 + 1) us ∧ Row W (w.heap.size + 1 + 1 + 1) vs ∧ Below w.heap.size w W
section
variable {w W W1 : World} {xs ys us vs : List Value}
theorem QB.after (h : QB w xs ys us vs W) (hb : Below W.heap.size W W1) : QB w xs ys us vs W1 :=
 ⟨h.1.after hb, h.2.1.after hb, h.2.2.1.after hb, h.2.2.2.1.after hb, h.2.2.2.2.trans (hb.mono h.2.2.2.2.size)⟩
theorem QB.drew (h : QB w xs ys us vs W) : QB w xs ys us vs W.drew := h.after (Below.refl _ _).drew
theorem QB.drewN (h : QB w xs ys us vs W) (k : Nat) : QB w xs ys us vs (W.drewN k) := h.after (below_drewN (Below.refl _ _) k)
theorem QB.alloc (h : QB w xs ys us vs W) (o : Obj) : QB w xs ys us vs (W.alloc o) := h.after ((Below.refl _ _).alloc (Nat.le_refl _) _)
theorem QB.first (w : World) (s t : Bool) (A B : Option Addr) (n m c d : Nat) (ta tb tc td : TypeId) :
 QB w [.bool s, .slice A n c] [.bool t, .slice B m d] [.bool false, .slice none 0 0] [.bool false, .slice none 0 0] ((((w.alloc (.cells #[.bool s, .slice A n c] ta)).alloc (.cells #[.bool t, .slice B m d] tb)).alloc (.cells #[.bool false, .slice none 0 0] tc)).alloc (.cells #[.bool false, .slice none 0 0] td)) :=
 ⟨(((Row.at rfl _ _).alloc _).alloc _).alloc _, ((Row.at (by simp) _ _).alloc _).alloc _, (Row.at (by simp) _ _).alloc _, Row.at (by simp) _ _, ((((Below.refl w.heap.size w).alloc (Nat.le_refl _) _).alloc (by simp) _).alloc (by simp; omega) _).alloc (by simp; omega) _⟩
theorem QB.put2 (h : QB w xs ys us vs W) {u0 u1 : Value} (hl : us.length = 2) : QB w xs ys [u0, u1] vs ((W.setCell ⟨w.heap.size + 1 + 1, 0, none⟩ u0).setCell ⟨w.heap.size + 1 + 1, 1, none⟩ u1) := by
 match us, hl with
 | [a, b], _ =>
   exact ⟨(h.1.other (p := ⟨w.heap.size + 1 + 1, 0, none⟩) (by show w.heap.size + 1 + 1 ≠ w.heap.size; omega) _).other (p := ⟨w.heap.size + 1 + 1, 1, none⟩) (by show w.heap.size + 1 + 1 ≠ w.heap.size; omega) _, (h.2.1.other (p := ⟨w.heap.size + 1 + 1, 0, none⟩) (by show w.heap.size + 1 + 1 ≠ w.heap.size + 1; omega) _).other (p := ⟨w.heap.size + 1 + 1, 1, none⟩) (by show w.heap.size + 1 + 1 ≠ w.heap.size + 1; omega) _,
    (h.2.2.1.set 0 (by simp) _).set 1 (by simp) _, (h.2.2.2.1.other (p := ⟨w.heap.size + 1 + 1, 0, none⟩) (by show w.heap.size + 1 + 1 ≠ w.heap.size + 1 + 1 + 1; omega) _).other (p := ⟨w.heap.size + 1 + 1, 1, none⟩) (by show w.heap.size + 1 + 1 ≠ w.heap.size + 1 + 1 + 1; omega) _, below_put1 (below_put1 h.2.2.2.2 (by omega) _ _) (by omega) _ _⟩
end
def QS (w : World) (xs ys : List Value) (W : World) : Prop := ∃ us vs, us.length = 2 ∧ vs.length = 2 ∧ QB w xs ys us vs W
section
variable {w W W1 : World} {xs ys us vs : List Value}
theorem QS.after (h : QS w xs ys W) (hb : Below W.heap.size W W1) : QS w xs ys W1 := by
 obtain ⟨us, vs, h1, h2, h⟩ := h
 exact ⟨us, vs, h1, h2, h.after hb⟩
theorem QS.drew (h : QS w xs ys W) : QS w xs ys W.drew := h.after (Below.refl _ _).drew
theorem QS.drewN (h : QS w xs ys W) (k : Nat) : QS w xs ys (W.drewN k) := h.after (below_drewN (Below.refl _ _) k)
theorem QS.put2 (h : QS w xs ys W) (u0 u1 : Value) : QS w xs ys ((W.setCell ⟨w.heap.size + 1 + 1, 0, none⟩ u0).setCell ⟨w.heap.size + 1 + 1, 1, none⟩ u1) := by
 obtain ⟨us, vs, h1, h2, h⟩ := h
 exact ⟨_, vs, rfl, h2, h.put2 h1⟩
theorem Row.two {b : Nat} {us : List Value} (h : Row W b us) (hl : us.length = 2) (i : Nat) (hi : i < 2) : (W.cell? ⟨b, i, none⟩).isSome = true ∧ W.frozen? ⟨b, i, none⟩ = false := by
 match us, hl with
 | [x, y], _ =>
   match i, hi with
   | 0, _ => exact ⟨by rw [h.c 0 rfl]; rfl, h.f 0 rfl⟩
   | 1, _ => exact ⟨by rw [h.c 1 rfl]; rfl, h.f 1 rfl⟩
theorem QS.two (h : QS w xs ys W) (i : Nat) (hi : i < 2) : ((W.cell? ⟨w.heap.size + 1 + 1, i, none⟩).isSome = true ∧ W.frozen? ⟨w.heap.size + 1 + 1, i, none⟩ = false) ∧ ((W.cell? ⟨w.heap.size + 1 + 1 + 1, i, none⟩).isSome = true ∧ W.frozen? ⟨w.heap.size + 1 + 1 + 1, i, none⟩ = false) := by
 obtain ⟨us, vs, h1, h2, h⟩ := h
 exact ⟨h.2.2.1.two h1 i hi, h.2.2.2.1.two h2 i hi⟩
theorem QS.at (h : QS w xs ys W) : Row W w.heap.size xs ∧ Row W (w.heap.size + 1) ys := by
 obtain ⟨us, vs, h1, h2, h⟩ := h
 exact ⟨h.1, h.2.1⟩
end
theorem DS.put4 {w W : World} {xs ys : List Value} {a : Bool} {a' : Value} {b : Bool} {b' : Value} {m : Nat} {A : Option Addr} (h : QB w xs ys [.bool a, a'] [.bool b, b'] W) (hd : DS W m A) {u0 v0 : Bool} {u1 v1 : Value} :
 DS ((((W.setCell ⟨w.heap.size + 1 + 1, 0, none⟩ (.bool u0)).setCell ⟨w.heap.size + 1 + 1, 1, none⟩ u1).setCell ⟨w.heap.size + 1 + 1 + 1, 0, none⟩ (.bool v0)).setCell ⟨w.heap.size + 1 + 1 + 1, 1, none⟩ v1) m A := by
 have r2 := h.2.2.1
 have h2 := h.put2 (u0 := .bool u0) (u1 := u1) rfl
 have r3 := h2.2.2.2.1
 refine DS.set_bool (X := w.heap.size + 1 + 1 + 1) (s := v0) ?_ (by rw [World.cell?_setCell_same' _ _ _ (by rw [r3.c 0 rfl]; rfl)]) 1 _
 refine DS.set_bool (X := w.heap.size + 1 + 1 + 1) (s := b) ?_ (r3.c 0 rfl) 0 _
 refine DS.set_bool (X := w.heap.size + 1 + 1) (s := u0) ?_ (by rw [World.cell?_setCell_same' _ _ _ (by rw [r2.c 0 rfl]; rfl)]) 1 _
 exact DS.set_bool (X := w.heap.size + 1 + 1) (s := a) hd (r2.c 0 rfl) 0 _
end Go.Proofs.YtcabndpmfkimgaaGreatDoor

namespace Go.Proofs.YtcabndpmfkimgaaGreatDoor
open Go.RowKit
def QuoPost (w : World) (q r : Int) (e : Ending) (w' : World) : Prop := ∃ A c B d, e = .returned (.tuple #[bigv q A c, bigv r B d]) ∧ L16 q.natAbs ≤ c ∧ L16 r.natAbs ≤ d ∧ DS w' q.natAbs A ∧ DS w' r.natAbs B ∧ Below w.heap.size w w'
section
variable {w W W1 : World} {xs ys us vs : List Value}
theorem QB.put3 (h : QB w xs ys us vs W) {u0 u1 : Value} (hl : vs.length = 2) : QB w xs ys us [u0, u1] ((W.setCell ⟨w.heap.size + 1 + 1 + 1, 0, none⟩ u0).setCell ⟨w.heap.size + 1 + 1 + 1, 1, none⟩ u1) := by
 match vs, hl with
 | [a, b], _ =>
   exact ⟨(h.1.other (p := ⟨w.heap.size + 1 + 1 + 1, 0, none⟩) (by show w.heap.size + 1 + 1 + 1 ≠ w.heap.size; omega) _).other (p := ⟨w.heap.size + 1 + 1 + 1, 1, none⟩) (by show w.heap.size + 1 + 1 + 1 ≠ w.heap.size; omega) _, (h.2.1.other (p := ⟨w.heap.size + 1 + 1 + 1, 0, none⟩) (by show w.heap.size + 1 + 1 + 1 ≠ w.heap.size + 1; omega) _).other (p := ⟨w.heap.size + 1 + 1 + 1, 1, none⟩) (by show w.heap.size + 1 + 1 + 1 ≠ w.heap.size + 1; omega) _,
    (h.2.2.1.other (p := ⟨w.heap.size + 1 + 1 + 1, 0, none⟩) (by show w.heap.size + 1 + 1 + 1 ≠ w.heap.size + 1 + 1; omega) _).other (p := ⟨w.heap.size + 1 + 1 + 1, 1, none⟩) (by show w.heap.size + 1 + 1 + 1 ≠ w.heap.size + 1 + 1; omega) _, (h.2.2.2.1.set 0 (by simp) _).set 1 (by simp) _, below_put1 (below_put1 h.2.2.2.2 (by omega) _ _) (by omega) _ _⟩
end
section
variable {w W W1 : World} {xs ys us vs : List Value}
theorem QS.put3 (h : QS w xs ys W) (u0 u1 : Value) : QS w xs ys ((W.setCell ⟨w.heap.size + 1 + 1 + 1, 0, none⟩ u0).setCell ⟨w.heap.size + 1 + 1 + 1, 1, none⟩ u1) := by
 obtain ⟨us, vs, h1, h2, h⟩ := h
 exact ⟨us, _, h1, rfl, h.put3 h2⟩
end
theorem field_big (u : Bool) (A : Option Addr) (n c : Nat) (W : World) : (Instr.field 47 (.agg #[.bool u, .slice A n c]) 1).run Tryz.prog W = .ok (.slice A n c) W := by kernel_rfl
theorem cellV_some {W : World} {b i : Nat} (h : (W.cell? ⟨b, i, none⟩).isSome = true) : W.cell? ⟨b, i, none⟩ = some (cellV W b i) := by
 unfold cellV
 obtain ⟨v, e⟩ := Option.isSome_iff_exists.1 h
 rw [e]; rfl
theorem word_q (m : Nat) (A : Option Addr) (c : Nat) (w : World) (ha : DS w m A) (hm : L16 m ≤ 3) :
 Calls Tryz.prog 99 #[.slice A (L16 m) c] w fun e w' => e = .returned (.int .i64 (m : Nat)) ∧ ∃ k, w' = w.drewN k :=
 (word_z m A c w ha hm).mono fun _ _ ⟨h, hw⟩ => ⟨h, 0, hw.symm⟩
set_option maxRecDepth 100000 in
set_option maxHeartbeats 2000000 in
theorem quo_small (x y : Int) (A B : Option Addr) (c d : Nat) (w : World) (ha : DS w x.natAbs A) (hb : DS w y.natAbs B) (la : L16 x.natAbs ≤ 3) (lb : L16 y.natAbs ≤ 3) (hy : y ≠ 0) :
 Calls Tryz.prog 62 #[bigv x A c, bigv y B d] w (QuoPost w (x.tdiv y) (x.tmod y)) := by
 have HW1 := Lib.hid (fun W (hW : Below w.heap.size w W) => word_q x.natAbs A c W (ha.below hW) la)
 have HW2 := Lib.hid (fun W (hW : Below w.heap.size w W) => word_q y.natAbs B d W (hb.below hW) lb)
 have hx2 := (word_val la).2
 have hy2 := (word_val lb).2
 have hn0 : 0 < y.natAbs := by omega
 have hq2 : x.natAbs / y.natAbs ≤ x.natAbs := Nat.div_le_self _ _
 have hr2 : x.natAbs % y.natAbs ≤ x.natAbs := Nat.mod_le _ _
 have e1 : ((x.natAbs : Nat) : Int).tdiv ((y.natAbs : Nat) : Int) = ((x.natAbs / y.natAbs : Nat) : Int) := rfl
 have e2 : ((x.natAbs : Nat) : Int).tmod ((y.natAbs : Nat) : Int) = ((x.natAbs % y.natAbs : Nat) : Int) := rfl
 have HL1 := L16_mono hq2
 have HL2 := L16_mono hr2
 have S1 := tdiv_sign x y
 have S2 := tmod_sign x y
 have A1 := tdiv_abs x y
 have A2 := tmod_abs x y
 clear ha hb hy
 generalize x.natAbs / y.natAbs = q at *
 generalize x.natAbs % y.natAbs = r at *
 generalize x.tdiv y = Z1 at *
 generalize x.tmod y = Z2 at *
 have HN1 := Lib.hid (fun W => num_z (q : Int) W (by omega) (by omega))
 have HN2 := Lib.hid (fun W => num_z (r : Int) W (by omega) (by omega))
 have HO1 := Lib.hid (fun A1 c1 W (h1 : DS W q A1) (h2 : L16 q ≤ c1) => of_z (!(decide (x < 0) == decide (y < 0))) q (L16 q) A1 c1 Z1 W S1 (Nat.le_refl _) (by omega) h2 h1)
 have HO2 := Lib.hid (fun A1 c1 W (h1 : DS W r A1) (h2 : L16 r ≤ c1) => of_z (decide (x < 0)) r (L16 r) A1 c1 Z2 W S2 (Nat.le_refl _) (by omega) h2 h1)
 have f1 : IntKind.i64.wrap (q : Int) = (q : Int) := IntWalk.i64_in _ (by omega)
 have f2 : IntKind.i64.wrap (r : Int) = (r : Int) := IntWalk.i64_in _ (by omega)
 clear HL1 HL2 S1 S2
 unfold BigPost at HN1 HN2
 unfold QuoPost
 simp only [bigv, Int.natAbs_natCast, A1, A2] at HN1 HN2 HO1 HO2 ⊢
 clear A1 A2
 have hla : ((L16 x.natAbs : Nat) : Int) ≤ 3 := by omega
 have hlb : ((L16 y.natAbs : Nat) : Int) ≤ 3 := by omega
 clear la lb
 generalize L16 x.natAbs = n at *
 generalize L16 y.natAbs = m at *
 generalize decide (x < 0) = s at *
 generalize decide (y < 0) = t at *
 generalize x.natAbs = a at *
 generalize y.natAbs = b at *
 generalize decide ((q : Int) < 0) = sq at *
 generalize decide ((r : Int) < 0) = sr at *
 generalize decide (Z1 < 0) = s1 at *
 generalize decide (Z2 < 0) = s2 at *
 go_enter Tryz.func62, Tryz.ntmps62
 go_upto_region 2 with fail
 have hQ := QB.first w s t A B n m c d 47 47 47 47
 generalize World.alloc _ _ = W0 at hQ ⊢
 have HQ := Lib.hid hQ
 have i0 := hQ.1.c 0 rfl
 have i1 := hQ.1.c 1 rfl
 have j0 := hQ.2.1.c 0 rfl
 have j1 := hQ.2.1.c 1 rfl
 have HB := Lib.hid hQ.2.2.2.2
 clear hQ
 go_quiet ((go_at_call 99; first | (with_reducible exact Calls.quiet_of (HW1.out _ (below_drewN HB.out _))) | (with_reducible exact Calls.quiet_of (HW2.out _ (below_drewN HB.out _)))))
 go_wp2_with fail
 have hbz : ¬ b = 0 := by omega
 have hfl := field_big
 clear hq2 hr2 hx2 hy2 hn0 hla hlb
 have hpz : QS w [.bool s, .slice A n c] [.bool t, .slice B m d] W0 := ⟨_, _, rfl, rfl, HQ.out⟩
 have hp0 : QS w [.bool s, .slice A n c] [.bool t, .slice B m d] (W0.drewN nq) := QS.drewN ⟨_, _, rfl, rfl, HQ.out⟩ nq
 clear i0 i1 j0 j1 HW1 HW2 HB
 have i0 : ∀ W, QS w [.bool s, .slice A n c] [.bool t, .slice B m d] W → W.cell? ⟨w.heap.size, 0, none⟩ = some (.bool s) := fun W h => h.at.1.c 0 rfl
 have j0 : ∀ W, QS w [.bool s, .slice A n c] [.bool t, .slice B m d] W → W.cell? ⟨w.heap.size + 1, 0, none⟩ = some (.bool t) := fun W h => h.at.2.c 0 rfl
 have k0 : ∀ W, QS w [.bool s, .slice A n c] [.bool t, .slice B m d] W → W.cell? ⟨w.heap.size + 1 + 1, 0, none⟩ = some (cellV W (w.heap.size + 1 + 1) 0) := fun W h => cellV_some (h.two 0 (by decide)).1.1
 have k1 : ∀ W, QS w [.bool s, .slice A n c] [.bool t, .slice B m d] W → W.cell? ⟨w.heap.size + 1 + 1, 1, none⟩ = some (cellV W (w.heap.size + 1 + 1) 1) := fun W h => cellV_some (h.two 1 (by decide)).1.1
 have k2 : ∀ W, QS w [.bool s, .slice A n c] [.bool t, .slice B m d] W → W.frozen? ⟨w.heap.size + 1 + 1, 0, none⟩ = false := fun W h => (h.two 0 (by decide)).1.2
 have k3 : ∀ W, QS w [.bool s, .slice A n c] [.bool t, .slice B m d] W → W.frozen? ⟨w.heap.size + 1 + 1, 1, none⟩ = false := fun W h => (h.two 1 (by decide)).1.2
 have l0 : ∀ W, QS w [.bool s, .slice A n c] [.bool t, .slice B m d] W → W.cell? ⟨w.heap.size + 1 + 1 + 1, 0, none⟩ = some (cellV W (w.heap.size + 1 + 1 + 1) 0) := fun W h => cellV_some (h.two 0 (by decide)).2.1
 have l1 : ∀ W, QS w [.bool s, .slice A n c] [.bool t, .slice B m d] W → W.cell? ⟨w.heap.size + 1 + 1 + 1, 1, none⟩ = some (cellV W (w.heap.size + 1 + 1 + 1) 1) := fun W h => cellV_some (h.two 1 (by decide)).2.1
 have l2 : ∀ W, QS w [.bool s, .slice A n c] [.bool t, .slice B m d] W → W.frozen? ⟨w.heap.size + 1 + 1 + 1, 0, none⟩ = false := fun W h => (h.two 0 (by decide)).2.2
 have l3 : ∀ W, QS w [.bool s, .slice A n c] [.bool t, .slice B m d] W → W.frozen? ⟨w.heap.size + 1 + 1 + 1, 1, none⟩ = false := fun W h => (h.two 1 (by decide)).2.2
 go_region_held3 (fun w' : World => QS w [.bool s, .slice A n c] [.bool t, .slice B m d] w')
  (first
    | (with_reducible assumption)
    | (with_reducible refine QS.drew ?_; with_reducible assumption)
    | (with_reducible exact QS.drewN hpz _)
    | (with_reducible refine QS.after ?_ hb; with_reducible assumption)
    | (with_reducible refine QS.put2 ?_ _ _; with_reducible assumption)
    | (with_reducible refine QS.put3 ?_ _ _; with_reducible assumption))
  (first
    | (go_at_call 34; refine Calls.mono (by with_reducible exact HN1.out _) ?_; rintro e v1 ⟨A1, c1, rfl, hc1, hd1, hb⟩; have HD1 := Lib.hid hd1; have HC1 := Lib.hid hc1; clear hd1 hc1; have HQ1 := Lib.hid ((HQ.out.drewN _).after hb); have hp1 := QS.after (xs := [.bool s, .slice A n c]) (ys := [.bool t, .slice B m d]) (w := w) (QS.drewN hpz _) hb)
    | (go_at_call 63; refine Calls.mono (by with_reducible exact HO1.out _ _ _ HD1.out HC1.out) ?_; clear hb; rintro e v2 ⟨rfl, hc2, hd2, hb⟩; have HD2 := Lib.hid hd2; have HC2 := Lib.hid hc2; clear hd2 hc2; have HQ2 := Lib.hid (HQ1.out.after hb); have hp2 := QS.after hp1 hb)
    | (go_at_call 34; refine Calls.mono (by with_reducible exact HN2.out _) ?_; clear hb; rintro e v3 ⟨A3, c3, rfl, hc3, hd3, hb⟩; have HD2b := Lib.hid (HD2.out.below hb); have HD3 := Lib.hid hd3; have HC3 := Lib.hid hc3; clear hd3 hc3; have HQ3 := Lib.hid (HQ2.out.after hb); have hp3 := QS.after hp2 hb)
    | (go_at_call 63; refine Calls.mono (by with_reducible exact HO2.out _ _ _ HD3.out HC3.out) ?_; clear hb; rintro e v4 ⟨rfl, hc4, hd4, hb⟩; have HD2c := Lib.hid (HD2b.out.below hb); have HD4 := Lib.hid hd4; have HC4 := Lib.hid hc4; clear hd4 hc4; have HQ4 := Lib.hid (HQ3.out.after hb); have hp4 := QS.after hp3 hb))
 all_goals
  clear i0 j0 k0 k1 k2 k3 l0 l1 l2 l3
  have hfin := (HQ4.out.put2 (u0 := .bool s1) (u1 := .slice A1 (L16 q) c1) rfl).put3 (u0 := .bool s2) (u1 := .slice A3 (L16 r) c3) rfl
  have hds := DS.put4 HQ4.out HD2c.out (u0 := s1) (u1 := .slice A1 (L16 q) c1) (v0 := s2) (v1 := .slice A3 (L16 r) c3)
  have hds2 := DS.put4 HQ4.out HD4.out (u0 := s1) (u1 := .slice A1 (L16 q) c1) (v0 := s2) (v1 := .slice A3 (L16 r) c3)
  generalize World.setCell _ _ _ = W9 at hfin hds hds2 ⊢
  have r2 := hfin.2.2.1
  have r3 := hfin.2.2.2.1
  go_wp2_with fail
  exact bodyPost_ret (v := .tuple #[.agg #[.bool s1, .slice A1 (L16 q) c1], .agg #[.bool s2, .slice A3 (L16 r) c3]]) (by simp [results, Tryz.results62, go_sem, r2.c 0 rfl, r2.c 1 rfl, r3.c 0 rfl, r3.c 1 rfl]) rfl ⟨A1, c1, A3, c3, rfl, HC2.out, HC4.out, hds, hds2, hfin.2.2.2.2⟩
end Go.Proofs.YtcabndpmfkimgaaGreatDoor
