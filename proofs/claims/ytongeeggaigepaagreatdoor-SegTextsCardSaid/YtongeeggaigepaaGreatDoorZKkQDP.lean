import Derived.Test.YtongeeggaigepaaGreatDoorZKkDN
import Derived.Test.YtongeeggaigepaaGreatDoorZKkDD
import Derived.Test.YtongeeggaigepaaGreatDoorZKkDA
import Derived.Test.YtongeeggaigepaaGreatDoorZKkBase
import Derived.Test.YtongeeggaigepaaGreatDoorProg
import Derived.WalkKit
import Derived.WalkSpells
import Derived.WalkLawsBesides
import Derived.Deep.QuietTactic
import Derived.BigQuiet
import Derived.Lib.Hide
import Derived.ChangeKeysEq
import Derived.Laws.Bits64b
import Derived.Deep.CutBlock
import Derived.Deep.DeepCutAuto
import Derived.BigRegion
import Derived.Test.YtongeeggaigepaaGreatDoorZKkM
import Derived.Test.YtongeeggaigepaaGreatDoorKkShelf
import Derived.Lib.AppendIntMem
import Derived.Lib.QuietBelow
import Derived.Test.YtongeeggaigepaaGreatDoorZKkI
import Derived.Test.YtongeeggaigepaaGreatDoorZKkCar
import Derived.Shelf.Spec.BitsCarry
import Derived.Defers
import Derived.Recover
import Derived.Laws.Pointers
import Derived.Deep.RegionWith
import Derived.Deep.LoopGhost
namespace Go.Proofs.YtongeeggaigepaaGreatDoor
open Go.RowKit
theorem bigv_nat (m : Nat) (A : Option Addr) (c : Nat) : bigv (m : Int) A c = .agg #[.bool false, .slice A (L16 m) c] := by
 rw [bigv, decide_eq_false (by omega : ¬ (m : Int) < 0)]; rfl
section
variable {w W W1 : World} {X : Nat} {V : List Value} {m : Nat} {A : Option Addr} {c : Nat}
end
section
variable {w W W1 : World} {X : Nat} {V : List Value} {m q r : Nat} {A A1 A2 : Option Addr} {c : Nat}
end
end Go.Proofs.YtongeeggaigepaaGreatDoor

namespace Go.Proofs.YtongeeggaigepaaGreatDoor
open Go.RowKit
theorem euclid_half {a b : Nat} (h : b ≠ 0) (hab : b ≤ a) : 2 * (a % b) < a := by
 have h1 := Nat.mod_lt a (Nat.pos_of_ne_zero h)
 have h2 := Nat.div_add_mod a b
 have h3 : 1 ≤ a / b := Nat.div_pos hab (Nat.pos_of_ne_zero h)
 have h4 : b ≤ b * (a / b) := Nat.le_mul_of_pos_right b h3
 omega
theorem refquo_nat (m k : Nat) (A B : Option Addr) (c d : Nat) (w : World) (ha : DS w m A) (hb : DS w k B) (la : L16 m ≤ 1000) (lb : L16 k ≤ 1000) (hk : k ≠ 0) :
 Calls Tryz.prog 82 #[.agg #[.bool false, .slice A (L16 m) c], .agg #[.bool false, .slice B (L16 k) d]] w fun e w' => ∃ A1 c1 A2 c2, e = .returned (.tuple #[.agg #[.bool false, .slice A1 (L16 (m / k)) c1], .agg #[.bool false, .slice A2 (L16 (m % k)) c2]]) ∧ L16 (m % k) ≤ c2 ∧ DS w' (m % k) A2 ∧ Below w.heap.size w w' := by
 have h := refquo_z (m : Int) (k : Nat) A B c d w ha hb la lb (by omega)
 rw [bigv_nat, bigv_nat, show ((m : Int)).tdiv (k : Int) = ((m / k : Nat) : Int) from rfl, show ((m : Int)).tmod (k : Int) = ((m % k : Nat) : Int) from rfl] at h
 unfold QuoPost at h
 simp only [bigv_nat, Int.natAbs_natCast] at h
 refine h.mono ?_
 rintro e w' ⟨A1, c1, A2, c2, h1, _, h2, _, h3, h4⟩
 exact ⟨A1, c1, A2, c2, h1, h2, h3, h4⟩
theorem of_nat (m : Nat) (A : Option Addr) (c : Nat) (w : World) (hc : L16 m ≤ c) (hd : DS w m A) (hl : L16 m ≤ 1000000) :
 Calls Tryz.prog 111 #[.bool false, .slice A (L16 m) c] w fun e w' => e = .returned (.agg #[.bool false, .slice A (L16 m) c]) ∧ Below w.heap.size w w' := by
 have h := of_z false m (L16 m) A c (m : Nat) w rfl (Nat.le_refl _) hl hc hd
 rw [bigv_nat] at h
 exact h.mono fun e w' ⟨h1, _, _, h4⟩ => ⟨h1, h4⟩
def GB (w : World) (m : Nat) (A : Option Addr) (c : Nat) (k : Nat) (B : Option Addr) (d : Nat) (W : World) : Prop :=
 ∃ s t : Bool, Row W w.heap.size [.bool s, .slice A (L16 m) c] ∧ Row W (w.heap.size + 1) [.bool t, .slice B (L16 k) d] ∧ Row W (w.heap.size + 1 + 1) [.bool false, .slice none 0 0] ∧ DS W m A ∧ DS W k B ∧ Below w.heap.size w W
section
variable {w W W1 : World} {m k c d : Nat} {A B : Option Addr}
theorem GB.after (h : GB w m A c k B d W) (hb : Below W.heap.size W W1) : GB w m A c k B d W1 := by
 obtain ⟨s, t, h1, h2, h3, h4, h5, h6⟩ := h
 exact ⟨s, t, h1.after hb, h2.after hb, h3.after hb, h4.below hb, h5.below hb, h6.trans (hb.mono h6.size)⟩
theorem GB.drew (h : GB w m A c k B d W) : GB w m A c k B d W.drew := h.after (Below.refl _ _).drew
theorem GB.putM (h : GB w m A c k B d W) (s : Bool) : GB w m A c k B d ((W.setCell ⟨w.heap.size, 0, none⟩ (.bool s)).setCell ⟨w.heap.size, 1, none⟩ (.slice A (L16 m) c)) := by
 obtain ⟨s', t, h1, h2, h3, h4, h5, h6⟩ := h
 have hs : ((W.setCell ⟨w.heap.size, 0, none⟩ (.bool s)).cell? ⟨w.heap.size, 0, none⟩) = some (.bool s) := by rw [World.cell?_setCell_same' _ _ _ (by rw [h1.c 0 rfl]; rfl)]
 exact ⟨s, t, (h1.set 0 (by simp) _).set 1 (by simp) _, (h2.other (p := ⟨w.heap.size, 0, none⟩) (by show w.heap.size ≠ w.heap.size + 1; omega) _).other (p := ⟨w.heap.size, 1, none⟩) (by show w.heap.size ≠ w.heap.size + 1; omega) _, (h3.other (p := ⟨w.heap.size, 0, none⟩) (by show w.heap.size ≠ w.heap.size + 1 + 1; omega) _).other (p := ⟨w.heap.size, 1, none⟩) (by show w.heap.size ≠ w.heap.size + 1 + 1; omega) _,
  (h4.set_bool (h1.c 0 rfl) 0 _).set_bool (X := w.heap.size) (s := s) hs 1 _, (h5.set_bool (h1.c 0 rfl) 0 _).set_bool (X := w.heap.size) (s := s) hs 1 _, below_put1 (below_put1 h6 (Nat.le_refl _) _ _) (Nat.le_refl _) _ _⟩
theorem GB.putN (h : GB w m A c k B d W) (s : Bool) : GB w m A c k B d ((W.setCell ⟨w.heap.size + 1, 0, none⟩ (.bool s)).setCell ⟨w.heap.size + 1, 1, none⟩ (.slice B (L16 k) d)) := by
 obtain ⟨s', t, h1, h2, h3, h4, h5, h6⟩ := h
 have hs : ((W.setCell ⟨w.heap.size + 1, 0, none⟩ (.bool s)).cell? ⟨w.heap.size + 1, 0, none⟩) = some (.bool s) := by rw [World.cell?_setCell_same' _ _ _ (by rw [h2.c 0 rfl]; rfl)]
 exact ⟨s', s, (h1.other (p := ⟨w.heap.size + 1, 0, none⟩) (by show w.heap.size + 1 ≠ w.heap.size; omega) _).other (p := ⟨w.heap.size + 1, 1, none⟩) (by show w.heap.size + 1 ≠ w.heap.size; omega) _, (h2.set 0 (by simp) _).set 1 (by simp) _, (h3.other (p := ⟨w.heap.size + 1, 0, none⟩) (by show w.heap.size + 1 ≠ w.heap.size + 1 + 1; omega) _).other (p := ⟨w.heap.size + 1, 1, none⟩) (by show w.heap.size + 1 ≠ w.heap.size + 1 + 1; omega) _,
  (h4.set_bool (h2.c 0 rfl) 0 _).set_bool (X := w.heap.size + 1) (s := s) hs 1 _, (h5.set_bool (h2.c 0 rfl) 0 _).set_bool (X := w.heap.size + 1) (s := s) hs 1 _, below_put1 (below_put1 h6 (Nat.le_succ _) _ _) (Nat.le_succ _) _ _⟩
end
end Go.Proofs.YtongeeggaigepaaGreatDoor
namespace Go.Proofs.YtongeeggaigepaaGreatDoor
open Go.RowKit
def GE (w : World) (m : Nat) (A : Option Addr) (c : Nat) (k : Nat) (B : Option Addr) (d : Nat) (W : World) : Prop :=
 Row W w.heap.size [.bool false, .slice A (L16 m) c] ∧ Row W (w.heap.size + 1) [.bool false, .slice B (L16 k) d] ∧ Row W (w.heap.size + 1 + 1) [.bool false, .slice none 0 0] ∧ DS W m A ∧ DS W k B ∧ Below w.heap.size w W
section
variable {w W W1 : World} {m k c d : Nat} {A B : Option Addr}
theorem GB.final (h : GB w m A c k B d W) : GE w m A c k B d ((((W.setCell ⟨w.heap.size, 0, none⟩ (.bool false)).setCell ⟨w.heap.size, 1, none⟩ (.slice A (L16 m) c)).setCell ⟨w.heap.size + 1, 0, none⟩ (.bool false)).setCell ⟨w.heap.size + 1, 1, none⟩ (.slice B (L16 k) d)) := by
 obtain ⟨s1, t1, h1, h2, h3, h4, h5, h6⟩ := (h.putM false).putN false
 obtain ⟨s2, t2, k1, k2, _⟩ := h.putM false
 have e1 := ((((h.choose_spec.choose_spec.1.set 0 (by simp) (.bool false)).set 1 (by simp) (.slice A (L16 m) c)).other (p := ⟨w.heap.size + 1, 0, none⟩) (by show w.heap.size + 1 ≠ w.heap.size; omega) (.bool false)).other (p := ⟨w.heap.size + 1, 1, none⟩) (by show w.heap.size + 1 ≠ w.heap.size; omega) (.slice B (L16 k) d))
 have e2 := ((k2.set 0 (by simp) (.bool false)).set 1 (by simp) (.slice B (L16 k) d))
 exact ⟨e1, e2, h3, h4, h5, h6⟩
end
theorem GE.after {w W W1 : World} {m k c d : Nat} {A B : Option Addr} (h : GE w m A c k B d W) (hb : Below W.heap.size W W1) : GE w m A c k B d W1 :=
 ⟨h.1.after hb, h.2.1.after hb, h.2.2.1.after hb, h.2.2.2.1.below hb, h.2.2.2.2.1.below hb, h.2.2.2.2.2.trans (hb.mono h.2.2.2.2.2.size)⟩
theorem GE.next {w W : World} {m k c d r e : Nat} {A B C : Option Addr} (h : GE w m A c k B d W) (hr : DS W r C) : GE w k B d r C e ((((W.setCell ⟨w.heap.size, 0, none⟩ (.bool false)).setCell ⟨w.heap.size, 1, none⟩ (.slice B (L16 k) d)).setCell ⟨w.heap.size + 1, 0, none⟩ (.bool false)).setCell ⟨w.heap.size + 1, 1, none⟩ (.slice C (L16 r) e)) := by
 obtain ⟨h1, h2, h3, _, h5, h6⟩ := h
 have hs : ((W.setCell ⟨w.heap.size, 0, none⟩ (.bool false)).cell? ⟨w.heap.size, 0, none⟩) = some (.bool false) := by rw [World.cell?_setCell_same' _ _ _ (by rw [h1.c 0 rfl]; rfl)]
 have g2 := (h2.other (p := ⟨w.heap.size, 0, none⟩) (by show w.heap.size ≠ w.heap.size + 1; omega) (.bool false)).other (p := ⟨w.heap.size, 1, none⟩) (by show w.heap.size ≠ w.heap.size + 1; omega) (.slice B (L16 k) d)
 have g1 := (h1.set 0 (by simp) (.bool false)).set 1 (by simp) (.slice B (L16 k) d)
 have g3 := (h3.other (p := ⟨w.heap.size, 0, none⟩) (by show w.heap.size ≠ w.heap.size + 1 + 1; omega) (.bool false)).other (p := ⟨w.heap.size, 1, none⟩) (by show w.heap.size ≠ w.heap.size + 1 + 1; omega) (.slice B (L16 k) d)
 have g5 := (h5.set_bool (h1.c 0 rfl) 0 (.bool false)).set_bool (X := w.heap.size) (s := false) hs 1 (.slice B (L16 k) d)
 have gr := (hr.set_bool (h1.c 0 rfl) 0 (.bool false)).set_bool (X := w.heap.size) (s := false) hs 1 (.slice B (L16 k) d)
 have g6 := below_put1 (below_put1 h6 (Nat.le_refl _) 0 (.bool false)) (Nat.le_refl _) 1 (.slice B (L16 k) d)
 generalize World.setCell _ _ _ = W2 at g1 g2 g3 g5 gr g6 ⊢
 have hs2 : ((W2.setCell ⟨w.heap.size + 1, 0, none⟩ (.bool false)).cell? ⟨w.heap.size + 1, 0, none⟩) = some (.bool false) := by rw [World.cell?_setCell_same' _ _ _ (by rw [g2.c 0 rfl]; rfl)]
 exact ⟨(g1.other (p := ⟨w.heap.size + 1, 0, none⟩) (by show w.heap.size + 1 ≠ w.heap.size; omega) _).other (p := ⟨w.heap.size + 1, 1, none⟩) (by show w.heap.size + 1 ≠ w.heap.size; omega) _, (g2.set 0 (by simp) _).set 1 (by simp) _,
  (g3.other (p := ⟨w.heap.size + 1, 0, none⟩) (by show w.heap.size + 1 ≠ w.heap.size + 1 + 1; omega) _).other (p := ⟨w.heap.size + 1, 1, none⟩) (by show w.heap.size + 1 ≠ w.heap.size + 1 + 1; omega) _,
  (g5.set_bool (g2.c 0 rfl) 0 _).set_bool (X := w.heap.size + 1) (s := false) hs2 1 _, (gr.set_bool (g2.c 0 rfl) 0 _).set_bool (X := w.heap.size + 1) (s := false) hs2 1 _, below_put1 (below_put1 g6 (Nat.le_succ _) _ _) (Nat.le_succ _) _ _⟩
theorem GE.last {w W : World} {m k c d : Nat} {A B : Option Addr} (h : GE w m A c k B d W) : Row ((W.setCell ⟨w.heap.size + 1 + 1, 0, none⟩ (.bool false)).setCell ⟨w.heap.size + 1 + 1, 1, none⟩ (.slice A (L16 m) c)) (w.heap.size + 1 + 1) [.bool false, .slice A (L16 m) c] ∧
 DS ((W.setCell ⟨w.heap.size + 1 + 1, 0, none⟩ (.bool false)).setCell ⟨w.heap.size + 1 + 1, 1, none⟩ (.slice A (L16 m) c)) m A ∧ Below w.heap.size w ((W.setCell ⟨w.heap.size + 1 + 1, 0, none⟩ (.bool false)).setCell ⟨w.heap.size + 1 + 1, 1, none⟩ (.slice A (L16 m) c)) := by
 obtain ⟨h1, h2, h3, h4, h5, h6⟩ := h
 have hs : ((W.setCell ⟨w.heap.size + 1 + 1, 0, none⟩ (.bool false)).cell? ⟨w.heap.size + 1 + 1, 0, none⟩) = some (.bool false) := by rw [World.cell?_setCell_same' _ _ _ (by rw [h3.c 0 rfl]; rfl)]
 exact ⟨(h3.set 0 (by simp) _).set 1 (by simp) _, (h4.set_bool (h3.c 0 rfl) 0 _).set_bool (X := w.heap.size + 1 + 1) (s := false) hs 1 _, below_put1 (below_put1 h6 (by omega) _ _) (by omega) _ _⟩
theorem euclid_step {i p q : Nat} (hq : q ≠ 0) (lq : q < T256) (h : i = 0 ∨ (q < p ∧ p * q * 2 ^ (i - 1) < T256 * T256)) : p % q < q ∧ q * (p % q) * 2 ^ (i + 1 - 1) < T256 * T256 := by
 have h1 := Nat.mod_lt p (Nat.pos_of_ne_zero hq)
 refine ⟨h1, ?_⟩
 rw [Nat.add_sub_cancel]
 rcases h with rfl | ⟨hlt, hb⟩
 ·rw [Nat.pow_zero, Nat.mul_one]
  exact Nat.mul_lt_mul'' lq (Nat.lt_trans h1 lq)
 ·rcases Nat.eq_zero_or_pos i with rfl | hi
  ·rw [Nat.pow_zero, Nat.mul_one]
   exact Nat.mul_lt_mul'' lq (Nat.lt_trans h1 lq)
  ·obtain ⟨j, rfl⟩ : ∃ j, i = j + 1 := ⟨i - 1, by omega⟩
   rw [Nat.add_sub_cancel] at hb
   refine Nat.lt_of_le_of_lt ?_ hb
   have h2 := euclid_half hq (Nat.le_of_lt hlt)
   rw [Nat.pow_succ, Nat.mul_comm (2 ^ j) 2, ← Nat.mul_assoc]
   apply Nat.mul_le_mul_right
   rw [Nat.mul_assoc, Nat.mul_comm p q]
   apply Nat.mul_le_mul_left
   omega
theorem euclid_end {i p q : Nat} (hi : 2000 ≤ i) (h : i = 0 ∨ (q < p ∧ p * q * 2 ^ (i - 1) < T256 * T256)) : q = 0 := by
 rcases h with rfl | ⟨hlt, hb⟩
 ·omega
 ·rcases Nat.eq_zero_or_pos q with h0 | h0
  ·exact h0
  ·exfalso
   have h1 : 1 ≤ p * q := Nat.mul_pos (by omega) h0
   have h2 : 1 * 2 ^ (i - 1) ≤ p * q * 2 ^ (i - 1) := Nat.mul_le_mul_right _ h1
   have h3 : T256 = 2 ^ 256 := by decide
   obtain ⟨E, hE⟩ : ∃ E : Nat, E = 256 + 256 := ⟨_, rfl⟩
   have h4 : 2 ^ E ≤ 2 ^ (i - 1) := Nat.pow_le_pow_right (by decide) (by omega)
   rw [h3, ← Nat.pow_add, ← hE] at hb
   rw [Nat.one_mul] at h2
   exact absurd (Nat.lt_of_le_of_lt h2 hb) (Nat.not_lt.2 h4)
theorem GB.first (w : World) (s t : Bool) (m k : Nat) (A B : Option Addr) (c d : Nat) (ty : TypeId) (ha : DS w m A) (hb : DS w k B) :
 GB w m A c k B d (((w.alloc (.cells #[.bool s, .slice A (L16 m) c] ty)).alloc (.cells #[.bool t, .slice B (L16 k) d] ty)).alloc (.cells #[.bool false, .slice none 0 0] ty)) := by
 have hB : Below w.heap.size w (((w.alloc (.cells #[.bool s, .slice A (L16 m) c] ty)).alloc (.cells #[.bool t, .slice B (L16 k) d] ty)).alloc (.cells #[.bool false, .slice none 0 0] ty)) := (((Below.refl w.heap.size w).alloc (Nat.le_refl _) _).alloc (by simp) _).alloc (by simp; omega) _
 exact ⟨s, t, ((Row.at rfl _ _).alloc _).alloc _, (Row.at (by simp) _ _).alloc _, Row.at (by simp) _ _, ha.below hB, hb.below hB, hB⟩
set_option maxRecDepth 100000 in
set_option maxHeartbeats 2000000 in
theorem refgcd_z (x y : Int) (A B : Option Addr) (c d : Nat) (w : World) (ha : DS w x.natAbs A) (hb : DS w y.natAbs B) (ca : L16 x.natAbs ≤ c) (cb : L16 y.natAbs ≤ d) (hx : x.natAbs < T256) (hy : y.natAbs < T256) :
 Calls Tryz.prog 81 #[bigv x A c, bigv y B d] w fun e w' => ∃ A1 c1, e = .returned (bigv (Int.gcd x y : Nat) A1 c1) ∧ L16 (Int.gcd x y) ≤ c1 ∧ DS w' (Int.gcd x y) A1 ∧ Below w.heap.size w w' := by
 rw [show Int.gcd x y = x.natAbs.gcd y.natAbs from rfl]
 simp only [bigv, Int.natAbs_natCast]
 generalize decide (x < 0) = s at *
 generalize decide (y < 0) = t at *
 generalize x.natAbs = m at *
 generalize y.natAbs = k at *
 have HS := Lib.hid (GB.first w s t m k A B c d 53 ha hb)
 have lm : L16 m ≤ 1000 := by have := L16_int.1 hx; omega
 have lk : L16 k ≤ 1000 := by have := L16_int.1 hy; omega
 have HF1 := Lib.hid (fun W (h : GB w m A c k B d W) => of_nat m A c W ca (by obtain ⟨_, _, _, _, _, h4, _⟩ := h; exact h4) (by omega))
 have HF2 := Lib.hid (fun W (h : GB w m A c k B d W) => of_nat k B d W cb (by obtain ⟨_, _, _, _, _, _, h5, _⟩ := h; exact h5) (by omega))
 have HM := Lib.hid (show m < T256 ∧ k < T256 ∧ L16 m ≤ c ∧ L16 k ≤ d from ⟨hx, hy, ca, cb⟩)
 clear ha hb ca cb hx hy lm lk
 go_enter Tryz.func81, Tryz.ntmps81
 go_upto_region 1 with fail
 generalize World.alloc _ _ = W0 at HS ⊢
 go_cut [] (fun wx => Hid (GE w m A c k B d wx))
 case first =>
  have hp0 : GB w m A c k B d W0 := HS.out
  have hpd : GB w m A c k B d W0.drew := hp0.drew
  have k0 : ∀ W, GB w m A c k B d W → W.cell? ⟨w.heap.size, 0, none⟩ = some (cellV W w.heap.size 0) := fun W h => by obtain ⟨_, _, h1, _⟩ := h; exact cellV_some (by rw [h1.c 0 rfl]; rfl)
  have k1 : ∀ W, GB w m A c k B d W → W.cell? ⟨w.heap.size, 1, none⟩ = some (.slice A (L16 m) c) := fun W h => by obtain ⟨_, _, h1, _⟩ := h; exact h1.c 1 rfl
  have k2 : ∀ W, GB w m A c k B d W → W.frozen? ⟨w.heap.size, 0, none⟩ = false := fun W h => by obtain ⟨_, _, h1, _⟩ := h; exact h1.f 0 rfl
  have k3 : ∀ W, GB w m A c k B d W → W.frozen? ⟨w.heap.size, 1, none⟩ = false := fun W h => by obtain ⟨_, _, h1, _⟩ := h; exact h1.f 1 rfl
  have l0 : ∀ W, GB w m A c k B d W → W.cell? ⟨w.heap.size + 1, 0, none⟩ = some (cellV W (w.heap.size + 1) 0) := fun W h => by obtain ⟨_, _, _, h2, _⟩ := h; exact cellV_some (by rw [h2.c 0 rfl]; rfl)
  have l1 : ∀ W, GB w m A c k B d W → W.cell? ⟨w.heap.size + 1, 1, none⟩ = some (.slice B (L16 k) d) := fun W h => by obtain ⟨_, _, _, h2, _⟩ := h; exact h2.c 1 rfl
  have l2 : ∀ W, GB w m A c k B d W → W.frozen? ⟨w.heap.size + 1, 0, none⟩ = false := fun W h => by obtain ⟨_, _, _, h2, _⟩ := h; exact h2.f 0 rfl
  have l3 : ∀ W, GB w m A c k B d W → W.frozen? ⟨w.heap.size + 1, 1, none⟩ = false := fun W h => by obtain ⟨_, _, _, h2, _⟩ := h; exact h2.f 1 rfl
  go_region_held3 (fun w' : World => GB w m A c k B d w')
   (first
     | (with_reducible assumption)
     | (with_reducible refine GB.drew ?_; with_reducible assumption)
     | (with_reducible refine GB.after ?_ hb; with_reducible assumption)
     | (with_reducible refine GB.putM ?_ _; with_reducible assumption)
     | (with_reducible refine GB.putN ?_ _; with_reducible assumption))
   (first
     | (go_at_call 111; refine Calls.mono (by with_reducible exact HF1.out _ hpd) ?_; rintro e v1 ⟨rfl, hb⟩; have hp1 := hpd.after hb)
     | (go_at_call 111; refine Calls.mono (by with_reducible exact HF2.out _ hpd) ?_; rintro e v1 ⟨rfl, hb⟩; have hp1 := hpd.after hb)
     | (go_at_call 111; refine Calls.mono (by with_reducible exact HF1.out _ hp1) ?_; clear hb; rintro e v2 ⟨rfl, hb⟩; have hp2 := hp1.after hb)
     | (go_at_call 111; refine Calls.mono (by with_reducible exact HF2.out _ hp1) ?_; clear hb; rintro e v2 ⟨rfl, hb⟩; have hp2 := hp1.after hb))
  all_goals
   go_wp2_with fail
   go_meet
   exact Lib.hid hp2.final
 case rest =>
  clear HS HF1 HF2
  go_wp2_with fail
  go_loopw [5] (fun v wr => ∃ i p q A1 c1 B1 d1, v = .int .i64 (i : Nat) ∧ i ≤ 2000 ∧ Hid (p < T256 ∧ q < T256 ∧ L16 p ≤ c1 ∧ L16 q ≤ d1) ∧ Hid (p.gcd q = m.gcd k) ∧ Hid (i = 0 ∨ (q < p ∧ p * q * 2 ^ (i - 1) < T256 * T256)) ∧ Hid (GE w p A1 c1 q B1 d1 wr)) (fun v _ => (2000 - intOf v).toNat)
  case atStart => exact ⟨0, m, k, A, c, B, d, rfl, by omega, HM, Lib.hid rfl, Lib.hid (.inl rfl), hcut⟩
  case round =>
   obtain ⟨i, p, q, A1, c1, B1, d1, rfl, hi, HL, HG, HE, HK⟩ := hrel
   clear hcut HM
   have m0 := HK.out.1.c 0 rfl
   have m1 := HK.out.1.c 1 rfl
   have n0 := HK.out.2.1.c 0 rfl
   have n1 := HK.out.2.1.c 1 rfl
   by_cases hq : q = 0
   ·have HQ0 := Lib.hid hq
    have hl0 : L16 q = 0 := by rw [hq, L16_nought]
    have HP : Hid (m.gcd k = p) := Lib.hid (by rw [← HG.out, hq, Nat.gcd_zero_right])
    clear hq HG
    rw [hl0] at n1
    have r0 := HK.out.2.2.1.c 0 rfl
    have r1 := HK.out.2.2.1.c 1 rfl
    have rf0 := HK.out.2.2.1.f 0 rfl
    have rf1 := HK.out.2.2.1.f 1 rfl
    clear hl0
    go_wp2_with fail
    all_goals
     obtain ⟨hr, hd, hb⟩ := HK.out.last
     clear r0 r1 rf0 rf1 m0 m1 n0 n1
     generalize World.setCell _ _ _ = W9 at hr hd hb ⊢
     rw [HP.out, decide_eq_false (by omega : ¬ ((p : Nat) : Int) < 0)]
     exact bodyPost_ret (v := .agg #[.bool false, .slice A1 (L16 p) c1]) (by simp [results, Tryz.results81, go_sem, hr.c 0 rfl, hr.c 1 rfl]) rfl ⟨A1, c1, rfl, HL.out.2.2.1, hd, hb⟩
   ·have hi2 : i < 2000 := by
     by_cases h : i < 2000
     ·exact h
     ·exact absurd (euclid_end (by omega) HE.out) hq
    have hl1 : (0 : Int) < L16 q := by
     rcases Nat.eq_zero_or_pos (L16 q) with h | h
     ·exact absurd (L16_zero h) hq
     ·omega
    have hi3 : (i : Int) < 2000 := by omega
    have HSt := Lib.hid (euclid_step hq HL.out.2.1 HE.out)
    have HG2 : Hid (q.gcd (p % q) = m.gcd k) := Lib.hid (by rw [← HG.out, Nat.gcd_comm p q, Nat.gcd_rec q p, Nat.gcd_comm])
    have HQu := Lib.hid (fun W h1 h2 => refquo_nat p q A1 B1 c1 d1 W h1 h2 (by have := L16_int.1 HL.out.1; omega) (by have := L16_int.1 HL.out.2.1; omega) hq)
    clear hq HE HG
    go_wp2_with fail
    refine (HQu.out _ HK.out.2.2.2.1 HK.out.2.2.2.2.1).mono ?_
    rintro e w2 ⟨A2, c2, A3, c3, rfl, hc3, hd3, hb3⟩
    have HK2 := Lib.hid (HK.out.after hb3)
    have HD3 := Lib.hid hd3
    have HC3 := Lib.hid hc3
    clear HK hd3 hb3 hc3 m0 m1 n0 n1 hl1 HQu
    go_wp2_with fail
    have r7 : Row ((w2.alloc (.cells #[.bool false, .slice A2 (L16 (p / q)) c2] 53)).alloc (.cells #[.bool false, .slice A3 (L16 (p % q)) c3] 53)) (w2.heap.size + 1) [.bool false, .slice A3 (L16 (p % q)) c3] := Row.at (by simp) _ _
    have hb4 : Below w2.heap.size w2 ((w2.alloc (.cells #[.bool false, .slice A2 (L16 (p / q)) c2] 53)).alloc (.cells #[.bool false, .slice A3 (L16 (p % q)) c3] 53)) := ((Below.refl _ _).alloc (Nat.le_refl _) _).alloc (by simp) _
    have HK4 := Lib.hid (HK2.out.after hb4)
    have HD4 := Lib.hid (HD3.out.below hb4)
    have hlt2 := HK2.out.2.2.1.lt
    clear HK2 HD3 hb4
    generalize World.alloc _ _ = W4 at r7 HK4 HD4 ⊢
    have z0 := r7.c 0 rfl
    have z1 := r7.c 1 rfl
    have m0 := HK4.out.1.c 0 rfl
    have m1 := HK4.out.1.c 1 rfl
    have mf0 := HK4.out.1.f 0 rfl
    have mf1 := HK4.out.1.f 1 rfl
    have n0 := HK4.out.2.1.c 0 rfl
    have n1 := HK4.out.2.1.c 1 rfl
    have nf0 := HK4.out.2.1.f 0 rfl
    have nf1 := HK4.out.2.1.f 1 rfl
    have hne1 : ¬ w.heap.size = w2.heap.size + 1 := by omega
    have hne2 : ¬ w2.heap.size + 1 = w.heap.size := by omega
    have HN := Lib.hid (HK4.out.next (e := c3) HD4.out)
    go_region
    all_goals
     clear z0 z1 m0 m1 mf0 mf1 n0 n1 nf0 nf1 r7 HK4 HD4
     have HN5 := Lib.hid (HN.out.after (Below.refl _ _).drew)
     clear HN
     generalize World.drew _ = W5 at HN5 ⊢
     go_wp2_with fail
     rw [show (i : Int) + 1 = ((i + 1 : Nat) : Int) by omega]
     refine ⟨⟨i + 1, q, p % q, B1, d1, A3, c3, rfl, by omega, Lib.hid ⟨HL.out.2.1, Nat.lt_trans HSt.out.1 HL.out.2.1, HL.out.2.2.2, HC3.out⟩, HG2, Lib.hid (.inr HSt.out), HN5⟩, ?_⟩
     simp [intOf]; omega
end Go.Proofs.YtongeeggaigepaaGreatDoor
