/- Contract of the document's Text of any number. -/
import Derived.Test.YtpbdhhdmnnelhaaDoorDN
import Derived.Test.YtpbdhhdmnnelhaaDoorDD
namespace Go.Proofs.YtpbdhhdmnnelhaaDoor
open Go.RowKit

/-- A number's decimal digits, none of nought. -/
def dec0 (n : Nat) : List UInt8 := if n = 0 then [] else Lib.decDigits n
theorem dec0_step {n : Nat} (h : n ≠ 0) : dec0 n = dec0 (n / 10) ++ [UInt8.ofNat (48 + n % 10)] := by
  unfold dec0
  rw [if_neg h]
  by_cases h1 : n < 10
  · rw [if_pos (by omega), Lib.decDigits_one h1, Nat.mod_eq_of_lt h1]; rfl
  · rw [if_neg (by omega), Lib.decDigits, dif_neg h1]
theorem dec0_pos {n : Nat} (h : n ≠ 0) : dec0 n = Lib.decDigits n := if_neg h
theorem dec0_nought : dec0 0 = [] := rfl
theorem dec_ne (n : Nat) : Lib.decDigits n ≠ [] := by
  rw [Lib.decDigits]
  split <;> simp
theorem bigv_nat (m : Nat) (A : Option Addr) (c : Nat) : bigv (m : Int) A c = .agg #[.bool false, .slice A (L16 m) c] := by
  rw [bigv, decide_eq_false (by omega : ¬ (m : Int) < 0)]; rfl
/-- What stands while the document's Text gathers digits: the number's box, what is left. -/
def TX (w : World) (X : Nat) (V : List Value) (m : Nat) (A : Option Addr) (c : Nat) (W : World) : Prop :=
  Row W w.heap.size V ∧ Row W X [.bool false, .slice A (L16 m) c] ∧ DS W m A ∧ L16 m ≤ c ∧ Below w.heap.size w W ∧ w.heap.size < X
section
variable {w W W1 : World} {X : Nat} {V : List Value} {m : Nat} {A : Option Addr} {c : Nat}
theorem TX.after (h : TX w X V m A c W) (hb : Below W.heap.size W W1) : TX w X V m A c W1 :=
  ⟨h.1.after hb, h.2.1.after hb, h.2.2.1.below hb, h.2.2.2.1, h.2.2.2.2.1.trans (hb.mono h.2.2.2.2.1.size), h.2.2.2.2.2⟩
theorem TX.drew (h : TX w X V m A c W) : TX w X V m A c W.drew := h.after (Below.refl _ _).drew
theorem TX.alloc (h : TX w X V m A c W) (o : Obj) : TX w X V m A c (W.alloc o) := h.after ((Below.refl _ _).alloc (Nat.le_refl _) _)
theorem TX.ds (h : TX w X V m A c W) : DS W m A := h.2.2.1
theorem TX.put (h : TX w X V m A c W) {k : Nat} {B : Option Addr} {d : Nat} (hd : DS W k B) (hc : L16 k ≤ d) : TX w X V k B d ((W.setCell ⟨X, 0, none⟩ (.bool false)).setCell ⟨X, 1, none⟩ (.slice B (L16 k) d)) := by
  have hX := h.2.2.2.2.2
  refine ⟨(h.1.other (p := ⟨X, 0, none⟩) (by show X ≠ w.heap.size; omega) _).other (p := ⟨X, 1, none⟩) (by show X ≠ w.heap.size; omega) _, (h.2.1.set 0 (by simp) _).set 1 (by simp) _, ?_, hc, below_put1 (below_put1 h.2.2.2.2.1 (by omega) _ _) (by omega) _ _, hX⟩
  exact (hd.set_bool (h.2.1.c 0 rfl) 0 _).set_bool (X := X) (s := false) (by rw [World.cell?_setCell_same' _ _ _ (by rw [h.2.1.c 0 rfl]; rfl)]) 1 _
end
theorem refquo_ten (m : Nat) (A B : Option Addr) (c d : Nat) (w : World) (ha : DS w m A) (hb : DS w 10 B) (la : L16 m ≤ 1000) :
    Calls Tryd.prog 33 #[.agg #[.bool false, .slice A (L16 m) c], .agg #[.bool false, .slice B (L16 10) d]] w fun e w' => ∃ A1 c1 A2 c2, e = .returned (.tuple #[.agg #[.bool false, .slice A1 (L16 (m / 10)) c1], .agg #[.bool false, .slice A2 (L16 (m % 10)) c2]]) ∧ L16 (m / 10) ≤ c1 ∧ L16 (m % 10) ≤ c2 ∧ DS w' (m / 10) A1 ∧ DS w' (m % 10) A2 ∧ Below w.heap.size w w' := by
  have h := refquo_z (m : Int) (10 : Nat) A B c d w ha hb la (Nat.le_trans (L16_le (n := 1) (by decide)) (by decide)) (by decide)
  rw [bigv_nat, bigv_nat, show ((m : Int)).tdiv ((10 : Nat) : Int) = ((m / 10 : Nat) : Int) from rfl, show ((m : Int)).tmod ((10 : Nat) : Int) = ((m % 10 : Nat) : Int) from rfl] at h
  unfold QuoPost at h
  simp only [bigv_nat, Int.natAbs_natCast] at h
  exact h
theorem num_ten (w : World) : Calls Tryd.prog 12 #[.int .i64 10] w fun e w' => ∃ A c, e = .returned (.agg #[.bool false, .slice A (L16 10) c]) ∧ L16 10 ≤ c ∧ DS w' 10 A ∧ Below w.heap.size w w' := by
  have h := num_z 10 w (by decide) (by decide)
  rw [show (10 : Int) = ((10 : Nat) : Int) from rfl] at h
  unfold BigPost at h
  simp only [bigv_nat, Int.natAbs_natCast] at h
  exact h
/-- What stands behind Quo, in Text: as before, and the two numbers that it answered. -/
def TQ (w : World) (X : Nat) (V : List Value) (m : Nat) (A : Option Addr) (c : Nat) (q : Nat) (A1 : Option Addr) (r : Nat) (A2 : Option Addr) (W : World) : Prop := TX w X V m A c W ∧ DS W q A1 ∧ DS W r A2
section
variable {w W W1 : World} {X : Nat} {V : List Value} {m q r : Nat} {A A1 A2 : Option Addr} {c : Nat}
theorem TQ.alloc (h : TQ w X V m A c q A1 r A2 W) (o : Obj) : TQ w X V m A c q A1 r A2 (W.alloc o) :=
  ⟨h.1.alloc o, h.2.1.below ((Below.refl _ _).alloc (Nat.le_refl _) _), h.2.2.below ((Below.refl _ _).alloc (Nat.le_refl _) _)⟩
theorem TX.put2 (h : TX w X V m A c W) {B : Nat} (hB : Row W B [.bool false, .slice none 0 0]) (hX : B ≠ X) (hw : w.heap.size < B) (b : Bool) (u : Value) : TX w X V m A c ((W.setCell ⟨B, 0, none⟩ (.bool b)).setCell ⟨B, 1, none⟩ u) :=
  ⟨(h.1.other (p := ⟨B, 0, none⟩) (by show B ≠ w.heap.size; omega) _).other (p := ⟨B, 1, none⟩) (by show B ≠ w.heap.size; omega) _, (h.2.1.other (p := ⟨B, 0, none⟩) hX _).other (p := ⟨B, 1, none⟩) hX _, (h.2.2.1.set_bool (hB.c 0 rfl) 0 _).set_bool (X := B) (s := b) (by rw [World.cell?_setCell_same' _ _ _ (by rw [hB.c 0 rfl]; rfl)]) 1 _, h.2.2.2.1, below_put1 (below_put1 h.2.2.2.2.1 (by omega) _ _) (by omega) _ _, h.2.2.2.2.2⟩
theorem TQ.put2 (h : TQ w X V m A c q A1 r A2 W) {B : Nat} (hB : Row W B [.bool false, .slice none 0 0]) (hX : B ≠ X) (hw : w.heap.size < B) (b : Bool) (u : Value) : TQ w X V m A c q A1 r A2 ((W.setCell ⟨B, 0, none⟩ (.bool b)).setCell ⟨B, 1, none⟩ u) :=
  ⟨h.1.put2 hB hX hw b u, (h.2.1.set_bool (hB.c 0 rfl) 0 _).set_bool (X := B) (s := b) (by rw [World.cell?_setCell_same' _ _ _ (by rw [hB.c 0 rfl]; rfl)]) 1 _, (h.2.2.set_bool (hB.c 0 rfl) 0 _).set_bool (X := B) (s := b) (by rw [World.cell?_setCell_same' _ _ _ (by rw [hB.c 0 rfl]; rfl)]) 1 _⟩
end
set_option maxRecDepth 100000 in
set_option maxHeartbeats 4000000 in
theorem reftext_z (z : Int) (A : Option Addr) (c : Nat) (w : World) (hd : DS w z.natAbs A) (hc : L16 z.natAbs ≤ c) (hz : z.natAbs < T256) :
    Calls Tryd.prog 39 #[bigv z A c] w fun e w' => e = .returned (.string ⟨(textL z).toArray⟩) ∧ Below w.heap.size w w' := by
  have HOf := Lib.hid (fun W (hW : Below w.heap.size w W) => of_z false z.natAbs (L16 z.natAbs) A c (z.natAbs : Nat) W rfl (Nat.le_refl _) (by have := L16_int.1 hz; omega) hc (hd.below hW))
  have HLen := Lib.hid (dec_len_all hz)
  have HZ : Hid (textL z = if z < 0 then 45 :: Lib.decDigits z.natAbs else Lib.decDigits z.natAbs) := Lib.hid rfl
  have HL := Lib.hid (show ∀ k, k ≤ z.natAbs → L16 k ≤ 1000 from fun k hk => by have := L16_mono hk; have := L16_int.1 hz; omega)
  rw [bigv]
  generalize textL z = T at *
  clear hz hd hc
  have HS : Hid (∀ b : Bool, decide (z < 0) = b → (b = true ↔ z < 0)) := Lib.hid (fun b h => by rw [← h]; simp)
  simp only [bigv_nat, Int.natAbs_natCast] at HOf
  have HNz : Hid (z.natAbs = 0 → ¬ z < 0) := Lib.hid (fun h => by omega)
  generalize hn : z.natAbs = n at *
  clear hn
  generalize hs : decide (z < 0) = s at *
  have HSg := Lib.hid (HS.out s rfl)
  clear hs HS
  go_enter Tryd.func39, Tryd.ntmps39
  go_wp2_with fail
  refine (HOf.out _ ((Below.refl w.heap.size w).alloc (Nat.le_refl _) _)).mono ?_
  rintro e w1 ⟨rfl, hc1, hd1, hb1⟩
  have hT : TX w w1.heap.size [.bool s, .slice A (L16 n) c] n A c (w1.alloc (.cells #[.bool false, .slice A (L16 n) c] 30)) :=
    ⟨((Row.at rfl _ _).after hb1).alloc _, Row.at rfl _ _, hd1.below ((Below.refl _ _).alloc (Nat.le_refl _) _), hc1, (((Below.refl w.heap.size w).alloc (Nat.le_refl _) _).trans (hb1.mono (by simp))).alloc (by have := hb1.size; simp at this; omega) _, by have := hb1.size; simp at this; omega⟩
  have HT := Lib.hid hT
  clear hT hd1 hb1 HOf hc1
  go_wp2_with fail
  generalize World.alloc _ _ = W1 at HT ⊢
  generalize w1.heap.size = X at HT ⊢
  go_loopg [3] n (fun g v wr => ∃ S : ByteArray, v = .string S ∧ ∃ A1 c1, Hid (g ≤ n ∧ dec0 n = dec0 g ++ S.data.toList ∧ S.size ≤ 78) ∧ Hid (TX w X [.bool s, .slice A (L16 n) c] g A1 c1 wr))
  case atStart => exact ⟨⟨#[]⟩, rfl, A, c, Lib.hid ⟨Nat.le_refl _, by simp, by simp [ByteArray.size]⟩, HT⟩
  case round =>
    obtain ⟨S, rfl, A1, c1, HG, HK⟩ := hrel
    clear HT
    have q0 := HK.out.2.1.c 0 rfl
    have q1 := HK.out.2.1.c 1 rfl
    by_cases hg : gk = 0
    · have HG0 := Lib.hid hg
      have hl0 : L16 gk = 0 := by rw [hg, L16_nought]
      clear hg
      generalize L16 gk = lg at *
      subst hl0
      have b0 := HK.out.1.c 0 rfl
      have hSd : S.data.toList = dec0 n := by have h := HG.out.2.1; rw [HG0.out, dec0_nought] at h; exact h.symm
      have HSd := Lib.hid hSd
      have HB := Lib.hid HK.out.2.2.2.2.1
      have hS78 : S.size ≤ 78 := HG.out.2.2
      by_cases hn0 : n = 0
      · have he : S.toList.isEmpty = true := by rw [ByteArray.toList_eq, hSd, hn0]; rfl
        have HT0 : Hid (T = [48]) := Lib.hid (by rw [HZ.out, if_neg (fun h => by have := HNz.out hn0; omega), hn0]; simp [Lib.decDigits])
        clear hSd hn0
        go_wp2_with fail
        go_ret
        exact ⟨by show Ending.returned (.string ⟨#[48]⟩) = _; rw [HT0.out], HB.out⟩
      · have he : S.toList.isEmpty = false := by
          rw [ByteArray.toList_eq, hSd, dec0_pos hn0]
          cases h : Lib.decDigits n with
          | nil => exact absurd h (dec_ne n)
          | cons _ _ => rfl
        have HSn : Hid (S = ⟨(Lib.decDigits n).toArray⟩) := Lib.hid (by
          apply ByteArray.ext
          rw [dec0_pos hn0] at hSd
          show S.data = (Lib.decDigits n).toArray
          rw [← hSd])
        have n1 : ¬ 9223372036854775807 < 1 + S.size := by omega
        clear hSd hn0
        cases s
        · have HT1 : Hid (S = ⟨T.toArray⟩) := Lib.hid (by rw [HZ.out, if_neg (fun h => by have := HSg.out.2 h; cases this), HSn.out])
          go_wp2_with fail
          go_ret
          exact ⟨by show Ending.returned (.string S) = _; rw [← HT1.out], HB.out⟩
        · have HT1 : Hid (⟨#[45]⟩ ++ S = ⟨T.toArray⟩) := Lib.hid (by
            rw [HZ.out, if_pos (HSg.out.1 rfl), HSn.out]
            apply ByteArray.ext
            simp)
          go_wp2_with fail
          go_ret
          exact ⟨by show Ending.returned (.string (⟨#[45]⟩ ++ S)) = _; rw [HT1.out], HB.out⟩
    · have hl1 : (0 : Int) < L16 gk := by
        rcases Nat.eq_zero_or_pos (L16 gk) with h | h
        · exact absurd (L16_zero h) hg
        · omega
      have HGn := Lib.hid hg
      clear hg
      have HQu := Lib.hid (fun W B d (h1 : DS W gk A1) (h2 : DS W 10 B) => refquo_ten gk A1 B c1 d W h1 h2 (HL.out gk HG.out.1))
      have hT0 : TX w X [.bool s, .slice A (L16 n) c] gk A1 c1 wr := HK.out
      have k0 : ∀ W, TX w X [.bool s, .slice A (L16 n) c] gk A1 c1 W → W.cell? ⟨X, 0, none⟩ = some (.bool false) := fun W h => h.2.1.c 0 rfl
      have k1 : ∀ W, TX w X [.bool s, .slice A (L16 n) c] gk A1 c1 W → W.cell? ⟨X, 1, none⟩ = some (.slice A1 (L16 gk) c1) := fun W h => h.2.1.c 1 rfl
      go_upto_region 4 with fail
      generalize hlq : L16 (gk / 10) = lq at *
      generalize hlr : L16 (gk % 10) = lr at *
      have HLQ := Lib.hid hlq
      have HLR := Lib.hid hlr
      clear hlq hlr
      generalize hlg : L16 gk = lg at *
      clear hlg
      clear hl1 q0 q1
      go_cut [5, 6] from 10 to 29 (fun p r wx => ∃ B5 B6 A2 c2 A3 c3, p = .pointer (some ⟨B5, 0, none⟩) ∧ r = .pointer (some ⟨B6, 0, none⟩) ∧ Hid (TQ w X [.bool s, .slice A (L16 n) c] gk A1 c1 (gk / 10) A2 (gk % 10) A3 wx ∧ lq ≤ c2 ∧ wx.cell? ⟨B5, 0, none⟩ = some (.bool false) ∧ wx.cell? ⟨B5, 1, none⟩ = some (.slice A2 lq c2) ∧ wx.cell? ⟨B6, 1, none⟩ = some (.slice A3 lr c3)))
      case first =>
        have hX0 : X < wr.heap.size := hT0.2.1.lt
        have hw0 : w.heap.size < X := hT0.2.2.2.2.2
        have hp0 := hT0.drew
        go_region_held3 (fun w' : World => TX w X [.bool s, .slice A (L16 n) c] gk A1 c1 w')
          (first
            | (with_reducible assumption)
            | (with_reducible refine TX.drew ?_; with_reducible assumption)
            | (with_reducible refine TX.after ?_ hb; with_reducible assumption)
            | (repeat (first | (with_reducible assumption) | (with_reducible refine TX.alloc ?_ _) | (with_reducible refine TX.drew ?_) | (refine TX.put2 ?_ (by first | exact rA | exact rB | exact rA.alloc _ | exact rB.alloc _ | exact (rA.alloc _).alloc _ | exact (rB.other (by first | (simp; done) | (simp; omega)) _).other (by first | (simp; done) | (simp; omega)) _ | exact (rA.other (by first | (simp; done) | (simp; omega)) _).other (by first | (simp; done) | (simp; omega)) _) (by omega) (by omega) _ _))))
          (first
            | (go_at_call 12; refine Calls.mono (num_ten _) ?_; rintro e v1 ⟨A2, c2, rfl, hc2, hd2, hb⟩; have HD2 := Lib.hid hd2; clear hd2 hc2; have hTX1 := TX.after (w := w) (X := X) (V := [.bool s, .slice A (L16 n) c]) (m := gk) (A := A1) (c := c1) (by assumption) hb; have hx1 := hTX1.2.1.lt; (first
                | (have rA := ((Row.at (w := wr) (n := wr.heap.size) rfl [.bool false, .slice none 0 0] 30).alloc (.cells #[.bool false, .slice none 0 0] 30)).drew.after hb; have rB := (Row.at (w := wr.alloc (.cells #[.bool false, .slice none 0 0] 30)) (n := wr.heap.size + 1) (by simp) [.bool false, .slice none 0 0] 30).drew.after hb)
                | (have rA := (Row.at (w := wr) (n := wr.heap.size) rfl [.bool false, .slice none 0 0] 30).drew.after hb)
                | skip); try (have za := rA.lt); try (have zb := rB.lt))
            | (go_at_call 33; refine Calls.mono (by with_reducible exact (HQu.out _ _ _ (TX.ds (w := w) (X := X) (V := [.bool s, .slice A (L16 n) c]) (c := c1) (by assumption)) (HD2.out.below (by first | exact Below.refl _ _ | exact (Below.refl _ _).alloc (Nat.le_refl _) _ | exact ((Below.refl _ _).alloc (Nat.le_refl _) _).alloc (by simp) _)))) ?_; clear hb; rintro e v2 ⟨A3, c3, A4, c4, rfl, hc3, hc4, hd3, hd4, hb⟩; have HC3 := Lib.hid hc3; have hTQ : TQ w X [.bool s, .slice A (L16 n) c] gk A1 c1 (gk / 10) A3 (gk % 10) A4 v2 := ⟨TX.after (by assumption) hb, hd3, hd4⟩; clear hc3 hc4 hd3 hd4; have hTX2 := hTQ.1; have hx2 := hTX2.2.1.lt; (first
                | (replace rB := rB.after hb; replace rA := rA.after hb)
                | (have rB := (Row.at (w := v1) rfl [.bool false, .slice none 0 0] 30).after hb; replace rA := (rA.alloc _).after hb)
                | (replace rA := rA.after hb)
                | (have rB := (Row.at (w := v1.alloc (.cells #[.bool false, .slice none 0 0] 30)) (n := v1.heap.size + 1) (by simp) [.bool false, .slice none 0 0] 30).after hb; have rA := ((Row.at (w := v1) rfl [.bool false, .slice none 0 0] 30).alloc (.cells #[.bool false, .slice none 0 0] 30)).after hb)
                | (have rA := (Row.at (w := v1) rfl [.bool false, .slice none 0 0] 30).after hb)
                | skip); try (have z0 := rA.c 0 rfl; have z1 := rA.c 1 rfl; have y0 := rA.f 0 rfl; have y1 := rA.f 1 rfl; have zl := rA.lt); try (have x0 := rB.c 0 rfl; have x1 := rB.c 1 rfl; have u0 := rB.f 0 rfl; have u1 := rB.f 1 rfl; have xl := rB.lt)))
        all_goals
          go_wp2_with fail
          go_meet
          refine ⟨_, _, A3, c3, A4, c4, rfl, rfl, Lib.hid ⟨?_, HC3.out, ?_, ?_, ?_⟩⟩
          · repeat (first | (with_reducible exact hTQ) | (with_reducible refine TQ.alloc ?_ _) | (refine TQ.put2 ?_ (by first | exact rA | exact rB | exact rA.alloc _ | exact rB.alloc _ | exact (rA.alloc _).alloc _ | exact (rB.other (by first | (simp; done) | (simp; omega)) _).other (by first | (simp; done) | (simp; omega)) _ | exact (rA.other (by first | (simp; done) | (simp; omega)) _).other (by first | (simp; done) | (simp; omega)) _) (by omega) (by omega) _ _))
          · go_simp
          · go_simp
          · go_simp
      case rest =>
        obtain ⟨B5, B6, A3, c3, A4, c4, rfl, rfl, HF⟩ := hcut
        have hd10 : gk % 10 < 10 := Nat.mod_lt _ (by decide)
        have hL10 : gk / 10 < gk := by have := HGn.out; omega
        have HAt := Lib.hid (fun W (h : DS W (gk % 10) A4) => by
          have h1 := at_z (gk % 10) 0 A4 c4 W h
          rw [show digR (gk % 10) 0 = ((gk % 10 : Nat) : Int) by rw [digR, D16_first, Nat.mod_eq_of_lt (by omega)], HLR.out, show ((0 : Nat) : Int) = 0 from rfl] at h1
          exact h1)
        have HSt := Lib.hid (dec0_step HGn.out)
        have HPut := Lib.hid (fun W (h : TX w X [.bool s, .slice A (L16 n) c] gk A1 c1 W) (h1 : DS W (gk / 10) A3) (h2 : lq ≤ c3) => by
          have h3 := h.put h1 (by rw [HLQ.out]; exact h2)
          rw [HLQ.out] at h3
          exact h3)
        clear k0 k1 hT0 HQu HLQ HLR HK
        generalize gk % 10 = d at *
        have b61 := HF.out.2.2.2.2
        go_wp2_with fail
        refine (HAt.out _ HF.out.1.2.2).mono ?_
        rintro e w2 ⟨rfl, rfl⟩
        obtain ⟨C, HC, hC⟩ : ∃ C : ByteArray, Hid (C = ⟨#[UInt8.ofNat (48 + d)]⟩) ∧ C.size ≤ 1 := ⟨_, Lib.hid rfl, by simp [ByteArray.size]⟩
        have hcv : (convert 102 9 (.slice (some ⟨wc.heap.size, 0, none⟩) 1 1)).run Tryd.prog (wc.alloc (.cells #[.int .u8 (48 + (d : Int))] 5)) = .ok (.string C) (wc.alloc (.cells #[.int .u8 (48 + (d : Int))] 5)) := by
          rw [HC.out]
          exact run_convert_bytes_back (P := Tryd.prog) _ 102 9 5 ⟨wc.heap.size, 0, none⟩ 1 [UInt8.ofNat (48 + d)] Tryd.underlying102 Tryd.underlying5 Tryd.underlying9 (fun j hj => by
            obtain rfl : j = 0 := by simpa using hj
            have e : ((UInt8.ofNat (48 + d)).toNat : Int) = 48 + d := by simp; omega
            show World.cell? _ _ = some (.int .u8 ((UInt8.ofNat (48 + d)).toNat : Int))
            rw [e]
            simp [Addr.add])
        have hw8 : IntKind.u8.wrap (48 + (d : Int)) = 48 + (d : Int) := by simp [IntKind.wrap, IntKind.bits, IntKind.signed]; omega
        have hS78 : S.size ≤ 78 := HG.out.2.2
        have n1 : ¬ 9223372036854775807 < C.size + S.size := by omega
        clear b61
        have hbl := (Below.refl wc.heap.size wc).alloc (Nat.le_refl _) (.cells #[.int .u8 (48 + (d : Int))] 5)
        have c50 := (hbl.cell (p := ⟨B5, 0, none⟩) (block_lt_of_cell HF.out.2.2.1)).trans HF.out.2.2.1
        have c51 := (hbl.cell (p := ⟨B5, 1, none⟩) (block_lt_of_cell HF.out.2.2.2.1)).trans HF.out.2.2.2.1
        have HK2 := Lib.hid (HF.out.1.1.after hbl)
        have HD2 := Lib.hid (HF.out.1.2.1.below hbl)
        have q2 := HK2.out.2.1.c 0 rfl
        have q3 := HK2.out.2.1.c 1 rfl
        have q4 := HK2.out.2.1.f 0 rfl
        have q5 := HK2.out.2.1.f 1 rfl
        clear hbl
        go_wp2_with fail
        have HK3 := Lib.hid (HPut.out _ HK2.out HD2.out HF.out.2.1)
        clear c50 c51 q2 q3 q4 q5 hcv
        generalize World.setCell _ _ _ = W3 at HK3 ⊢
        go_roundg (gk / 10)
        case measure => exact hL10
        case rel =>
          have hcs : (C ++ S).data.toList = UInt8.ofNat (48 + d) :: S.data.toList := by rw [HC.out]; simp
          have hdec : dec0 n = dec0 (gk / 10) ++ (C ++ S).data.toList := by rw [HG.out.2.1, HSt.out, hcs, List.append_assoc]; rfl
          refine ⟨C ++ S, rfl, A3, c3, Lib.hid ⟨by have := HG.out.1; omega, hdec, ?_⟩, HK3⟩
          have h1 := congrArg List.length hdec
          have h2 : (dec0 n).length ≤ 78 := by
            unfold dec0
            split
            · simp
            · exact HLen.out
          rw [List.length_append] at h1
          have h3 : (C ++ S).data.toList.length = (C ++ S).size := Array.length_toList
          omega
end Go.Proofs.YtpbdhhdmnnelhaaDoor
