/- Contract of the document's Parse, of a text of the right form. -/
import Derived.Test.YtpbdhhdmnnelhaaDoorDG
import Derived.Test.YtpbdhhdmnnelhaaDoorCD
import Derived.Test.YtpbdhhdmnnelhaaDoorBV
import Derived.Deep.CutBlock
namespace Go.Proofs.YtpbdhhdmnnelhaaDoor
open Go.RowKit

/-- What stands while the document's Parse reads: its answer's place, the number so far. -/
def PX (w : World) (X : Nat) (z : Int) (A : Option Addr) (c : Nat) (W : World) : Prop :=
  Row W w.heap.size [.bool false, .slice none 0 0] ∧ Row W X [.bool (decide (z < 0)), .slice A (L16 z.natAbs) c] ∧ DS W z.natAbs A ∧ L16 z.natAbs ≤ c ∧ Below w.heap.size w W ∧ w.heap.size < X
theorem PX.after {w W W1 : World} {X : Nat} {z : Int} {A : Option Addr} {c : Nat} (h : PX w X z A c W) (hb : Below W.heap.size W W1) : PX w X z A c W1 :=
  ⟨h.1.after hb, h.2.1.after hb, h.2.2.1.below hb, h.2.2.2.1, h.2.2.2.2.1.trans (hb.mono h.2.2.2.2.1.size), h.2.2.2.2.2⟩
theorem PX.drew {w W : World} {X : Nat} {z : Int} {A : Option Addr} {c : Nat} (h : PX w X z A c W) : PX w X z A c W.drew := h.after (Below.refl _ _).drew
theorem PX.alloc {w W : World} {X : Nat} {z : Int} {A : Option Addr} {c : Nat} (h : PX w X z A c W) (o : Obj) : PX w X z A c (W.alloc o) := h.after ((Below.refl _ _).alloc (Nat.le_refl _) _)
theorem PX.put {w W : World} {X : Nat} {z y : Int} {A B : Option Addr} {c d : Nat} (h : PX w X z A c W) (hd : DS W y.natAbs B) (hc : L16 y.natAbs ≤ d) :
    PX w X y B d ((W.setCell ⟨X, 0, none⟩ (.bool (decide (y < 0)))).setCell ⟨X, 1, none⟩ (.slice B (L16 y.natAbs) d)) := by
  have hX := h.2.2.2.2.2
  refine ⟨(h.1.other (p := ⟨X, 0, none⟩) (by show X ≠ w.heap.size; omega) _).other (p := ⟨X, 1, none⟩) (by show X ≠ w.heap.size; omega) _, (h.2.1.set 0 (by simp) _).set 1 (by simp) _, ?_, hc, below_put1 (below_put1 h.2.2.2.2.1 (by omega) _ _) (by omega) _ _, hX⟩
  exact (hd.set_bool (h.2.1.c 0 rfl) 0 _).set_bool (X := X) (s := decide (y < 0)) (by rw [World.cell?_setCell_same' _ _ _ (by rw [h.2.1.c 0 rfl]; rfl)]) 1 _
theorem dv_lt (D : ByteArray) (h : ∀ k, dgt D k < 10) : ∀ k, dv D k < 10 ^ k
  | 0 => by rw [dv]; decide
  | k + 1 => by
    have := dv_lt D h k
    have := h k
    rw [dv, Nat.pow_succ]
    omega
theorem pow_cmp (k n : Nat) (h : k ≤ n) : 10 ^ k ≤ 65536 ^ n := Nat.le_trans (Nat.pow_le_pow_right (by decide) h) (Nat.pow_le_pow_left (by decide) _)
theorem dv_digits {D : ByteArray} (h : ∀ k, dgt D k < 10) {k : Nat} (hk : k ≤ 100) : L16 (dv D k) ≤ 1000 := by
  apply L16_le
  refine Nat.lt_of_lt_of_le (dv_lt D h k) (pow_cmp k 1000 (by omega))

theorem dv_digits10 {D : ByteArray} (h : ∀ k, dgt D k < 10) {k : Nat} (hk : k + 1 ≤ 100) : L16 (((dv D k : Nat) : Int).natAbs * (10 : Int).natAbs) ≤ 1000 := by
  refine Nat.le_trans (L16_mono ?_) (dv_digits h hk)
  rw [dv]
  show dv D k * 10 ≤ _
  omega
theorem ten_small (n : Nat) (h : 1 ≤ n) : (10 : Int).natAbs < 65536 ^ n := Nat.lt_of_lt_of_le (show (10 : Int).natAbs < 65536 ^ 1 by decide) (Nat.pow_le_pow_right (by decide) h)
theorem ten_len : L16 (10 : Int).natAbs ≤ 1000 := Nat.le_trans (L16_le (ten_small 1 (Nat.le_refl _))) (by decide)
theorem dig_len {d : Nat} (h : d < 10) : L16 ((d : Nat) : Int).natAbs ≤ 1000 := Nat.le_trans (L16_le (n := 1) (by show d < 65536 ^ 1; omega)) (by decide)
/-- What the document's Parse answers: a number, an error's number. -/
def PPost (w : World) (Z K : Int) (e : Ending) (w' : World) : Prop := ∃ A c, e = .returned (.tuple #[bigv Z A c, .int .i64 K]) ∧ DS w' Z.natAbs A ∧ Below w.heap.size w w'
theorem PPost.nought {w w' : World} {K : Int} (h : Below w.heap.size w w') : PPost w 0 K (.returned (.tuple #[.agg #[.bool false, .slice none 0 0], .int .i64 K])) w' :=
  ⟨none, 0, by rw [bigv, show (0 : Int).natAbs = 0 from rfl, L16_nought]; simp, DS.nought _, h⟩
theorem PX.row0 {w W : World} {X : Nat} {z : Int} {A : Option Addr} {c : Nat} (h : PX w X z A c W) : Row W w.heap.size [.bool false, .slice none 0 0] := h.1
theorem PX.ret {w W : World} {X : Nat} {z : Int} {A : Option Addr} {c : Nat} (h : PX w X z A c W) (b : Bool) (u : Value) :
    Row ((W.setCell ⟨w.heap.size, 0, none⟩ (.bool b)).setCell ⟨w.heap.size, 1, none⟩ u) w.heap.size [.bool b, u] ∧ DS ((W.setCell ⟨w.heap.size, 0, none⟩ (.bool b)).setCell ⟨w.heap.size, 1, none⟩ u) z.natAbs A ∧ Below w.heap.size w ((W.setCell ⟨w.heap.size, 0, none⟩ (.bool b)).setCell ⟨w.heap.size, 1, none⟩ u) :=
  ⟨(h.1.set 0 (by simp) _).set 1 (by simp) _, (h.2.2.1.set_bool (h.1.c 0 rfl) 0 _).set_bool (X := w.heap.size) (s := b) (by rw [World.cell?_setCell_same' _ _ _ (by rw [h.1.c 0 rfl]; rfl)]) 1 _, below_put1 (below_put1 h.2.2.2.2.1 (Nat.le_refl _) _ _) (Nat.le_refl _) _ _⟩
set_option maxRecDepth 100000 in
set_option maxHeartbeats 4000000 in
theorem refparse_yes (s D : ByteArray) (neg : Bool) (Z K : Int) (w : World) (hs : s.size ≤ 1000) (h0 : 0 < s.size) (hn : (((s[0]'h0).toNat : Int) == 45) = neg) (hD : (if neg = true then s.extract 1 s.size else s) = D)
    (hD0 : 0 < D.size) (hok : ((D[0]'hD0).toNat : Int) = 48 → D.size = 1 ∧ neg = false) (hDs : D.size ≤ 1000) (hdig : ∀ (k : Nat) (h : k < D.size), isDig (D[k]'h) = true) (hZ : (dv D D.size < T256 → Z = textN neg D ∧ K = 0) ∧ (¬ dv D D.size < T256 → Z = 0 ∧ K = 110)) :
    Calls Tryd.prog 38 #[.string s] w (PPost w Z K) := by
  have hs0 : (0 : Int) < s.size := by omega
  have HZ := Lib.hid hZ
  clear hZ
  have HE : Hid (D.toList.isEmpty = false) := Lib.hid (by
    rw [ByteArray.toList_eq]
    have h2 : D.data.toList.length = D.size := Array.length_toList
    cases h : D.data.toList with
    | nil => rw [h] at h2; simp at h2; omega
    | cons _ _ => rfl)
  have HOk := Lib.hid hok
  have HDg := Lib.hid hdig
  have HD := Lib.hid hD
  have HC : Hid (100 < D.size → 1 ≤ dgt D 0) := Lib.hid (fun h => by
    rw [dgt, dif_pos hD0]
    have h1 := (isDig_at _).1 (HDg.out 0 hD0)
    have h2 : ¬ ((D[0]'hD0).toNat : Int) = 48 := fun e => by have := (HOk.out e).1; omega
    omega)
  clear hok hdig hD
  go_enter Tryd.func38, Tryd.ntmps38
  go_upto_if 20 with fail
  have HR0 : Hid (Row (w.alloc (.cells #[.bool false, .slice none 0 0] 30)) w.heap.size [.bool false, .slice none 0 0]) := Lib.hid (Row.at rfl _ _)
  have HB0 : Hid (Below w.heap.size w (w.alloc (.cells #[.bool false, .slice none 0 0] 30))) := Lib.hid ((Below.refl _ _).alloc (Nat.le_refl _) _)
  generalize World.alloc _ _ = W0 at HR0 HB0 ⊢
  go_cut [4, 5] from 11 (fun b d wx => b = .bool neg ∧ d = .string D ∧ wx = W0)
  case first =>
    cases neg
    · have hD2 := HD.out.symm
      simp only [Bool.false_eq_true, if_false] at hD2
      have HD2 := Lib.hid hD2
      clear hD2
      go_wp2_with fail
      go_meet
      exact ⟨rfl, by rw [HD2.out], rfl⟩
    · have hD2 := HD.out.symm
      simp only [if_true] at hD2
      have HD2 := Lib.hid hD2
      clear hD2
      go_wp2_with fail
      go_meet
      exact ⟨rfl, by rw [HD2.out], rfl⟩
  case rest =>
    obtain ⟨rfl, rfl, rfl⟩ := hcut
    clear hn hs0 h0
    have he := HE.out
    go_upto_region 5 with fail
    go_cut [37] from 11 (fun q wx => q = .bool false ∧ wx = wc)
    case first =>
      have hD1 : (0 : Int) < D.size := by omega
      by_cases h48 : ((D[0]'hD0).toNat : Int) = 48
      · obtain ⟨hz1, rfl⟩ := HOk.out h48
        go_wp2_with fail
        go_meet
        exact ⟨rfl, rfl⟩
      · go_wp2_with fail
        go_meet
        exact ⟨rfl, rfl⟩
    case rest =>
      obtain ⟨rfl, rfl⟩ := hcut
      clear he HE HOk
      go_wp2_with fail
      go_loopw [6] (fun v wr => ∃ k : Nat, k ≤ D.size ∧ v = .int .i64 k ∧ wr = wc) (fun v _ => D.size - (intOf v).toNat)
      case atStart => exact ⟨0, by omega, rfl, rfl⟩
      case round =>
        obtain ⟨k, hk, rfl, rfl⟩ := hrel
        by_cases hkn : k < D.size
        · have hk1 : (k : Int) < D.size := by omega
          obtain ⟨d1, d2⟩ := (isDig_at _).1 (HDg.out k hkn)
          go_wp2_with fail
          exact ⟨⟨k + 1, by omega, rfl, by first | trivial | rfl⟩, by simp [intOf]; omega⟩
        · obtain rfl : k = D.size := by omega
          by_cases hl : 100 < D.size
          · have hl1 : (100 : Int) < D.size := by omega
            have hov := dv_over (HC.out hl) hl
            obtain ⟨rfl, rfl⟩ := HZ.out.2 hov
            clear hov
            have a0 := HR0.out.c 0 rfl
            have a1 := HR0.out.c 1 rfl
            have b0 := HR0.out.f 0 rfl
            have b1 := HR0.out.f 1 rfl
            go_wp2_with fail
            clear a0 a1 b0 b1
            generalize hW : World.setCell _ _ _ = W3
            have r3 : Row W3 w.heap.size [.bool false, .slice none 0 0] := by rw [← hW]; exact (HR0.out.set 0 (by simp) _).set 1 (by simp) _
            have hB3 : Below w.heap.size w W3 := by rw [← hW]; exact below_put1 (below_put1 HB0.out (Nat.le_refl _) _ _) (Nat.le_refl _) _ _
            exact bodyPost_ret (v := .tuple #[.agg #[.bool false, .slice none 0 0], .int .i64 110]) (by simp [results, Tryd.results38, go_sem, r3.c 0 rfl, r3.c 1 rfl]) rfl (PPost.nought hB3)
          · have hl1 : ¬ (100 : Int) < D.size := by omega
            go_upto_block 2 with fail
            have hPX : PX w wr.heap.size 0 none 0 (wr.alloc (.cells #[.bool false, .slice none 0 0] 30)) := by
              refine ⟨HR0.out.alloc _, ?_, DS.nought _, by show L16 0 ≤ 0; rw [L16_nought]; omega, HB0.out.alloc HB0.out.size _, HR0.out.lt⟩
              have e : [Value.bool (decide ((0 : Int) < 0)), .slice none (L16 (0 : Int).natAbs) 0] = [.bool false, .slice none 0 0] := by
                rw [show (0 : Int).natAbs = 0 from rfl, L16_nought]; simp
              rw [e]
              exact Row.at rfl _ _
            have HX := Lib.hid hPX
            have HNm := Lib.hid (fun W => num_z 10 W (by decide) (by decide))
            have hd10 : ∀ k, dgt D k < 10 := fun k => by
              unfold dgt
              split
              · rename_i h
                have h1 := (isDig_at _).1 (HDg.out k h)
                omega
              · decide
            have HNd := Lib.hid (fun k W => num_z (dgt D k : Nat) W (by omega) (by have := hd10 k; omega))
            have HM := Lib.hid (fun k A c B d W (hk : k ≤ 100) (h1 : DS W (((dv D k : Nat) : Int)).natAbs A) (h2 : DS W (10 : Int).natAbs B) => mul_z (dv D k : Nat) 10 A B c d W h1 h2 (dv_digits hd10 hk) ten_len)
            have HAd := Lib.hid (fun k A c B d W (hk : k + 1 ≤ 100) (h1 : DS W (((dv D k : Nat) : Int) * 10).natAbs A) (h2 : DS W (((dgt D k : Nat) : Int)).natAbs B) => refadd_p (((dv D k : Nat) : Int) * 10) (dgt D k : Nat) A B c d W h1 h2 (by rw [Int.natAbs_mul]; exact dv_digits10 hd10 hk) (dig_len (hd10 k)))
            have HDgt := Lib.hid hd10
            clear hPX hd10
            clear HR0 HB0
            generalize World.alloc _ _ = W1 at HX ⊢
            generalize wr.heap.size = X at HX ⊢
            go_cut [] from 8 (fun wx => ∃ A c, Hid (PX w X (dv D D.size : Nat) A c wx))
            case first =>
              go_wp2_with fail
              go_loopw [8] (fun v wr => ∃ k : Nat, k ≤ D.size ∧ v = .int .i64 k ∧ ∃ A c, Hid (PX w X (dv D k : Nat) A c wr)) (fun v _ => D.size - (intOf v).toNat)
              case atStart => exact ⟨0, by omega, rfl, none, 0, HX⟩
              case round =>
                obtain ⟨k, hk, rfl, A1, c1, HK⟩ := hrel
                clear HX
                by_cases hkn : k < D.size
                · have hk1 : (k : Int) < D.size := by omega
                  obtain ⟨d1, d2⟩ := (isDig_at _).1 (HDg.out k hkn)
                  have hdk : dgt D k = (D[k]'hkn).toNat - 48 := by rw [dgt, dif_pos hkn]
                  have ed : IntKind.u8.wrap ((((D[k]'hkn).toNat : Nat) : Int) - 48) = ((dgt D k : Nat) : Int) := by
                    have h1 : (((D[k]'hkn).toNat : Nat) : Int) - 48 = ((dgt D k : Nat) : Int) := by omega
                    have := HDgt.out k
                    rw [h1]; simp [IntKind.wrap, IntKind.bits, IntKind.signed]; omega
                  have hdl := HDgt.out k
                  have HNk := Lib.hid (fun W => HNd.out k W)
                  have HMk := Lib.hid (fun A c B d W h1 h2 => HM.out k A c B d W (by omega) h1 h2)
                  have HAk := Lib.hid (fun A c B d W h1 h2 => HAd.out k A c B d W (by omega) h1 h2)
                  have HPut := Lib.hid (fun W A3 c3 (h : PX w X (dv D k : Nat) A1 c1 W) (h1 : DS W (((dv D k : Nat) : Int) * 10 + (dgt D k : Nat)).natAbs A3) (h2 : L16 (((dv D k : Nat) : Int) * 10 + (dgt D k : Nat)).natAbs ≤ c3) => h.put (y := ((dv D k : Nat) : Int) * 10 + (dgt D k : Nat)) h1 h2)
                  have HDv := Lib.hid (show ((dv D k : Nat) : Int) * 10 + (dgt D k : Nat) = ((dv D (k + 1) : Nat) : Int) by rw [dv]; simp)
                  have q0 := HK.out.2.1.c 0 rfl
                  have q1 := HK.out.2.1.c 1 rfl
                  clear hdk HNd HM HAd
                  unfold BigPost at HNm HNk HMk HAk
                  rw [HDv.out] at HAk HPut
                  generalize hzz : ((dv D (k + 1) : Nat) : Int) = zz at *
                  have HZZ := Lib.hid hzz
                  clear hzz
                  clear HDv
                  generalize ((dv D k : Nat) : Int) * 10 = z1 at *
                  generalize ((dv D k : Nat) : Int) = z0 at *
                  generalize dgt D k = dg at *
                  have ew : IntKind.i64.wrap ((dg : Nat) : Int) = (dg : Int) := IntWalk.i64_in _ (by omega)
                  simp only [bigv] at HNm HNk HMk HAk
                  generalize decide ((10 : Int) < 0) = bt at HNm HMk
                  generalize L16 (10 : Int).natAbs = lt at HNm HMk
                  generalize (10 : Int).natAbs = nt at HNm HMk
                  generalize decide (((dg : Nat) : Int) < 0) = bd at HNk HAk
                  generalize L16 ((dg : Nat) : Int).natAbs = ld at HNk HAk
                  generalize ((dg : Nat) : Int).natAbs = nd at HNk HAk
                  generalize hs1 : decide (z0 < 0) = b0 at *
                  generalize hs2 : decide (z1 < 0) = b1 at *
                  generalize hs3 : decide (zz < 0) = b2 at *
                  generalize hl0 : L16 z0.natAbs = l0 at *
                  generalize hl3 : L16 zz.natAbs = l3 at *
                  generalize L16 z1.natAbs = l1 at *
                  go_wp2_with fail
                  go_region_with ((first
                    | (go_at_call 12; (with_reducible refine (HNm.out _).mono ?_); rintro e w2 ⟨A2, c2, rfl, hc2, hd2, hb2⟩; have HK2 := Lib.hid (HK.out.drew.after hb2); have HD2 := Lib.hid hd2; have HDz := Lib.hid HK2.out.2.2.1; clear hd2 hb2 hc2; have e0 := HK2.out.2.1.c 0 rfl; have e1 := HK2.out.2.1.c 1 rfl; rw [hs1] at e0; rw [hl0] at e1)
                    | (go_at_call 47; (with_reducible refine (HMk.out _ _ _ _ _ HDz.out HD2.out).mono ?_); rintro e w3 ⟨A3, c3, rfl, hc3, hd3, hb3⟩; have HK3 := Lib.hid (HK2.out.after hb3); have HD3 := Lib.hid hd3; clear hd3 hb3 hc3)
                    | (go_at_call 12; (with_reducible refine (HNk.out _).mono ?_); rintro e w4 ⟨A4, c4, rfl, hc4, hd4, hb4⟩; have HK4 := Lib.hid (HK3.out.after hb4); have HD4 := Lib.hid hd4; have HD3b := Lib.hid (HD3.out.below hb4); clear hd4 hb4 hc4)
                    | (go_at_call 48; (with_reducible refine (HAk.out _ _ _ _ _ HD3b.out HD4.out).mono ?_); rintro e w5 ⟨A5, c5, rfl, hc5, hd5, hb5⟩; have HK5 := Lib.hid (HK4.out.after hb5); have HD5 := Lib.hid hd5; have HC5 := Lib.hid hc5; clear hd5 hb5 hc5; have f0 := HK5.out.2.1.c 0 rfl; have f1 := HK5.out.2.1.c 1 rfl; have g0 := HK5.out.2.1.f 0 rfl; have g1 := HK5.out.2.1.f 1 rfl; rw [hs1] at f0; rw [hl0] at f1)))
                  all_goals
                    have HK6 := Lib.hid (HPut.out w5 A5 c5 HK5.out HD5.out HC5.out)
                    clear f0 f1 g0 g1
                    generalize World.setCell _ _ _ = W6 at HK6 ⊢
                    go_wp2_with fail
                    exact ⟨⟨k + 1, by omega, rfl, A5, c5, by rw [HZZ.out]; exact HK6⟩, by simp [intOf]; omega⟩
                · obtain rfl : k = D.size := by omega
                  have HK9 := HK
                  go_wp2_with fail
                  go_meet
                  exact ⟨A1, c1, HK9⟩
            case rest =>
              obtain ⟨A1, c1, HK⟩ := hcut
              have hL : L16 (((dv D D.size : Nat) : Int)).natAbs ≤ 1000 := dv_digits HDgt.out (by omega)
              have HNeg := Lib.hid (fun W (h : DS W (((dv D D.size : Nat) : Int)).natAbs A1) => refneg_z (dv D D.size : Nat) A1 c1 W h HK.out.2.2.2.1 (by omega))
              have HTf : Hid (textN false D = ((dv D D.size : Nat) : Int)) := Lib.hid (by rw [textN, if_neg (by decide)])
              have HTt : Hid (textN true D = -((dv D D.size : Nat) : Int)) := Lib.hid (by rw [textN, if_pos rfl])
              have HTa := Lib.hid (textN_abs neg D)
              clear HX HNm HNd HM HAd HDgt hL HC HDg
              generalize dv D D.size = V at *
              simp only [bigv] at HNeg
              have q0 := HK.out.2.1.c 0 rfl
              have q1 := HK.out.2.1.c 1 rfl
              have q2 := HK.out.2.1.f 0 rfl
              have q3 := HK.out.2.1.f 1 rfl
              go_upto_if 76 with fail
              go_cut [] from 8 (fun wx => ∃ A c, Hid (PX w X (textN neg D) A c wx))
              case first =>
                cases neg
                · go_wp2_with fail
                  go_meet
                  rw [HTf.out]
                  exact ⟨A1, c1, HK⟩
                · have HPut := Lib.hid (fun W (h : PX w X (V : Nat) A1 c1 W) (h1 : DS W (((V : Nat) : Int)).natAbs A1) => h.put (y := -((V : Nat) : Int)) (B := A1) (d := c1) (by rw [Int.natAbs_neg]; exact h1) (by rw [Int.natAbs_neg]; exact HK.out.2.2.2.1))
                  simp only [Int.natAbs_neg] at HNeg HPut
                  generalize hs0 : decide (((V : Nat) : Int) < 0) = s0 at *
                  generalize hl0 : L16 (((V : Nat) : Int)).natAbs = l0 at *
                  generalize hs1 : decide (-((V : Nat) : Int) < 0) = s1 at *
                  go_wp2_with fail
                  refine (HNeg.out _ HK.out.2.2.1).mono ?_
                  rintro e w3 ⟨rfl, hd3, hb3⟩
                  have HK3 := Lib.hid (HK.out.after hb3)
                  have HD3 := Lib.hid hd3
                  clear hd3 hb3 q0 q1 q2 q3
                  have q0 := HK3.out.2.1.c 0 rfl
                  have q1 := HK3.out.2.1.c 1 rfl
                  have q2 := HK3.out.2.1.f 0 rfl
                  have q3 := HK3.out.2.1.f 1 rfl
                  rw [hs0] at q0
                  rw [hl0] at q1
                  go_wp2_with fail
                  have HK4 := Lib.hid (HPut.out w3 HK3.out HD3.out)
                  clear q0 q1 q2 q3
                  generalize World.setCell _ _ _ = W4 at HK4 ⊢
                  go_meet
                  rw [HTt.out]
                  exact ⟨A1, c1, HK4⟩
              case rest =>
                obtain ⟨A2, c2, HK2⟩ := hcut
                clear q0 q1 q2 q3 HK HNeg HTf HTt
                have HTo := Lib.hid (fun W (h : DS W (textN neg D).natAbs A2) => to_z (textN neg D) A2 c2 W h)
                rw [← HTa.out] at HZ
                simp only [bigv] at HTo
                generalize textN neg D = T at *
                have q0 := HK2.out.2.1.c 0 rfl
                have q1 := HK2.out.2.1.c 1 rfl
                by_cases hf : T.natAbs < T256
                · obtain ⟨rfl, rfl⟩ := HZ.out.1 hf
                  rw [toV, if_pos hf, ivz] at HTo
                  clear hf HZ HTa
                  have HPo : Hid (∀ W', DS W' Z.natAbs A2 → Below w.heap.size w W' → PPost w Z 0 (.returned (.tuple #[.agg #[.bool (decide (Z < 0)), .slice A2 (L16 Z.natAbs) c2], .int .i64 0])) W') := Lib.hid (fun W' h1 h2 => ⟨A2, c2, rfl, h1, h2⟩)
                  generalize hs0 : decide (Z < 0) = s0 at *
                  generalize hl0 : L16 Z.natAbs = l0 at *
                  generalize ((W64 Z.natAbs 0 : Nat) : Int) = y0 at *
                  generalize ((W64 Z.natAbs 1 : Nat) : Int) = y1 at *
                  generalize ((W64 Z.natAbs 2 : Nat) : Int) = y2 at *
                  generalize ((W64 Z.natAbs 3 : Nat) : Int) = y3 at *
                  go_wp2_with fail
                  refine (HTo.out _ HK2.out.2.2.1).mono ?_
                  rintro e w3 ⟨rfl, hb3⟩
                  have HK3 := Lib.hid ((HK2.out.after hb3).alloc (.cells #[.bool s0, .int .u64 y0, .int .u64 y1, .int .u64 y2, .int .u64 y3] 25))
                  clear hb3 q0 q1
                  have q0 := HK3.out.2.1.c 0 rfl
                  have q1 := HK3.out.2.1.c 1 rfl
                  rw [hs0] at q0
                  rw [hl0] at q1
                  have a0 := HK3.out.1.c 0 rfl
                  have a1 := HK3.out.1.c 1 rfl
                  have b0 := HK3.out.1.f 0 rfl
                  have b1 := HK3.out.1.f 1 rfl
                  go_wp2_with fail
                  clear q0 q1 a0 a1 b0 b1
                  obtain ⟨r9, hd9, hB9⟩ := HK3.out.ret s0 (.slice A2 l0 c2)
                  generalize World.setCell _ _ _ = W9 at r9 hd9 hB9 ⊢
                  exact bodyPost_ret (v := .tuple #[.agg #[.bool s0, .slice A2 l0 c2], .int .i64 0]) (by simp [results, Tryd.results38, go_sem, r9.c 0 rfl, r9.c 1 rfl]) rfl (HPo.out _ hd9 hB9)
                · obtain ⟨rfl, rfl⟩ := HZ.out.2 hf
                  rw [toV, if_neg hf] at HTo
                  clear hf HZ HTa
                  generalize hs0 : decide (T < 0) = s0 at *
                  generalize hl0 : L16 T.natAbs = l0 at *
                  go_wp2_with fail
                  refine (HTo.out _ HK2.out.2.2.1).mono ?_
                  rintro e w3 ⟨rfl, hb3⟩
                  have HK3 := Lib.hid ((HK2.out.after hb3).alloc (.cells #[.bool false, .int .u64 0, .int .u64 0, .int .u64 0, .int .u64 0] 25))
                  clear hb3 q0 q1
                  have a0 := HK3.out.1.c 0 rfl
                  have a1 := HK3.out.1.c 1 rfl
                  have b0 := HK3.out.1.f 0 rfl
                  have b1 := HK3.out.1.f 1 rfl
                  go_wp2_with fail
                  clear a0 a1 b0 b1
                  obtain ⟨r9, hd9, hB9⟩ := HK3.out.ret false (.slice none 0 0)
                  generalize World.setCell _ _ _ = W9 at r9 hd9 hB9 ⊢
                  exact bodyPost_ret (v := .tuple #[.agg #[.bool false, .slice none 0 0], .int .i64 110]) (by simp [results, Tryd.results38, go_sem, r9.c 0 rfl, r9.c 1 rfl]) rfl (PPost.nought hB9)
end Go.Proofs.YtpbdhhdmnnelhaaDoor
