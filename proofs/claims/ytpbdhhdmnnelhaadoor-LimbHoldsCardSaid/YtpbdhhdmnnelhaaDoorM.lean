/- Contracts of package limb's isText and Parse at texts that are no Int's. -/
import Derived.Test.YtpbdhhdmnnelhaaDoorBase
import Derived.Test.YtpbdhhdmnnelhaaDoorShelf
import Derived.Lib.AppendIntMem
import Derived.Lib.QuietBelow
namespace Go.Proofs.YtpbdhhdmnnelhaaDoor
open Go.RowKit

theorem trim_minus0 (w : World) : Calls Tryd.prog 82 #[.string ⟨#[45, 48]⟩, .string ⟨#[45]⟩] w fun e w' => e = .returned (.string ⟨#[48]⟩) ∧ w = w' :=
  (Tryd.strings_TrimPrefix ⟨#[45, 48]⟩ ⟨#[45]⟩ w).mono fun _ _ ⟨he, hw⟩ => ⟨by rw [he]; rfl, hw.symm⟩
theorem trim_007 (w : World) : Calls Tryd.prog 82 #[.string ⟨#[48, 48, 55]⟩, .string ⟨#[45]⟩] w fun e w' => e = .returned (.string ⟨#[48, 48, 55]⟩) ∧ w = w' :=
  (Tryd.strings_TrimPrefix ⟨#[48, 48, 55]⟩ ⟨#[45]⟩ w).mono fun _ _ ⟨he, hw⟩ => ⟨by rw [he]; rfl, hw.symm⟩
set_option maxHeartbeats 400000 in
theorem isText_minus0 (w : World) : Calls Tryd.prog 60 #[.string ⟨#[45, 48]⟩] w fun e w' => e = .returned (.bool false) ∧ w = w' := by
  go_enter Tryd.func60, Tryd.ntmps60
  go_wp2_with fail
  refine (trim_minus0 _).mono ?_
  rintro e w' ⟨rfl, rfl⟩
  go_wp2
  go_outline
  go_ways
  go_ret
  exact ⟨rfl, rfl⟩
set_option maxHeartbeats 400000 in
theorem isText_007 (w : World) : Calls Tryd.prog 60 #[.string ⟨#[48, 48, 55]⟩] w fun e w' => e = .returned (.bool false) ∧ w = w' := by
  go_enter Tryd.func60, Tryd.ntmps60
  go_wp2_with fail
  refine (trim_007 _).mono ?_
  rintro e w' ⟨rfl, rfl⟩
  go_wp2
  go_ret
  exact ⟨rfl, rfl⟩
set_option maxHeartbeats 400000 in
theorem parse_no (s : ByteArray) (w : World) (h : ∀ w, Calls Tryd.prog 60 #[.string s] w fun e w' => e = .returned (.bool false) ∧ w = w') :
    Calls Tryd.prog 37 #[.string s] w fun e w' => e = .returned (.tuple #[iv false 0 0 0 0, .int .i64 111]) ∧ Below w.heap.size w w' := by
  have H := Lib.hid h; clear h
  have hnot : ∀ (x : Bool) (w : World), (Op.unary .not (.bool x)).run Tryd.prog w = .ok (.bool (!x)) w := fun _ _ => rfl
  go_enter Tryd.func37, Tryd.ntmps37
  go_wp2_with fail
  refine (H.out _).mono ?_
  rintro e w' ⟨rfl, rfl⟩
  go_wp2
  exact bodyPost_ret (v := .tuple #[iv false 0 0 0 0, .int .i64 111]) (by simp [results, Tryd.results37, go_sem]) rfl ⟨rfl, ((Below.refl w.heap.size w).alloc (Nat.le_refl _) _).alloc (by simp) _⟩
end Go.Proofs.YtpbdhhdmnnelhaaDoor

/- Contract of strconv.FormatUint at base 10, for every word; the table of powers of ten reads as it was laid. -/
namespace Go.Proofs.YtpbdhhdmnnelhaaDoor
open Go.RowKit Go.Sort Go.Lib

abbrev Tab10 (w : World) : Prop := Lib.TabIs Tryd.prog w "internal/strconv.uint64pow10" .u64 Lib.pow10Tab
set_option maxRecDepth 100000 in
set_option maxHeartbeats 1600000 in
theorem formatUint_inner (u : Nat) (hu64 : u < 18446744073709551616) (w : World) (htab : Tab10 w) :
    Calls Tryd.prog 94 #[.int .u64 u, .int .i64 10] w fun e w' => e = .returned (.string ⟨(Lib.decDigits u).toArray⟩) ∧ Below w.heap.size w w' := by
  by_cases hs : u < 100
  · have hs' : (u : Int) < 100 := by omega
    go_enter Tryd.func94, Tryd.ntmps94
    go_wp2_with fail
    refine (Tryd.internal_strconv_small u hs _).mono ?_
    rintro e w' ⟨rfl, rfl⟩
    go_wp2
    go_ret
    exact ⟨rfl, Below.refl _ _⟩
  · have hs' : ¬ (u : Int) < 100 := by omega
    have hu1 : 1 ≤ u := by omega
    have hnd20 : Lib.nDigits u ≤ 20 := by have := Lib.numDigits_eq u hu1 hu64; split at this <;> omega
    have hb3 : Lib.nDigits u ≤ 23 := by omega
    have hal : Tryd.prog.arrayLen 144 = 24 := by kernel_rfl
    have hsl1 : ∀ W, (Instr.sliceAt 144 (.pointer (some ⟨w.heap.size, 0, none⟩)) none (some (.int .i64 (Lib.nDigits u : Int))) none).run Tryd.prog W = .ok (.slice (some ⟨w.heap.size, 0, none⟩) (Lib.nDigits u) 24) W := fun W => by
      rw [run_sliceAt_array_h W 144 ⟨w.heap.size, 0, none⟩ (by simp [Program.arrayLen, Program.elem, Tryd.underlying144]) .i64 (Lib.nDigits u : Int) (by omega) (by rw [hal]; omega)]
      go_simp
    have hH0 := Lib.holds_zero0 w 144 (Lib.nDigits u) (by omega)
    have hfmt := Tryd.internal_strconv_formatBase10 w.heap.size 0 24 u (Array.replicate (Lib.nDigits u) 0) (w.alloc (.cells Lib.zeros24 144)) hH0 (by rw [Array.size_replicate]; exact Lib.lt_pow_nDigits u) hu64 (by rw [Array.size_replicate]; omega)
    rw [Array.size_replicate] at hfmt
    have HH0 := Lib.hid hH0
    clear hH0 hal
    go_enter Tryd.func94, Tryd.ntmps94
    go_wp2_with fail
    refine (Tryd.internal_strconv_numDigits u hu1 hu64 _ (Lib.tabIs_alloc htab _)).mono ?_
    rintro e w' ⟨rfl, rfl⟩
    go_wp2_with fail
    refine hfmt.mono ?_
    rintro e w' ⟨rfl, k, v', dk, rfl, hF⟩
    have hcv : (convert 102 9 (.slice (some ⟨w.heap.size, 0, none⟩) (Lib.nDigits u) 24)).run Tryd.prog ((putRow (fun (b : UInt8) => Value.int .u8 (b.toNat : Int)) (w.alloc (.cells Lib.zeros24 144)) w.heap.size 0 dk).drewN k) = .ok (.string ⟨(Lib.decDigits u).toArray⟩) ((putRow (fun (b : UInt8) => Value.int .u8 (b.toNat : Int)) (w.alloc (.cells Lib.zeros24 144)) w.heap.size 0 dk).drewN k) := by
      have h := run_convert_bytes_back (P := Tryd.prog) ((putRow (fun (b : UInt8) => Value.int .u8 (b.toNat : Int)) (w.alloc (.cells Lib.zeros24 144)) w.heap.size 0 dk).drewN k) 102 9 5 ⟨w.heap.size, 0, none⟩ 24 (Lib.decDigits u) Tryd.underlying102 Tryd.underlying5 Tryd.underlying9 (fun j hj => by
        rw [Lib.row_is_numeral hF j hj, Lib.add_plain, World.cell?_drewN]
        exact cell?_putRow (fun (b : UInt8) => Value.int .u8 (b.toNat : Int)) _ w.heap.size 0 _ dk HH0.out (by rw [hF.size, Array.size_replicate]) j (by rw [hF.size]; rw [Lib.decDigits_length] at hj; exact hj))
      rw [Lib.decDigits_length] at h
      exact h
    clear hfmt
    go_wp2
    go_ret
    obtain ⟨os, eo⟩ := Lib.fin_at w (.cells Lib.zeros24 144) dk k 0
    exact ⟨rfl, by rw [eo]; exact Lib.below_grow _ _ (Nat.le_refl _) _ _⟩
set_option maxHeartbeats 400000 in
theorem formatUint (u : Nat) (hu64 : u < 18446744073709551616) (w : World) (htab : Tab10 w) :
    Calls Tryd.prog 80 #[.int .u64 u, .int .i64 10] w fun e w' => e = .returned (.string ⟨(Lib.decDigits u).toArray⟩) ∧ Below w.heap.size w w' := by
  go_enter Tryd.func80, Tryd.ntmps80
  go_wp2_with fail
  refine (formatUint_inner u hu64 _ htab).mono ?_
  rintro e w1 ⟨rfl, hb⟩
  go_wp2
  go_ret
  exact ⟨rfl, hb⟩
end Go.Proofs.YtpbdhhdmnnelhaaDoor

/- Contracts of package limb's digits and Text, of magnitudes of one word below ten to the nineteenth; the table of powers of ten reads as it was laid. -/
namespace Go.Proofs.YtpbdhhdmnnelhaaDoor
open Go.RowKit Go.Sort Go.Lib

theorem Tab10.below {w w1 : World} (h : Tab10 w) (hb : Below w.heap.size w w1) : Tab10 w1 := by
  unfold Tab10 Lib.TabIs at *
  have hg : Tryd.prog.globalNamed "internal/strconv.uint64pow10" = some 3 := by kernel_rfl
  refine var?_below hb hg ?_ h
  have := Lib.TabIs.cell (P := Tryd.prog) (W := w) h hg 0 (by decide)
  exact block_lt_of_cell this
theorem append_none (S : ByteArray) : S ++ ⟨#[]⟩ = S := by apply ByteArray.ext; simp
def tens : Int := 10000000000000000000
set_option maxHeartbeats 800000 in
theorem digits_one (a : Nat) (w : World) (ha : 0 < a) (hb : (a : Int) < tens) (htab : Tab10 w) :
    Calls Tryd.prog 59 #[wv a 0 0 0] w fun e w' => e = .returned (.string ⟨(Lib.decDigits a).toArray⟩) ∧ Below w.heap.size w w' := by
  have hmf : ∀ (fn : Fn) (first cap : Array Value) (w : World), (Instr.makeFunc fn first cap).run Tryd.prog w = .ok (.func fn first cap) w := fun _ _ _ _ => rfl
  have h64 : a < 18446744073709551616 := by unfold tens at hb; omega
  have Hdiv : Hid ((a : Int) / tens = 0) := Lib.hid (Int.ediv_eq_zero_of_lt (by omega) hb)
  have Hmod : Hid ((a : Int) % tens = a) := Lib.hid (Int.emod_eq_of_lt (by omega) hb)
  have hpw := fun W => partedByWord_one a tens W (by omega) (by omega) (by decide) (by decide)
  rw [Hdiv.out, Hmod.out] at hpw
  have Hpw := Lib.hid hpw; clear hpw hb
  have Htab := Lib.hid htab; clear htab
  have hq2 : ∀ w, (binOp .eql 79 (wv 0 0 0 0) (wv 0 0 0 0)).run Tryd.prog w = .ok (.bool true) w := fun w => eqlArr 79 Tryd.underlying79 0 0 0 0 0 0 0 0 w
  go_enter Tryd.func59, Tryd.ntmps59
  go_wp2_with fail
  refine wp_loop_rounds 1 ?_
  rw [rounds_succ]
  go_wp2_with fail
  refine (Hpw.out _).mono ?_
  rintro e w1 ⟨rfl, hb1⟩
  have hB : RowKit.Below w.heap.size w w1 := (((RowKit.Below.refl w.heap.size w).alloc (Nat.le_refl _) _).alloc (by simp) _).trans (hb1.mono (by simp; omega))
  have rT : Row w1 (w.heap.size + 1) [.string ⟨#[]⟩] := (Row.at (by simp) _ _).after hb1
  have Htab1 : Hid (Tab10 w1) := Lib.hid (Htab.out.below hB)
  clear hb1
  go_wp2
  generalize hW : World.alloc _ _ = W2
  have rT2 : Row W2 (w.heap.size + 1) [.string ⟨#[]⟩] := by rw [← hW]; exact rT.alloc _
  have hB2 : RowKit.Below w.heap.size w W2 := by rw [← hW]; exact hB.alloc hB.size _
  have Htab2 : Hid (Tab10 W2) := Lib.hid (Htab.out.below hB2)
  clear hW rT hB Htab1
  have ct := rT2.c 0 rfl
  have ck := cell_regrown ct
  have hlen : (Lib.decDigits a).length ≤ 20 := by
    rw [Lib.decDigits_length]; have := Lib.numDigits_eq a (by omega) h64; split at this <;> omega
  obtain ⟨S, HS, hS⟩ : ∃ S : ByteArray, Hid (S = ⟨(Lib.decDigits a).toArray⟩) ∧ S.size ≤ 20 := ⟨_, Lib.hid rfl, by simpa [ByteArray.size] using hlen⟩
  have cF : ∀ d os, Calls Tryd.prog 80 #[.int .u64 a, .int .i64 10] (grow (redrawn W2 d) os) fun e w'' => e = .returned (.string S) ∧ ∃ p : Regrown, w'' = grow (redrawn W2 p.d) p.os :=
    fun d os => by rw [HS.out]; exact Calls.regrown_of (formatUint a h64 _ (Htab2.out.below (below_regrown W2 d os)))
  have HcF := Lib.hid cF; clear cF hlen
  have n1 : ¬ 9223372036854775807 < S.size := by omega
  refine wp_region_quiet_below (by kernel_rfl) (by kernel_rfl) ?_
  repeat (first | go_big_quiet_step ((exact HcF.out _ _)) | quiet_step ((exact HcF.out _ _)))
  refine wpQuiet_nil ?_
  intro _ hw'
  obtain ⟨⟨dq, osq⟩, hw''⟩ := hw'
  subst hw''
  go_wp2
  go_ret
  exact ⟨by show Ending.returned (.string (S ++ ⟨#[]⟩)) = _; rw [append_none, HS.out], hB2.trans ((below_regrown W2 dq osq).mono hB2.size)⟩

def textNeg (a : Nat) : ByteArray := ⟨((45 : UInt8) :: Lib.decDigits a).toArray⟩
set_option maxHeartbeats 400000 in
theorem text_neg_one (a : Nat) (w : World) (ha : 0 < a) (hb : (a : Int) < tens) (htab : Tab10 w) :
    Calls Tryd.prog 36 #[iv true a 0 0 0] w fun e w' => e = .returned (.tuple #[.string (textNeg a), .int .i64 0]) ∧ RowKit.Below w.heap.size w w' := by
  have h64 : a < 18446744073709551616 := by unfold tens at hb; omega
  have hz : ((a : Int) == 0) = false := by simp; omega
  have HE := Lib.hid (show errArg true a 0 0 0 = 0 from errArg_ok (by simp only [zeroB, hz]; rfl))
  clear hz
  have Hd := Lib.hid (fun W (h : Tab10 W) => digits_one a W ha hb h)
  have hlen : (Lib.decDigits a).length ≤ 20 := by
    rw [Lib.decDigits_length]; have := Lib.numDigits_eq a (by omega) h64; split at this <;> omega
  obtain ⟨S, HS, hS⟩ : ∃ S : ByteArray, Hid (S = ⟨(Lib.decDigits a).toArray⟩) ∧ S.size ≤ 20 := ⟨_, Lib.hid rfl, by simpa [ByteArray.size] using hlen⟩
  have HT : Hid ((⟨#[45]⟩ : ByteArray) ++ S = textNeg a) := Lib.hid (by rw [HS.out, textNeg]; apply ByteArray.ext; simp)
  clear hb hlen
  go_enter Tryd.func36, Tryd.ntmps36
  go_wp2_with fail
  refine (check_any _ _ _ _ _ _).mono ?_
  rintro e w1 ⟨rfl, hb1⟩
  rw [HE.out]
  have hB : RowKit.Below w.heap.size w w1 := ((RowKit.Below.refl w.heap.size w).alloc (Nat.le_refl _) _).trans (hb1.mono (by simp))
  have rX : Row w1 w.heap.size [.bool true, .int .u64 a, .int .u64 0, .int .u64 0, .int .u64 0] := (Row.at rfl _ _).after hb1
  have Htab1 : Hid (Tab10 w1) := Lib.hid (htab.below hB)
  clear hb1 htab
  have c0 := rX.c 0 rfl
  have c1 := rX.c 1 rfl
  have c2 := rX.c 2 rfl
  have c3 := rX.c 3 rfl
  have c4 := rX.c 4 rfl
  go_wp2_with fail
  refine (Hd.out _ Htab1.out).mono ?_
  rw [← HS.out]
  rintro e w2 ⟨rfl, hb2⟩
  clear rX c0 c1 c2 c3 c4
  have n1 : ¬ 9223372036854775807 < 1 + S.size := by omega
  go_wp2
  go_ret2
  exact ⟨by rw [← HT.out]; rfl, hB.trans (hb2.mono hB.size)⟩
end Go.Proofs.YtpbdhhdmnnelhaaDoor
