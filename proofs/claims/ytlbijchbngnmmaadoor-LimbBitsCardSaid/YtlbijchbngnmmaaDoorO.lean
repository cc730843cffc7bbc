/- Contracts of package limb's digits and Text, of magnitudes of one word below ten to the nineteenth; the table of powers of ten reads as it was laid. -/
import Derived.Test.YtlbijchbngnmmaaDoorN
import Derived.Test.YtlbijchbngnmmaaDoorC
namespace Go.Proofs.YtlbijchbngnmmaaDoor
open Go.RowKit Go.Sort Go.Lib

theorem Tab10.below {w w1 : World} (h : Tab10 w) (hb : Below w.heap.size w w1) : Tab10 w1 := by
  unfold Tab10 Lib.TabIs at *
  have hg : Tryd.prog.globalNamed "internal/strconv.uint64pow10" = some 3 := by kernel_rfl
  refine var?_below hb hg ?_ h
  have := Lib.TabIs.cell (P := Tryd.prog) (W := w) h hg 0 (by decide)
  exact block_lt_of_cell this
theorem append_none (S : ByteArray) : S ++ ⟨#[]⟩ = S := by apply ByteArray.ext; simp
def tens : Int := 10000000000000000000
set_option maxHeartbeats 800000 in
theorem digits_one (a : Nat) (w : World) (ha : 0 < a) (hb : (a : Int) < tens) (htab : Tab10 w) :
    Calls Tryd.prog 59 #[wv a 0 0 0] w fun e w' => e = .returned (.string ⟨(Lib.decDigits a).toArray⟩) ∧ Below w.heap.size w w' := by
  have hmf : ∀ (fn : Fn) (first cap : Array Value) (w : World), (Instr.makeFunc fn first cap).run Tryd.prog w = .ok (.func fn first cap) w := fun _ _ _ _ => rfl
  have h64 : a < 18446744073709551616 := by unfold tens at hb; omega
  have Hdiv : Hid ((a : Int) / tens = 0) := Lib.hid (Int.ediv_eq_zero_of_lt (by omega) hb)
  have Hmod : Hid ((a : Int) % tens = a) := Lib.hid (Int.emod_eq_of_lt (by omega) hb)
  have hpw := fun W => partedByWord_one a tens W (by omega) (by omega) (by decide) (by decide)
  rw [Hdiv.out, Hmod.out] at hpw
  have Hpw := Lib.hid hpw; clear hpw hb
  have Htab := Lib.hid htab; clear htab
  have hq2 : ∀ w, (binOp .eql 79 (wv 0 0 0 0) (wv 0 0 0 0)).run Tryd.prog w = .ok (.bool true) w := fun w => eqlArr 79 Tryd.underlying79 0 0 0 0 0 0 0 0 w
  go_enter Tryd.func59, Tryd.ntmps59
  go_wp2_with fail
  refine wp_loop_rounds 1 ?_
  rw [rounds_succ]
  go_wp2_with fail
  refine (Hpw.out _).mono ?_
  rintro e w1 ⟨rfl, hb1⟩
  have hB : RowKit.Below w.heap.size w w1 := (((RowKit.Below.refl w.heap.size w).alloc (Nat.le_refl _) _).alloc (by simp) _).trans (hb1.mono (by simp; omega))
  have rT : Row w1 (w.heap.size + 1) [.string ⟨#[]⟩] := (Row.at (by simp) _ _).after hb1
  have Htab1 : Hid (Tab10 w1) := Lib.hid (Htab.out.below hB)
  clear hb1
  go_wp2
  generalize hW : World.alloc _ _ = W2
  have rT2 : Row W2 (w.heap.size + 1) [.string ⟨#[]⟩] := by rw [← hW]; exact rT.alloc _
  have hB2 : RowKit.Below w.heap.size w W2 := by rw [← hW]; exact hB.alloc hB.size _
  have Htab2 : Hid (Tab10 W2) := Lib.hid (Htab.out.below hB2)
  clear hW rT hB Htab1
  have ct := rT2.c 0 rfl
  have ck := cell_regrown ct
  have hlen : (Lib.decDigits a).length ≤ 20 := by
    rw [Lib.decDigits_length]; have := Lib.numDigits_eq a (by omega) h64; split at this <;> omega
  obtain ⟨S, HS, hS⟩ : ∃ S : ByteArray, Hid (S = ⟨(Lib.decDigits a).toArray⟩) ∧ S.size ≤ 20 := ⟨_, Lib.hid rfl, by simpa [ByteArray.size] using hlen⟩
  have cF : ∀ d os, Calls Tryd.prog 80 #[.int .u64 a, .int .i64 10] (grow (redrawn W2 d) os) fun e w'' => e = .returned (.string S) ∧ ∃ p : Regrown, w'' = grow (redrawn W2 p.d) p.os :=
    fun d os => by rw [HS.out]; exact Calls.regrown_of (formatUint a h64 _ (Htab2.out.below (below_regrown W2 d os)))
  have HcF := Lib.hid cF; clear cF hlen
  have n1 : ¬ 9223372036854775807 < S.size := by omega
  refine wp_region_quiet_below (by kernel_rfl) (by kernel_rfl) ?_
  repeat (first | go_big_quiet_step ((exact HcF.out _ _)) | quiet_step ((exact HcF.out _ _)))
  refine wpQuiet_nil ?_
  intro _ hw'
  obtain ⟨⟨dq, osq⟩, hw''⟩ := hw'
  subst hw''
  go_wp2
  go_ret
  exact ⟨by show Ending.returned (.string (S ++ ⟨#[]⟩)) = _; rw [append_none, HS.out], hB2.trans ((below_regrown W2 dq osq).mono hB2.size)⟩

def textNeg (a : Nat) : ByteArray := ⟨((45 : UInt8) :: Lib.decDigits a).toArray⟩
set_option maxHeartbeats 400000 in
theorem text_neg_one (a : Nat) (w : World) (ha : 0 < a) (hb : (a : Int) < tens) (htab : Tab10 w) :
    Calls Tryd.prog 36 #[iv true a 0 0 0] w fun e w' => e = .returned (.tuple #[.string (textNeg a), .int .i64 0]) ∧ RowKit.Below w.heap.size w w' := by
  have h64 : a < 18446744073709551616 := by unfold tens at hb; omega
  have hz : ((a : Int) == 0) = false := by simp; omega
  have HE := Lib.hid (show errArg true a 0 0 0 = 0 from errArg_ok (by simp only [zeroB, hz]; rfl))
  clear hz
  have Hd := Lib.hid (fun W (h : Tab10 W) => digits_one a W ha hb h)
  have hlen : (Lib.decDigits a).length ≤ 20 := by
    rw [Lib.decDigits_length]; have := Lib.numDigits_eq a (by omega) h64; split at this <;> omega
  obtain ⟨S, HS, hS⟩ : ∃ S : ByteArray, Hid (S = ⟨(Lib.decDigits a).toArray⟩) ∧ S.size ≤ 20 := ⟨_, Lib.hid rfl, by simpa [ByteArray.size] using hlen⟩
  have HT : Hid ((⟨#[45]⟩ : ByteArray) ++ S = textNeg a) := Lib.hid (by rw [HS.out, textNeg]; apply ByteArray.ext; simp)
  clear hb hlen
  go_enter Tryd.func36, Tryd.ntmps36
  go_wp2_with fail
  refine (check_any _ _ _ _ _ _).mono ?_
  rintro e w1 ⟨rfl, hb1⟩
  rw [HE.out]
  have hB : RowKit.Below w.heap.size w w1 := ((RowKit.Below.refl w.heap.size w).alloc (Nat.le_refl _) _).trans (hb1.mono (by simp))
  have rX : Row w1 w.heap.size [.bool true, .int .u64 a, .int .u64 0, .int .u64 0, .int .u64 0] := (Row.at rfl _ _).after hb1
  have Htab1 : Hid (Tab10 w1) := Lib.hid (htab.below hB)
  clear hb1 htab
  have c0 := rX.c 0 rfl
  have c1 := rX.c 1 rfl
  have c2 := rX.c 2 rfl
  have c3 := rX.c 3 rfl
  have c4 := rX.c 4 rfl
  go_wp2_with fail
  refine (Hd.out _ Htab1.out).mono ?_
  rw [← HS.out]
  rintro e w2 ⟨rfl, hb2⟩
  clear rX c0 c1 c2 c3 c4
  have n1 : ¬ 9223372036854775807 < 1 + S.size := by omega
  go_wp2
  go_ret2
  exact ⟨by rw [← HT.out]; rfl, hB.trans (hb2.mono hB.size)⟩
end Go.Proofs.YtlbijchbngnmmaaDoor
