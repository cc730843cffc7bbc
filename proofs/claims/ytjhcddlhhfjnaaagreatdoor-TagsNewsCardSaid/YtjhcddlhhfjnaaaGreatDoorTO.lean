/- Variables that are laid; slices.Repeat of one string. -/
import Derived.Test.YtjhcddlhhfjnaaaGreatDoorTN
import Derived.Test.YtjhcddlhhfjnaaaGreatDoorShelf
import Derived.Lib.LaidTab
import Derived.Laws.CopyOwn
import Derived.Deep.RegionLaw
namespace Go.Proofs.YtjhcddlhhfjnaaaGreatDoor
open Go.RowKit Go.Sort Go.Shelf

theorem var_below {P : Program} {w w' : World} {n : String} {cs : Array Value} (h : w.var? P n = some cs) (hb : Below w.heap.size w w') : w'.var? P n = some cs := by
  unfold World.var? at *
  cases hg : P.globalNamed n with
  | none => rw [hg] at h; cases h
  | some g =>
    rw [hg] at h
    simp only [Option.bind_some] at h ⊢
    cases ho : w.heap[g]? with
    | none => rw [ho] at h; cases h
    | some o => rw [hb.block g (Array.getElem?_eq_some_iff.1 ho).1, ho]; rw [ho] at h; exact h
/-- The variables that are read. -/
structure VarS (w : World) : Prop where
  tab : Lib.TabIs Tryz.prog w "internal/strconv.uint64pow10" .u64 Lib.pow10Tab
  syn : ∃ tp p, w.var? Tryz.prog "strconv.ErrSyntax" = some #[.iface tp p]
  ran : ∃ tp p, w.var? Tryz.prog "strconv.ErrRange" = some #[.iface tp p]
theorem VarS.after {w w' : World} (h : VarS w) (hb : Below w.heap.size w w') : VarS w' :=
  ⟨var_below h.tab hb, h.syn.imp fun _ hp => hp.imp fun _ h => var_below h hb, h.ran.imp fun _ hp => hp.imp fun _ h => var_below h hb⟩
/-- Texts' cells. -/
def strCs (l : List ByteArray) : List Value := l.map .string
theorem strCs_len (l : List ByteArray) : (strCs l).length = l.length * 1 := by simp [strCs]
theorem strCs_one (l : List ByteArray) : ∀ u ∈ strCs l, u.oneCell' = true := fun u h => by
  obtain ⟨x, _, rfl⟩ := List.mem_map.1 h
  rfl
theorem strCs_append (l m : List ByteArray) : strCs (l ++ m) = strCs l ++ strCs m := by simp [strCs]
/-- A slice of texts as an answer. -/
def StrPost (w : World) (l : List ByteArray) (e : Ending) (w' : World) : Prop :=
  ∃ A N cap, e = .returned (.slice A N cap) ∧ N = l.length ∧ CellsS w' A (strCs l) ∧ N ≤ cap ∧ (∀ a, A = some a → w.heap.size ≤ a.block) ∧ Below w.heap.size w w'
/-- The first k are the text, the others are empty. -/
def halfCs (s : ByteArray) (k t : Nat) : List Value := List.replicate k (.string s) ++ List.replicate (t - k) (.string ⟨#[]⟩)
theorem half_copy (s : ByteArray) (k t m : Nat) : splice (halfCs s k t) k (List.replicate m (.string s)) = halfCs s (k + m) t := by
  unfold splice halfCs
  rw [List.take_left' (by simp), List.length_replicate]
  rw [show k + m = (List.replicate k (Value.string s)).length + m by simp, List.drop_append]
  simp
  rw [← List.append_assoc, List.replicate_append_replicate]
  congr 2
  omega
theorem whole_row {e : TypeId} {w : World} {base g N : Nat} {xs : List Value} (h : w.ownsRow base e 1 (.slice (some ⟨g, 0, none⟩) N N) N xs) : w.heap[g]? = some (.cells xs.toArray e (0, 0)) := by
  obtain ⟨h1, h | ⟨g', cap', cur, hv, _, hg, _, _, h5, h6⟩⟩ := h
  · cases h.1
  · cases hv
    rw [hg, ← h6, List.take_of_length_le (by simp; omega)]
theorem run_cuts (g k t : Nat) (h1 : 1 ≤ k) (h2 : k < t) : (∀ (W : World), (Instr.sliceAt 71 (.slice (some ⟨g, 0, none⟩) t t) (some (.int .i64 k)) none none).run Tryz.prog W = .ok (.slice (some ⟨g, k, none⟩) (t - k) (t - k)) W) ∧
    ∀ (W : World), (Instr.sliceAt 71 (.slice (some ⟨g, 0, none⟩) t t) none (some (.int .i64 k)) none).run Tryz.prog W = .ok (.slice (some ⟨g, 0, none⟩) k t) W := by
  have e : Tryz.prog.elem 71 = 9 := by kernel_rfl
  have hu : Tryz.prog.underlying 71 = some (.slice (Tryz.prog.elem 71)) := by rw [e]; exact Tryz.underlying71
  have es : ∀ W, (sizeOf 9).run Tryz.prog W = .ok 1 W := fun W => by kernel_rfl
  refine ⟨fun W => ?_, fun W => ?_⟩
  · have h1' := run_sliceAt_slice (P := Tryz.prog) (w := W) 71 (.slice (some ⟨g, 0, none⟩) t t) (some (.int .i64 k)) none none hu
    have h2' := run_slice_l (P := Tryz.prog) (w := W) 71 (some ⟨g, 0, none⟩) t t hu .i64 k (by omega) (by omega)
    rw [h1', h2', e, es]
    simp [Result.andThen, sliced, Addr.add]
    rw [if_neg (by omega), if_neg (by omega)]
  · have h1' := run_sliceAt_slice (P := Tryz.prog) (w := W) 71 (.slice (some ⟨g, 0, none⟩) t t) none (some (.int .i64 k)) none hu
    have h2' := run_slice_h (P := Tryz.prog) (w := W) 71 (some ⟨g, 0, none⟩) t t hu .i64 k (by omega) (by omega)
    rw [h1', h2', e, es]
    simp [Result.andThen, sliced, Addr.add]
theorem half_cell {s : ByteArray} {k t m g : Nat} {W : World} {ty : TypeId} (h : W.heap[g]? = some (.cells (halfCs s k t).toArray ty (0, 0))) (hm : m ≤ k) {j : Nat} {v : Value} (hj : (List.replicate m (Value.string s))[j]? = some v) :
    W.cell? ((⟨g, 0, none⟩ : Addr).add j) = some v := by
  obtain ⟨h1, h2⟩ := List.getElem?_eq_some_iff.1 hj
  rw [List.length_replicate] at h1
  have e : (⟨g, 0, none⟩ : Addr).add j = ⟨g, j, none⟩ := by simp [Addr.add]; intro h; rw [h]
  rw [e]
  simp [World.cell?, h, halfCs]
  rw [List.getElem?_append_left (by simp; omega), List.getElem?_replicate, if_pos (by omega), ← h2]
  simp
theorem infoStr : ∃ i, Tryz.prog.info? 9 = some i ∧ i.zero = some (.string ⟨#[]⟩) ∧ i.size = 1 ∧ i.bytes = 16 := ⟨(Tryz.prog.info? 9).get!, by kernel_rfl, by kernel_rfl, by kernel_rfl, by kernel_rfl⟩
set_option maxHeartbeats 3200000 in
set_option maxRecDepth 100000 in
theorem repeat_any (s : ByteArray) (t b : Nat) (w : World) (h1 : 1 ≤ t) (h2 : t ≤ 255) (hr : Row w b [.string s]) :
    Calls Tryz.prog 42 #[.slice (some ⟨b, 0, none⟩) 1 1, .int .i64 t] w (StrPost w (List.replicate t s)) := by
  obtain ⟨i0, hi, hz0, hz1, hz2⟩ := infoStr
  have hsz : (Tryz.prog.info? 9).map (·.size) = some 1 := by rw [hi]; simp [hz1]
  have HM : Hid (∀ W, Calls Tryz.prog 57 #[.int .u64 1, .int .u64 (t : Nat)] W fun e w' => e = .returned (.tuple #[.int .u64 0, .int .u64 (t : Nat)]) ∧ W = w') := Lib.hid (fun W => (Tryz.bits_Mul 1 t (by decide) (by omega) W).mono (by
    rintro e w' ⟨rfl, rfl⟩
    refine ⟨?_, rfl⟩
    rw [show 1 * t / 18446744073709551616 = 0 by omega, show 1 * t % 18446744073709551616 = t by omega]; rfl))
  have HR := Lib.hid hr
  have c0 := hr.c 0 rfl
  have lb := hr.1
  clear hr
  go_enter Tryz.func42, Tryz.ntmps42
  go_wp2_with (first
    | (go_at_call 57; (with_reducible refine (HM.out _).mono ?_); rintro e w1 ⟨rfl, rfl⟩)
    | (at_make; refine wpList_make_full _ rfl _ _ 71 rfl w.heap.size 9 i0 (.string ⟨#[]⟩) 1 Tryz.underlying71 hi hz0 hz1 .i64 .i64 _ _ t rfl rfl rfl rfl (by rw [hz2]; omega) (by unfold maxLen; omega) (Nat.le_refl _) ?_)
    | fail)
  intro w1 hown1 hg1
  have hw1 := whole_row hown1
  have hb1 : Below w.heap.size w w1 := (Below.refl w.heap.size w).grown hg1 (Nat.le_refl _) (fun j hj => by cases hj)
  have e0 : (madeCells #[.string ⟨#[]⟩] t).toList = halfCs s 0 t := by
    have : ∀ n, (madeCells #[.string ⟨#[]⟩] n).toList = List.replicate n (.string ⟨#[]⟩) := fun n => by
      refine List.eq_replicate_iff.2 ⟨by rw [Array.length_toList, size_madeCells], fun b hb => ?_⟩
      simp [madeCells, Nat.mod_one] at hb
      obtain ⟨_, _, rfl⟩ := hb
      rfl
    rw [this]; simp [halfCs]
  rw [e0] at hw1
  have hc1 : w1.cell? ⟨b, 0, none⟩ = some (.string s) := (HR.out.after hb1).c 0 rfl
  have HW1 := Lib.hid hw1
  have HSZ := Lib.hid hsz
  have HC1 := Lib.hid hc1
  clear hown1 hg1 hw1 e0 hc1 hi hz0 hz1 hz2 c0 hsz
  have hmin : Nat.min 1 t = 1 := Nat.min_eq_left h1
  go_wp2_with (first
    | (refine wpList_copy_splice rfl (.tmp 31) (.tmp 32) 71 71 rfl 9 Tryz.underlying71 HSZ.out (some ⟨w.heap.size, 0, none⟩) (some ⟨b, 0, none⟩) t t 1 1 rfl rfl w.heap.size 0 (halfCs s 0 t) 9 HW1.out [.string s] (by rw [hmin]; rfl) (fun _ => ⟨rfl, ⟨b, 0, none⟩, rfl, fun j v hj => by
        match j, hj with
        | 0, hj => obtain rfl := Option.some.inj hj; exact HC1.out⟩) (by simp [halfCs]; omega) (by simp [Value.oneCell']) w.heap.size w hb1 (Nat.le_refl _) ?_)
    | fail)
  intro w2 hw2 hb2
  have hw2' := hw2.out
  rw [show [Value.string s] = List.replicate 1 (.string s) from rfl, half_copy] at hw2'
  have HW2 := Lib.hid hw2'
  clear hw2 hw2' HW1 HC1 HR hb1 hmin
  go_wp2_with fail
  go_loopw [8] (fun n wr => ∃ k : Nat, 1 ≤ k ∧ k ≤ t ∧ n = .int .i64 k ∧ Hid (wr.heap[w.heap.size]? = some (.cells (halfCs s k t).toArray 9 (0, 0))) ∧ Below w.heap.size w wr) (fun n _ => t - (intOf n).toNat)
  case atStart => exact ⟨1, Nat.le_refl _, h1, rfl, HW2, hb2⟩
  case round =>
    obtain ⟨k, hk1, hk2, rfl, HK, hB⟩ := hrel
    clear HW2 hb2
    by_cases hkt : k < t
    · have hkt' : (k : Int) < t := by omega
      obtain ⟨m, hm⟩ : ∃ m, m = min k (t - k) := ⟨_, rfl⟩
      have hm1 : 1 ≤ m := by omega
      have hm2 : k + m ≤ t := by omega
      have hmk : m ≤ k := by omega
      have HMn := Lib.hid hm
      obtain ⟨hs1, hs2⟩ := run_cuts w.heap.size k t hk1 hkt
      have hwr : IntKind.i64.wrap ((k : Int) + (m : Int)) = (k : Int) + m := IntWalk.i64_in _ (by omega)
      clear hm
      go_wp2_with fail
      have HX := Lib.hid (fun j v (hj : (List.replicate m (Value.string s))[j]? = some v) => half_cell HK.out hmk hj)
      have HL : Hid ((List.replicate m (Value.string s)).length = Nat.min k (t - k)) := Lib.hid (by rw [List.length_replicate]; exact HMn.out)
      have HF : Hid (k + (List.replicate m (Value.string s)).length ≤ (halfCs s k t).length) := Lib.hid (by simp [halfCs]; omega)
      have H1 : Hid (∀ v ∈ List.replicate m (Value.string s), v.oneCell' = true) := Lib.hid (fun v hv => by rw [List.eq_of_mem_replicate hv]; rfl)
      have HSp := Lib.hid (half_copy s k t m)
      have hlen : (List.replicate m (Value.string s)).length = m := List.length_replicate
      generalize List.replicate m (Value.string s) = cs at HX HL HF H1 HSp hlen
      generalize halfCs s k t = cur at HK HF HSp
      have HB := Lib.hid hB
      obtain ⟨d, hd⟩ : ∃ d, t - k = d := ⟨_, rfl⟩
      rw [hd] at hs1 HL
      go_region_law ((refine step_copy_splice rfl (.tmp 41) (.tmp 44) 71 71 rfl 9 Tryz.underlying71 HSZ.out (some ⟨w.heap.size, k, none⟩) (some ⟨w.heap.size, 0, none⟩) d d k t ?q1 ?q2 w.heap.size k cur 9 ?q3 cs HL.out ?q4 HF.out H1.out w.heap.size w ?q5 (Nat.le_refl _) ?_; (case q1 => go_simp); (case q2 => go_simp); (case q3 => exact HK.out); (case q4 => exact (fun _ => ⟨rfl, ⟨w.heap.size, 0, none⟩, rfl, HX.out⟩)); (case q5 => exact HB.out.drew); intro w3 hw3 hb3))
      have HK3 : Hid (w3.heap[w.heap.size]? = some (.cells (halfCs s (k + m) t).toArray 9 (0, 0))) := Lib.hid (by rw [← HSp.out]; exact hw3.out)
      clear hw3 HSp HX HL HF H1 HK HB hs1 hs2 hd
      go_simp
      go_roundw
      case rel => first | exact ⟨k + m, by omega, by omega, by go_num, HK3, hb3⟩ | ((repeat apply Exists.intro); exact ⟨⟨k + m, by omega, by omega, rfl, HK3, hb3⟩, rfl⟩)
      case measure => simp [intOf]; omega
    · obtain rfl : k = t := by omega
      have HP : Hid (StrPost w (List.replicate k s) (.returned (.slice (some ⟨w.heap.size, 0, none⟩) k k)) wr) := by
        refine Lib.hid ⟨some ⟨w.heap.size, 0, none⟩, k, k, rfl, by simp, ?_, Nat.le_refl _, fun a ha => by cases ha; exact Nat.le_refl _, hB⟩
        have hk := HK.out
        have e : halfCs s k k = strCs (List.replicate k s) := by simp [halfCs, strCs]
        rw [e] at hk
        exact fun _ => ⟨w.heap.size, 0, rfl, (Array.getElem?_eq_some_iff.1 hk).1, fun j v hv => by rw [Nat.zero_add]; simp [World.cell?, hk]; exact hv⟩
      clear HK hB
      go_wp2
      go_ret
      exact HP.out
end Go.Proofs.YtjhcddlhhfjnaaaGreatDoor
