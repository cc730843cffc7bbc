/- strings.SplitSeq at one blank, as a sequence whose rounds may give up. -/
import Derived.Test.YtjhcddlhhfjnaaaGreatDoorTQ
import Derived.Test.YtjhcddlhhfjnaaaGreatDoorPV
import Derived.Sort.LoopGhostIn
namespace Go.Proofs.YtjhcddlhhfjnaaaGreatDoor
open Go.RowKit Go.Sort Go.Shelf
attribute [local go_sem] Oper.semAt_some

/-- A text's words: what lies between blanks. -/
def splitB : List UInt8 → List (List UInt8)
  | [] => [[]]
  | c :: r => if c = 32 then [] :: splitB r else match splitB r with
    | [] => [[c]]
    | u :: us => (c :: u) :: us
theorem splitB_ne : ∀ l, splitB l ≠ []
  | [] => by simp [splitB]
  | c :: r => by
    rw [splitB]
    split
    · simp
    · split <;> simp
theorem split_none : ∀ {l : List UInt8}, Lib.indexByte l 32 < 0 → splitB l = [l]
  | [], _ => rfl
  | c :: r, h => by
    rw [Lib.indexByte] at h
    by_cases hc : c = 32
    · subst hc; simp at h
    · have hc' : (c == 32) = false := by simpa using hc
      simp only [hc', Bool.false_eq_true, if_false] at h
      have hg := Lib.indexByte_ge r 32
      have hr : Lib.indexByte r 32 < 0 := by
        split at h
        · rename_i h1
          have : Lib.indexByte r 32 = -1 := by simpa using h1
          omega
        · omega
      rw [splitB, if_neg hc, split_none hr]
theorem split_some : ∀ {l : List UInt8} {i : Nat}, Lib.indexByte l 32 = i → i < l.length ∧ splitB l = l.take i :: splitB (l.drop (i + 1))
  | [], i, h => by rw [Lib.indexByte] at h; omega
  | c :: r, i, h => by
    rw [Lib.indexByte] at h
    by_cases hc : c = 32
    · subst hc
      simp at h
      obtain rfl : i = 0 := by omega
      exact ⟨by simp, by rw [splitB, if_pos rfl]; rfl⟩
    · have hc' : (c == 32) = false := by simpa using hc
      simp only [hc', Bool.false_eq_true, if_false] at h
      split at h
      · omega
      · rename_i h1
        have hg := Lib.indexByte_ge r 32
        have hm : ¬ Lib.indexByte r 32 = -1 := by simpa using h1
        obtain ⟨j, hj⟩ : ∃ j : Nat, Lib.indexByte r 32 = j := ⟨(Lib.indexByte r 32).toNat, by omega⟩
        obtain rfl : i = j + 1 := by omega
        obtain ⟨h2, h3⟩ := split_some hj
        exact ⟨by simp; omega, by rw [splitB, if_neg hc, h3]; rfl⟩
/-- The words as the program has them. -/
def wordsB (s : ByteArray) : List ByteArray := (splitB s.data.toList).map fun l => ⟨l.toArray⟩
theorem words_none {s : ByteArray} (h : Lib.indexByte s.data.toList 32 < 0) : wordsB s = [s] := by
  unfold wordsB
  rw [split_none h]
  simp
theorem words_some {s : ByteArray} {i : Nat} (h : Lib.indexByte s.data.toList 32 = i) : i < s.size ∧ wordsB s = s.extract 0 i :: wordsB (s.extract (i + 1) s.size) := by
  obtain ⟨h1, h2⟩ := split_some h
  have hs : i < s.size := by simpa using h1
  refine ⟨hs, ?_⟩
  unfold wordsB
  rw [h2, List.map_cons]
  have e1 : (s.extract 0 i).data.toList = s.data.toList.take i := by
    rw [ByteArray.data_extract, Array.toList_extract]
    simp [List.extract]
  have e2 : (s.extract (i + 1) s.size).data.toList = s.data.toList.drop (i + 1) := by
    rw [ByteArray.data_extract, Array.toList_extract]
    rw [List.extract, List.take_of_length_le (by simp)]
  rw [e2, ← e1]
theorem words_pre {s cur : ByteArray} {pre : List ByteArray} {x : ByteArray} {r : List ByteArray} (h : wordsB s = pre ++ wordsB cur) (hc : wordsB cur = x :: r) : pre ++ [x] <+: wordsB s := ⟨r, by rw [h, hc]; simp⟩
theorem grown_set (W : World) (b i : Nat) (v : Value) : W.grownBy (W.setCell ⟨b, i, none⟩ v) (some b) :=
  ⟨rfl, rfl, rfl, by simp [World.setCell], fun k _ hne => Below.heap_setCell _ _ _ _ (fun e => hne (by rw [e]))⟩
/-- Three boxes lie as they lay. -/
def KeepsT (b : Nat) (X Y : World) : Prop := KeepsB b X Y ∧ KeepsB (b + 1) X Y ∧ KeepsB (b + 2) X Y
theorem KeepsT.trans {b : Nat} {X Y Z : World} (h : KeepsT b X Y) (k : KeepsT b Y Z) : KeepsT b X Z := ⟨h.1.trans k.1, h.2.1.trans k.2.1, h.2.2.trans k.2.2⟩
theorem KeepsT.below {b : Nat} {X Y : World} (h : Below X.heap.size X Y) : KeepsT b X Y := ⟨KeepsB.below h, KeepsB.below h, KeepsB.below h⟩
theorem KeepsT.turn {b l : Nat} (W : World) (o' : Obj) (hl : b + 2 < l) : KeepsT b W (W.putObj l o') := ⟨KeepsB.turn W o' (by omega), KeepsB.turn W o' (by omega), KeepsB.turn W o' (by omega)⟩
theorem KeepsT.put {b c : Nat} {X Y : World} (h : KeepsT b X Y) (hc : c ≠ b ∧ c ≠ b + 1 ∧ c ≠ b + 2) (i : Nat) (v : Value) : KeepsT b X (Y.setCell ⟨c, i, none⟩ v) :=
  ⟨h.1.put (fun e => hc.1 e.symm) i v, h.2.1.put (fun e => hc.2.1 e.symm) i v, h.2.2.put (fun e => hc.2.2 e.symm) i v⟩
def encS (x : ByteArray) : Array Value := #[.string x]
/-- What stands while a text is taken apart. -/
def SplS (b : Nat) (s : ByteArray) (pre : List ByteArray) (cur : ByteArray) (wr : World) : Prop :=
  Row wr b [.string cur] ∧ Row wr (b + 1) [.string ⟨#[32]⟩] ∧ Row wr (b + 2) [.int .i64 0] ∧ wordsB s = pre ++ wordsB cur ∧ cur.size ≤ s.size
set_option maxRecDepth 100000 in
set_option maxHeartbeats 3200000 in
theorem split1_w (n b : Nat) (s : ByteArray) (w : World) (hs : s.size ≤ 1000000) (h1 : Row w b [.string s]) (h2 : Row w (b + 1) [.string ⟨#[32]⟩]) (h3 : Row w (b + 2) [.int .i64 0]) :
    SeqW (n + 1) Tryz.prog 76 #[.pointer (some ⟨b + 1, 0, none⟩), .pointer (some ⟨b, 0, none⟩), .pointer (some ⟨b + 2, 0, none⟩)] encS (some b) (KeepsT b) (wordsB s) w := by
  intro l J Jx Jp W hW hJ hJx hY h0
  have HY := Lib.hid hY; clear hY
  have HJ := Lib.hid hJ; clear hJ hJx
  have HS0 : Hid (SplS b s [] s W) := Lib.hid ⟨h1.after hW, h2.after hW, h3.after hW, rfl, Nat.le_refl _⟩
  clear h1 h2 h3 hW
  have x1 := HS0.out.2.1.c 0 rfl
  refine callsIn_of_wp Tryz.func76 rfl trivial ?_ rfl
  simp only [Tryz.ntmps76, List.size_toArray, List.length_cons, List.length_nil, Nat.reduceAdd, Nat.reduceSub, Array.replicate_succ, Array.replicate_zero, List.push_toArray, List.append_toArray, List.nil_append, List.cons_append]
  gi_wp2
  clear x1
  gi_loopg [] (s.size) (fun m wr => ∃ (pre : List ByteArray) (cur : ByteArray), m = cur.size ∧ Hid (SplS b s pre cur wr) ∧ J pre wr ∧ W.heap.size ≤ wr.heap.size)
  case atStart => exact ⟨[], s, rfl, HS0, h0, Nat.le_refl _⟩
  case round =>
    obtain ⟨pre, cur, hm, HS, hJr, hsz⟩ := hrel
    subst hm
    clear HS0 h0
    have x2 := HS.out.1.c 0 rfl
    have x1 := HS.out.2.1.c 0 rfl
    have x3 := HS.out.2.2.1.c 0 rfl
    have HI := Lib.hid (Tryz.strings_Index_one cur 32 wr)
    have hcs : cur.size ≤ 1000000 := Nat.le_trans HS.out.2.2.2.2 hs
    by_cases hi : Lib.indexByte cur.data.toList 32 < 0
    · have HW := Lib.hid (words_none hi)
      obtain ⟨iv, hiv⟩ : ∃ iv, Lib.indexByte cur.data.toList 32 = iv := ⟨_, rfl⟩
      rw [hiv] at hi HI
      clear hiv
      have HP : Hid (pre ++ [cur] <+: wordsB s ∧ wordsB s = pre ++ [cur]) := Lib.hid ⟨words_pre HS.out.2.2.2.1 HW.out, by rw [HS.out.2.2.2.1, HW.out]⟩
      obtain ⟨fn, tmps, assign, body, hy, hr⟩ := HY.out pre cur wr hJr hsz HP.out.1
      have H1 := Lib.hid hr
      unfold encS at hy
      clear hr HW
      gi_wp2_with fail
      refine ⟨trivial, callsIn_wide.2 (HI.out.mono ?_)⟩
      rintro e w2 ⟨rfl, rfl⟩
      gi_wp2_with fail
      refine H1.out.mono ?_
      rintro e W2 (⟨bb, rfl, hk, hb⟩ | ⟨ch, rfl, hp⟩)
      · clear hy H1 x1 x2 x3
        gi_wp2
        first | go_end0 | refine bodyPost_ret (results_none rfl _ _ _) rfl ?_
        refine .inl ⟨⟨_, rfl⟩, ?_⟩
        cases bb with
        | true => exact .inl (by rw [HP.out.2]; exact hb)
        | false => exact .inr ⟨_, HP.out.1, hb⟩
      · clear hy H1 x1 x2 x3
        gi_wp2
        exact ⟨rfl, .inr ⟨ch, rfl, hp⟩⟩
    · obtain ⟨i, hiv⟩ : ∃ i : Nat, Lib.indexByte cur.data.toList 32 = i := ⟨(Lib.indexByte cur.data.toList 32).toNat, by omega⟩
      obtain ⟨hi1, hw⟩ := words_some hiv
      rw [hiv] at HI
      clear hi hiv
      have HW := Lib.hid hw
      have HP : Hid (pre ++ [cur.extract 0 i] <+: wordsB s ∧ wordsB s = (pre ++ [cur.extract 0 i]) ++ wordsB (cur.extract (i + 1) cur.size)) := Lib.hid ⟨words_pre HS.out.2.2.2.1 hw, by rw [HS.out.2.2.2.1, hw]; simp⟩
      have hsz2 : (cur.extract (i + 1) cur.size).size = cur.size - (i + 1) := by rw [ByteArray.size_extract]; omega
      have HZ := Lib.hid hsz2
      obtain ⟨fr, hfr⟩ : ∃ fr, cur.extract 0 i = fr := ⟨_, rfl⟩
      obtain ⟨rs, hrs⟩ : ∃ rs, cur.extract (i + 1) cur.size = rs := ⟨_, rfl⟩
      rw [hfr] at HP
      rw [hrs] at HP HZ
      have hi2 : (i : Int) + 0 = (i : Int) := by omega
      have hs1 : ∀ W, (Instr.sliceAt 9 (.string cur) none (some (.int .i64 (i : Nat))) none).run Tryz.prog W = .ok (.string fr) W := fun W => by
        rw [run_sliceAt_string (h := Tryz.underlying9), run_slice_string_h (ht := Tryz.underlying9) (h0 := by omega) (h2 := by omega), ← hfr]; rfl
      have hs2 : ∀ W, (Instr.sliceAt 9 (.string cur) (some (.int .i64 ((i : Int) + 1))) none none).run Tryz.prog W = .ok (.string rs) W := fun W => by
        rw [run_sliceAt_string (h := Tryz.underlying9), run_slice_string_l (ht := Tryz.underlying9) (h0 := by omega) (h1 := by omega), ← hrs]
        rw [show ((i : Int) + 1).toNat = i + 1 by omega]
      clear hsz2 hfr hrs hw
      obtain ⟨fn, tmps, assign, body, hy, hr⟩ := HY.out pre fr wr hJr hsz HP.out.1
      have H1 := Lib.hid hr
      unfold encS at hy
      clear hr
      gi_wp2_with fail
      refine ⟨trivial, callsIn_wide.2 (HI.out.mono ?_)⟩
      rintro e w2 ⟨rfl, rfl⟩
      gi_wp2_with fail
      refine H1.out.mono ?_
      rintro e W2 (⟨bb, rfl, hk, hb⟩ | ⟨ch, rfl, hp⟩)
      · cases bb with
        | false =>
          have hb' : Jx (pre ++ [fr]) W2 := hb
          clear hy H1 x1 x2 x3 hs1 hs2 hb hk
          gi_wp2
          first | go_end0 | refine bodyPost_ret (results_none rfl _ _ _) rfl ?_
          exact .inl ⟨⟨_, rfl⟩, .inr ⟨_, HP.out.1, hb'⟩⟩
        | true =>
          have hb' : J (pre ++ [fr]) W2 := hb
          have r2 := hk.1.row HS.out.1
          have r1 := hk.2.1.row HS.out.2.1
          have r3 := hk.2.2.row HS.out.2.2.1
          have y2 := r2.c 0 rfl
          have g2 := r2.f 0 rfl
          have y1 := r1.c 0 rfl
          have HS2 : Hid (SplS b s (pre ++ [fr]) rs (W2.setCell ⟨b, 0, none⟩ (.string rs))) := Lib.hid ⟨r2.set 0 (by simp) _, r1.other (by simp) _, r3.other (by simp) _, HP.out.2, by have := HZ.out; have := HS.out.2.2.2.2; omega⟩
          have hJ2 := HJ.out _ _ _ hb' (grown_set W2 b 0 (.string rs))
          have hsz3 : W.heap.size ≤ (W2.setCell ⟨b, 0, none⟩ (.string rs)).heap.size := by simpa [World.setCell] using Nat.le_trans hsz hk.1.1
          have hms : rs.size < cur.size := by have := HZ.out; omega
          clear hy H1 x1 x2 x3 hs1 hb hk r1 r2 r3 hb' hJr HW HP HS HZ
          gi_wp2
          go_roundg rs.size
          case rel => exact ⟨_, _, rfl, HS2, hJ2, hsz3⟩
          case measure => exact hms
      · clear hy H1 x1 x2 x3 hs1 hs2
        gi_wp2
        exact ⟨rfl, .inr ⟨ch, rfl, hp⟩⟩
end Go.Proofs.YtjhcddlhhfjnaaaGreatDoor
