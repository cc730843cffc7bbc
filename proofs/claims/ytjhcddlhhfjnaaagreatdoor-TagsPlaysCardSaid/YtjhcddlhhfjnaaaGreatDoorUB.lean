/- Contracts of strings.SplitSeq up to its sequence, and of readNumber. -/
import Derived.Test.YtjhcddlhhfjnaaaGreatDoorUA
namespace Go.Proofs.YtjhcddlhhfjnaaaGreatDoor
open Go.RowKit Go.Sort Go.Shelf

def SplitPost (w : World) (s : ByteArray) (e : Ending) (w' : World) : Prop :=
  ∃ b, e = .returned (.func (.func 76) #[] #[.pointer (some ⟨b + 1, 0, none⟩), .pointer (some ⟨b, 0, none⟩), .pointer (some ⟨b + 2, 0, none⟩)]) ∧ w.heap.size ≤ b ∧
    Row w' b [.string s] ∧ Row w' (b + 1) [.string ⟨#[32]⟩] ∧ Row w' (b + 2) [.int .i64 0] ∧ Below w.heap.size w w'
set_option maxHeartbeats 800000 in
theorem splitin_any (s : ByteArray) (w : World) : Calls Tryz.prog 65 #[.string s, .string ⟨#[32]⟩, .int .i64 0] w (SplitPost w s) := by
  have hmf : ∀ (fn : Fn) (first cap : Array Value) (w : World), (Instr.makeFunc fn first cap).run Tryz.prog w = .ok (.func fn first cap) w := fun _ _ _ _ => rfl
  go_enter Tryz.func65, Tryz.ntmps65
  go_wp2
  go_ret
  exact ⟨w.heap.size, rfl, Nat.le_refl _, ((Row.at rfl [_] _).alloc _).alloc _, (Row.at (by simp) [_] _).alloc _, Row.at (by simp) [_] _, (((Below.refl _ _).alloc (Nat.le_refl _) _).alloc (by simp) _).alloc (by simp; omega) _⟩
set_option maxHeartbeats 800000 in
theorem split_any (s : ByteArray) (w : World) : Calls Tryz.prog 55 #[.string s, .string ⟨#[32]⟩] w (SplitPost w s) := by
  have H := Lib.hid (splitin_any s w)
  go_enter Tryz.func55, Tryz.ntmps55
  go_wp2_with fail
  refine H.out.mono ?_
  rintro e w' ⟨b, rfl, h⟩
  have HP : Hid (SplitPost w s (.returned (.func (.func 76) #[] #[.pointer (some ⟨b + 1, 0, none⟩), .pointer (some ⟨b, 0, none⟩), .pointer (some ⟨b + 2, 0, none⟩)])) w') := Lib.hid ⟨b, rfl, h⟩
  clear h H
  go_wp2
  go_ret
  exact HP.out
theorem below_bytes (w : World) (e : TypeId) (t : ByteArray) : Below w.heap.size w (Lib.bytesWorld w e t) := by
  unfold Lib.bytesWorld
  have h := ((Below.refl w.heap.size w).drew.alloc (Nat.le_refl _) (.cells (Lib.bytesCells w e t) e))
  exact ⟨h.os, h.tape, h.output, by simp [World.freeze], fun k hk => by
    rw [← h.block k hk]
    simp [World.freeze, Array.getElem?_modify]
    intro h1; omega⟩
/-- The number of a word, if it is none below the least. -/
def goodWord (l : List UInt8) (least : Int) : Option Int :=
  match Lib.parseIntB 64 l with
  | .ok v => if (itoaB v).data.toList = l ∧ mayN v = true ∧ least ≤ v then some v else none
  | _ => none
theorem parse_bound {l : List UInt8} {v : Int} (h : Lib.parseIntB 64 l = .ok v) : -9223372036854775808 ≤ v ∧ v ≤ 9223372036854775807 := by
  unfold Lib.parseIntB at h
  cases l with
  | nil => cases h
  | cons c r =>
    simp only at h
    split at h
    · cases h
    · cases h
    · split at h
      · cases h
      · split at h
        · cases h
        · injection h with h
          subst h
          split <;> omega
/-- ParseInt, told by what the word is. -/
theorem parse_any (s : ByteArray) (w : World) (hs : s.size ≤ 1000000) (hv : VarS w) :
    Calls Tryz.prog 66 #[.string s, .int .i64 10, .int .i64 64] w fun e w' => Below w.heap.size w w' ∧
      ((∃ v, Lib.parseIntB 64 s.data.toList = .ok v ∧ e = .returned (.tuple #[.int .i64 v, .nilIface])) ∨ ((∀ v, Lib.parseIntB 64 s.data.toList ≠ .ok v) ∧ ∃ v N, e = .returned (.tuple #[.int .i64 v, .iface 136 (.pointer (some ⟨N, 0, none⟩))]))) := by
  cases hp : Lib.parseIntB 64 s.data.toList
  · rename_i v
    refine (Tryz.strconv_ParseInt_10_at64_ok s (by omega) v hp w).mono ?_
    rintro e w' ⟨rfl, h⟩
    refine ⟨?_, .inl ⟨v, rfl, rfl⟩⟩
    rcases h with rfl | ⟨t, rfl⟩
    · exact Below.refl _ _
    · exact below_bytes _ _ _
  · obtain ⟨tp, p, hvar⟩ := hv.syn
    refine (Tryz.strconv_ParseInt_10_at64_wrong s (by omega) hp tp p w hvar).mono ?_
    rintro e w' ⟨N, rfl, _, _, hb⟩
    exact ⟨hb, .inr ⟨(fun v h => by cases h), _, N, rfl⟩⟩
  · obtain ⟨tp, p, hvar⟩ := hv.ran
    refine (Tryz.strconv_ParseInt_10_at64_range_var s (by omega) hp tp p w hvar).mono ?_
    rintro e w' ⟨N, rfl, _, _, hb⟩
    exact ⟨hb, .inr ⟨(fun v h => by cases h), _, N, rfl⟩⟩
/-- What readNumber ends with. -/
def NumP (w : World) (l : List UInt8) (least : Int) (e : Ending) (w' : World) : Prop :=
  Below w.heap.size w w' ∧ ((∃ v, goodWord l least = some v ∧ e = .returned (.int .i64 v)) ∨ (goodWord l least = none ∧ e = gaveE 200))
set_option maxHeartbeats 3200000 in
set_option maxRecDepth 100000 in
theorem number_any (s : ByteArray) (least : Int) (w : World) (hs : s.size ≤ 1000000) (hv : VarS w) :
    Calls Tryz.prog 56 #[.string s, .int .i64 least] w (NumP w s.data.toList least) := by
  have HV := Lib.hid hv
  have HPa := Lib.hid (parse_any s w hs hv)
  have HG : Hid (∀ W, Calls Tryz.prog 48 #[.int .i64 200] W fun e w' => e = .panicked [{ v := .iface 27 (.int .i64 200), recovered := false }] ∧ W = w') := Lib.hid (fun W => for_gives 200 W (by decide))
  clear hv
  go_enter Tryz.func56, Tryz.ntmps56
  go_wp2_with fail
  refine HPa.out.mono ?_
  rintro e w1 ⟨hb1, ⟨v, hp, rfl⟩ | ⟨hn, v, N, rfl⟩⟩
  · have hB := parse_bound hp
    have HF := Lib.hid (fun W (hb' : Below w.heap.size w W) => format_any v W hB.1 hB.2 (HV.out.after hb'))
    have HGw : Hid (goodWord s.data.toList least = if itoaB v = s ∧ mayN v = true ∧ least ≤ v then some v else none) := Lib.hid (by
      unfold goodWord
      rw [hp]
      have e : ((itoaB v).data.toList = s.data.toList) = (itoaB v = s) := propext ⟨fun h => by
        cases hx : itoaB v with | mk d => cases s with | mk d' => rw [hx] at h; simp at h; rw [h], fun h => by rw [h]⟩
      simp only [e])
    have HMy := Lib.hid (fun W => may_any v W)
    clear hp HPa
    generalize itoaB v = fv at HF HGw
    by_cases he : fv = s
    · subst he
      cases hm : mayN v with
      | false =>
        have HN : Hid (goodWord fv.data.toList least = none) := Lib.hid (by rw [HGw.out, if_neg (by simp [hm])])
        rw [hm] at HMy
        clear hm HGw
        go_wp2_with (first
          | (go_at_call 43; (with_reducible refine (HF.out _ hb1).mono ?_); rintro e w2 ⟨rfl, hb2⟩)
          | (go_at_call 35; (with_reducible refine (HMy.out _).mono ?_); rintro e w3 ⟨rfl, rfl⟩)
          | (go_at_call 48; (with_reducible refine (HG.out _).mono ?_); rintro e w4 ⟨rfl, rfl⟩)
          | fail)
        exact ⟨rfl, hb1.trans (hb2.mono hb1.size), .inr ⟨HN.out, rfl⟩⟩
      | true =>
        rw [hm] at HMy
        by_cases hl : least ≤ v
        · have HN : Hid (goodWord fv.data.toList least = some v) := Lib.hid (by rw [HGw.out, if_pos ⟨rfl, hm, hl⟩])
          have hl' : decide (v < least) = false := decide_eq_false (by omega)
          clear hm HGw
          go_wp2_with (first
            | (go_at_call 43; (with_reducible refine (HF.out _ hb1).mono ?_); rintro e w2 ⟨rfl, hb2⟩)
            | (go_at_call 35; (with_reducible refine (HMy.out _).mono ?_); rintro e w3 ⟨rfl, rfl⟩)
            | fail)
          go_ret
          exact ⟨hb1.trans (hb2.mono hb1.size), .inl ⟨v, HN.out, rfl⟩⟩
        · have HN : Hid (goodWord fv.data.toList least = none) := Lib.hid (by rw [HGw.out, if_neg (fun h => hl h.2.2)])
          have hl' : v < least := by omega
          clear hm HGw hl
          go_wp2_with (first
            | (go_at_call 43; (with_reducible refine (HF.out _ hb1).mono ?_); rintro e w2 ⟨rfl, hb2⟩)
            | (go_at_call 35; (with_reducible refine (HMy.out _).mono ?_); rintro e w3 ⟨rfl, rfl⟩)
            | (go_at_call 48; (with_reducible refine (HG.out _).mono ?_); rintro e w4 ⟨rfl, rfl⟩)
            | fail)
          exact ⟨rfl, hb1.trans (hb2.mono hb1.size), .inr ⟨HN.out, rfl⟩⟩
    · have HN : Hid (goodWord s.data.toList least = none) := Lib.hid (by rw [HGw.out, if_neg (fun h => he h.1)])
      have he1 : ¬ fv.toList = s.toList := fun h => he (Go.WideShapes.bytes_inj (by rw [← Lib.toList_data, ← Lib.toList_data]; exact h))
      clear he HGw
      go_wp2_with (first
        | (go_at_call 43; (with_reducible refine (HF.out _ hb1).mono ?_); rintro e w2 ⟨rfl, hb2⟩)
        | (go_at_call 48; (with_reducible refine (HG.out _).mono ?_); rintro e w4 ⟨rfl, rfl⟩)
        | fail)
      exact ⟨rfl, hb1.trans (hb2.mono hb1.size), .inr ⟨HN.out, rfl⟩⟩
  · have HN : Hid (goodWord s.data.toList least = none) := by
      refine Lib.hid ?_
      unfold goodWord
      cases hp : Lib.parseIntB 64 s.data.toList with
      | ok v => exact absurd hp (hn v)
      | _ => rfl
    clear hn
    go_wp2_with (first
      | (go_at_call 48; (with_reducible refine (HG.out _).mono ?_); rintro e w2 ⟨rfl, rfl⟩)
      | fail)
    exact ⟨rfl, hb1, .inr ⟨HN.out, rfl⟩⟩
end Go.Proofs.YtjhcddlhhfjnaaaGreatDoor
