/- ArenaHolds walked. -/
import Derived.Test.YtnfllhkhlphdgaaBF
namespace Go.Proofs.Ytnfllhkhlphdgaa
open Go.RowKit Go.Sort ArenaMath Go.Maps

theorem holds_long (A : Option Addr) (n c : Nat) (w : World) (hn : (80 : Int) < n) :
    Calls Try.prog 5 #[.slice A n c] w fun e w' => e = .returned (.bool true) ∧ Below w.heap.size w w' := by
  go_enter Try.func5, Try.ntmps5
  go_wp2_with fail
  refine (works_any _).mono ?_
  rintro e w1 ⟨rfl, hb⟩
  go_wp2_with fail
  go_ret
  exact ⟨rfl, hb⟩
theorem top_less {L M : List Int} (h : Ris L) (h0 : ∀ z ∈ L, 0 ≤ z) (hs : ∀ z ∈ M, z ∈ L) : topL M ≤ topL L := by
  have hn : 0 ≤ topL L := by
    unfold topL
    cases e : L.getLast? with
    | none => exact Int.le_refl _
    | some x => have := h0 x (List.mem_of_getLast? e); show 0 ≤ x + 1; omega
  unfold topL at hn ⊢
  cases e : M.getLast? with
  | none => exact hn
  | some x =>
    have hx := hs x (List.mem_of_getLast? e)
    cases e' : L.getLast? with
    | none => rw [List.getLast?_eq_none_iff] at e'; subst e'; cases hx
    | some y =>
      have := ris_last h e' x hx
      show x + 1 ≤ y + 1
      omega
theorem del_ins {x : Int} {L : List Int} (h : Ris L) (hx : x ∉ L) : delR x (insR x L) = L := ris_ext (del_ris (ins_ris h hx)) h fun z => by
  rw [mem_del, mem_ins]
  constructor
  · rintro ⟨h1 | h1, h2⟩
    · exact absurd h1 h2
    · exact h1
  · intro h1
    exact ⟨.inr h1, fun e => hx (e ▸ h1)⟩
set_option maxRecDepth 100000 in
set_option maxHeartbeats 16000000 in
theorem holds_short (ws : List (Int × Int)) (A : Option Addr) (n c : Nat) (w : World) (hn : n = ws.length) (hs : n ≤ 80) (hwf : ∀ p ∈ ws, (Lit.int .i64 p.2).wf = true) (hA : ActsS w A ws) :
    Calls Try.prog 5 #[.slice A n c] w fun e w' => e = .returned (.bool true) ∧ Below w.heap.size w w' := by
  have HA := Lib.hid hA
  have HN := Lib.hid hn
  have HWS := Lib.hid hwf
  have hmm := @run_makeMap Try.prog
  have HNew := Lib.hid (new_any 30 w.heap.size (by decide) w (Nat.le_refl _))
  have hs0 : ¬ (80 : Int) < n := by omega
  clear hn hA hwf
  go_enter Try.func5, Try.ntmps5
  go_wp2_with fail
  refine HNew.out.mono ?_
  rintro e W1 ⟨rfl, ha, hb⟩
  have HAr := Lib.hid (And.intro ha hb)
  clear ha hb HNew
  go_wp2_with (go_at_call 11; refine (num_any _ _).mono ?_; rintro e w' ⟨rfl, rfl⟩)
  generalize hW : World.alloc _ _ = W2
  have HI : Hid (HMem w (w.heap.size + 1) w.heap.size W1.heap.size [] (.map []) none W2) := Lib.hid (by
    obtain ⟨ha, hb⟩ := HAr.out
    have hbn : Below W1.heap.size W1 W2 := by rw [← hW]; exact (Below.refl _ _).alloc (Nat.le_refl _) _
    have hlt := ha.lt
    refine ⟨ha.after hbn, by rw [← hW]; exact World.ownsMap_made _ _ _ _, tkIs_new, rfl, hb.size, fun k hk e => ?_, hb.trans (hbn.mono hb.size)⟩
    rcases hk with h | h | h
    · omega
    · omega
    · cases h)
  clear hW HAr
  generalize w.heap.size + 1 = b at *
  generalize W1.heap.size = mt at *
  obtain ⟨m, hm⟩ : ∃ m, w.heap.size = m := ⟨_, rfl⟩
  go_loopw [6, 7, 8] (fun mo cl i wr => ∃ (k : Nat) (L : List Int) (D : DataW Unit) (A1 : Option Addr) (M : Int) (c1 : Bool), k ≤ n ∧ i = .int .i64 k ∧ mo = .int .i64 M ∧ cl = .bool c1 ∧ Hid (HMem w b w.heap.size mt L D A1 wr) ∧ Hid ((L.length : Int) ≤ M ∧ M ≤ 100 ∧ (c1 = false → topL L ≤ M))) (fun _ _ i _ => n - (intOf i).toNat)
  case atStart => exact ⟨0, [], _, none, 0, false, Nat.zero_le _, rfl, rfl, rfl, HI, Lib.hid ⟨by simp, by decide, fun _ => by decide⟩⟩
  case round =>
    obtain ⟨k, L, D, A1, M, c1, hk, rfl, rfl, rfl, HH, HM⟩ := hrel
    clear HI
    by_cases hkn : k < n
    · obtain ⟨p, hp⟩ : ∃ p, ws[k]? = some p := ⟨_, List.getElem?_eq_getElem (by rw [← HN.out]; exact hkn)⟩
      obtain ⟨wa, x⟩ := p
      have HWF : Hid ((Lit.int .i64 x).wf = true) := Lib.hid (HWS.out _ (List.mem_of_getElem? hp))
      have hk1 : (k : Int) < n := by omega
      have HC := Lib.hid (copy_any HH.out.ar)
      go_wp2_with fail
      refine HC.out.mono ?_
      rintro e W1 ⟨bw, mw, Aw, rfl, haw, hb1⟩
      have H1 := Lib.hid (HH.out.after hb1)
      have hlo : w.heap.size ≤ wr.heap.size := HH.out.bel.size
      have harl := HH.out.ar.lt
      have HWa : Hid (ArS W1 wr.heap.size bw 30 L mw Aw ∧ (∀ g, foot b w.heap.size A1 g → g < wr.heap.size)) := Lib.hid ⟨haw, fun g hg => by
        rcases hg with h | h | h
        · omega
        · omega
        · exact harl.2.2 g h⟩
      obtain ⟨ab, ao, rfl, hal, hac⟩ := HA.out.below (Below.mono H1.out.bel (Nat.le_refl _)) (by rw [← HN.out]; omega)
      have y0 : W1.cell? ⟨ab, ao + k * 2, none⟩ = some (.int .i64 wa) := (hac k _ hp).1
      have y1 : W1.cell? ⟨ab, ao + k * 2 + 1, none⟩ = some (.int .i64 x) := (hac k _ hp).2
      have hal0 : ab < w.heap.size := by
        obtain ⟨b', o', e, hl, _⟩ := HA.out (by rw [← HN.out]; omega)
        cases e; exact hl
      have HAc := Lib.hid (fun V (hV : Below w.heap.size w V) => by
        obtain ⟨b', o', e, hl, hc⟩ := HA.out.below hV (by rw [← HN.out]; omega)
        cases e; exact (hc k _ hp).2)
      clear hac hal hp harl haw hb1 HC HH
      by_cases h0 : wa = 0
      · subst h0
        have HTk := Lib.hid (take_any H1.out.ar H1.out.bel.size)
        go_wp2_with fail
        refine HTk.out.mono ?_
        rintro e W2 ⟨ht1, ht2⟩
        by_cases hl : L.length < 30
        · obtain ⟨x, A2, rfl, hf, ha, ho, hlc⟩ := ht1 hl
          have hxn := hf.2.2.1
          have H2 := Lib.hid (H1.out.turn ha ho hlc)
          have HW2 : Hid (ArS W2 wr.heap.size bw 30 L mw Aw) := Lib.hid (HWa.out.1.only ho (fun g hg e => by have := HWa.out.1.footBase g hg; have := HWa.out.2 g e; omega))
          have HX := Lib.hid hf
          have HWF : Hid ((Lit.int .i64 x).wf = true) := Lib.hid (wf64 (by have := hf.1; have := hf.2.1; omega))
          have e0 : decide (x < 0) = false := decide_eq_false (by have := hf.1; omega)
          have e1 : decide (30 ≤ x) = false := decide_eq_false (by have := hf.2.1; omega)
          have HC2 := Lib.hid (copy_any H2.out.ar)
          clear ht1 ht2 ha ho hlc HTk hf y0 y1
          go_wp2_with (first | (go_at_call 11; refine (num_any _ _).mono ?_; rintro e w' ⟨rfl, rfl⟩) | (at_lookup; refine wpList_lookup_own_int _ rfl _ _ 57 rfl 3 3 .i64 lawK Try.underlying57 Try.underlying3 (by kernel_rfl) mt _ D rfl H2.out.map (.int .i64 x) (.int .i64 x) rfl (keyOf_int_mk Try.underlying3 HWF.out) ?_; intro q hq _; rw [H2.out.is.get, if_neg hxn] at hq; obtain rfl : _ = q := by injection hq with hq; injection hq))
          refine HC2.out.mono ?_
          rintro e W3 ⟨b3, m3, A3, rfl, ha3, hb3⟩
          have HG := Lib.hid (give_any x ha3 hb3.size HWF.out)
          have H3 := Lib.hid (And.intro ha3 hb3)
          clear ha3 hb3 HC2
          go_wp2_with fail
          refine HG.out.mono ?_
          rintro e W4 ⟨_, _, hg⟩
          obtain ⟨A4, rfl, ha4, ho4, _⟩ := hg ⟨HX.out.1, HX.out.2.1⟩ (mem_ins.2 (.inl rfl))
          have hr := H1.out.ar.rng
          rw [del_ins hr.1 hxn] at ha4
          have hb4 : Below W2.heap.size W2 W4 := HMid.far rfl H3.out.2 H3.out.1.footBase ho4
          have haw4 : ArS W4 wr.heap.size bw 30 L mw Aw := HW2.out.after hb4
          have hsm := same_any ha4 haw4
          rw [decide_eq_true ⟨rfl, rfl⟩] at hsm
          have HSm := Lib.hid hsm
          have H4 := Lib.hid (H2.out.after hb4)
          clear hg ha4 ho4 hb4 haw4 hsm H3 HG H2 HW2
          go_wp2_with (go_at_call 11; refine (num_any _ _).mono ?_; rintro e w' ⟨rfl, rfl⟩)
          refine HSm.out.mono ?_
          rintro e W5 ⟨rfl, hb5⟩
          have H5 := Lib.hid (H4.out.after hb5)
          clear hb5 HSm H4
          go_wp2_with (at_mapUpdate; refine wpList_mapUpdate_own _ rfl _ _ _ 57 rfl 3 3 lawK Try.underlying57 (plainElem (H := Unit) Try.prog 3) mt _ D rfl H5.out.map (by have := H5.out.sz; unfold maxLen; omega) (.int .i64 x) (.int .i64 1) (.int .i64 x) rfl rfl (keyOf_int_mk Try.underlying3 HWF.out) (.lit (.int .i64 1)) [] (plainElem_int Try.underlying3 (by decide)) ?_)
          intro W6 hown hgr
          have H6 := Lib.hid (H5.out.put hxn hown hgr)
          have HT : Hid (topL (insR x L) ≤ max M (((insR x L).length : Nat) : Int) ∨ c1 = true) := Lib.hid (by
            cases hc : c1 with
            | true => exact .inr rfl
            | false =>
              refine .inl ?_
              have h1 := HM.out.2.2 hc
              have h2 := top_ins hr.1 hxn (fun z hz => (hr.2.1 z hz).1) HX.out.1
              have h3 := ris_full (k := 0) x.toNat hr.1 (fun z hz => (hr.2.1 z hz).1) (fun z z0 z1 => HX.out.2.2.2 z z0 (by have := HX.out.1; omega))
              have h4 := ins_len x L
              have h5 := HX.out.1
              rw [h2, h4]
              omega)
          clear hown hgr hr H5 e0 e1 hxn
          have HS := Lib.hid (show ((insR x L).length : Int) ≤ max M (insR x L).length ∧ max M (insR x L).length ≤ 100 ∧ (c1 = false → topL (insR x L) ≤ max M (insR x L).length) from ⟨by omega, by have := H6.out.ar.rng; have := HM.out.2.1; omega, fun h => HT.out.resolve_right (by rw [h]; decide)⟩)
          have HLn := Lib.hid H6.out.ar.lenB
          generalize hL2 : insR x L = L2 at *
          generalize hD2 : D.put (.int .i64 x) (.lit (.int .i64 1)) = D2 at *
          go_wp2_with (first | (at_len; refine wpList_len_own _ rfl _ _ rfl 3 3 Try.underlying57 (plainElem (H := Unit) Try.prog 3) mt _ D2 rfl H6.out.map ?_; rw [H6.out.sz]) | (go_at_call 11; refine (num_any _ _).mono ?_; rintro e w' ⟨rfl, rfl⟩))
          generalize hMM : max M (L2.length : Int) = M2 at *
          refine HLn.out.mono ?_
          rintro e W8 ⟨rfl, hb8⟩
          have H8 := Lib.hid (H6.out.after hb8)
          have HTp := Lib.hid H8.out.ar.topB
          have hne : ((L2.length : Int) != (L2.length : Int)) = false := by simp
          clear hb8 HLn H6
          cases c1 with
          | true =>
            go_wp2_with (first | (at_len; refine wpList_len_own _ rfl _ _ rfl 3 3 Try.underlying57 (plainElem (H := Unit) Try.prog 3) mt _ D2 rfl H8.out.map ?_; rw [H8.out.sz]) | (go_at_call 11; refine (num_any _ _).mono ?_; rintro e w' ⟨rfl, rfl⟩))
            go_roundw
            case rel => exact ⟨k + 1, L2, D2, A2, M2, true, by omega, by go_num, rfl, rfl, H8, Lib.hid ⟨HS.out.1, HS.out.2.1, fun h => HS.out.2.2 (by first | exact h | trivial)⟩⟩
            case measure => simp [intOf]; omega
          | false =>
            have hgt : decide (M2 < topL L2) = false := decide_eq_false (by have := HS.out.2.2 rfl; omega)
            go_wp2_with (first | (at_len; refine wpList_len_own _ rfl _ _ rfl 3 3 Try.underlying57 (plainElem (H := Unit) Try.prog 3) mt _ D2 rfl H8.out.map ?_; rw [H8.out.sz]) | (go_at_call 11; refine (num_any _ _).mono ?_; rintro e w' ⟨rfl, rfl⟩))
            refine HTp.out.mono ?_
            rintro e W9 ⟨rfl, hb9⟩
            have H9 := Lib.hid (H8.out.after hb9)
            clear hb9 HTp
            go_wp2_with fail
            go_roundw
            case rel => exact ⟨k + 1, L2, D2, A2, M2, false, by omega, by go_num, rfl, rfl, H9, Lib.hid ⟨HS.out.1, HS.out.2.1, fun h => HS.out.2.2 (by first | exact h | trivial)⟩⟩
            case measure => simp [intOf]; omega
        · obtain ⟨rfl, hb⟩ := ht2 hl
          have H2 := Lib.hid (H1.out.after hb)
          have h30 : L.length = 30 := by have := H1.out.ar.rng.2.2.2; omega
          have h31 : ((L.length : Int) != 30) = false := by simp; omega
          clear ht1 ht2 hb HTk y0 y1 H1
          go_upto_region 34 with (first | (go_at_call 11; refine (num_any _ _).mono ?_; rintro e w' ⟨rfl, rfl⟩) | (at_len; refine wpList_len_own _ rfl _ _ rfl 3 3 Try.underlying57 (plainElem (H := Unit) Try.prog 3) mt _ D rfl H2.out.map ?_; rw [H2.out.sz]))
          clear h30 h31 hl
          have HS := Lib.hid (show ((L).length : Int) ≤ max M (L).length ∧ max M (L).length ≤ 100 ∧ (c1 = false → topL (L) ≤ max M (L).length) from ⟨by omega, by have := H2.out.ar.rng; have := HM.out.2.1; omega, fun h => by have := HM.out.2.2 h; omega⟩)
          have HLn := Lib.hid H2.out.ar.lenB
          generalize hL2 : L = L2 at *
          generalize hD2 : D = D2 at *
          go_wp2_with (first | (at_len; refine wpList_len_own _ rfl _ _ rfl 3 3 Try.underlying57 (plainElem (H := Unit) Try.prog 3) mt _ D2 rfl H2.out.map ?_; rw [H2.out.sz]) | (go_at_call 11; refine (num_any _ _).mono ?_; rintro e w' ⟨rfl, rfl⟩))
          generalize hMM : max M (L2.length : Int) = M2 at *
          refine HLn.out.mono ?_
          rintro e W8 ⟨rfl, hb8⟩
          have H8 := Lib.hid (H2.out.after hb8)
          have HTp := Lib.hid H8.out.ar.topB
          have hne : ((L2.length : Int) != (L2.length : Int)) = false := by simp
          clear hb8 HLn H2
          cases c1 with
          | true =>
            go_wp2_with (first | (at_len; refine wpList_len_own _ rfl _ _ rfl 3 3 Try.underlying57 (plainElem (H := Unit) Try.prog 3) mt _ D2 rfl H8.out.map ?_; rw [H8.out.sz]) | (go_at_call 11; refine (num_any _ _).mono ?_; rintro e w' ⟨rfl, rfl⟩))
            go_roundw
            case rel => exact ⟨k + 1, L2, D2, A1, M2, true, by omega, by go_num, rfl, rfl, H8, Lib.hid ⟨HS.out.1, HS.out.2.1, fun h => HS.out.2.2 (by first | exact h | trivial)⟩⟩
            case measure => simp [intOf]; omega
          | false =>
            have hgt : decide (M2 < topL L2) = false := decide_eq_false (by have := HS.out.2.2 rfl; omega)
            go_wp2_with (first | (at_len; refine wpList_len_own _ rfl _ _ rfl 3 3 Try.underlying57 (plainElem (H := Unit) Try.prog 3) mt _ D2 rfl H8.out.map ?_; rw [H8.out.sz]) | (go_at_call 11; refine (num_any _ _).mono ?_; rintro e w' ⟨rfl, rfl⟩))
            refine HTp.out.mono ?_
            rintro e W9 ⟨rfl, hb9⟩
            have H9 := Lib.hid (H8.out.after hb9)
            clear hb9 HTp
            go_wp2_with fail
            go_roundw
            case rel => exact ⟨k + 1, L2, D2, A1, M2, false, by omega, by go_num, rfl, rfl, H9, Lib.hid ⟨HS.out.1, HS.out.2.1, fun h => HS.out.2.2 (by first | exact h | trivial)⟩⟩
            case measure => simp [intOf]; omega
      by_cases h1 : wa = 1
      · subst h1
        have HCl := Lib.hid (claim_any x H1.out.ar H1.out.bel.size HWF.out)
        go_wp2_with fail
        refine HCl.out.mono ?_
        rintro e W2 ⟨g1, g2, g3⟩
        clear HCl y0 y1
        by_cases hin : 0 ≤ x ∧ x < ((30 : Nat) : Int)
        · by_cases hx : x ∈ L
          · obtain ⟨rfl, hb⟩ := g2 hin hx
            have H2 := Lib.hid (H1.out.after hb)
            clear g1 g2 g3 hb H1 hin
            go_upto_region 34 with (go_at_call 11; refine (num_any _ _).mono ?_; rintro e w' ⟨rfl, rfl⟩)
            have HS := Lib.hid (show ((L).length : Int) ≤ max M (L).length ∧ max M (L).length ≤ 100 ∧ (c1 = false → topL (L) ≤ max M (L).length) from ⟨by omega, by have := H2.out.ar.rng; have := HM.out.2.1; omega, fun h => by have := HM.out.2.2 h; omega⟩)
            have HLn := Lib.hid H2.out.ar.lenB
            generalize hL2 : L = L2 at *
            generalize hD2 : D = D2 at *
            go_wp2_with (first | (at_len; refine wpList_len_own _ rfl _ _ rfl 3 3 Try.underlying57 (plainElem (H := Unit) Try.prog 3) mt _ D2 rfl H2.out.map ?_; rw [H2.out.sz]) | (go_at_call 11; refine (num_any _ _).mono ?_; rintro e w' ⟨rfl, rfl⟩))
            generalize hMM : max M (L2.length : Int) = M2 at *
            refine HLn.out.mono ?_
            rintro e W8 ⟨rfl, hb8⟩
            have H8 := Lib.hid (H2.out.after hb8)
            have HTp := Lib.hid H8.out.ar.topB
            have hne : ((L2.length : Int) != (L2.length : Int)) = false := by simp
            clear hb8 HLn H2
            cases c1 with
            | true =>
              go_wp2_with (first | (at_len; refine wpList_len_own _ rfl _ _ rfl 3 3 Try.underlying57 (plainElem (H := Unit) Try.prog 3) mt _ D2 rfl H8.out.map ?_; rw [H8.out.sz]) | (go_at_call 11; refine (num_any _ _).mono ?_; rintro e w' ⟨rfl, rfl⟩))
              go_roundw
              case rel => exact ⟨k + 1, L2, D2, A1, M2, true, by omega, by go_num, rfl, rfl, H8, Lib.hid ⟨HS.out.1, HS.out.2.1, fun h => HS.out.2.2 (by first | exact h | trivial)⟩⟩
              case measure => simp [intOf]; omega
            | false =>
              have hgt : decide (M2 < topL L2) = false := decide_eq_false (by have := HS.out.2.2 rfl; omega)
              go_wp2_with (first | (at_len; refine wpList_len_own _ rfl _ _ rfl 3 3 Try.underlying57 (plainElem (H := Unit) Try.prog 3) mt _ D2 rfl H8.out.map ?_; rw [H8.out.sz]) | (go_at_call 11; refine (num_any _ _).mono ?_; rintro e w' ⟨rfl, rfl⟩))
              refine HTp.out.mono ?_
              rintro e W9 ⟨rfl, hb9⟩
              have H9 := Lib.hid (H8.out.after hb9)
              clear hb9 HTp
              go_wp2_with fail
              go_roundw
              case rel => exact ⟨k + 1, L2, D2, A1, M2, false, by omega, by go_num, rfl, rfl, H9, Lib.hid ⟨HS.out.1, HS.out.2.1, fun h => HS.out.2.2 (by first | exact h | trivial)⟩⟩
              case measure => simp [intOf]; omega
          · obtain ⟨A2, rfl, ha, ho, hlc⟩ := g3 hin hx
            have H2 := Lib.hid (H1.out.turn ha ho hlc)
            have y1 := HAc.out W2 H2.out.bel
            obtain ⟨st, V1, V2, e1, e2, hown, hgr⟩ := entry_two H2.out.map lawK Try.underlying57 (by have := H2.out.sz; have := H1.out.ar.rng.2.2.2; unfold maxLen; omega) (z := .int .i64 0) (fun W => by kernel_rfl) (keyOf_int_mk Try.underlying3 HWF.out) (H2.out.is.none hx) (val := .int .i64 1) (plainElem_int Try.underlying3 (by decide))
            have H6 := Lib.hid (H2.out.put hx hown hgr)
            have HE := Lib.hid (And.intro e1 e2)
            clear g1 g2 g3 ha ho hlc hown hgr e1 e2 hin
            go_upto_region 28 with (first | (go_at_call 11; refine (num_any _ _).mono ?_; rintro e w' ⟨rfl, rfl⟩) | (at_lookup; refine wpList_lookup_own_int _ rfl _ _ 57 rfl 3 3 .i64 lawK Try.underlying57 Try.underlying3 (by kernel_rfl) mt _ D rfl H2.out.map (.int .i64 x) (.int .i64 x) rfl (keyOf_int_mk Try.underlying3 HWF.out) ?_; intro q hq _; rw [H2.out.is.get, if_neg hx] at hq; obtain rfl : _ = q := by injection hq with hq; injection hq))
            have e1 := HE.out.1
            have e2 := HE.out.2
            go_upto_region 34 with fail
            clear e1 e2
            clear y1 H2 HE
            have HS := Lib.hid (show ((insR x L).length : Int) ≤ max M (insR x L).length ∧ max M (insR x L).length ≤ 100 ∧ (true = false → topL (insR x L) ≤ max M (insR x L).length) from ⟨by omega, by have := H6.out.ar.rng; have := HM.out.2.1; omega, fun h => absurd h (by decide)⟩)
            have HLn := Lib.hid H6.out.ar.lenB
            generalize hL2 : insR x L = L2 at *
            generalize hD2 : D.put (.int .i64 x) (.lit (.int .i64 1)) = D2 at *
            go_wp2_with (first | (at_len; refine wpList_len_own _ rfl _ _ rfl 3 3 Try.underlying57 (plainElem (H := Unit) Try.prog 3) mt _ D2 rfl H6.out.map ?_; rw [H6.out.sz]) | (go_at_call 11; refine (num_any _ _).mono ?_; rintro e w' ⟨rfl, rfl⟩))
            generalize hMM : max M (L2.length : Int) = M2 at *
            refine HLn.out.mono ?_
            rintro e W8 ⟨rfl, hb8⟩
            have H8 := Lib.hid (H6.out.after hb8)
            have HTp := Lib.hid H8.out.ar.topB
            have hne : ((L2.length : Int) != (L2.length : Int)) = false := by simp
            clear hb8 HLn H6
            go_wp2_with (first | (at_len; refine wpList_len_own _ rfl _ _ rfl 3 3 Try.underlying57 (plainElem (H := Unit) Try.prog 3) mt _ D2 rfl H8.out.map ?_; rw [H8.out.sz]) | (go_at_call 11; refine (num_any _ _).mono ?_; rintro e w' ⟨rfl, rfl⟩))
            go_roundw
            case rel => exact ⟨k + 1, L2, D2, A2, M2, true, by omega, by go_num, rfl, rfl, H8, Lib.hid ⟨HS.out.1, HS.out.2.1, fun h => HS.out.2.2 (by first | exact h | trivial)⟩⟩
            case measure => simp [intOf]; omega
        · obtain ⟨rfl, hb⟩ := g1 hin
          have H2 := Lib.hid (H1.out.after hb)
          clear g1 g2 g3 hb H1 hin
          go_upto_region 34 with (go_at_call 11; refine (num_any _ _).mono ?_; rintro e w' ⟨rfl, rfl⟩)
          have HS := Lib.hid (show ((L).length : Int) ≤ max M (L).length ∧ max M (L).length ≤ 100 ∧ (c1 = false → topL (L) ≤ max M (L).length) from ⟨by omega, by have := H2.out.ar.rng; have := HM.out.2.1; omega, fun h => by have := HM.out.2.2 h; omega⟩)
          have HLn := Lib.hid H2.out.ar.lenB
          generalize hL2 : L = L2 at *
          generalize hD2 : D = D2 at *
          go_wp2_with (first | (at_len; refine wpList_len_own _ rfl _ _ rfl 3 3 Try.underlying57 (plainElem (H := Unit) Try.prog 3) mt _ D2 rfl H2.out.map ?_; rw [H2.out.sz]) | (go_at_call 11; refine (num_any _ _).mono ?_; rintro e w' ⟨rfl, rfl⟩))
          generalize hMM : max M (L2.length : Int) = M2 at *
          refine HLn.out.mono ?_
          rintro e W8 ⟨rfl, hb8⟩
          have H8 := Lib.hid (H2.out.after hb8)
          have HTp := Lib.hid H8.out.ar.topB
          have hne : ((L2.length : Int) != (L2.length : Int)) = false := by simp
          clear hb8 HLn H2
          cases c1 with
          | true =>
            go_wp2_with (first | (at_len; refine wpList_len_own _ rfl _ _ rfl 3 3 Try.underlying57 (plainElem (H := Unit) Try.prog 3) mt _ D2 rfl H8.out.map ?_; rw [H8.out.sz]) | (go_at_call 11; refine (num_any _ _).mono ?_; rintro e w' ⟨rfl, rfl⟩))
            go_roundw
            case rel => exact ⟨k + 1, L2, D2, A1, M2, true, by omega, by go_num, rfl, rfl, H8, Lib.hid ⟨HS.out.1, HS.out.2.1, fun h => HS.out.2.2 (by first | exact h | trivial)⟩⟩
            case measure => simp [intOf]; omega
          | false =>
            have hgt : decide (M2 < topL L2) = false := decide_eq_false (by have := HS.out.2.2 rfl; omega)
            go_wp2_with (first | (at_len; refine wpList_len_own _ rfl _ _ rfl 3 3 Try.underlying57 (plainElem (H := Unit) Try.prog 3) mt _ D2 rfl H8.out.map ?_; rw [H8.out.sz]) | (go_at_call 11; refine (num_any _ _).mono ?_; rintro e w' ⟨rfl, rfl⟩))
            refine HTp.out.mono ?_
            rintro e W9 ⟨rfl, hb9⟩
            have H9 := Lib.hid (H8.out.after hb9)
            clear hb9 HTp
            go_wp2_with fail
            go_roundw
            case rel => exact ⟨k + 1, L2, D2, A1, M2, false, by omega, by go_num, rfl, rfl, H9, Lib.hid ⟨HS.out.1, HS.out.2.1, fun h => HS.out.2.2 (by first | exact h | trivial)⟩⟩
            case measure => simp [intOf]; omega
      by_cases h2 : wa = 2
      · subst h2
        have HCl := Lib.hid (give_any x H1.out.ar H1.out.bel.size HWF.out)
        go_wp2_with fail
        refine HCl.out.mono ?_
        rintro e W2 ⟨g1, g2, g3⟩
        clear HCl y0 y1
        by_cases hin : 0 ≤ x ∧ x < ((30 : Nat) : Int)
        · by_cases hx : x ∈ L
          · obtain ⟨A2, rfl, ha, ho, hlc⟩ := g3 hin hx
            have H2 := Lib.hid (H1.out.turn ha ho hlc)
            have y1 := HAc.out W2 H2.out.bel
            have hr := H1.out.ar.rng
            have HT : Hid (c1 = false → topL (delR x L) ≤ M) := Lib.hid (fun h => by
              have h1 := HM.out.2.2 h
              have h2 := top_less hr.1 (fun z hz => (hr.2.1 z hz).1) (fun z hz => (mem_del.1 hz).1 : ∀ z ∈ delR x L, z ∈ L)
              omega)
            have HLL : Hid (Ris L) := Lib.hid hr.1
            clear g1 g2 g3 ha ho hlc hin hr
            go_upto_region 34 with (first | (go_at_call 11; refine (num_any _ _).mono ?_; rintro e w' ⟨rfl, rfl⟩) | (at_lookup; refine wpList_lookup_own_int _ rfl _ _ 57 rfl 3 3 .i64 lawK Try.underlying57 Try.underlying3 (by kernel_rfl) mt _ D rfl H2.out.map (.int .i64 x) (.int .i64 x) rfl (keyOf_int_mk Try.underlying3 HWF.out) ?_; intro q hq _; rw [H2.out.is.get, if_pos hx] at hq; obtain rfl : _ = q := by injection hq with hq; injection hq) | (at_delete; refine wpList_delete_own _ rfl _ _ 57 3 rfl 3 lawK Try.underlying57 (plainElem (H := Unit) Try.prog 3) mt _ D rfl H2.out.map _ (.int .i64 x) rfl (keyOf_int_mk Try.underlying3 HWF.out) ?_; intro W6 hown hturn))
            have H6 := Lib.hid (H2.out.del HLL.out hx hown hturn.grown)
            clear y1 H2 hown hturn HLL H1
            have HS := Lib.hid (show ((delR x L).length : Int) ≤ max M (delR x L).length ∧ max M (delR x L).length ≤ 100 ∧ (c1 = false → topL (delR x L) ≤ max M (delR x L).length) from ⟨by omega, by have := H6.out.ar.rng; have := HM.out.2.1; omega, fun h => by have := HT.out h; omega⟩)
            have HLn := Lib.hid H6.out.ar.lenB
            generalize hL2 : delR x L = L2 at *
            generalize hD2 : D.del (.int .i64 x) = D2 at *
            go_wp2_with (first | (at_len; refine wpList_len_own _ rfl _ _ rfl 3 3 Try.underlying57 (plainElem (H := Unit) Try.prog 3) mt _ D2 rfl H6.out.map ?_; rw [H6.out.sz]) | (go_at_call 11; refine (num_any _ _).mono ?_; rintro e w' ⟨rfl, rfl⟩))
            generalize hMM : max M (L2.length : Int) = M2 at *
            refine HLn.out.mono ?_
            rintro e W8 ⟨rfl, hb8⟩
            have H8 := Lib.hid (H6.out.after hb8)
            have HTp := Lib.hid H8.out.ar.topB
            have hne : ((L2.length : Int) != (L2.length : Int)) = false := by simp
            clear hb8 HLn H6
            cases c1 with
            | true =>
              go_wp2_with (first | (at_len; refine wpList_len_own _ rfl _ _ rfl 3 3 Try.underlying57 (plainElem (H := Unit) Try.prog 3) mt _ D2 rfl H8.out.map ?_; rw [H8.out.sz]) | (go_at_call 11; refine (num_any _ _).mono ?_; rintro e w' ⟨rfl, rfl⟩))
              go_roundw
              case rel => exact ⟨k + 1, L2, D2, A2, M2, true, by omega, by go_num, rfl, rfl, H8, Lib.hid ⟨HS.out.1, HS.out.2.1, fun h => HS.out.2.2 (by first | exact h | trivial)⟩⟩
              case measure => simp [intOf]; omega
            | false =>
              have hgt : decide (M2 < topL L2) = false := decide_eq_false (by have := HS.out.2.2 rfl; omega)
              go_wp2_with (first | (at_len; refine wpList_len_own _ rfl _ _ rfl 3 3 Try.underlying57 (plainElem (H := Unit) Try.prog 3) mt _ D2 rfl H8.out.map ?_; rw [H8.out.sz]) | (go_at_call 11; refine (num_any _ _).mono ?_; rintro e w' ⟨rfl, rfl⟩))
              refine HTp.out.mono ?_
              rintro e W9 ⟨rfl, hb9⟩
              have H9 := Lib.hid (H8.out.after hb9)
              clear hb9 HTp
              go_wp2_with fail
              go_roundw
              case rel => exact ⟨k + 1, L2, D2, A2, M2, false, by omega, by go_num, rfl, rfl, H9, Lib.hid ⟨HS.out.1, HS.out.2.1, fun h => HS.out.2.2 (by first | exact h | trivial)⟩⟩
              case measure => simp [intOf]; omega
          · obtain ⟨rfl, hb⟩ := g2 hin hx
            have H2 := Lib.hid (H1.out.after hb)
            clear g1 g2 g3 hb H1 hin
            go_upto_region 34 with (go_at_call 11; refine (num_any _ _).mono ?_; rintro e w' ⟨rfl, rfl⟩)
            have HS := Lib.hid (show ((L).length : Int) ≤ max M (L).length ∧ max M (L).length ≤ 100 ∧ (c1 = false → topL (L) ≤ max M (L).length) from ⟨by omega, by have := H2.out.ar.rng; have := HM.out.2.1; omega, fun h => by have := HM.out.2.2 h; omega⟩)
            have HLn := Lib.hid H2.out.ar.lenB
            generalize hL2 : L = L2 at *
            generalize hD2 : D = D2 at *
            go_wp2_with (first | (at_len; refine wpList_len_own _ rfl _ _ rfl 3 3 Try.underlying57 (plainElem (H := Unit) Try.prog 3) mt _ D2 rfl H2.out.map ?_; rw [H2.out.sz]) | (go_at_call 11; refine (num_any _ _).mono ?_; rintro e w' ⟨rfl, rfl⟩))
            generalize hMM : max M (L2.length : Int) = M2 at *
            refine HLn.out.mono ?_
            rintro e W8 ⟨rfl, hb8⟩
            have H8 := Lib.hid (H2.out.after hb8)
            have HTp := Lib.hid H8.out.ar.topB
            have hne : ((L2.length : Int) != (L2.length : Int)) = false := by simp
            clear hb8 HLn H2
            cases c1 with
            | true =>
              go_wp2_with (first | (at_len; refine wpList_len_own _ rfl _ _ rfl 3 3 Try.underlying57 (plainElem (H := Unit) Try.prog 3) mt _ D2 rfl H8.out.map ?_; rw [H8.out.sz]) | (go_at_call 11; refine (num_any _ _).mono ?_; rintro e w' ⟨rfl, rfl⟩))
              go_roundw
              case rel => exact ⟨k + 1, L2, D2, A1, M2, true, by omega, by go_num, rfl, rfl, H8, Lib.hid ⟨HS.out.1, HS.out.2.1, fun h => HS.out.2.2 (by first | exact h | trivial)⟩⟩
              case measure => simp [intOf]; omega
            | false =>
              have hgt : decide (M2 < topL L2) = false := decide_eq_false (by have := HS.out.2.2 rfl; omega)
              go_wp2_with (first | (at_len; refine wpList_len_own _ rfl _ _ rfl 3 3 Try.underlying57 (plainElem (H := Unit) Try.prog 3) mt _ D2 rfl H8.out.map ?_; rw [H8.out.sz]) | (go_at_call 11; refine (num_any _ _).mono ?_; rintro e w' ⟨rfl, rfl⟩))
              refine HTp.out.mono ?_
              rintro e W9 ⟨rfl, hb9⟩
              have H9 := Lib.hid (H8.out.after hb9)
              clear hb9 HTp
              go_wp2_with fail
              go_roundw
              case rel => exact ⟨k + 1, L2, D2, A1, M2, false, by omega, by go_num, rfl, rfl, H9, Lib.hid ⟨HS.out.1, HS.out.2.1, fun h => HS.out.2.2 (by first | exact h | trivial)⟩⟩
              case measure => simp [intOf]; omega
        · obtain ⟨rfl, hb⟩ := g1 hin
          have H2 := Lib.hid (H1.out.after hb)
          clear g1 g2 g3 hb H1 hin
          go_upto_region 34 with (go_at_call 11; refine (num_any _ _).mono ?_; rintro e w' ⟨rfl, rfl⟩)
          have HS := Lib.hid (show ((L).length : Int) ≤ max M (L).length ∧ max M (L).length ≤ 100 ∧ (c1 = false → topL (L) ≤ max M (L).length) from ⟨by omega, by have := H2.out.ar.rng; have := HM.out.2.1; omega, fun h => by have := HM.out.2.2 h; omega⟩)
          have HLn := Lib.hid H2.out.ar.lenB
          generalize hL2 : L = L2 at *
          generalize hD2 : D = D2 at *
          go_wp2_with (first | (at_len; refine wpList_len_own _ rfl _ _ rfl 3 3 Try.underlying57 (plainElem (H := Unit) Try.prog 3) mt _ D2 rfl H2.out.map ?_; rw [H2.out.sz]) | (go_at_call 11; refine (num_any _ _).mono ?_; rintro e w' ⟨rfl, rfl⟩))
          generalize hMM : max M (L2.length : Int) = M2 at *
          refine HLn.out.mono ?_
          rintro e W8 ⟨rfl, hb8⟩
          have H8 := Lib.hid (H2.out.after hb8)
          have HTp := Lib.hid H8.out.ar.topB
          have hne : ((L2.length : Int) != (L2.length : Int)) = false := by simp
          clear hb8 HLn H2
          cases c1 with
          | true =>
            go_wp2_with (first | (at_len; refine wpList_len_own _ rfl _ _ rfl 3 3 Try.underlying57 (plainElem (H := Unit) Try.prog 3) mt _ D2 rfl H8.out.map ?_; rw [H8.out.sz]) | (go_at_call 11; refine (num_any _ _).mono ?_; rintro e w' ⟨rfl, rfl⟩))
            go_roundw
            case rel => exact ⟨k + 1, L2, D2, A1, M2, true, by omega, by go_num, rfl, rfl, H8, Lib.hid ⟨HS.out.1, HS.out.2.1, fun h => HS.out.2.2 (by first | exact h | trivial)⟩⟩
            case measure => simp [intOf]; omega
          | false =>
            have hgt : decide (M2 < topL L2) = false := decide_eq_false (by have := HS.out.2.2 rfl; omega)
            go_wp2_with (first | (at_len; refine wpList_len_own _ rfl _ _ rfl 3 3 Try.underlying57 (plainElem (H := Unit) Try.prog 3) mt _ D2 rfl H8.out.map ?_; rw [H8.out.sz]) | (go_at_call 11; refine (num_any _ _).mono ?_; rintro e w' ⟨rfl, rfl⟩))
            refine HTp.out.mono ?_
            rintro e W9 ⟨rfl, hb9⟩
            have H9 := Lib.hid (H8.out.after hb9)
            clear hb9 HTp
            go_wp2_with fail
            go_roundw
            case rel => exact ⟨k + 1, L2, D2, A1, M2, false, by omega, by go_num, rfl, rfl, H9, Lib.hid ⟨HS.out.1, HS.out.2.1, fun h => HS.out.2.2 (by first | exact h | trivial)⟩⟩
            case measure => simp [intOf]; omega
      have e0 : (wa == 0) = false := by simpa using h0
      have e1 : (wa == 1) = false := by simpa using h1
      have e2 : (wa == 2) = false := by simpa using h2
      clear h0 h1 h2
      go_upto_region 34 with fail
      clear e0 e1 e2 y0 y1
      have HS := Lib.hid (show ((L).length : Int) ≤ max M (L).length ∧ max M (L).length ≤ 100 ∧ (c1 = false → topL (L) ≤ max M (L).length) from ⟨by omega, by have := H1.out.ar.rng; have := HM.out.2.1; omega, fun h => by have := HM.out.2.2 h; omega⟩)
      have HLn := Lib.hid H1.out.ar.lenB
      generalize hL2 : L = L2 at *
      generalize hD2 : D = D2 at *
      go_wp2_with (first | (at_len; refine wpList_len_own _ rfl _ _ rfl 3 3 Try.underlying57 (plainElem (H := Unit) Try.prog 3) mt _ D2 rfl H1.out.map ?_; rw [H1.out.sz]) | (go_at_call 11; refine (num_any _ _).mono ?_; rintro e w' ⟨rfl, rfl⟩))
      generalize hMM : max M (L2.length : Int) = M2 at *
      refine HLn.out.mono ?_
      rintro e W8 ⟨rfl, hb8⟩
      have H8 := Lib.hid (H1.out.after hb8)
      have HTp := Lib.hid H8.out.ar.topB
      have hne : ((L2.length : Int) != (L2.length : Int)) = false := by simp
      clear hb8 HLn H1
      cases c1 with
      | true =>
        go_wp2_with (first | (at_len; refine wpList_len_own _ rfl _ _ rfl 3 3 Try.underlying57 (plainElem (H := Unit) Try.prog 3) mt _ D2 rfl H8.out.map ?_; rw [H8.out.sz]) | (go_at_call 11; refine (num_any _ _).mono ?_; rintro e w' ⟨rfl, rfl⟩))
        go_roundw
        case rel => exact ⟨k + 1, L2, D2, A1, M2, true, by omega, by go_num, rfl, rfl, H8, Lib.hid ⟨HS.out.1, HS.out.2.1, fun h => HS.out.2.2 (by first | exact h | trivial)⟩⟩
        case measure => simp [intOf]; omega
      | false =>
        have hgt : decide (M2 < topL L2) = false := decide_eq_false (by have := HS.out.2.2 rfl; omega)
        go_wp2_with (first | (at_len; refine wpList_len_own _ rfl _ _ rfl 3 3 Try.underlying57 (plainElem (H := Unit) Try.prog 3) mt _ D2 rfl H8.out.map ?_; rw [H8.out.sz]) | (go_at_call 11; refine (num_any _ _).mono ?_; rintro e w' ⟨rfl, rfl⟩))
        refine HTp.out.mono ?_
        rintro e W9 ⟨rfl, hb9⟩
        have H9 := Lib.hid (H8.out.after hb9)
        clear hb9 HTp
        go_wp2_with fail
        go_roundw
        case rel => exact ⟨k + 1, L2, D2, A1, M2, false, by omega, by go_num, rfl, rfl, H9, Lib.hid ⟨HS.out.1, HS.out.2.1, fun h => HS.out.2.2 (by first | exact h | trivial)⟩⟩
        case measure => simp [intOf]; omega
    · obtain rfl : k = n := by omega
      have HB := Lib.hid HH.out.bel
      clear HH HM
      go_wp2_with fail
      refine (works_any _).mono ?_
      rintro e W9 ⟨rfl, hb⟩
      have hb9 := HB.out.trans (hb.mono HB.out.size)
      clear hb
      go_wp2_with fail
      go_ret
      exact ⟨rfl, hb9⟩
end Go.Proofs.Ytnfllhkhlphdgaa
