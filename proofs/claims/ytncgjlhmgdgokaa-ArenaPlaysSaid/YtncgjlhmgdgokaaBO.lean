/- ArenaPlays walked; no condition. -/
import Derived.Test.YtncgjlhmgdgokaaBN
import Derived.Test.YtncgjlhmgdgokaaBF
import Derived.Deep.CutRange
import Derived.Deep.RegionWith
namespace Go.Proofs.Ytncgjlhmgdgokaa
open Go.RowKit Go.Sort ArenaMath Go.Maps
attribute [local go_sem] Oper.semAt_some

set_option maxRecDepth 100000 in
set_option maxHeartbeats 16000000 in
theorem plays_short (many : Int) (ws : List (Int × Int)) (A : Option Addr) (n c : Nat) (w : World) (hn : n = ws.length) (hs : n ≤ 60) (hwf : ∀ p ∈ ws, (Lit.int .i64 p.2).wf = true) (hA : ActsS w A ws) :
    Calls Try.prog 3 #[.int .i64 many, .slice A n c] w fun e w' => e = .returned (.bool true) ∧ Below w.heap.size w w' := by
  have HA := Lib.hid hA
  have HN := Lib.hid hn
  have HWS := Lib.hid hwf
  have hs0 : ¬ (60 : Int) < n := by omega
  clear hA hn hwf
  obtain ⟨er, HER⟩ : ∃ er, Hid (erNew many = er) := ⟨_, Lib.hid rfl⟩
  refine (callsIn_wide (n := 9)).1 ?_
  refine callsIn_of_wp_marks Try.func3 rfl trivial ?_ rfl
  simp only [Try.ntmps3, List.size_toArray, List.length_cons, List.length_nil, Nat.reduceAdd, Nat.reduceSub, Array.replicate_succ, Array.replicate_zero, List.push_toArray, List.append_toArray, List.nil_append, List.cons_append]
  refine wpIn_wide.2 ?_
  go_upto_region 3 with fail
  generalize hW : World.alloc _ _ = W0
  have hR4 : Row W0 w.heap.size [.bool false] := by rw [← hW]; exact Row.at rfl [_] _
  have hB0 : Below w.heap.size w W0 := by rw [← hW]; exact (Below.refl _ _).alloc (Nat.le_refl _) _
  clear hW
  have hsz := hR4.lt
  have h9 := new_er many (w.heap.size + 1) W0 hsz
  rw [HER.out] at h9
  have HNew := Lib.hid h9
  have HRN := Lib.hid (fun W => HER.out ▸ rnew_er many W)
  clear h9
  go_wp2_with fail
  refine HNew.out.mono ?_
  rintro e W1 ⟨pa, rfl, hb1, hp0, hp1⟩
  have HP := Lib.hid (And.intro hp0 hp1)
  clear hp0 hp1 HNew
  go_wp2_with fail
  refine (HRN.out _).mono ?_
  rintro e W2 ⟨mv, rfl, hb2, hmv⟩
  clear HRN
  go_upto_region 5 with fail
  generalize hW : World.alloc _ _ = W3
  have hR7 : Row W3 W2.heap.size [.int .i64 mv, .slice none 0 0] := by rw [← hW]; exact Row.at rfl [_, _] _
  have hu3 : Below W2.heap.size W2 W3 := by rw [← hW]; exact (Below.refl _ _).alloc (Nat.le_refl _) _
  have hB3 : Below W1.heap.size W1 W3 := hb2.trans (hu3.mono hb2.size)
  have hB13 := hB3
  have hb20 := hb2.size
  clear hW hb2 hu3
  have hkw := hb1.size
  have hkw2 := hB3.size
  have hkw3 := hb20
  generalize W2.heap.size = kw at *
  go_upto_if 33 with fail
  go_cut [9] from 34 to 35 (fun q wx => ∃ qa, q = .pointer qa ∧ Hid (Below W3.heap.size W3 wx ∧ NoZ W3.heap.size qa wx))
  case first =>
    by_cases hp : ((n : Int) % 2 == 1) = true
    · go_wp2_with fail
      go_meet
      refine ⟨_, rfl, Lib.hid ⟨(Below.refl _ _).alloc (Nat.le_refl _) _, .inr ⟨_, _, _, rfl, Nat.le_refl _, Row.at rfl [_, _, _, _, _] _⟩⟩⟩
    · have hp' : ((n : Int) % 2 == 1) = false := by simpa using hp
      clear hp
      go_wp2_with fail
      go_meet
      exact ⟨_, rfl, Lib.hid ⟨Below.refl _ _, .inl rfl⟩⟩
  case rest =>
  obtain ⟨qa, rfl, HZ⟩ := hcut
  have hnil : ∀ (B : Nat) (W : World), (binOp .eql 41 (.func (.func 51) #[] #[.pointer (some ⟨B, 0, none⟩)]) .nilFunc).run Try.prog W = .ok (.bool false) W := fun B W => by kernel_rfl
  have HNIL := Lib.hid hnil
  clear hnil
  go_wp2_with fail
  refine (take_none HZ.out.2.no).mono ?_
  rintro e W4 ⟨rfl, hb⟩
  replace HZ := Lib.hid (And.intro (HZ.out.1.trans (hb.mono HZ.out.1.size)) (HZ.out.2.after hb))
  clear hb
  go_wp2_with fail
  refine (all_none HZ.out.2.no).mono ?_
  rintro e W5 ⟨E0, A0, c0, rfl, _, _, _, _, hb⟩
  replace HZ := Lib.hid (And.intro (HZ.out.1.trans (hb.mono HZ.out.1.size)) (HZ.out.2.after hb))
  have hnil := HNIL.out E0
  clear hb
  go_wp2_with fail
  refine (all_none HZ.out.2.no).mono ?_
  rintro e W6 ⟨E, AL, c6, rfl, hRE, hCA, _, _, hb⟩
  replace HZ := Lib.hid (And.intro (HZ.out.1.trans (hb.mono HZ.out.1.size)) (HZ.out.2.after hb))
  have HSEQ := Lib.hid (vals_u 7 E [] AL 0 c6 W6 rfl (by decide) hRE hCA)
  clear hb hnil hRE HNIL
  go_wp2_with fail
  refine (wpIn_wide (n := 9)).1 ?_
  refine wpIn_range_u (α := Int) rfl (by omega) (gf := 51) (lb := #[.pointer (some ⟨E, 0, none⟩)]) rfl trivial (enters_of Try.func51 (by kernel_rfl) rfl)
    HSEQ.out KeepsO.trans (fun _ l' W _ o' h _ _ _ => KeepsO.turn W o' (fun h0 => absurd h0 (by decide))) (fun _ _ _ h => KeepsO.below h) (Below.refl _ _) (fun _ => rfl)
    (fun _ W => Below W6.heap.size W6 W) (fun _ _ _ => False)
    (fun pre X Y h hb => h.trans hb)
    (fun c pre X Y h hb => h.elim)
    (Below.refl _ _)
    (fun _ _ _ => True)
    (fun x a' W lo o h1 h2 e => trivial) ?assign ?body ?done ?stop
  case stop => exact fun _ _ _ _ _ _ h => h.elim
  case assign =>
    intro l' pre x W K hI hW hK
    clear hI
    unfold encI
    gi_wp2
    exact hK _ _ (Below.refl _ _) trivial
  case body =>
    intro l' pre x a' W _ _ hp _
    exact absurd hp.length_le (by simp)
  case done =>
  intro D V hD hb hK
  have HX : Hid (PX W3 qa D V) := Lib.hid ⟨HZ.out.1.trans (hb.mono HZ.out.1.size), HZ.out.2.after hb, Nat.le_trans HZ.out.1.size hD, hK⟩
  clear hD hb hK HZ HSEQ hCA
  go_wp2_with fail
  refine (num_any _ _).mono ?_
  rintro e V' ⟨rfl, rfl⟩
  go_wp2_with fail
  refine (claim_none HX.out.noz.no 0).mono ?_
  rintro e V1 ⟨rfl, hb⟩
  replace HX := Lib.hid (HX.out.after hb)
  clear hb
  go_wp2_with fail
  refine (num_any _ _).mono ?_
  rintro e V' ⟨rfl, rfl⟩
  go_wp2_with fail
  refine (give_none HX.out.noz.no 0).mono ?_
  rintro e V2 ⟨rfl, hb⟩
  replace HX := Lib.hid (HX.out.after hb)
  clear hb
  go_wp2_with fail
  refine (num_any _ _).mono ?_
  rintro e V' ⟨rfl, rfl⟩
  go_wp2_with fail
  refine (taken_none HX.out.noz.no 0).mono ?_
  rintro e V' ⟨rfl, rfl⟩
  go_wp2_with fail
  refine (len_none (HX.out.noz.no _ (Below.refl _ _))).mono ?_
  rintro e V' ⟨rfl, rfl⟩
  go_wp2_with fail
  refine (top_none (HX.out.noz.no _ (Below.refl _ _))).mono ?_
  rintro e V' ⟨rfl, rfl⟩
  go_wp2_with fail
  refine (copy_none HX.out.noz.no).mono ?_
  rintro e V' ⟨rfl, rfl⟩
  go_wp2_with fail
  refine (same_not false false HX.out.noz.no (noAr_nil _) rfl).mono ?_
  rintro e V3 ⟨rfl, hb⟩
  replace HX := Lib.hid (HX.out.after hb)
  clear hb
  have hbw3 : Below w.heap.size w W3 := hB0.trans ((hb1.trans (hB3.mono hb1.size)).mono hB0.size)
  have HR := Lib.hid (And.intro ((hR4.after hb1).after hB3) (And.intro hR7 hbw3))
  clear hR4 hb1 hB3 hR7 hbw3 hB0
  by_cases h0 : er = 0
  case neg =>
    obtain rfl := HP.out.2 h0
    have he : (er != 0) = true := by simpa using h0
    go_wp2_with fail
    refine (num_any _ _).mono ?_
    rintro e V' ⟨rfl, rfl⟩
    go_wp2_with fail
    refine (works_any _).mono ?_
    rintro e V4 ⟨rfl, hb⟩
    replace HX := Lib.hid (HX.out.after hb)
    have r4 := HR.out.1.after HX.out.bel
    have x4 := r4.c 0 rfl
    have f4 := r4.f 0 rfl
    have hz4 := HR.out.1.lt
    have r5 := r4.set 0 (by simp) (.bool true)
    have hDk : D ≠ w.heap.size := by have := HX.out.lo; omega
    have hM : Marks W3.heap.size [D] (V4.setCell ⟨w.heap.size, 0, none⟩ (.bool true)) := ⟨HX.out.lo, (Below.heap_setCell _ _ _ _ hDk).trans HX.out.mark, fun E hE' => by simp at hE', trivial⟩
    have hBw : Below w.heap.size w (V4.setCell ⟨w.heap.size, 0, none⟩ (.bool true)) := below_put1 (HR.out.2.2.trans (HX.out.bel.mono HR.out.2.2.size)) (Nat.le_refl _) 0 _
    have HZ := Lib.hid (And.intro r5 (And.intro hM hBw))
    clear hb r4 r5 hM hBw
    go_wp2_with fail
    generalize V4.setCell ⟨w.heap.size, 0, none⟩ (.bool true) = V7 at HZ ⊢
    refine leaves_marks [D] V7 HZ.out.2.1 fun V5 hV => ?_
    have c1 := (HZ.out.1.below hV hz4).c 0 rfl
    exact ⟨.bool true, by simp [results, Try.results3, go_sem, c1], rfl, HZ.out.2.2.trans (hV.mono (by omega))⟩
  case pos =>
  subst h0
  obtain ⟨b0, m0, rfl, har⟩ := HP.out.1 rfl
  obtain ⟨rfl, hN⟩ := hmv rfl
  obtain ⟨N, rfl⟩ : ∃ N : Nat, mv = N := ⟨_, hN.symm⟩
  rw [Int.toNat_natCast] at har
  have hlt := har.lt
  have hk1 := HR.out.2.1.lt
  have HF : Hid (∀ k, (foot b0 m0 none k ∨ k = kw) → w.heap.size + 1 ≤ k ∧ k < W3.heap.size ∧ k ≠ D) := Lib.hid (fun k hk => by
    have h9 := har.footBase
    have h8 := HX.out.lo
    rcases hk with hk | rfl
    · have h7 := h9 k hk
      rcases hk with rfl | rfl | hk
      · omega
      · omega
      · cases hk
    · omega)
  have hbz : Below W1.heap.size W1 V3 := hB13.trans (HX.out.bel.mono hB13.size)
  have hPl : PlN (fun k => foot b0 m0 none k ∨ k = kw) (w.heap.size + 1) V3 kw N b0 m0 [] none [.int .i64 N, .slice none 0 0] none 0 V3 :=
    ⟨har.after hbz, HR.out.2.1.after HX.out.bel, rfl, CellsS.nil _ _, fun a e => (by cases e), Only.refl _ _, fun k hk => .inl (.inl hk), fun hk => by
      rcases hk with hk | hk | hk
      · omega
      · omega
      · cases hk⟩
  have HPl := Lib.hid hPl
  have HO : Hid (∀ wr, Only (fun k => foot b0 m0 none k ∨ k = kw) V3 wr → NoZ W3.heap.size qa wr ∧ wr.heap[D]? = some (Obj.deferred (some [])) ∧ Row wr w.heap.size [.bool false] ∧ Below w.heap.size w wr) := Lib.hid (fun wr ho => by
    refine ⟨HX.out.noz.only ho (fun k h1 _ hf => ?_), (ho.block D HX.out.lt (fun hf => (HF.out _ hf).2.2 rfl)).trans HX.out.mark, (HR.out.1.after HX.out.bel).only ho (fun hf => ?_), (HR.out.2.2.trans (HX.out.bel.mono HR.out.2.2.size)).trans (ho.below (fun k hf => ?_) ?_)⟩
    · have := (HF.out _ hf).2.1; omega
    · have := (HF.out _ hf).1; omega
    · have := (HF.out _ hf).1; omega
    · exact Nat.le_trans HR.out.2.2.size HX.out.bel.size)
  have hsB : w.heap.size + 1 ≤ V3.heap.size := Nat.le_trans (by omega) HX.out.bel.size
  clear har hbz hPl hN hlt HP HER hmv hB13
  go_wp2_with fail
  go_loopw [5, 12] (fun p i wr => ∃ (k b mm : Nat) (L : List Int) (A1 A2 : Option Addr) (n2 c2 : Nat), k ≤ n ∧ i = .int .i64 k ∧ p = .pointer (some ⟨b, 0, none⟩) ∧ Hid (PlN (fun k => foot b0 m0 none k ∨ k = kw) (w.heap.size + 1) V3 kw N b mm L A1 [.int .i64 N, .slice A2 n2 c2] A2 n2 wr)) (fun _ i _ => n - (intOf i).toNat)
  case atStart => exact ⟨0, b0, m0, [], none, none, 0, 0, Nat.zero_le _, rfl, rfl, HPl⟩
  case round =>
    obtain ⟨k, b, mm, L, A1, A2, n2, c2, hk, rfl, rfl, HH⟩ := hrel
    clear HPl
    by_cases hkn : k < n
    · obtain ⟨p, hp⟩ : ∃ p, ws[k]? = some p := ⟨_, List.getElem?_eq_getElem (by rw [← HN.out]; exact hkn)⟩
      obtain ⟨wa, x⟩ := p
      have HWF : Hid ((Lit.int .i64 x).wf = true) := Lib.hid (HWS.out _ (List.mem_of_getElem? hp))
      have hk1 : (k : Int) < n := by omega
      obtain ⟨ab, ao, rfl, hal, hac⟩ := HA.out.below (HO.out wr HH.out.only).2.2.2 (by rw [← HN.out]; omega)
      have y0 : wr.cell? ⟨ab, ao + k * 2, none⟩ = some (.int .i64 wa) := (hac k _ hp).1
      have y1 : wr.cell? ⟨ab, ao + k * 2 + 1, none⟩ = some (.int .i64 x) := (hac k _ hp).2
      have z0 := HH.out.row.c 0 rfl
      have z1 := HH.out.row.c 1 rfl
      have hkl := HH.out.row.lt
      clear hac hp
      go_upto_region 20 with fail
      go_cut [13, 14, 15] from 97 to 123 (fun p q r wx => ∃ b' m' L' A' A3 n3 c3 bo, p = .pointer (some ⟨b', 0, none⟩) ∧ q = .pointer (some ⟨bo, 0, none⟩) ∧ r = .bool true ∧ Hid (PlB (fun k => foot b0 m0 none k ∨ k = kw) (w.heap.size + 1) V3 kw N b' m' L' A' [.int .i64 N, .slice A2 n2 c2] A3 n3 c3 bo wx))
      case first =>
        have HAct := Lib.hid (fun V (hV : Below wr.heap.size wr V) => (HH.out.after hV).acted (c2 := c2) (Nat.le_trans (Nat.le_trans hsB HH.out.only.size) hV.size) (fun j hj hjm => by
          rcases HH.out.loc j hj with h | h
          · exact h
          · omega) wa x HWF.out)
        refine wp_only_normal ?_
        go_region_with ((go_at_call 19; refine (HAct.out _ (by first | exact (Below.refl _ _).drew | exact (Below.refl _ _).drew.alloc (Nat.le_refl _) _)).mono ?_; rintro e V' ⟨b', m', L', A', A3, n3, c3, rfl, hN, ho, hlc, ha3⟩; (first | (have r0 : Row (wr.drew.alloc (Obj.cells #[.int .i64 0, .slice none 0 0] 30)) wr.heap.size [.int .i64 0, .slice none 0 0] := Row.at rfl [_, _] _; have HV := Lib.hid (HH.out.boxB r0 hN ho hlc ha3); clear r0; have r7 := HV.out.2.1; have z0 := r7.c 0 rfl; have g0 := r7.f 0 rfl; have g1 := r7.f 1 rfl; have g1' := (r7.set 0 (by simp) (.int .i64 (N : Nat))).f 1 rfl; have z1' := (r7.set 0 (by simp) (.int .i64 (N : Nat))).c 1 rfl; clear r7) | (have HV := Lib.hid (hN.boxC 30 c3))); clear hN ho hlc ha3))
        all_goals (go_wp2_with fail; go_meet; first | exact ⟨b', m', L', A', A3, n3, c3, _, rfl, rfl, rfl, Lib.hid HV.out.put⟩ | exact ⟨b', m', L', A', A3, n3, c3, _, rfl, rfl, rfl, HV⟩)
      case rest =>
        obtain ⟨b', m', L', A', A3, n3, c3, bo, rfl, rfl, rfl, HC⟩ := hcut
        have z0 := HC.out.2.1.c 0 rfl
        have z1 := HC.out.2.1.c 1 rfl
        have r7 := HC.out.1.row
        have g0 := r7.f 0 rfl
        have g1 := r7.f 1 rfl
        have g1' := (r7.set 0 (by simp) (.int .i64 (N : Nat))).f 1 rfl
        have k0 := r7.c 0 rfl
        have k1 := r7.c 1 rfl
        have k1' := (r7.set 0 (by simp) (.int .i64 (N : Nat))).c 1 rfl
        clear r7 y0 y1 HH
        go_upto_region 21 with fail
        go_cut [5] from 97 to 123 (fun p wx => p = .pointer (some ⟨b', 0, none⟩) ∧ Hid (PlN (fun k => foot b0 m0 none k ∨ k = kw) (w.heap.size + 1) V3 kw N b' m' L' A' [.int .i64 N, .slice A3 n3 c3] A3 n3 wx))
        case first =>
          refine wp_only_normal ?_
          go_region
          all_goals (go_wp2_with fail; go_meet; exact ⟨rfl, Lib.hid ((HC.out.1.put (.inr rfl) _ _).after (Below.refl _ _).drew)⟩)
        case rest =>
        obtain ⟨rfl, HH⟩ := hcut
        have HIs := Lib.hid (is_any (c := c3) HH.out.ar HH.out.len HH.out.cells)
        have z0 := HH.out.row.c 0 rfl
        have z1 := HH.out.row.c 1 rfl
        clear HC g0 g1 g1' k0 k1 k1'
        go_wp2_with fail
        refine HIs.out.mono ?_
        rintro e V' ⟨rfl, hb⟩
        replace HH := Lib.hid (HH.out.after hb)
        clear hb HIs z0 z1
        go_wp2_with fail
        go_roundw
        case rel => exact ⟨k + 1, b', m', L', A', A3, n3, c3, by omega, by go_num, rfl, HH⟩
        case measure => simp [intOf]; omega
    · obtain rfl : k = n := by omega
      have HW := Lib.hid (HO.out wr HH.out.only)
      have z0 := HH.out.row.c 0 rfl
      have z1 := HH.out.row.c 1 rfl
      have HIs := Lib.hid (is_any (c := c2) HH.out.ar HH.out.len HH.out.cells)
      go_wp2_with fail
      refine (num_any _ _).mono ?_
      rintro e V' ⟨rfl, rfl⟩
      go_wp2_with fail
      refine HIs.out.mono ?_
      rintro e X1 ⟨rfl, hb1⟩
      clear z0 z1
      go_wp2_with fail
      refine (same_not true false (fun W hW => ((HH.out.ar.after hb1).after hW).there) (HW.out.1.no.after hb1) rfl).mono ?_
      rintro e X2 ⟨rfl, hb2⟩
      have hb12 := hb1.trans (hb2.mono hb1.size)
      go_wp2_with fail
      refine (same_not false true (HW.out.1.no.after hb12) (fun W hW => ((HH.out.ar.after hb12).after hW).there) rfl).mono ?_
      rintro e X3 ⟨rfl, hb3⟩
      go_wp2_with fail
      refine (works_any _).mono ?_
      rintro e X4 ⟨rfl, hb4⟩
      have hb13 := hb12.trans (hb3.mono hb12.size)
      have hb14 := hb13.trans (hb4.mono hb13.size)
      have r4 := HW.out.2.2.1.after hb14
      have x4 := r4.c 0 rfl
      have f4 := r4.f 0 rfl
      have hz4 := HR.out.1.lt
      have r5 := r4.set 0 (by simp) (.bool true)
      have hDk : D ≠ w.heap.size := by have := HX.out.lo; omega
      have hDl : D < wr.heap.size := (Array.getElem?_eq_some_iff.1 HW.out.2.1).1
      have hM : Marks W3.heap.size [D] (X4.setCell ⟨w.heap.size, 0, none⟩ (.bool true)) := ⟨HX.out.lo, (Below.heap_setCell _ _ _ _ hDk).trans ((hb14.block D hDl).trans HW.out.2.1), fun E hE' => by simp at hE', trivial⟩
      have hBw : Below w.heap.size w (X4.setCell ⟨w.heap.size, 0, none⟩ (.bool true)) := below_put1 (HW.out.2.2.2.trans (hb14.mono HW.out.2.2.2.size)) (Nat.le_refl _) 0 _
      have HZ := Lib.hid (And.intro r5 (And.intro hM hBw))
      clear hb1 hb2 hb3 hb4 hb12 hb13 hb14 r4 r5 hM hBw
      go_wp2_with fail
      generalize X4.setCell ⟨w.heap.size, 0, none⟩ (.bool true) = V7 at HZ ⊢
      refine leaves_marks [D] V7 HZ.out.2.1 fun V5 hV => ?_
      have c1 := (HZ.out.1.below hV hz4).c 0 rfl
      exact ⟨.bool true, by simp [results, Try.results3, go_sem, c1], rfl, HZ.out.2.2.trans (hV.mono (by omega))⟩
end Go.Proofs.Ytncgjlhmgdgokaa
