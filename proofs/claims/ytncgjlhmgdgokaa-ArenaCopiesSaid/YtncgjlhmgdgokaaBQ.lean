/- ArenaCopies walked; no condition. -/
import Derived.Test.YtncgjlhmgdgokaaBP
import Derived.Deep.CutRange
import Derived.Deep.RegionWith
import Derived.Lib.QuietBelow
import Derived.BigQuiet
namespace Go.Proofs.Ytncgjlhmgdgokaa
open Go.RowKit Go.Sort ArenaMath Go.Maps
attribute [local go_sem] Oper.semAt_some

set_option maxRecDepth 100000 in
set_option maxHeartbeats 16000000 in
theorem copies_short (ws : List (Int × Int)) (A : Option Addr) (n c : Nat) (x1 y1 x2 y2 many : Int) (w : World) (hn : n = ws.length) (hs : n ≤ 30) (hwf : ∀ p ∈ ws, (Lit.int .i64 p.2).wf = true) (w1 : (Lit.int .i64 y1).wf = true) (w2 : (Lit.int .i64 y2).wf = true) (hA : ActsS w A ws) :
    Calls Try.prog 4 #[.slice A n c, .agg #[.int .i64 x1, .int .i64 y1], .agg #[.int .i64 x2, .int .i64 y2], .int .i64 many] w fun e w' => e = .returned (.bool true) ∧ Below w.heap.size w w' := by
  have HA := Lib.hid hA
  have HN := Lib.hid hn
  have HWS := Lib.hid hwf
  have HW12 := Lib.hid (And.intro w1 w2)
  have hs0 : ¬ (30 : Int) < n := by omega
  clear hA hn hwf w1 w2
  refine (callsIn_wide (n := 9)).1 ?_
  refine callsIn_of_wp_marks Try.func4 rfl trivial ?_ rfl
  simp only [Try.ntmps4, List.size_toArray, List.length_cons, List.length_nil, Nat.reduceAdd, Nat.reduceSub, Array.replicate_succ, Array.replicate_zero, List.push_toArray, List.append_toArray, List.nil_append, List.cons_append]
  refine wpIn_wide.2 ?_
  go_upto_region 3 with fail
  generalize hW : World.alloc _ _ = W0
  have hRx : Row W0 w.heap.size [.int .i64 x1, .int .i64 y1] := by rw [← hW]; exact (((Row.at rfl [_, _] _).alloc _).alloc _).alloc _
  have hRy : Row W0 (w.heap.size + 1) [.int .i64 x2, .int .i64 y2] := by rw [← hW]; exact ((Row.at (by simp) [_, _] _).alloc _).alloc _
  have hRm : Row W0 (w.heap.size + 2) [.int .i64 many] := by rw [← hW]; exact (Row.at (by simp) [_] _).alloc _
  have hRr : Row W0 (w.heap.size + 3) [.bool false] := by rw [← hW]; exact Row.at (by simp) [_] _
  have hB0 : Below w.heap.size w W0 := by rw [← hW]; exact ((((Below.refl _ _).alloc (Nat.le_refl _) _).alloc (by simp) _).alloc (by simp; omega) _).alloc (by simp; omega) _
  clear hW
  have hsz := hRr.lt
  generalize hkb : w.heap.size = kb at *
  obtain ⟨N, hN⟩ : ∃ N : Nat, 20 = N := ⟨_, rfl⟩
  have HNew : Hid (Calls Try.prog 7 #[.int .i64 20] W0 fun e w' => ∃ b m, e = .returned (.tuple #[.pointer (some ⟨b, 0, none⟩), .int .i64 0]) ∧ ArS w' W0.heap.size b N [] m none ∧ Below W0.heap.size W0 w') := Lib.hid ((new_any 20 W0.heap.size (by decide) W0 (Nat.le_refl _)).mono (by
    rintro e w' ⟨rfl, ha, hb⟩
    exact ⟨_, _, rfl, hN ▸ ha, hb⟩))
  have HRN : Hid (∀ W, Calls Try.prog 8 #[.int .i64 20] W fun e w' => e = .returned (.tuple #[.agg #[.int .i64 (N : Nat), .slice none 0 0], .int .i64 0]) ∧ Below W.heap.size W w') := Lib.hid (fun W => (rnew_any 20 (by decide) W).mono (by
    rintro e w' ⟨rfl, hb⟩
    exact ⟨by rw [← hN]; rfl, hb⟩))
  clear hN
  go_wp2_with fail
  refine HNew.out.mono ?_
  rintro e W1 ⟨b0, m0, rfl, har, hb1⟩
  clear HNew
  go_wp2_with fail
  refine (HRN.out _).mono ?_
  rintro e W2 ⟨rfl, hb2⟩
  clear HRN
  go_upto_region 5 with fail
  generalize hW : World.alloc _ _ = W3
  have hR7 : Row W3 W2.heap.size [.int .i64 (N : Nat), .slice none 0 0] := by rw [← hW]; exact Row.at rfl [_, _] _
  have hu3 : Below W2.heap.size W2 W3 := by rw [← hW]; exact (Below.refl _ _).alloc (Nat.le_refl _) _
  have hB13 : Below W1.heap.size W1 W3 := hb2.trans (hu3.mono hb2.size)
  have hkw := hb2.size
  clear hW hu3 hb2
  generalize W2.heap.size = kw at *
  have hlt := har.lt
  have hk1 := hR7.lt
  have hHF : ∀ k, (foot b0 m0 none k ∨ k = kw) → kb + 4 ≤ k ∧ k < W3.heap.size := fun k hk => by
    have h9 := har.footBase
    have h10 := hB13.size
    have h11 := hb1.size
    rcases hk with hk | rfl
    · have h7 := h9 k hk
      have h8 := foot_lt har k hk
      omega
    · omega
  have HF := Lib.hid hHF
  have hPl : PlN (fun k => foot b0 m0 none k ∨ k = kw) W0.heap.size W3 kw N b0 m0 [] none [.int .i64 (N : Nat), .slice none 0 0] none 0 W3 :=
    ⟨har.after hB13, hR7, rfl, CellsS.nil _ _, fun a e => (by cases e), Only.refl _ _, fun k hk => .inl (.inl hk), fun hk => by have := foot_lt har _ hk; omega⟩
  have HPl := Lib.hid hPl
  have hB03 := hb1.trans (hB13.mono hb1.size)
  have HO : Hid (∀ wr, Only (fun k => foot b0 m0 none k ∨ k = kw) W3 wr → (Row wr kb [.int .i64 x1, .int .i64 y1] ∧ Row wr (kb + 1) [.int .i64 x2, .int .i64 y2] ∧ Row wr (kb + 2) [.int .i64 many] ∧ Row wr (kb + 3) [.bool false]) ∧ Below kb w wr) := Lib.hid (fun wr ho => by
    refine ⟨⟨(hRx.after hB03).only ho (fun hf => ?_), (hRy.after hB03).only ho (fun hf => ?_), (hRm.after hB03).only ho (fun hf => ?_), (hRr.after hB03).only ho (fun hf => ?_)⟩, (hB0.trans (hB03.mono (by omega))).trans (ho.below (fun k hf => ?_) ?_)⟩
    · have := (hHF _ hf).1; omega
    · have := (hHF _ hf).1; omega
    · have := (hHF _ hf).1; omega
    · have := (hHF _ hf).1; omega
    · have := (hHF _ hf).1; omega
    · have := hB03.size; omega)
  have hsB : W0.heap.size ≤ W3.heap.size := hB03.size
  have hs4 : kb + 4 ≤ W0.heap.size := hsz
  clear har hlt hPl hR7 hRx hRy hRm hRr hB0 hb1 hB13 hB03 hHF hkw hsz
  go_wp2_with fail
  go_loopw [9, 13] (fun p i wr => ∃ (k b mm : Nat) (L : List Int) (A1 A2 : Option Addr) (n2 c2 : Nat), k ≤ n ∧ i = .int .i64 k ∧ p = .pointer (some ⟨b, 0, none⟩) ∧ Hid (PlN (fun k => foot b0 m0 none k ∨ k = kw) W0.heap.size W3 kw N b mm L A1 [.int .i64 (N : Nat), .slice A2 n2 c2] A2 n2 wr)) (fun _ i _ => n - (intOf i).toNat)
  case atStart => exact ⟨0, b0, m0, [], none, none, 0, 0, Nat.zero_le _, rfl, rfl, HPl⟩
  case round =>
    obtain ⟨k, b, mm, L, A1, A2, n2, c2, hk, rfl, rfl, HH⟩ := hrel
    clear HPl
    by_cases hkn : k < n
    · obtain ⟨p, hp⟩ : ∃ p, ws[k]? = some p := ⟨_, List.getElem?_eq_getElem (by rw [← HN.out]; exact hkn)⟩
      obtain ⟨wa, x⟩ := p
      have HWF : Hid ((Lit.int .i64 x).wf = true) := Lib.hid (HWS.out _ (List.mem_of_getElem? hp))
      have hk1 : (k : Int) < n := by omega
      obtain ⟨ab, ao, rfl, hal, hac⟩ := HA.out.below (by rw [hkb]; exact (HO.out wr HH.out.only).2) (by rw [← HN.out]; omega)
      have y0 : wr.cell? ⟨ab, ao + k * 2, none⟩ = some (.int .i64 wa) := (hac k _ hp).1
      have y1 : wr.cell? ⟨ab, ao + k * 2 + 1, none⟩ = some (.int .i64 x) := (hac k _ hp).2
      have z0 := HH.out.row.c 0 rfl
      have z1 := HH.out.row.c 1 rfl
      have hkl := HH.out.row.lt
      clear hac hp
      go_upto_region 8 with fail
      have HAct := Lib.hid (fun V (hV : Below wr.heap.size wr V) => (HH.out.after hV).acted (c2 := c2) (Nat.le_trans (Nat.le_trans hsB HH.out.only.size) hV.size) (fun j hj hjm => by
        rcases HH.out.loc j hj with h | h
        · exact h
        · omega) wa x HWF.out)
      refine wp_only_normal' ?_
      go_region_with ((go_at_call 19; refine (HAct.out _ (Below.refl _ _).drew).mono ?_; rintro e V' ⟨b', m', L', A', A3, n3, c3, rfl, hN, ho, hlc, ha3⟩; clear ho hlc ha3; have HV := Lib.hid hN; clear hN; have r7 := HV.out.row; have k0 := r7.c 0 rfl; have g0 := r7.f 0 rfl; have g1 := r7.f 1 rfl; have g1' := (r7.set 0 (by simp) (.int .i64 (N : Nat))).f 1 rfl; have k1 := r7.c 1 rfl; have k1' := (r7.set 0 (by simp) (.int .i64 (N : Nat))).c 1 rfl; clear r7))
      all_goals
        clear z0 z1 y0 y1 hkl HH k0 g0 g1 g1' k1 k1'
        go_wp2_with fail
        go_roundw
        case rel => exact ⟨k + 1, b', m', L', A', A3, n3, c3, by omega, by go_num, rfl, Lib.hid (HV.out.put (.inr rfl) _ _)⟩
        case measure => simp [intOf]; omega
    · obtain rfl : k = n := by omega
      have HAll := Lib.hid (all_any HH.out.ar)
      go_wp2_with fail
      refine HAll.out.mono ?_
      rintro e X1 ⟨E, AL, c6, rfl, hRE, hCA, hfr, hE, hb1⟩
      have HCp := Lib.hid (copy_any (HH.out.ar.after hb1))
      clear HAll
      go_wp2_with fail
      refine HCp.out.mono ?_
      rintro e X2 ⟨b2, m2, Ac, rfl, hac, hb2⟩
      clear HCp
      have hb12 := hb1.trans (hb2.mono hb1.size)
      have hO := HO.out wr HH.out.only
      have hws := HH.out.only.size
      have HB : Hid (Below kb w X2 ∧ kb ≤ X2.heap.size) := Lib.hid ⟨hO.2.trans (hb12.mono (by omega)), by have := hb12.size; omega⟩
      have HK : Hid (CpK N E kw kb AL A2 L c6 n2 c2 x1 y1 x2 y2 many X2) := Lib.hid ⟨hRE.after hb2, hCA.after hb2, HH.out.row.after hb12, HH.out.cells.after hb12, hO.1.1.after hb12, hO.1.2.1.after hb12, hO.1.2.2.1.after hb12, hO.1.2.2.2.after hb12⟩
      have hfl := foot_lt HH.out.ar
      have HFa : Hid (∀ k, foot b mm A1 k → CpF E kw kb AL A2 L k ∧ k < wr.heap.size ∧ kb ≤ k) := Lib.hid (fun k hk => by
        have h1 := hfl k hk
        have h3 : kb + 4 ≤ k := by
          rcases HH.out.loc k hk with h | h
          · have := (HF.out k h).1; omega
          · omega
        exact ⟨⟨by omega, fun e => HH.out.kwn (e ▸ hk), by omega, fun _ a e => by have := hfr a e; omega, fun a e he => (HH.out.far a e).2.1 (by rw [he]; exact hk)⟩, h1, by omega⟩)
      have hkl := HH.out.row.lt
      have hEl := hRE.lt
      have HFc : Hid (∀ k, X1.heap.size ≤ k → CpF E kw kb AL A2 L k) := Lib.hid (fun k hk => by
        have h2 := hb1.size
        refine ⟨by omega, by omega, by omega, fun h0 a e => ?_, fun a e => ?_⟩
        · have := hCA.lt (by rw [intCs_len]; omega) a e; omega
        · have := (HH.out.far a e).1; omega)
      have HC := Lib.hid (And.intro hac (And.intro (foot_lt hac) (And.intro hb1.size hb2.size)))
      have HP := Lib.hid (HH.out.after hb12)
      have HL : Hid (L.length ≤ N ∧ N ≤ 65536 ∧ n2 = L.length ∧ (∀ a, A2 = some a → a.block < wr.heap.size) ∧ (∀ a, A2 = some a → a.block ≠ kw)) := Lib.hid ⟨HH.out.ar.rng.2.2.2, HH.out.ar.rng.2.2.1, HH.out.len, fun a e => (HH.out.far a e).1, fun a e => (HH.out.far a e).2.2⟩
      clear hRE hCA hfr hE hb1 hac hb2 hb12 hO hfl hEl HH HA HN HWS
      have hsm := same_any HP.out.ar HC.out.1
      rw [decide_eq_true ⟨rfl, rfl⟩] at hsm
      have HSm := Lib.hid hsm
      clear hsm
      go_wp2_with fail
      refine (num_any _ _).mono ?_
      rintro e V' ⟨rfl, rfl⟩
      go_wp2_with fail
      refine HSm.out.mono ?_
      rintro e X3 ⟨rfl, hb3⟩
      clear HSm
      have HIs := Lib.hid (is_any (c := c2) (HC.out.1.after hb3) HP.out.len (HK.out.wantc.after hb3))
      have z0 := (HK.out.want.after hb3).c 0 rfl
      have z1 := (HK.out.want.after hb3).c 1 rfl
      go_wp2_with fail
      refine HIs.out.mono ?_
      rintro e X4 ⟨rfl, hb4⟩
      have hb24 := hb3.trans (hb4.mono hb3.size)
      have hK4 := HK.out.after hb24
      have z0 := hK4.want.c 0 rfl
      have z1 := hK4.want.c 1 rfl
      have u0 := hK4.bx.c 0 rfl
      have u1 := hK4.bx.c 1 rfl
      have HAct := Lib.hid ((HP.out.after hb24).acted (c2 := c2) (by have := hb24.size; have := HC.out.2.2; omega) (fun j hj hjm => by
          rcases HP.out.loc j hj with h | h
          · exact h
          · omega) x1 y1 HW12.out.1)
      have HK4 := Lib.hid hK4
      have HC4 : Hid (ArS X4 X1.heap.size b2 N L m2 Ac ∧ X2.heap.size ≤ X4.heap.size ∧ Below kb w X4) := Lib.hid ⟨HC.out.1.after hb24, hb24.size, HB.out.1.trans (hb24.mono HB.out.2)⟩
      clear hb3 hb4 hb24 hK4 HIs HK HP
      go_wp2_with fail
      refine HAct.out.mono ?_
      rintro e X5 ⟨b3, m3, L3, Ah, A3, n3, c3, rfl, hN5, ho5, hlc5, ha35⟩
      clear z0 z1 u0 u1 HAct
      have HK5 := Lib.hid (HK4.out.only ho5 (fun k hk => (HFa.out k hk).1))
      have HC5 : Hid (ArS X5 X1.heap.size b2 N L m2 Ac ∧ Below kb w X5) := Lib.hid ⟨HC4.out.1.only ho5 (fun k hk hk' => by have := (HFa.out k hk').2.1; have := HC4.out.1.footBase k hk; have := HC.out.2.2.1; omega), HC4.out.2.2.trans (ho5.below (fun k hk => (HFa.out k hk).2.2) (by have := HC4.out.2.1; have := HB.out.2; omega))⟩
      have HN3 : Hid ((∀ k, foot b3 m3 Ah k → k < X1.heap.size ∨ X2.heap.size ≤ k) ∧ (∀ a, A3 = some a → a.block < X1.heap.size ∨ X2.heap.size ≤ a.block) ∧ X2.heap.size ≤ X5.heap.size) := Lib.hid (by
        have h1 := HC4.out.2.1
        have h2 := HC.out.2.2.1
        refine ⟨fun k hk => ?_, fun a e => ?_, Nat.le_trans h1 ho5.size⟩
        · rcases hlc5 k hk with h | h
          · have := (HFa.out k h).2.1; omega
          · omega
        · rcases ha35 a e with h | h
          · have := HL.out.2.2.2.1 a h; omega
          · omega)
      clear ho5 hlc5 ha35 HC4 HK4
      go_upto_region 14 with fail
      generalize hW : World.alloc _ _ = X6
      have hB6 : Below X5.heap.size X5 X6 := by rw [← hW]; exact (Below.refl _ _).alloc (Nat.le_refl _) _
      have hPB : PlB (fun k => foot b0 m0 none k ∨ k = kw) W0.heap.size W3 kw N b3 m3 L3 Ah [.int .i64 (N : Nat), .slice A2 n2 c2] A3 n3 c3 X5.heap.size X6 := by rw [← hW]; exact hN5.boxC _ _
      have HNX := Lib.hid hPB
      have HK6 := Lib.hid (HK5.out.after hB6)
      have HC6 : Hid (ArS X6 X1.heap.size b2 N L m2 Ac ∧ Below kb w X6 ∧ X2.heap.size ≤ X6.heap.size) := Lib.hid ⟨HC5.out.1.after hB6, HC5.out.2.trans (hB6.mono (by have := HN3.out.2.2; have := HB.out.2; omega)), Nat.le_trans HN3.out.2.2 hB6.size⟩
      clear hW hB6 hPB hN5 HK5 HC5
      generalize X5.heap.size = kn at *
      obtain ⟨r, hr⟩ : ∃ r, decide (L3 = L) = r := ⟨_, rfl⟩
      have hr' : decide (L = L3) = r := by rw [← hr]; exact decide_eq_decide.2 ⟨Eq.symm, Eq.symm⟩
      have hrr : (r != r) = false := by simp
      have C1 : Hid (∀ d os, Calls Try.prog 18 #[.pointer (some ⟨b3, 0, none⟩), .pointer (some ⟨b2, 0, none⟩)] (grow (redrawn X6 d) os) fun e w'' => e = .returned (.bool r) ∧ ∃ p : Regrown, w'' = grow (redrawn X6 p.d) p.os) := Lib.hid (fun d os => Calls.regrown_of (by
        have h := same_any (HNX.out.1.ar.after (below_regrown X6 d os)) (HC6.out.1.after (below_regrown X6 d os))
        rw [copies_eq, hr] at h; exact h))
      have C2 : Hid (∀ d os, Calls Try.prog 18 #[.pointer (some ⟨b2, 0, none⟩), .pointer (some ⟨b3, 0, none⟩)] (grow (redrawn X6 d) os) fun e w'' => e = .returned (.bool r) ∧ ∃ p : Regrown, w'' = grow (redrawn X6 p.d) p.os) := Lib.hid (fun d os => Calls.regrown_of (by
        have h := same_any (HC6.out.1.after (below_regrown X6 d os)) (HNX.out.1.ar.after (below_regrown X6 d os))
        rw [copies_eq, hr'] at h; exact h))
      have C3 : Hid (∀ d os, Calls Try.prog 21 #[.agg #[.int .i64 (N : Nat), .slice A3 n3 c3], .agg #[.int .i64 (N : Nat), .slice A2 n2 c2]] (grow (redrawn X6 d) os) fun e w'' => e = .returned (.bool r) ∧ ∃ p : Regrown, w'' = grow (redrawn X6 p.d) p.os) := Lib.hid (fun d os => Calls.regrown_of (by
        have h := rsame_any (N : Nat) (N : Nat) L3 L A3 A2 n3 c3 n2 c2 _ HNX.out.1.len HL.out.2.2.1 (by have := HNX.out.1.ar.rng.2.2; have := HNX.out.1.len; omega) (HNX.out.1.cells.after (below_regrown X6 d os)) (HK6.out.wantc.after (below_regrown X6 d os))
        rw [copies_eqI, hr] at h; exact h))
      have k0 := cell_regrown (HNX.out.2.1.c 0 rfl)
      have k1 := cell_regrown (HNX.out.2.1.c 1 rfl)
      have z0 := cell_regrown (HK6.out.want.c 0 rfl)
      have z1 := cell_regrown (HK6.out.want.c 1 rfl)
      clear hr hr'
      refine wp_region_quiet_below (by kernel_rfl) (by kernel_rfl) ?_
      repeat (first | go_big_quiet_step ((first | with_reducible exact C1.out _ _ | with_reducible exact C2.out _ _ | with_reducible exact C3.out _ _)) | quiet_step ((first | with_reducible exact C1.out _ _ | with_reducible exact C2.out _ _ | with_reducible exact C3.out _ _)))
      refine wpQuiet_nil ?_
      intro _ hw'
      obtain ⟨⟨dq, osq⟩, hw''⟩ := hw'
      subst hw''
      clear k0 k1 z0 z1 C1 C2 C3 hrr
      have hb67 := below_regrown X6 dq osq
      simp only at hb67 ⊢
      generalize grow (redrawn X6 dq) osq = X7 at *
      have hb9 := HC6.out.2.2
      have hb10 := hb67.size
      have hK7 := HK6.out.after hb67
      have hPc : PlN (foot b2 m2 Ac) X1.heap.size X7 kw N b2 m2 L Ac [.int .i64 (N : Nat), .slice A2 n2 c2] A2 n2 X7 :=
        ⟨HC6.out.1.after hb67, hK7.want, HL.out.2.2.1, hK7.wantc, fun a e => by
          have h1 := HL.out.2.2.2.1 a e
          have h2 := HC.out.2.2
          refine ⟨by omega, fun hk => ?_, HL.out.2.2.2.2 a e⟩
          have := HC6.out.1.footBase _ hk; omega, Only.refl _ _, fun k hk => .inl hk, fun hk => by have := HC6.out.1.footBase _ hk; have := HC.out.2.2; omega⟩
      have HFC : Hid (∀ k, foot b2 m2 Ac k → X1.heap.size ≤ k ∧ k < X2.heap.size) := Lib.hid (fun k hk => ⟨HC6.out.1.footBase k hk, HC.out.2.1 k hk⟩)
      have HActc := Lib.hid (hPc.acted (c2 := c2) (by have := HC.out.2.2; omega) (fun j hj _ => hj) x2 y2 HW12.out.2)
      have z0 := hK7.want.c 0 rfl
      have z1 := hK7.want.c 1 rfl
      have u0 := hK7.bz.c 0 rfl
      have u1 := hK7.bz.c 1 rfl
      have HK7 := Lib.hid hK7
      have HNX7 : Hid (PlN (fun k => foot b0 m0 none k ∨ k = kw) W0.heap.size W3 kw N b3 m3 L3 Ah [.int .i64 (N : Nat), .slice A2 n2 c2] A3 n3 X7 ∧ Row X7 kn [.int .i64 (N : Nat), .slice A3 n3 c3] ∧ Below kb w X7) := Lib.hid ⟨HNX.out.1.after hb67, HNX.out.2.1.after hb67, HC6.out.2.1.trans (hb67.mono (by have := HB.out.2; omega))⟩
      clear hPc hK7 HK6 HNX hb67
      go_wp2_with fail
      refine HActc.out.mono ?_
      rintro e X8 ⟨b4, m4, L4, A4h, A4, n4, c4, rfl, hN8, ho8, hlc8, ha48⟩
      clear z0 z1 u0 u1 HActc hlc8 ha48
      have hNb : PlN (fun k => foot b0 m0 none k ∨ k = kw) W0.heap.size W3 kw N b3 m3 L3 Ah [.int .i64 (N : Nat), .slice A2 n2 c2] A3 n3 X8 := HNX7.out.1.other ho8 (fun k hk hf => by have := (HFC.out k hf).1; have := HC.out.2.2; omega) (fun hf => by have := (HFC.out _ hf).1; have := HC.out.2.2; omega) (fun k hk hf => by have := HFC.out k hf; have := HN3.out.1 k hk; omega) (fun a e hf => by have := HFC.out _ hf; have := HN3.out.2.1 a e; omega)
      have hRn : Row X8 kn [.int .i64 (N : Nat), .slice A3 n3 c3] := HNX7.out.2.1.only ho8 (fun hf => by have := HFC.out _ hf; have := HN3.out.2.2; omega)
      have hK8 := HK7.out.only ho8 (fun k hk => HFc.out k (HFC.out k hk).1)
      have hB8 : Below kb w X8 := HNX7.out.2.2.trans (ho8.below (fun k hk => by have := (HFC.out k hk).1; have := HC.out.2.2; omega) (by have := HB.out.2; omega))
      have hz8 := ho8.size
      have H8 := Lib.hid (And.intro hNb (And.intro hRn (And.intro hK8 hB8)))
      clear hNb hRn hK8 hB8 ho8 HNX7 HK7
      go_upto_region 17 with fail
      generalize hW : World.alloc _ _ = X9
      have hB9 : Below X8.heap.size X8 X9 := by rw [← hW]; exact (Below.refl _ _).alloc (Nat.le_refl _) _
      have hPB : PlB (foot b2 m2 Ac) X1.heap.size X7 kw N b4 m4 L4 A4h [.int .i64 (N : Nat), .slice A2 n2 c2] A4 n4 c4 X8.heap.size X9 := by rw [← hW]; exact hN8.boxC _ _
      have hkb8 : kb ≤ X8.heap.size := by have := HB.out.2; omega
      have H9 := Lib.hid (And.intro (H8.out.1.after hB9) (And.intro (H8.out.2.1.after hB9) (And.intro (H8.out.2.2.1.after hB9) (H8.out.2.2.2.trans (hB9.mono hkb8)))))
      have HD := Lib.hid hPB
      have hz9 := hB9.size
      clear hW hB9 hPB hN8 H8
      generalize X8.heap.size = kd at *
      have HIs1 := Lib.hid (is_any (c := c3) H9.out.1.ar H9.out.1.len H9.out.1.cells)
      have k0 := H9.out.2.1.c 0 rfl
      have k1 := H9.out.2.1.c 1 rfl
      go_wp2_with fail
      refine HIs1.out.mono ?_
      rintro e X10 ⟨rfl, hb1⟩
      clear HIs1 k0 k1
      have HIs2 := Lib.hid (is_any (c := c4) (HD.out.1.ar.after hb1) HD.out.1.len (HD.out.1.cells.after hb1))
      have k0 := (HD.out.2.1.after hb1).c 0 rfl
      have k1 := (HD.out.2.1.after hb1).c 1 rfl
      go_wp2_with fail
      refine HIs2.out.mono ?_
      rintro e X11 ⟨rfl, hb2⟩
      have hb12 := hb1.trans (hb2.mono hb1.size)
      have HK := Lib.hid (H9.out.2.2.1.after hb12)
      have HBw : Hid (Below kb w X11 ∧ kb + 4 ≤ X11.heap.size) := Lib.hid ⟨H9.out.2.2.2.trans (hb12.mono (by omega)), by have := hb12.size; have := HC.out.2.2; omega⟩
      have HSEQ := Lib.hid (vals_u 7 E L AL L.length c6 X11 rfl (by have := HL.out; omega) HK.out.seq HK.out.seqc)
      clear HIs2 k0 k1 hb1 hb2 hb12 HD H9 hz9 hz8 hkb8 hb9 hb10 HFC HN3 HC6 HB HFa HFc HC HO HF HW12
      go_wp2_with fail
      refine wp_loop_rounds 3 ?_
      rw [rounds_succ]
      go_wp2_with fail
      generalize hW : World.alloc _ _ = Y1
      have hbT : Row Y1 (X11.heap.size) [.int .i64 0] := by rw [← hW]; exact (Row.at (by simp) [_] _).alloc _
      have hbN : Row Y1 (X11.heap.size + 1) [.int .i64 0] := by rw [← hW]; exact Row.at (by simp) [_] _
      have hB1 : Below X11.heap.size X11 Y1 := by rw [← hW]; exact ((Below.refl _ _).alloc (Nat.le_refl _) _).alloc (by simp) _
      have hE : RoE X11 X11.heap.size 0 [] Y1 := ⟨hB1, hbT, trivial⟩
      clear hB1 hW
      have hlW : X11.heap.size + 1 < Y1.heap.size := hbN.1
      have HLn : Hid (L.length = n2 ∧ n2 ≤ 65536) := Lib.hid (by have := HL.out; omega)
      refine (wpIn_wide (n := 9)).1 ?_
      refine' wpIn_range_T (α := Int) rfl (by omega) (gf := 51) (lb := #[.pointer (some ⟨E, 0, none⟩)]) rfl trivial (enters_of Try.func51 (by kernel_rfl) rfl)
        (HSEQ.out.later hE.1) KeepsO.trans (fun _ l' W _ o' h _ _ _ => KeepsO.turn W o' (fun h0 a ha => CellsS.far (HK.out.seqc.after hE.1) h (by rw [intCs_len]; omega) a ha)) (fun _ _ _ h => KeepsO.below h) (Below.refl _ _) (fun _ => rfl)
        (RoJ (RoE X11 X11.heap.size 0 []) many (X11.heap.size + 1) 0) (RoX (RoE X11 X11.heap.size 0 []) many (X11.heap.size + 1) 0)
        (fun pre X Y h hb => ⟨h.1.under hE.1.size hbT.1 hE.2.2.lt hb, h.2.1.below hb hbN.1, h.2.2⟩)
        (fun c pre X Y h hb => ⟨h.1, h.2.1, h.2.2.1, h.2.2.2.1, h.2.2.2.2.1.under hE.1.size hbT.1 hE.2.2.lt hb, h.2.2.2.2.2.below hb hbN.1⟩)
        ⟨hE, hbN, fun _ => .inl rfl⟩
        _ ?assign0 ?body0 ?done0 ?stop0
      case assign0 =>
        intro l' pre x W K hI hW hK
        clear hI
        unfold encI
        gi_wp2
        exact hK _ (Below.refl _ _)
      case body0 =>
        rintro l' pre x W ⟨hE2, hNW, hT0⟩ hW hp
        have hl : pre.length < n2 := by have := hp.length_le; rw [HLn.out.1] at this; simp at this; omega
        have hget : L[pre.length]? = some x := by
          obtain ⟨t, rfl⟩ := hp
          simp
        have hK9 := HK.out.after hE2.1
        obtain ⟨bk, ok, rfl, hlk⟩ := hK9.wantc (by rw [intCs_len, HLn.out.1]; omega)
        have c0 : W.cell? ⟨bk, ok + pre.length, none⟩ = some (.int .i64 x) := hlk.2 _ _ (intCs_get hget)
        have e3 := hK9.bm.c 0 rfl
        have e9 := hK9.want.c 1 rfl
        have eT := hE2.2.1.c 0 rfl
        have eN := hNW.c 0 rfl
        have fN := hNW.f 0 rfl
        have HNW := Lib.hid hNW
        have HE := Lib.hid hE2
        have HT0 := Lib.hid hT0
        have hlN : X11.heap.size + 1 < W.heap.size := hNW.1
        have e3' := (hK9.bm.other (p := ⟨X11.heap.size + 1, 0, none⟩) (by have := hK9.bm.1; have := HBw.out.2; simp; omega) (.int .i64 ((pre.length : Int) + 1))).c 0 rfl
        clear hE2 hNW hK9 hlk hget hp hT0 hE hbT hbN
        obtain ⟨i, hi⟩ : ∃ i, i = pre.length := ⟨_, rfl⟩
        rw [← hi] at c0 eN hl e3'
        have hi0 : (i : Int) < n2 := by omega
        have hwr : IntKind.i64.wrap ((i : Int) + 1) = (i : Int) + 1 := wr_next1 i (by have := HLn.out.2; omega)
        have HI := Lib.hid hi
        have HNW0 := HNW
        have hNW' := HNW.out.set 0 (by simp) (.int .i64 ((pre.length : Int) + 1))
        have eL : [Value.int .i64 ((pre.length : Nat) : Int)].set 0 (.int .i64 ((pre.length : Int) + 1)) = [.int .i64 (((pre ++ [x]).length : Nat) : Int)] := by simp
        rw [eL, ← HI.out] at hNW'
        clear eL
        replace HNW := Lib.hid hNW'
        have HL9 : Hid ((i : Int) + 1 = ((pre ++ [x]).length : Nat)) := Lib.hid (by rw [HI.out]; simp)
        have hfin : ∀ u, KeepsFrom Y1.heap.size W (W.setCell ⟨X11.heap.size + 1, 0, none⟩ u) ∧ KeepsO L.length AL W (W.setCell ⟨X11.heap.size + 1, 0, none⟩ u) ∧ RoE X11 (X11.heap.size) 0 [] (W.setCell ⟨X11.heap.size + 1, 0, none⟩ u) := fun u =>
          ⟨KeepsFrom.put ((keeps_below (Below.refl _ _)).from _) hlW _, (KeepsO.below (Below.refl _ _)).put (fun h0 a ha => CellsS.far HK.out.seqc (by omega) (by rw [intCs_len]; omega) a ha) _ _, HE.out.put (by omega) (by omega) (fun D hD => by simp at hD) u⟩
        have HF := Lib.hid hfin
        have eT' := (HE.out.2.1.other (p := ⟨X11.heap.size + 1, 0, none⟩) (by simp) (.int .i64 ((i : Int) + 1))).c 0 rfl
        have eN' := (HNW0.out.set 0 (by simp) (.int .i64 ((i : Int) + 1))).c 0 rfl
        clear hi hfin hNW'
        by_cases hbr : many ≤ (i : Int) + 1
        · gi_wp2_with fail
          exact ⟨(HF.out _).1, (HF.out _).2.1, rfl, rfl, ⟨pre, x, rfl, HT0.out (by first | rfl | trivial)⟩, by rw [← HL9.out]; exact hbr, (HF.out _).2.2, HNW.out⟩
        · gi_wp2_with fail
          exact ⟨(HF.out _).1, (HF.out _).2.1, (HF.out _).2.2, HNW.out, fun _ => .inr (by rw [← HL9.out]; omega)⟩
      all_goals
        first
          | (rintro D0 V0 hD ⟨hE2, hNW, hT0⟩ hK
             obtain ⟨N0, hN, hNW⟩ : ∃ N0 : Nat, (N0 : Int) = min ((n2 : Nat) : Int) (max 1 many) ∧ Row V0 (X11.heap.size + 1) [.int .i64 (N0 : Nat)] := ⟨_, ro_done HLn.out.1 (hT0 rfl), hNW⟩
             clear hT0)
          | (rintro D0 cx pre V0 hD hp hX hK
             obtain ⟨rfl, _, N0, hN, hE2, hNW⟩ := hX.left HLn.out.1 hp
             clear hX hp
             refine wpIn_wide.2 ?_)
        have hcmp : ((N0 : Int) != min ((n2 : Nat) : Int) (max 1 many)) = false := by rw [← hN]; simp
        have e3 := (HK.out.after hE2.1).bm.c 0 rfl
        have e9 := (HK.out.after hE2.1).want.c 1 rfl
        have eT := hE2.2.1.c 0 rfl
        have eN := hNW.c 0 rfl
        have lD := (Array.getElem?_eq_some_iff.1 hK).1
        have hwD : X11.heap.size ≤ D0 := Nat.le_trans hE.1.size hD
        have HE0 := Lib.hid hE2.1
        have HK0 := Lib.hid hK
        clear hE hbT hbN hD hE2 hK hN hNW
        go_wp2_with fail
        clear e3 e9 eT eN hcmp
        rw [rounds_succ]
        go_wp2_with fail
        generalize hW : World.alloc _ _ = Y1
        have hbT : Row Y1 (V0.heap.size) [.int .i64 1] := by rw [← hW]; exact (Row.at (by simp) [_] _).alloc _
        have hbN : Row Y1 (V0.heap.size + 1) [.int .i64 0] := by rw [← hW]; exact Row.at (by simp) [_] _
        have hB1 : Below V0.heap.size V0 Y1 := by rw [← hW]; exact ((Below.refl _ _).alloc (Nat.le_refl _) _).alloc (by simp) _
        have hE : RoE X11 (V0.heap.size) 1 [D0] Y1 := ⟨HE0.out.trans (hB1.mono HE0.out.size), hbT, ⟨hwD, (hB1.block D0 lD).trans HK0.out, by simp, trivial⟩⟩
        have hw0 := HE0.out.size
        clear hB1 hW HE0 HK0
        have hlW : V0.heap.size + 1 < Y1.heap.size := hbN.1
        refine (wpIn_wide (n := 9)).1 ?_
        refine' wpIn_range_T (α := Int) rfl (by omega) (gf := 51) (lb := #[.pointer (some ⟨E, 0, none⟩)]) rfl trivial (enters_of Try.func51 (by kernel_rfl) rfl)
          (HSEQ.out.later hE.1) KeepsO.trans (fun _ l' W _ o' h _ _ _ => KeepsO.turn W o' (fun h0 a ha => CellsS.far (HK.out.seqc.after hE.1) h (by rw [intCs_len]; omega) a ha)) (fun _ _ _ h => KeepsO.below h) (Below.refl _ _) (fun _ => rfl)
          (RoJ (RoE X11 V0.heap.size 1 [D0]) many (V0.heap.size + 1) 1) (RoX (RoE X11 V0.heap.size 1 [D0]) many (V0.heap.size + 1) 1)
          (fun pre X Y h hb => ⟨h.1.under hE.1.size hbT.1 hE.2.2.lt hb, h.2.1.below hb hbN.1, h.2.2⟩)
          (fun c pre X Y h hb => ⟨h.1, h.2.1, h.2.2.1, h.2.2.2.1, h.2.2.2.2.1.under hE.1.size hbT.1 hE.2.2.lt hb, h.2.2.2.2.2.below hb hbN.1⟩)
          ⟨hE, hbN, fun _ => .inl rfl⟩
          _ ?assign1 ?body1 ?done1 ?stop1
        case assign1 =>
          intro l' pre x W K hI hW hK
          clear hI
          unfold encI
          gi_wp2
          exact hK _ (Below.refl _ _)
        case body1 =>
          rintro l' pre x W ⟨hE2, hNW, hT0⟩ hW hp
          have hl : pre.length < n2 := by have := hp.length_le; rw [HLn.out.1] at this; simp at this; omega
          have hget : L[pre.length]? = some x := by
            obtain ⟨t, rfl⟩ := hp
            simp
          have hK9 := HK.out.after hE2.1
          obtain ⟨bk, ok, rfl, hlk⟩ := hK9.wantc (by rw [intCs_len, HLn.out.1]; omega)
          have c0 : W.cell? ⟨bk, ok + pre.length, none⟩ = some (.int .i64 x) := hlk.2 _ _ (intCs_get hget)
          have e3 := hK9.bm.c 0 rfl
          have e9 := hK9.want.c 1 rfl
          have eT := hE2.2.1.c 0 rfl
          have eN := hNW.c 0 rfl
          have fN := hNW.f 0 rfl
          have HNW := Lib.hid hNW
          have HE := Lib.hid hE2
          have HT0 := Lib.hid hT0
          have hlN : V0.heap.size + 1 < W.heap.size := hNW.1
          have e3' := (hK9.bm.other (p := ⟨V0.heap.size + 1, 0, none⟩) (by have := hK9.bm.1; have := HBw.out.2; simp; omega) (.int .i64 ((pre.length : Int) + 1))).c 0 rfl
          clear hE2 hNW hK9 hlk hget hp hT0 hE hbT hbN
          obtain ⟨i, hi⟩ : ∃ i, i = pre.length := ⟨_, rfl⟩
          rw [← hi] at c0 eN hl e3'
          have hi0 : (i : Int) < n2 := by omega
          have hwr : IntKind.i64.wrap ((i : Int) + 1) = (i : Int) + 1 := wr_next1 i (by have := HLn.out.2; omega)
          have HI := Lib.hid hi
          have HNW0 := HNW
          have hNW' := HNW.out.set 0 (by simp) (.int .i64 ((pre.length : Int) + 1))
          have eL : [Value.int .i64 ((pre.length : Nat) : Int)].set 0 (.int .i64 ((pre.length : Int) + 1)) = [.int .i64 (((pre ++ [x]).length : Nat) : Int)] := by simp
          rw [eL, ← HI.out] at hNW'
          clear eL
          replace HNW := Lib.hid hNW'
          have HL9 : Hid ((i : Int) + 1 = ((pre ++ [x]).length : Nat)) := Lib.hid (by rw [HI.out]; simp)
          have hfin : ∀ u, KeepsFrom Y1.heap.size W (W.setCell ⟨V0.heap.size + 1, 0, none⟩ u) ∧ KeepsO L.length AL W (W.setCell ⟨V0.heap.size + 1, 0, none⟩ u) ∧ RoE X11 (V0.heap.size) 1 [D0] (W.setCell ⟨V0.heap.size + 1, 0, none⟩ u) := fun u =>
            ⟨KeepsFrom.put ((keeps_below (Below.refl _ _)).from _) hlW _, (KeepsO.below (Below.refl _ _)).put (fun h0 a ha => CellsS.far HK.out.seqc (by omega) (by rw [intCs_len]; omega) a ha) _ _, HE.out.put (by omega) (by omega) (fun D hD => by simp at hD; omega) u⟩
          have HF := Lib.hid hfin
          have eT' := (HE.out.2.1.other (p := ⟨V0.heap.size + 1, 0, none⟩) (by simp) (.int .i64 ((i : Int) + 1))).c 0 rfl
          have eN' := (HNW0.out.set 0 (by simp) (.int .i64 ((i : Int) + 1))).c 0 rfl
          clear hi hfin hNW'
          gi_wp2_with fail
          exact ⟨(HF.out _).1, (HF.out _).2.1, (HF.out _).2.2, HNW.out, fun h => absurd h (by decide)⟩
        case stop1 =>
          rintro D cx pre V hD hp hX hK
          exact absurd hX.2.1 (by decide)
        case done1 =>
          rintro D V hD ⟨hE2, hNW, _⟩ hK
          rw [HLn.out.1] at hNW
          have e3 := (HK.out.after hE2.1).bm.c 0 rfl
          have e9 := (HK.out.after hE2.1).want.c 1 rfl
          have eT := hE2.2.1.c 0 rfl
          have eN := hNW.c 0 rfl
          have hM : Marks X11.heap.size [D, D0] V := ⟨Nat.le_trans (Nat.le_trans hw0 (by omega)) hD, hK, fun E hE' => by simp at hE'; subst hE'; omega, hE2.2.2⟩
          have HM := Lib.hid hM
          have HE := Lib.hid hE2.1
          have HR4 := Lib.hid (HK.out.after hE2.1).br
          clear hE hbT hbN hD hE2 hK hNW hM
          go_wp2_with fail
          clear e3 e9 eT eN
          rw [rounds_succ]
          go_wp2_with fail
          generalize hVV : World.alloc _ _ = V4
          have hB3 : Below V.heap.size V V4 := by rw [← hVV]; exact (Below.refl _ _).alloc (Nat.le_refl _) _
          have hBw : Below kb w V4 := HBw.out.1.trans ((HE.out.trans (hB3.mono HE.out.size)).mono (by have := HBw.out.2; omega))
          refine (works_any V4).mono ?_
          rintro e V6 ⟨rfl, hb⟩
          have r6 := (HR4.out.after hB3).after hb
          have x6 := r6.c 0 rfl
          have f6 := r6.f 0 rfl
          have hM2 := HM.out.below HM.out.lt hB3
          have hM3 := hM2.below hM2.lt hb
          have hwl := HM.out.1
          have hkz := HBw.out.2
          have hM4 := hM3.put (b := kb + 3) (.bool true) (fun D' hD' => by have h := hM3.lt D' hD'; simp at hD'; have := HM.out.2.2.2.1; omega)
          have r7 := r6.set 0 (by simp) (.bool true)
          have hkV : kb ≤ V4.heap.size := by have := HE.out.size; have := hB3.size; omega
          have hb7 : Below kb w (V6.setCell ⟨kb + 3, 0, none⟩ (.bool true)) := below_put1 (hBw.trans (hb.mono hkV)) (by omega) _ _
          have HZ := Lib.hid (And.intro r7 (And.intro hM4 hb7))
          clear hVV hB3 hBw r6 hM2 hM3 hM4 r7 hb7 hb
          go_wp2_with fail
          clear x6 f6
          generalize V6.setCell ⟨kb + 3, 0, none⟩ (.bool true) = V7 at HZ ⊢
          refine leaves_marks [D, D0] V7 HZ.out.2.1 fun V5 hV => ?_
          have c1 := (HZ.out.1.below hV (by omega)).c 0 rfl
          exact ⟨.bool true, by simp [results, Try.results4, go_sem, c1], rfl, by rw [hkb]; exact HZ.out.2.2.trans (hV.mono (by omega))⟩
end Go.Proofs.Ytncgjlhmgdgokaa
