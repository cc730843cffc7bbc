/- AngleSorts walked; its truth. -/
import Derived.Test.YtfdofajknnocfaaPE
import Derived.Test.YtfdofajknnocfaaOI
import Derived.Test.YtfdofajknnocfaaNO
import Derived.Deep.QuietTactic
namespace Go.Proofs.Ytfdofajknnocfaa
open Go.RowKit Go.Sort

theorem allM_cons (x y : Int) (X Y : Nat → Int) (n : Nat) : allM (consF x X) (consF y Y) (n + 1) = (mayB x y && allM X Y n) := by
  induction n with
  | zero => simp [allM, consF]
  | succ n ih => rw [allM, ih, allM, Bool.and_assoc]; rfl
/-- What stands while AngleSorts goes on: its box of w, the ways that came in, their copy with one behind. -/
def SoS (w : World) (x y : Int) (A : Option Addr) (g : Nat) (ws : List (Int × Int)) (W : World) : Prop :=
  Row W w.heap.size (wayL x y) ∧ WaysS W A ws ∧ WaysL W g 0 (ws ++ [(77, 0)]) ∧ Below w.heap.size w W
theorem SoS.after {w W W1 : World} {x y : Int} {A : Option Addr} {g : Nat} {ws : List (Int × Int)} (h : SoS w x y A g ws W) (hb : Below W.heap.size W W1) : SoS w x y A g ws W1 :=
  ⟨h.1.after hb, h.2.1.below hb, h.2.2.1.below hb, h.2.2.2.trans (hb.mono h.2.2.2.size)⟩
theorem own_empty (W : World) (base m : Nat) (hb : base ≤ W.heap.size) (hm : m = W.heap.size) : OwnW (W.alloc (.cells #[] 23)) base (some ⟨m, 0, none⟩) [] 0 0 := by
  subst hm
  exact ⟨World.ownsRow_made W #[] 0 hb (Nat.zero_le _) rfl, rfl⟩
theorem ways_pre {W : World} {g o : Nat} {ws ps : List (Int × Int)} (h : WaysL W g o (ws ++ ps)) : WaysL W g o ws :=
  ⟨h.1, fun i p hi => h.2 i p (by rw [List.getElem?_append_left (List.getElem?_eq_some_iff.1 hi).1]; exact hi)⟩
theorem ways_end {W : World} {g : Nat} {ws : List (Int × Int)} {p : Int × Int} (h : WaysL W g 0 (ws ++ [p])) : W.cell? ⟨g, ws.length * 2, none⟩ = some (.int .i64 p.1) ∧ W.cell? ⟨g, ws.length * 2 + 1, none⟩ = some (.int .i64 p.2) := by
  have := h.2 ws.length p (by simp)
  rwa [Nat.zero_add] at this
set_option maxHeartbeats 12000000 in
set_option maxRecDepth 100000 in
theorem sorts_small (x y many : Int) (ws : List (Int × Int)) (A : Option Addr) (c : Nat) (w : World) (hn : ws.length ≤ 20) (hx : WaysS w A ws) :
    Calls Try.prog 5 #[wayV x y, .slice A ws.length c, .int .i64 many] w fun e w' => e = .returned (.bool true) ∧ Below w.heap.size w w' := by
  have HS1 := Lib.hid (fun g c' W (h : WaysL W g 0 ws) => sort_any ws g 0 c' W hn h)
  have HS2 := Lib.hid (fun W (h : WaysS W A ws) => refsort_l ws A c W hn h)
  have HN1 := Lib.hid (fun g c' W (h : WaysL W g 0 ws) => nextw_any x y (fun i => (atW ws i).1) (fun i => (atW ws i).2) g 0 ws.length c' W (by omega) (ways_at h))
  have HRo := Lib.hid (fun g c' Aw wc W (h : WaysL W g 0 ws) nS (h1 : (sortL ws).length = nS) h2 => rounds_any ws g 0 c' nS wc Aw many W hn h h1 h2)
  have HAt : Hid (∀ i, i < ws.length → ws[i]? = some (atW ws i)) := Lib.hid (fun i hi => by rw [atW, List.getElem?_eq_getElem hi]; rfl)
  have HZ : Hid (allM (fun i => (atW ws i).1) (fun i => (atW ws i).2) ws.length = allW ws) := Lib.hid rfl
  have HMc := Lib.hid (allM_cons x y (fun i => (atW ws i).1) (fun i => (atW ws i).2) ws.length)
  have HRM := Lib.hid (fun W => right_may x y W)
  have HX := Lib.hid hx
  clear hx
  have HRl := Lib.hid (srt_len (lt := ltR) ws)
  have HSL : Hid (sortL ws = if allW ws then Ins.srt ltR ws else []) := Lib.hid rfl
  have HN2 : Hid (mayB x y = true → allW ws = true → 0 < ws.length → ∀ W, WaysS W A ws → Calls Try.prog 23 #[wayV x y, .slice A ws.length c] W fun e w' => e = .returned (.int .i64 (firstI (aheadA x y (fun i => (atW ws i).1) (fun i => (atW ws i).2)) ws.length)) ∧ Below W.heap.size W w') := Lib.hid (fun h1 h2 h3 W hW => by
    obtain ⟨b, o, rfl, hw⟩ := hW h3
    rw [← next_same x y ws (Rnd.may_ok.1 h1) (allW_ok.1 h2)]
    exact refnext_any x y ws b o c W (by omega) h3 hw)
  rw [HMc.out, HZ.out] at HN1
  have Hr0 : Hid (ws.length = 0 → firstI (aheadA x y (fun i => (atW ws i).1) (fun i => (atW ws i).2)) ws.length = 0) := Lib.hid (fun h => by rw [h]; rfl)
  generalize firstI (aheadA x y (fun i => (atW ws i).1) (fun i => (atW ws i).2)) ws.length = r at HN1 HN2 Hr0
  generalize allW ws = z at HN1 HN2 HZ HSL HS1
  generalize Ins.srt ltR ws = R at HS1 HS2 HSL HRl
  generalize sortL ws = SL at HRo HSL
  obtain ⟨zr, hzr⟩ : ∃ zr, zr = mayB x y := ⟨_, rfl⟩
  rw [← hzr] at HN1 HN2 HRM
  clear hzr HMc
  obtain ⟨n, hnn⟩ : ∃ n, n = ws.length := ⟨_, rfl⟩
  rw [← hnn] at HS1 HS2 HN1 HN2 HRo HAt HZ HRl Hr0 hn ⊢
  have HL := Lib.hid hnn
  clear hnn
  have hni : (n : Int) ≤ 20 := by omega
  go_enter Try.func5, Try.ntmps5
  go_wp2_with (at_builtin; refine wpList_gather rfl _ _ rfl (w.heap.size + 1) (some ⟨w.heap.size + 1, 0, none⟩) 0 A c ws rfl (by rw [← HL.out]; rfl) (own_empty _ _ _ (by simp) (by simp)) (HX.out.below (((Below.refl _ _).alloc (Nat.le_refl _) _).alloc (by simp) _)) (by rw [← HL.out]; omega) (by simp) ?_)
  rintro A1 N1 c1 w1 hO1 eN1 hb1
  rw [← HL.out] at eN1
  have hB1 : Below w.heap.size w w1 := (((Below.refl _ _).alloc (Nat.le_refl _) _).alloc (by simp) _).trans (hb1.mono (by omega))
  have hR1 : Row w1 w.heap.size (wayL x y) := ((Row.at rfl (wayL x y) _).alloc _).below hb1 (by omega)
  have hs1 : w.heap.size + 1 ≤ w1.heap.size := hR1.1
  clear hb1
  have hO1' := Lib.hid hO1
  clear hO1
  go_wp2_with (at_builtin; refine wpList_push rfl _ _ rfl (w.heap.size + 1) _ _ _ _ w1.heap.size (77, 0) rfl rfl (OwnW.below hO1'.out ((Below.refl _ _).alloc (Nat.le_refl _) _)) (Row.at rfl _ _) (by omega) (by simp; omega) ?_)
  rintro A2 N2 c2 w2 hO2 eN2 hb2
  obtain ⟨g, rfl, hg, hm⟩ := hO2.at (by omega)
  have hc2 := hO2.cap
  have hB2 : Below w1.heap.size w1 (w1.alloc (.cells #[.int .i64 77, .int .i64 0] 23)) := (Below.refl _ _).alloc (Nat.le_refl _) _
  have hBw2 := hB1.trans ((hB2.mono (by omega)).trans (hb2.mono (by omega)))
  have hS : SoS w x y A g ws w2 := ⟨(hR1.after hB2).below hb2 (by omega), HX.out.below hBw2, hm, hBw2⟩
  subst eN2 eN1
  clear hO2 hO1' hb2 hB2 hBw2 hm hR1 hB1 hs1 hg HX
  have hcn : (N1 : Int) ≤ c2 := by omega
  go_wp2_with fail
  refine (HS1.out g c2 _ (ways_pre hS.2.2.1)).mono ?_
  rintro e w3 ⟨As, Ns, caps, rfl, hOs, hb3⟩
  replace hS := hS.after hb3
  clear hb3 HS1
  have r0 := hS.1.c 0 rfl
  have r1 := hS.1.c 1 rfl
  go_wp2_with fail
  refine (HN1.out g c2 _ (ways_pre hS.2.2.1)).mono ?_
  rintro e w4 ⟨rfl, hb4⟩
  replace hS := hS.after hb4
  have HOs := Lib.hid (hOs.below hb4)
  have HS := Lib.hid hS
  clear hb4 HN1 r0 r1 hOs hS
  obtain ⟨vn, hvn⟩ : ∃ vn, vn = toldI (zr && z) r := ⟨_, rfl⟩
  obtain ⟨ve, hve⟩ : ∃ ve, ve = nextE (zr && z) N1 := ⟨_, rfl⟩
  obtain ⟨vs, hvs⟩ : ∃ vs, vs = errI z := ⟨_, rfl⟩
  rw [← hvn, ← hve, ← hvs]
  have HVN := Lib.hid hvn
  have HVE := Lib.hid hve
  have HVS := Lib.hid hvs
  clear hvn hve hvs
  obtain ⟨RZ, hRZ⟩ : ∃ RZ, RZ = if z = true then R else [] := ⟨_, rfl⟩
  rw [← hRZ] at HOs
  have HRZ := Lib.hid hRZ
  clear hRZ
  go_wp2_with fail
  go_loopw [12, 13] (fun rb i wr => ∃ k : Nat, k ≤ N1 ∧ i = .int .i64 k ∧ rb = .bool (allM (fun i => (atW ws i).1) (fun i => (atW ws i).2) k) ∧ Hid (SoS w x y A g ws wr) ∧ Hid (OwnW wr w2.heap.size As RZ Ns caps)) (fun _ i _ => N1 - (intOf i).toNat)
  case atStart => exact ⟨0, Nat.zero_le _, rfl, rfl, HS, HOs⟩
  case round =>
    obtain ⟨k, hk, rfl, rfl, HSr, HOr⟩ := hrel
    clear HS HOs
    by_cases hkn : k < N1
    · obtain ⟨b, o, rfl, hw⟩ := HSr.out.2.1 (by rw [← HL.out]; omega)
      have hp := HAt.out k hkn
      obtain ⟨z0, z1⟩ := hw.2 k _ hp
      obtain ⟨y0, y1⟩ := (ways_pre HSr.out.2.2.1).2 k _ hp
      rw [Nat.zero_add] at y0 y1
      have HP := Lib.hid hp
      have HK1 : Hid (allM (fun i => (atW ws i).1) (fun i => (atW ws i).2) (k + 1) = (allM (fun i => (atW ws i).1) (fun i => (atW ws i).2) k && mayB (atW ws k).1 (atW ws k).2)) := Lib.hid rfl
      generalize atW ws k = p at z0 z1 y0 y1 HP HK1
      have HMy := Lib.hid (fun W => right_may p.1 p.2 W)
      have hkc : (k : Int) < N1 := by omega
      have hkc2 : (k : Int) < c2 := by omega
      have n1 := neqWay p.1 p.2 p.1 p.2
      rw [show (!(p.1 == p.1 && p.2 == p.2)) = false by simp] at n1
      clear hp hw
      cases hz : allM (fun i => (atW ws i).1) (fun i => (atW ws i).2) k
      · rw [hz] at HK1
        go_wp2_with fail
        go_quiet (fail)
        go_wp2_with fail
        have hBd := below_drewN wr nq
        go_roundw
        case rel => exact ⟨k + 1, by omega, by go_num, by rw [HK1.out]; rfl, Lib.hid (HSr.out.after hBd), Lib.hid (HOr.out.below hBd)⟩
        case measure => simp [intOf]; omega
      · rw [hz] at HK1
        go_wp2_with fail
        refine (HMy.out _).mono ?_
        rintro e w5 ⟨rfl, hb5⟩
        replace HSr := Lib.hid (HSr.out.after hb5)
        replace HOr := Lib.hid (HOr.out.below hb5)
        obtain ⟨_, _, hAe, hw⟩ := HSr.out.2.1 (by rw [← HL.out]; omega)
        cases hAe
        clear z0 z1 y0 y1 hb5
        obtain ⟨z0, z1⟩ := hw.2 k p HP.out
        obtain ⟨y0, y1⟩ := (ways_pre HSr.out.2.2.1).2 k p HP.out
        rw [Nat.zero_add] at y0 y1
        clear hw
        go_wp2_with fail
        go_quiet (fail)
        go_wp2_with fail
        have hBd := below_drewN w5 nq
        go_roundw
        case rel => exact ⟨k + 1, by omega, by go_num, by rw [HK1.out]; rfl, Lib.hid (HSr.out.after hBd), Lib.hid (HOr.out.below hBd)⟩
        case measure => simp [intOf]; omega
    · obtain rfl : k = N1 := by omega
      rw [HZ.out]
      have hm := ways_end HSr.out.2.2.1
      rw [← HL.out] at hm
      obtain ⟨z0, z1⟩ := hm
      have hwr := (wr_small k (by omega)).1
      have hc1 : (k : Int) + 1 ≤ c2 := by omega
      have n1 := neqWay 77 0 77 0
      rw [show (!((77 : Int) == 77 && (0 : Int) == 0)) = false by rfl] at n1
      cases z
      · have hRZ : RZ = [] := by have := HRZ.out; simpa using this
        subst hRZ
        have eNs : Ns = 0 := HOr.out.2
        subst eNs
        have eSL : SL = [] := by have := HSL.out; simpa using this
        have eVS : vs = 2 := HVS.out
        have eVN : vn = 0 := by have := HVN.out; rw [Bool.and_false] at this; exact this
        have eVE : ve = 2 := by have := HVE.out; rw [Bool.and_false] at this; exact this
        subst eVS eVN eVE
        clear HN2 HS2 HOr HRM
        go_wp2_with (go_at_call 12; refine (num_any _ _).mono ?_; rintro e w' ⟨rfl, rfl⟩)
        clear z0 z1 n1 hwr
        refine wp_loop_rounds 1 ?_
        rw [rounds_succ]
        go_wp2_with (go_at_call 12; refine (num_any _ _).mono ?_; rintro e w' ⟨rfl, rfl⟩)
        refine (HRo.out g c2 none 0 _ (ways_pre HSr.out.2.2.1) 0 (by rw [eSL]; rfl) (fun h => absurd h (by omega))).mono ?_
        rintro e w7 ⟨rfl, hb7⟩
        replace HSr := Lib.hid (HSr.out.after hb7)
        clear hb7
        go_wp2_with fail
        refine (works_true _).mono ?_
        rintro e w8 ⟨rfl, hb8⟩
        have hB8 := HSr.out.2.2.2.trans (hb8.mono HSr.out.2.2.2.size)
        clear hb8 HSr
        go_wp2
        go_ret
        exact ⟨rfl, hB8⟩
      · have hRZ : RZ = R := by have := HRZ.out; simpa using this
        subst hRZ
        have eSL : SL = RZ := by have := HSL.out; simpa using this
        subst eSL
        have eVS : vs = 0 := HVS.out
        subst eVS
        go_wp2_with fail
        refine (HS2.out _ HSr.out.2.1).mono ?_
        rintro e w5 ⟨Aw, Nw, capw, rfl, hOw, hb5⟩
        replace HSr := Lib.hid (HSr.out.after hb5)
        replace HOr := Lib.hid (HOr.out.below hb5)
        have HOw := Lib.hid hOw
        have eNs : Ns = k := HOr.out.2.trans HRl.out
        have eNw : Nw = k := HOw.out.2.trans HRl.out
        subst eNs
        subst eNw
        clear hb5 hOw z0 z1 n1 hwr HS2 HVS HSL HRZ
        go_wp2_with (go_at_call 12; refine (num_any _ _).mono ?_; rintro e w' ⟨rfl, rfl⟩)
        go_loopw [15] (fun i wr' => ∃ j : Nat, j ≤ Nw ∧ i = .int .i64 j ∧ Hid (SoS w x y A g ws wr') ∧ Hid (OwnW wr' w2.heap.size As SL Nw caps) ∧ Hid (OwnW wr' wr.heap.size Aw SL Nw capw)) (fun i _ => Nw - (intOf i).toNat)
        case atStart => exact ⟨0, Nat.zero_le _, rfl, HSr, HOr, HOw⟩
        case round =>
          obtain ⟨j, hj, rfl, HSj, HOj, HWj⟩ := hrel
          clear HSr HOr HOw
          by_cases hjn : j < Nw
          · obtain ⟨gs, rfl, _, hs⟩ := HOj.out.at (by omega)
            obtain ⟨gw, rfl, _, hw⟩ := HWj.out.at (by omega)
            obtain ⟨p, hp⟩ : ∃ p, SL[j]? = some p := ⟨_, List.getElem?_eq_getElem (by rw [HRl.out]; exact hjn)⟩
            obtain ⟨z0, z1⟩ := hs.2 j p hp
            obtain ⟨y0, y1⟩ := hw.2 j p hp
            rw [Nat.zero_add] at z0 z1 y0 y1
            have n1 := neqWay p.1 p.2 p.1 p.2
            rw [show (!(p.1 == p.1 && p.2 == p.2)) = false by simp] at n1
            have hjc : (j : Int) < Nw := by omega
            clear hp hs hw
            go_wp2_with fail
            go_quiet (fail)
            go_wp2_with fail
            have hBd := below_drewN ‹World› nq
            go_roundw
            case rel => exact ⟨j + 1, by omega, by go_num, Lib.hid (HSj.out.after hBd), Lib.hid (HOj.out.below hBd), Lib.hid (HWj.out.below hBd)⟩
            case measure => simp [intOf]; omega
          · obtain rfl : j = Nw := by omega
            have r0 := HSj.out.1.c 0 rfl
            have r1 := HSj.out.1.c 1 rfl
            go_wp2_with fail
            refine (HRM.out _).mono ?_
            rintro e w6 ⟨rfl, hb6⟩
            have HSr := Lib.hid (HSj.out.after hb6)
            have HW := Lib.hid (HWj.out.below hb6)
            clear r0 r1 HSj HWj HOj hb6 HRM
            cases zr
            · have eVN : vn = 0 := HVN.out
              have eVE : ve = 2 := HVE.out
              subst eVN eVE
              clear HN2
              go_wp2_with (go_at_call 12; refine (num_any _ _).mono ?_; rintro e w' ⟨rfl, rfl⟩)
              refine (HRo.out g c2 Aw capw _ (ways_pre HSr.out.2.2.1) j HRl.out (fun h => (HW.out.at h).elim fun g hg => ⟨g, hg.1, hg.2.2⟩)).mono ?_
              rintro e w7 ⟨rfl, hb7⟩
              replace HSr := Lib.hid (HSr.out.after hb7)
              clear hb7
              go_wp2_with fail
              refine (works_true _).mono ?_
              rintro e w8 ⟨rfl, hb8⟩
              have hB8 := HSr.out.2.2.2.trans (hb8.mono HSr.out.2.2.2.size)
              clear hb8 HSr
              go_wp2
              go_ret
              exact ⟨rfl, hB8⟩
            · rcases Nat.eq_zero_or_pos j with h0 | h0
              · have eVN : vn = 0 := by
                  have e : vn = (r : Int) := HVN.out
                  rw [e, Hr0.out h0]; rfl
                have eVE : ve = 5 := by have e := HVE.out; rw [h0] at e; exact e
                subst eVN eVE
                subst h0
                clear HN2
                go_wp2_with (go_at_call 12; refine (num_any _ _).mono ?_; rintro e w' ⟨rfl, rfl⟩)
                refine (HRo.out g c2 Aw capw _ (ways_pre HSr.out.2.2.1) 0 HRl.out (fun h => (HW.out.at h).elim fun g hg => ⟨g, hg.1, hg.2.2⟩)).mono ?_
                rintro e w7 ⟨rfl, hb7⟩
                replace HSr := Lib.hid (HSr.out.after hb7)
                clear hb7
                go_wp2_with fail
                refine (works_true _).mono ?_
                rintro e w8 ⟨rfl, hb8⟩
                have hB8 := HSr.out.2.2.2.trans (hb8.mono HSr.out.2.2.2.size)
                clear hb8 HSr
                go_wp2
                go_ret
                exact ⟨rfl, hB8⟩
              · have eVN : vn = (r : Int) := HVN.out
                have eVE : ve = 0 := by have e := HVE.out; unfold nextE at e; rw [if_pos (by rfl), if_neg (by omega)] at e; exact e
                subst eVN eVE
                have r0 := HSr.out.1.c 0 rfl
                have r1 := HSr.out.1.c 1 rfl
                have h00 := Lib.hid h0
                have h01 : (j : Int) ≠ 0 := by omega
                clear h0
                go_wp2_with fail
                refine (HN2.out (by first | rfl | trivial) (by first | rfl | trivial) h00.out _ HSr.out.2.1).mono ?_
                rintro e w9 ⟨rfl, hb9⟩
                replace HSr := Lib.hid (HSr.out.after hb9)
                replace HW := Lib.hid (HW.out.below hb9)
                clear r0 r1 hb9 HN2 h01 h00 Hr0 hc1 hc2 HVN HVE
                go_wp2_with (go_at_call 12; refine (num_any _ _).mono ?_; rintro e w' ⟨rfl, rfl⟩)
                refine (HRo.out g c2 Aw capw _ (ways_pre HSr.out.2.2.1) j HRl.out (fun h => (HW.out.at h).elim fun g hg => ⟨g, hg.1, hg.2.2⟩)).mono ?_
                rintro e w7 ⟨rfl, hb7⟩
                replace HSr := Lib.hid (HSr.out.after hb7)
                clear hb7
                go_wp2_with fail
                refine (works_true _).mono ?_
                rintro e w8 ⟨rfl, hb8⟩
                have hB8 := HSr.out.2.2.2.trans (hb8.mono HSr.out.2.2.2.size)
                clear hb8 HSr
                go_wp2
                go_ret
                exact ⟨rfl, hB8⟩
end Go.Proofs.Ytfdofajknnocfaa
