/- New; Claim and Give of an arena; Take, Claim and Give of none; no condition. -/
import Derived.Test.YtncgjlhmgdgokaaAP
import Derived.Carry
namespace Go.Proofs.Ytncgjlhmgdgokaa
open Go.RowKit Go.Sort ArenaMath Go.Maps

theorem new_bad (n : Int) (h : n < 0 ∨ 65536 < n) (w : World) : Calls Try.prog 7 #[.int .i64 n] w fun e w' => e = .returned (.tuple #[.pointer none, .int .i64 2]) ∧ w' = w := by
  by_cases h0 : n < 0
  · have e0 : decide (n < 0) = true := decide_eq_true h0
    clear h h0
    go_enter Try.func7, Try.ntmps7
    go_wp2
    go_ret2
    exact ⟨rfl, rfl⟩
  · have e0 : decide (n < 0) = false := decide_eq_false h0
    have e1 : decide (65536 < n) = true := decide_eq_true (by omega)
    clear h h0
    go_enter Try.func7, Try.ntmps7
    go_wp2
    go_ret2
    exact ⟨rfl, rfl⟩
set_option maxRecDepth 1000000 in
theorem new_any (n base : Nat) (h : n ≤ 65536) (w : World) (hbase : base ≤ w.heap.size) :
    Calls Try.prog 7 #[.int .i64 n] w fun e w' => e = .returned (.tuple #[.pointer (some ⟨w.heap.size + 1, 0, none⟩), .int .i64 0]) ∧ ArS w' base (w.heap.size + 1) n [] w.heap.size none ∧ Below w.heap.size w w' := by
  have e0 : decide ((n : Int) < 0) = false := decide_eq_false (by omega)
  have e1 : decide (65536 < (n : Int)) = false := decide_eq_false (by omega)
  have hmm := @run_makeMap Try.prog
  have H := Lib.hid (And.intro h hbase)
  clear h hbase
  go_enter Try.func7, Try.ntmps7
  go_wp2
  go_ret2
  obtain ⟨h, hbase⟩ := H.out
  refine ⟨rfl, ⟨⟨0, 0, 0, [], .map [], fun _ => none, ⟨⟨?_, Own.nil _ _ _ _, fun g hg => by cases hg⟩, ?_, mapIs_new, by omega, hbase⟩, inv_new n, rfl⟩, h⟩, ((Below.refl _ _).alloc (Nat.le_refl _) _).alloc (by simp) _⟩
  · exact Row.at (by simp) _ _
  · exact (World.ownsMap_made w _ _ _).alloc _
theorem claim1_any {w : World} {base b many c m T X : Nat} {mark top : Int} {A : Option Addr} {hs : List Int} {D : DataW Unit} {tk : Int → Option Bool} (x : Int) (h : ArMem w base b many mark top A c hs m D tk) (hT : Row w T [.pointer (some ⟨b, 0, none⟩)]) (hX : Row w X [.int .i64 x]) :
    Calls Try.prog 31 #[.pointer (some ⟨T, 0, none⟩), .pointer (some ⟨X, 0, none⟩)] w fun e w' => e = .returned (.bool (decide (0 ≤ x) && decide (x < many))) ∧ Below w.heap.size w w' := by
  have t0 := hT.c 0 rfl
  have x0 := hX.c 0 rfl
  have CH := Lib.hid (has_any h x)
  clear h hT hX
  go_enter Try.func31, Try.ntmps31
  go_wp2_with fail
  refine CH.out.mono ?_
  rintro e w1 ⟨rfl, rfl⟩
  go_wp2_with fail
  go_ret
  exact ⟨rfl, Below.refl _ _⟩
theorem claim2_any {w : World} {base b many c m T X : Nat} {mark top : Int} {A : Option Addr} {hs : List Int} {D : DataW Unit} {tk : Int → Option Bool} (x : Int) (hwf : (Lit.int .i64 x).wf = true) (h : ArMem w base b many mark top A c hs m D tk) (hT : Row w T [.pointer (some ⟨b, 0, none⟩)]) (hX : Row w X [.int .i64 x]) :
    Calls Try.prog 33 #[.pointer (some ⟨T, 0, none⟩), .pointer (some ⟨X, 0, none⟩)] w fun e w' => e = .returned (.bool (!(tk x).isSome)) ∧ Below w.heap.size w w' := by
  have t0 := hT.c 0 rfl
  have x0 := hX.c 0 rfl
  have CH := Lib.hid (taken_any h x hwf)
  obtain ⟨r, hr⟩ : ∃ r, (tk x).isSome = r := ⟨_, rfl⟩
  rw [hr] at CH ⊢
  clear h hT hX hr hwf
  go_enter Try.func33, Try.ntmps33
  go_wp2_with fail
  refine CH.out.mono ?_
  rintro e w1 ⟨rfl, hb⟩
  go_wp2_with fail
  go_ret
  exact ⟨rfl, hb⟩
theorem give1_any {w : World} {base b many c m T X : Nat} {mark top : Int} {A : Option Addr} {hs : List Int} {D : DataW Unit} {tk : Int → Option Bool} (x : Int) (h : ArMem w base b many mark top A c hs m D tk) (hT : Row w T [.pointer (some ⟨b, 0, none⟩)]) (hX : Row w X [.int .i64 x]) :
    Calls Try.prog 35 #[.pointer (some ⟨T, 0, none⟩), .pointer (some ⟨X, 0, none⟩)] w fun e w' => e = .returned (.bool (decide (0 ≤ x) && decide (x < many))) ∧ Below w.heap.size w w' := by
  have t0 := hT.c 0 rfl
  have x0 := hX.c 0 rfl
  have CH := Lib.hid (has_any h x)
  clear h hT hX
  go_enter Try.func35, Try.ntmps35
  go_wp2_with fail
  refine CH.out.mono ?_
  rintro e w1 ⟨rfl, rfl⟩
  go_wp2_with fail
  go_ret
  exact ⟨rfl, Below.refl _ _⟩
theorem give2_any {w : World} {base b many c m T X : Nat} {mark top : Int} {A : Option Addr} {hs : List Int} {D : DataW Unit} {tk : Int → Option Bool} (x : Int) (hwf : (Lit.int .i64 x).wf = true) (h : ArMem w base b many mark top A c hs m D tk) (hT : Row w T [.pointer (some ⟨b, 0, none⟩)]) (hX : Row w X [.int .i64 x]) :
    Calls Try.prog 36 #[.pointer (some ⟨T, 0, none⟩), .pointer (some ⟨X, 0, none⟩)] w fun e w' => e = .returned (.bool ((tk x).isSome)) ∧ Below w.heap.size w w' := by
  have t0 := hT.c 0 rfl
  have x0 := hX.c 0 rfl
  have CH := Lib.hid (taken_any h x hwf)
  obtain ⟨r, hr⟩ : ∃ r, (tk x).isSome = r := ⟨_, rfl⟩
  rw [hr] at CH ⊢
  clear h hT hX hr hwf
  go_enter Try.func36, Try.ntmps36
  go_wp2_with fail
  refine CH.out.mono ?_
  rintro e w1 ⟨rfl, hb⟩
  go_wp2_with fail
  go_ret
  exact ⟨rfl, hb⟩
/-- What Claim tells. -/
def erClaim (many : Nat) (x : Int) (o : Option Bool) : Int := if (0 : Int) = 0 then (if (if (decide (0 ≤ x) && decide (x < (many : Int))) = true then (0 : Int) else 4) = 0 then (if (!o.isSome) = true then (0 : Int) else 210) else (if (decide (0 ≤ x) && decide (x < (many : Int))) = true then (0 : Int) else 4)) else 0
/-- The frame at which Claim leaves with an error. -/
def ClaimJ (w : World) (p x q r : Value) (e : Int) (P : Prop) (a : Act) (W : World) : Prop := P ∧ ∃ v6 v7 v8 v9 v10 v11 v12 v13 v14 v15 v16 v17 v18 v19 v20 v21 v22 v23 v24, a = { tmps := #[p, x, q, r, .int .i64 0, .int .i64 e, v6, v7, v8, v9, v10, v11, v12, v13, v14, v15, v16, v17, v18, v19, v20, v21, v22, v23, v24], defers := [] } ∧ Below w.heap.size w W
set_option maxRecDepth 1000000 in
set_option maxHeartbeats 16000000 in
theorem claim_any {w : World} {base b many m : Nat} {A : Option Addr} {L : List Int} (x : Int) (h : ArS w base b many L m A) (hbase : base ≤ w.heap.size) (hwf : (Lit.int .i64 x).wf = true) :
    Calls Try.prog 12 #[.pointer (some ⟨b, 0, none⟩), .int .i64 x] w fun e w' =>
      (¬ (0 ≤ x ∧ x < many) → e = .returned (.int .i64 4) ∧ Below w.heap.size w w') ∧
      ((0 ≤ x ∧ x < many) → x ∈ L → e = .returned (.int .i64 210) ∧ Below w.heap.size w w') ∧
      ((0 ≤ x ∧ x < many) → x ∉ L → ∃ A', e = .returned (.int .i64 0) ∧ ArS w' base b many (insR x L) m A' ∧ Only (foot b m A) w w' ∧ LocA w A A') := by
  obtain ⟨⟨mark, top, c, hs, D, tk, hmem, hinv, hsz⟩, hm⟩ := h
  have hmf : ∀ (fn : Fn) (first cap : Array Value) (w : World), (Instr.makeFunc fn first cap).run Try.prog w = .ok (.func fn first cap) w := fun _ _ _ _ => rfl
  have H := Lib.hid (And.intro hmem (And.intro hinv (And.intro hsz (And.intro hm (And.intro hbase hwf)))))
  obtain ⟨er, her⟩ : ∃ er : Int, erClaim many x (tk x) = er := ⟨_, rfl⟩
  have hcase : (¬ (0 ≤ x ∧ x < (many : Int)) ∧ er = 4) ∨ ((0 ≤ x ∧ x < (many : Int)) ∧ x ∈ L ∧ er = 210) ∨ ((0 ≤ x ∧ x < (many : Int)) ∧ x ∉ L ∧ er = 0) := by
    subst her
    unfold erClaim
    have hmm := hinv.mem x
    by_cases h1 : 0 ≤ x ∧ x < (many : Int)
    · rw [if_pos rfl, show (decide (0 ≤ x) && decide (x < (many : Int))) = true by simp [h1], if_pos rfl, if_pos rfl]
      cases ht : tk x with
      | none => exact .inr (.inr ⟨h1, fun q => (hmm.1 q) ht, rfl⟩)
      | some v => exact .inr (.inl ⟨h1, hmm.2 (by rw [ht]; simp), rfl⟩)
    · rw [if_pos rfl, show (decide (0 ≤ x) && decide (x < (many : Int))) = false by rw [← Bool.decide_and]; exact decide_eq_false h1, if_neg (by decide), if_neg (by decide)]
      exact .inl ⟨h1, rfl⟩
  have HC := Lib.hid hcase
  have HER := Lib.hid her
  clear hmem hinv hsz hm hbase hwf hcase her
  go_enter Try.func12, Try.ntmps12
  go_wp2_with fail
  generalize hW : World.alloc _ _ = W0
  have rT : Row W0 w.heap.size [.pointer (some ⟨b, 0, none⟩)] := by rw [← hW]; exact (Row.at rfl _ _).alloc _
  have rX : Row W0 (w.heap.size + 1) [.int .i64 x] := by rw [← hW]; exact Row.at (by simp) _ _
  have hB : Below w.heap.size w W0 := by rw [← hW]; exact ((Below.refl w.heap.size w).alloc (Nat.le_refl _) _).alloc (by simp) _
  clear hW
  refine wp_scope_jumps 0 (ClaimJ w (.pointer (some ⟨b, 0, none⟩)) (.int .i64 x) (.pointer (some ⟨w.heap.size, 0, none⟩)) (.pointer (some ⟨w.heap.size + 1, 0, none⟩)) er (er ≠ 0)) (fun _ _ => 0) rfl ?_ ?_
  · have t0 := rT.c 0 rfl
    have HT := Lib.hid (And.intro rT (And.intro rX hB))
    clear rT rX hB
    go_wp2_with fail
    refine (unless_any _ _ _ 1 _).mono ?_
    rintro e W1 ⟨rfl, rB1, rE1, hb⟩
    have HB1 := Lib.hid (HT.out.2.2.trans (hb.mono HT.out.2.2.size))
    have H1 := Lib.hid (And.intro (HT.out.1.after hb) (And.intro (HT.out.2.1.after hb) (And.intro rB1 rE1)))
    generalize W0.heap.size = n1 at *
    clear hb rB1 rE1 t0 HT
    go_wp2_with fail
    refine (unless_any _ _ _ 4 _).mono ?_
    rintro e W2 ⟨rfl, rB2, rE2, hb⟩
    have HB2 := Lib.hid (HB1.out.trans (hb.mono HB1.out.size))
    have H2 := Lib.hid (And.intro (H1.out.1.after hb) (And.intro (H1.out.2.1.after hb) (And.intro (H1.out.2.2.1.after hb) (And.intro (H1.out.2.2.2.after hb) (And.intro rB2 rE2)))))
    generalize W1.heap.size = n2 at *
    clear hb rB2 rE2 H1 HB1
    go_wp2_with fail
    refine (unless_any _ _ _ 210 _).mono ?_
    rintro e W3 ⟨rfl, rB3, rE3, hb⟩
    have HB3 := Lib.hid (HB2.out.trans (hb.mono HB2.out.size))
    have H3 := Lib.hid (And.intro (H2.out.1.after hb) (And.intro (H2.out.2.1.after hb) (And.intro (H2.out.2.2.1.after hb) (And.intro (H2.out.2.2.2.1.after hb) (And.intro (H2.out.2.2.2.2.1.after hb) (And.intro (H2.out.2.2.2.2.2.after hb) (And.intro rB3 rE3)))))))
    generalize W2.heap.size = n3 at *
    clear hb rB3 rE3 H2 HB2
    go_wp2_with fail
    generalize hW : World.alloc _ _ = WF
    have hbF : Below W3.heap.size W3 WF := by rw [← hW]; exact (Below.refl _ _).alloc (Nat.le_refl _) _
    have rS : Row WF W3.heap.size [dbtV n1 (n1 + 1), dbtV n2 (n2 + 1), dbtV n3 (n3 + 1)] := by rw [← hW]; exact Row.at rfl _ _
    clear hW
    have hBF := HB3.out.trans (hbF.mono HB3.out.size)
    obtain ⟨rT, rX, rB1, rE1, rB2, rE2, rB3, rE3⟩ := H3.out
    have hA := H.out.1.after hBF
    have d1 : Doubt WF n1 (n1 + 1) 0 := fun W hW => doubt_m 24 (fun _ _ => by go_simp) _ n1 (n1 + 1) 1 true W ((rB1.after hbF).after hW) ((rE1.after hbF).after hW) ((there_yes (hA.after hW).hp.row).mono fun e w' ⟨h1, h2⟩ => ⟨h1, by rw [h2]; exact Below.refl _ _⟩)
    have d2 : Doubt WF n2 (n2 + 1) _ := fun W hW => doubt_c 31 (fun _ _ => by go_simp) _ n2 (n2 + 1) 4 _ W ((rB2.after hbF).after hW) ((rE2.after hbF).after hW) (claim1_any x (hA.after hW) ((rT.after hbF).after hW) ((rX.after hbF).after hW))
    have d3 : Doubt WF n3 (n3 + 1) _ := fun W hW => doubt_c 33 (fun _ _ => by go_simp) _ n3 (n3 + 1) 210 _ W ((rB3.after hbF).after hW) ((rE3.after hbF).after hW) (claim2_any x H.out.2.2.2.2.2 (hA.after hW) ((rT.after hbF).after hW) ((rX.after hbF).after hW))
    have CF := Lib.hid (show Calls Try.prog 22 _ WF fun en w' => en = .returned (.int .i64 (erClaim many x (tk x))) ∧ Below WF.heap.size WF w' from first_three _ _ _ _ _ _ _ _ _ _ WF rS d1 (fun _ => d2) (fun _ _ => d3))
    rw [HER.out] at CF
    have H4 := Lib.hid (And.intro hBF (And.intro (rT.after hbF) (rX.after hbF)))
    clear d1 d2 d3 rS hbF hBF hA rT rX rB1 rE1 rB2 rE2 rB3 rE3 H3 HB3
    refine CF.out.mono ?_
    rintro e W4 ⟨rfl, hb⟩
    have hB4 := H4.out.1.trans (hb.mono H4.out.1.size)
    have hRT := Lib.hid (And.intro (H4.out.2.1.after hb) (H4.out.2.2.after hb))
    have t0 := hRT.out.1.c 0 rfl
    have x0 := hRT.out.2.c 0 rfl
    have HB4 := Lib.hid hB4
    clear hb hB4 CF H4
    by_cases hr : er = 0
    · subst hr
      have hgood : (0 ≤ x ∧ x < (many : Int)) ∧ x ∉ L := by
        rcases HC.out with ⟨_, h2⟩ | ⟨_, _, h2⟩ | ⟨h1, h2, _⟩
        · exact absurd h2 (by decide)
        · exact absurd h2 (by decide)
        · exact ⟨h1, h2⟩
      have HG := Lib.hid hgood
      have CR := Lib.hid (reach_any (L := L) x (H.out.1.after HB4.out) H.out.2.1 hgood.1.2 H.out.2.2.2.1 (Nat.le_trans H.out.2.2.2.2.1 HB4.out.size))
      clear hgood
      go_wp2_with fail
      refine CR.out.mono ?_
      rintro e W5 ⟨rfl, A2, c2, hs2, hR⟩
      have hlt := (ArS.lt (L := L) ⟨⟨mark, top, c, hs, D, tk, H.out.1, H.out.2.1, H.out.2.2.1⟩, H.out.2.2.2.1⟩)
      have hnF : ∀ k, w.heap.size ≤ k → ¬ (k = b ∨ ownB A = some k) := fun k hk q => by
        rcases q with q | q
        · omega
        · have := hlt.2.2 k q; omega
      have rT5 := hRT.out.1.only hR.only (hnF _ (Nat.le_refl _))
      have rX5 := hRT.out.2.only hR.only (hnF _ (by omega))
      have t5 := rT5.c 0 rfl
      have x5 := rX5.c 0 rfl
      have CH := Lib.hid (hold_any x true hR.mem ⟨HG.out.1.1, by have := HG.out.1.2; have := H.out.2.2.2.1; omega⟩ (by rw [H.out.2.2.1]; have := H.out.2.1.len; have := H.out.2.2.2.1; omega))
      have HRR := Lib.hid hR
      clear hR hlt hnF rT5 rX5 CR t0 x0
      go_wp2_with fail
      refine CH.out.mono ?_
      rintro e W6 ⟨rfl, hm6, ho6⟩
      have H6 := Lib.hid (And.intro hm6 ho6)
      clear hm6 ho6 CH t5 x5
      go_wp2_with fail
      (try simp only [Exit.jump])
      go_ret
      have hR := HRR.out
      refine ⟨fun q => absurd HG.out.1 q, fun _ q => absurd q HG.out.2, fun _ _ => ⟨A2, rfl, ⟨⟨_, _, c2, hs2, _, _, H6.out.1, hR.inv.claim HG.out.1.1 (by omega) HG.out.2, ?_⟩, H.out.2.2.2.1⟩, ?_, ?_⟩⟩
      · rw [size_put (hR.mem.map.tidy lawK), (hR.mem.is x).1, ins_len, H.out.2.2.1]
        have : tk x = none := Decidable.byContradiction fun q => HG.out.2 ((H.out.2.1.mem x).2 q)
        rw [this]; rfl
      · exact ((Only.of HB4.out).next hR.only (fun k _ q => by rcases q with q | q; exact .inl q; exact .inr (.inr q))).next H6.out.2 (fun k _ q => by rcases q with q | q; exact .inl q; exact .inr (.inl q))
      · exact fun g hg => by
          rcases hR.loc g hg with e | e
          · exact .inl e
          · exact .inr (Nat.le_trans HB4.out.size e)
    · have hr' : (er == 0) = false := by simpa using hr
      have hr2 := Lib.hid hr
      clear hr
      go_wp2_with fail
      go_step3
      exact ⟨rfl, hr2.out, _, _, _, _, _, _, _, _, _, _, _, _, _, _, _, _, _, _, _, rfl, HB4.out⟩
  · rintro a W ⟨hr, v6, v7, v8, v9, v10, v11, v12, v13, v14, v15, v16, v17, v18, v19, v20, v21, v22, v23, v24, rfl, hb⟩
    have HB := Lib.hid hb
    have HR := Lib.hid hr
    clear hb hr
    go_wp2_with fail
    (try simp only [Exit.jump])
    go_ret
    refine ⟨fun q => ⟨?_, HB.out⟩, fun q1 q2 => ⟨?_, HB.out⟩, fun q1 q2 => ?_⟩
    · rcases HC.out with ⟨_, h2⟩ | ⟨h1, _, _⟩ | ⟨h1, _, _⟩
      · rw [h2]; rfl
      · exact absurd h1 q
      · exact absurd h1 q
    · rcases HC.out with ⟨h1, h2⟩ | ⟨_, _, h2⟩ | ⟨_, h1, _⟩
      · exact absurd q1 h1
      · rw [h2]; rfl
      · exact absurd q2 h1
    · rcases HC.out with ⟨h1, h2⟩ | ⟨_, h1, _⟩ | ⟨_, _, h2⟩
      · exact absurd q1 h1
      · exact absurd h1 q2
      · exact absurd h2 HR.out
/-- What Give tells. -/
def erGive (many : Nat) (x : Int) (o : Option Bool) : Int := if (0 : Int) = 0 then (if (if (decide (0 ≤ x) && decide (x < (many : Int))) = true then (0 : Int) else 4) = 0 then (if (o.isSome) = true then (0 : Int) else 5) else (if (decide (0 ≤ x) && decide (x < (many : Int))) = true then (0 : Int) else 4)) else 0
/-- The frame at which Give leaves with an error. -/
def GiveJ (w : World) (p x q r : Value) (e : Int) (P : Prop) (a : Act) (W : World) : Prop := P ∧ ∃ v6 v7 v8 v9 v10 v11 v12 v13 v14 v15 v16 v17 v18 v19 v20, a = { tmps := #[p, x, q, r, .int .i64 0, .int .i64 e, v6, v7, v8, v9, v10, v11, v12, v13, v14, v15, v16, v17, v18, v19, v20], defers := [] } ∧ Below w.heap.size w W
set_option maxRecDepth 1000000 in
set_option maxHeartbeats 16000000 in
theorem give_any {w : World} {base b many m : Nat} {A : Option Addr} {L : List Int} (x : Int) (h : ArS w base b many L m A) (hbase : base ≤ w.heap.size) (hwf : (Lit.int .i64 x).wf = true) :
    Calls Try.prog 13 #[.pointer (some ⟨b, 0, none⟩), .int .i64 x] w fun e w' =>
      (¬ (0 ≤ x ∧ x < many) → e = .returned (.int .i64 4) ∧ Below w.heap.size w w') ∧
      ((0 ≤ x ∧ x < many) → x ∉ L → e = .returned (.int .i64 5) ∧ Below w.heap.size w w') ∧
      ((0 ≤ x ∧ x < many) → x ∈ L → ∃ A', e = .returned (.int .i64 0) ∧ ArS w' base b many (delR x L) m A' ∧ Only (foot b m A) w w' ∧ LocA w A A') := by
  obtain ⟨⟨mark, top, c, hs, D, tk, hmem, hinv, hsz⟩, hm⟩ := h
  have hmf : ∀ (fn : Fn) (first cap : Array Value) (w : World), (Instr.makeFunc fn first cap).run Try.prog w = .ok (.func fn first cap) w := fun _ _ _ _ => rfl
  have H := Lib.hid (And.intro hmem (And.intro hinv (And.intro hsz (And.intro hm (And.intro hbase hwf)))))
  obtain ⟨er, her⟩ : ∃ er : Int, erGive many x (tk x) = er := ⟨_, rfl⟩
  have hcase : (¬ (0 ≤ x ∧ x < (many : Int)) ∧ er = 4) ∨ ((0 ≤ x ∧ x < (many : Int)) ∧ x ∉ L ∧ er = 5) ∨ ((0 ≤ x ∧ x < (many : Int)) ∧ x ∈ L ∧ er = 0) := by
    subst her
    unfold erGive
    have hmm := hinv.mem x
    by_cases h1 : 0 ≤ x ∧ x < (many : Int)
    · rw [if_pos rfl, show (decide (0 ≤ x) && decide (x < (many : Int))) = true by simp [h1], if_pos rfl, if_pos rfl]
      cases ht : tk x with
      | none => exact .inr (.inl ⟨h1, fun q => (hmm.1 q) ht, rfl⟩)
      | some v => exact .inr (.inr ⟨h1, hmm.2 (by rw [ht]; simp), rfl⟩)
    · rw [if_pos rfl, show (decide (0 ≤ x) && decide (x < (many : Int))) = false by rw [← Bool.decide_and]; exact decide_eq_false h1, if_neg (by decide), if_neg (by decide)]
      exact .inl ⟨h1, rfl⟩
  have HC := Lib.hid hcase
  have HER := Lib.hid her
  clear hmem hinv hsz hm hbase hwf hcase her
  go_enter Try.func13, Try.ntmps13
  go_wp2_with fail
  generalize hW : World.alloc _ _ = W0
  have rT : Row W0 w.heap.size [.pointer (some ⟨b, 0, none⟩)] := by rw [← hW]; exact (Row.at rfl _ _).alloc _
  have rX : Row W0 (w.heap.size + 1) [.int .i64 x] := by rw [← hW]; exact Row.at (by simp) _ _
  have hB : Below w.heap.size w W0 := by rw [← hW]; exact ((Below.refl w.heap.size w).alloc (Nat.le_refl _) _).alloc (by simp) _
  clear hW
  refine wp_scope_jumps 0 (GiveJ w (.pointer (some ⟨b, 0, none⟩)) (.int .i64 x) (.pointer (some ⟨w.heap.size, 0, none⟩)) (.pointer (some ⟨w.heap.size + 1, 0, none⟩)) er (er ≠ 0)) (fun _ _ => 0) rfl ?_ ?_
  · have t0 := rT.c 0 rfl
    have HT := Lib.hid (And.intro rT (And.intro rX hB))
    clear rT rX hB
    go_wp2_with fail
    refine (unless_any _ _ _ 1 _).mono ?_
    rintro e W1 ⟨rfl, rB1, rE1, hb⟩
    have HB1 := Lib.hid (HT.out.2.2.trans (hb.mono HT.out.2.2.size))
    have H1 := Lib.hid (And.intro (HT.out.1.after hb) (And.intro (HT.out.2.1.after hb) (And.intro rB1 rE1)))
    generalize W0.heap.size = n1 at *
    clear hb rB1 rE1 t0 HT
    go_wp2_with fail
    refine (unless_any _ _ _ 4 _).mono ?_
    rintro e W2 ⟨rfl, rB2, rE2, hb⟩
    have HB2 := Lib.hid (HB1.out.trans (hb.mono HB1.out.size))
    have H2 := Lib.hid (And.intro (H1.out.1.after hb) (And.intro (H1.out.2.1.after hb) (And.intro (H1.out.2.2.1.after hb) (And.intro (H1.out.2.2.2.after hb) (And.intro rB2 rE2)))))
    generalize W1.heap.size = n2 at *
    clear hb rB2 rE2 H1 HB1
    go_wp2_with fail
    refine (unless_any _ _ _ 5 _).mono ?_
    rintro e W3 ⟨rfl, rB3, rE3, hb⟩
    have HB3 := Lib.hid (HB2.out.trans (hb.mono HB2.out.size))
    have H3 := Lib.hid (And.intro (H2.out.1.after hb) (And.intro (H2.out.2.1.after hb) (And.intro (H2.out.2.2.1.after hb) (And.intro (H2.out.2.2.2.1.after hb) (And.intro (H2.out.2.2.2.2.1.after hb) (And.intro (H2.out.2.2.2.2.2.after hb) (And.intro rB3 rE3)))))))
    generalize W2.heap.size = n3 at *
    clear hb rB3 rE3 H2 HB2
    go_wp2_with fail
    generalize hW : World.alloc _ _ = WF
    have hbF : Below W3.heap.size W3 WF := by rw [← hW]; exact (Below.refl _ _).alloc (Nat.le_refl _) _
    have rS : Row WF W3.heap.size [dbtV n1 (n1 + 1), dbtV n2 (n2 + 1), dbtV n3 (n3 + 1)] := by rw [← hW]; exact Row.at rfl _ _
    clear hW
    have hBF := HB3.out.trans (hbF.mono HB3.out.size)
    obtain ⟨rT, rX, rB1, rE1, rB2, rE2, rB3, rE3⟩ := H3.out
    have hA := H.out.1.after hBF
    have d1 : Doubt WF n1 (n1 + 1) 0 := fun W hW => doubt_m 24 (fun _ _ => by go_simp) _ n1 (n1 + 1) 1 true W ((rB1.after hbF).after hW) ((rE1.after hbF).after hW) ((there_yes (hA.after hW).hp.row).mono fun e w' ⟨h1, h2⟩ => ⟨h1, by rw [h2]; exact Below.refl _ _⟩)
    have d2 : Doubt WF n2 (n2 + 1) _ := fun W hW => doubt_c 35 (fun _ _ => by go_simp) _ n2 (n2 + 1) 4 _ W ((rB2.after hbF).after hW) ((rE2.after hbF).after hW) (give1_any x (hA.after hW) ((rT.after hbF).after hW) ((rX.after hbF).after hW))
    have d3 : Doubt WF n3 (n3 + 1) _ := fun W hW => doubt_c 36 (fun _ _ => by go_simp) _ n3 (n3 + 1) 5 _ W ((rB3.after hbF).after hW) ((rE3.after hbF).after hW) (give2_any x H.out.2.2.2.2.2 (hA.after hW) ((rT.after hbF).after hW) ((rX.after hbF).after hW))
    have CF := Lib.hid (show Calls Try.prog 22 _ WF fun en w' => en = .returned (.int .i64 (erGive many x (tk x))) ∧ Below WF.heap.size WF w' from first_three _ _ _ _ _ _ _ _ _ _ WF rS d1 (fun _ => d2) (fun _ _ => d3))
    rw [HER.out] at CF
    have H4 := Lib.hid (And.intro hBF (And.intro (rT.after hbF) (rX.after hbF)))
    clear d1 d2 d3 rS hbF hBF hA rT rX rB1 rE1 rB2 rE2 rB3 rE3 H3 HB3
    refine CF.out.mono ?_
    rintro e W4 ⟨rfl, hb⟩
    have hB4 := H4.out.1.trans (hb.mono H4.out.1.size)
    have hRT := Lib.hid (And.intro (H4.out.2.1.after hb) (H4.out.2.2.after hb))
    have t0 := hRT.out.1.c 0 rfl
    have x0 := hRT.out.2.c 0 rfl
    have HB4 := Lib.hid hB4
    clear hb hB4 CF H4
    by_cases hr : er = 0
    · subst hr
      have hgood : (0 ≤ x ∧ x < (many : Int)) ∧ x ∈ L := by
        rcases HC.out with ⟨_, h2⟩ | ⟨_, _, h2⟩ | ⟨h1, h2, _⟩
        · exact absurd h2 (by decide)
        · exact absurd h2 (by decide)
        · exact ⟨h1, h2⟩
      have HG := Lib.hid hgood
      have CR := Lib.hid (free_any (L := L) x (H.out.1.after HB4.out) H.out.2.1 H.out.2.2.1 hgood.2 H.out.2.2.2.1 (Nat.le_trans H.out.2.2.2.2.1 HB4.out.size))
      clear hgood
      go_wp2_with fail
      refine CR.out.mono ?_
      rintro e W5 ⟨rfl, A2, c2, hs2, D2, hm2, hi2, hs3, ho2, hl2⟩
      have H6 := Lib.hid (And.intro hm2 (And.intro hi2 (And.intro hs3 (And.intro ho2 hl2))))
      clear hm2 hi2 hs3 ho2 hl2 CR t0 x0
      go_wp2_with fail
      (try simp only [Exit.jump])
      go_ret
      obtain ⟨hm2, hi2, hs3, ho2, hl2⟩ := H6.out
      exact ⟨fun q => absurd HG.out.1 q, fun _ q => absurd HG.out.2 q, fun _ _ => ⟨A2, rfl, ⟨⟨_, _, c2, hs2, _, _, hm2, hi2, hs3⟩, H.out.2.2.2.1⟩, (Only.of HB4.out).next ho2 (fun k _ q => q), fun g hg => by
        rcases hl2 g hg with e | e
        · exact .inl e
        · exact .inr (Nat.le_trans HB4.out.size e)⟩⟩
    · have hr' : (er == 0) = false := by simpa using hr
      have hr2 := Lib.hid hr
      clear hr
      go_wp2_with fail
      go_step3
      exact ⟨rfl, hr2.out, _, _, _, _, _, _, _, _, _, _, _, _, _, _, _, rfl, HB4.out⟩
  · rintro a W ⟨hr, v6, v7, v8, v9, v10, v11, v12, v13, v14, v15, v16, v17, v18, v19, v20, rfl, hb⟩
    have HB := Lib.hid hb
    have HR := Lib.hid hr
    clear hb hr
    go_wp2_with fail
    (try simp only [Exit.jump])
    go_ret
    refine ⟨fun q => ⟨?_, HB.out⟩, fun q1 q2 => ⟨?_, HB.out⟩, fun q1 q2 => ?_⟩
    · rcases HC.out with ⟨_, h2⟩ | ⟨h1, _, _⟩ | ⟨h1, _, _⟩
      · rw [h2]; rfl
      · exact absurd h1 q
      · exact absurd h1 q
    · rcases HC.out with ⟨h1, h2⟩ | ⟨_, _, h2⟩ | ⟨_, h1, _⟩
      · exact absurd q1 h1
      · rw [h2]; rfl
      · exact absurd h1 q2
    · rcases HC.out with ⟨h1, h2⟩ | ⟨_, h1, _⟩ | ⟨_, _, h2⟩
      · exact absurd q1 h1
      · exact absurd q2 h1
      · exact absurd h2 HR.out
end Go.Proofs.Ytncgjlhmgdgokaa
