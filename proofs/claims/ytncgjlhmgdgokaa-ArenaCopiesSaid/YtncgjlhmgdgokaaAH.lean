/- The heap's pull: the least one, and what is left, a heap; no condition. -/
import Derived.Test.YtncgjlhmgdgokaaAG
namespace Go.Proofs.Ytncgjlhmgdgokaa
open Go.RowKit Go.Sort ArenaMath

/-- The state of pull's loop. -/
structure PullS (W0 : World) (base b : Nat) (rest : List Value) (g c m : Nat) (l0 : List Int) (l : List Int) (i : Nat) (wr : World) : Prop where
  hp : HpAt wr base b rest (some ⟨g, 0, none⟩) c l
  only : Only (fun k => k = g) W0 wr
  perm : l.Perm l0
  len : l.length = m
  ok : DownOk l i
  lt : i < m ∨ i = 0
set_option maxRecDepth 1000000 in
set_option maxHeartbeats 16000000 in
theorem pull_any {w : World} {base b c : Nat} {rest : List Value} {A : Option Addr} {l : List Int} (h : HpAt w base b rest A c l) (hh : Heap l) (h0 : 0 < l.length) (hl : l.length < 500000000) :
    Calls Try.prog 47 #[.pointer (some ⟨b, 0, none⟩)] w fun e w' => e = .returned (.int .i64 (gt l 0)) ∧ ∃ l', l.Perm (gt l 0 :: l') ∧ Heap l' ∧ HpTurn w base b rest A l' w' := by
  obtain ⟨g, hA, _⟩ := h.some h0
  subst hA
  have y0 := h.row.c 0 rfl
  have ci := h.cell rfl h0
  obtain ⟨m, hm⟩ : ∃ m, l.length = m + 1 := ⟨l.length - 1, by omega⟩
  obtain ⟨x0, hx0⟩ : ∃ x, gt l 0 = x := ⟨_, rfl⟩
  rw [hx0] at ci ⊢
  rw [hm] at y0
  have e1 : IntKind.i64.wrap (((m + 1 : Nat) : Int) - 1) = (m : Int) := (IntWalk.i64_in _ (by omega)).trans (by omega)
  have e2 : IntKind.i64.wrap ((m : Int) + 1 - 1) = (m : Int) := (IntWalk.i64_in _ (by omega)).trans (by omega)
  have e3 : wrap64 (m : Int) = m := wr64 (by omega) (by omega)
  have i1 : (0 : Int) < (m : Int) + 1 := by omega
  have i2 : (0 : Int) ≤ (m : Int) := by omega
  have i3 : (m : Int) ≤ (c : Int) := by have := h.line.le_cap; omega
  have i4 : (m : Int).toNat = m := by omega
  have H := Lib.hid (And.intro h (And.intro hh (And.intro hm (And.intro hx0 hl))))
  clear h hh hm hx0 h0 hl
  go_enter Try.func47, Try.ntmps47
  go_wp2_with fail
  go_quiet (fail)
  go_wp2_with fail
  have CS := Lib.hid (swap_any (w := w.drewN nq) (base := base) (b := b) (c := c) (rest := rest) (A := some ⟨g, 0, none⟩) (l := l) ⟨H.out.1.row.drewN _, H.out.1.line.drewN _, H.out.1.far⟩ 0 m (by have := H.out.2.2.1; omega) (by have := H.out.2.2.1; omega))
  refine CS.out.mono ?_
  rintro e w1 ⟨rfl, h1, o1⟩
  clear y0 ci
  have y0 := h1.row.c 0 rfl
  have f0 := h1.row.f 0 rfl
  rw [sw_len, H.out.2.2.1] at y0
  go_wp2_with fail
  obtain ⟨h, hh, hm, hx0, hl⟩ := H.out
  have hA2 : HpAt (w1.setCell ⟨b, 0, none⟩ (.slice (some ⟨g, 0, none⟩) m c)) base b rest (some ⟨g, 0, none⟩) c (cutL l) := by
    have hlen : (cutL l).length = m := by rw [cut_len]; omega
    have hcut : cutL l = (sw l 0 m).take m := by unfold cutL; rw [hm]; rfl
    refine ⟨?_, ?_, h.far⟩
    · rw [hlen]; simpa using h1.row.set 0 (by simp) (.slice (some ⟨g, 0, none⟩) m c)
    · rw [hlen, hcut, intCs_take]
      exact (h1.line.fewer m (by rw [sw_len]; omega)).put (fun g' hg' => h.far g' hg') _
  have oW : Only (fun k => k = b ∨ ownB (some ⟨g, 0, none⟩) = some k) w (w1.setCell ⟨b, 0, none⟩ (.slice (some ⟨g, 0, none⟩) m c)) :=
    ((Only.of (below_drewN (Below.refl _ w) nq)).next o1 (fun k _ hk => .inr hk)).put (p := ⟨b, 0, none⟩) (.inl (.inl rfl)) _
  generalize w1.setCell ⟨b, 0, none⟩ (.slice (some ⟨g, 0, none⟩) m c) = W2 at hA2 oW ⊢
  have HO := Lib.hid oW
  have HA2 := Lib.hid hA2
  have hdn := cut_down hh (by omega)
  have hcp := cut_perm (l := l) (by omega)
  rw [hx0] at hcp
  have hcl : (cutL l).length = m := by rw [cut_len]; omega
  have HF := Lib.hid (And.intro hdn (And.intro hcp (And.intro hcl (And.intro h.far (And.intro hl hm)))))
  have CL := Lib.hid (least_any hA2 0 (by omega))
  clear h hh hm hx0 hl hA2 oW hdn hcp hcl h1 o1 y0 f0 CS H e1 e2 e3 i1 i2 i3 i4
  refine CL.out.mono ?_
  rintro e W3 ⟨rfl, hb⟩
  have HS0 : Hid (PullS W2 base b rest g c m (cutL l) (cutL l) 0 W3) := by
    obtain ⟨hdn, hcp, hcl, hfar, hl, hm⟩ := HF.out
    have oo := Only.of (F := fun k => k = g) hb
    exact Lib.hid ⟨⟨HA2.out.row.after hb, HA2.out.line.after hb, HA2.out.far⟩, oo, List.Perm.refl _, hcl, hdn, .inr rfl⟩
  clear hb CL HA2
  go_wp2_with fail
  go_loopw [5, 6] (fun a n wr => ∃ (i : Nat) (lc : List Int), a = .int .i64 i ∧ n = .int .i64 (leastL lc i : Nat) ∧ Hid (PullS W2 base b rest g c m (cutL l) lc i wr)) (fun a _ _ => m - (intOf a).toNat)
  case atStart => exact ⟨0, cutL l, rfl, rfl, HS0⟩
  case round =>
    obtain ⟨i, lc, rfl, rfl, HS⟩ := hrel
    clear HS0
    have hsp := leastL_spec lc i
    obtain ⟨q, hq⟩ : ∃ q, leastL lc i = q := ⟨_, rfl⟩
    rw [hq] at hsp ⊢
    have HSP := Lib.hid hsp
    have HQ := Lib.hid hq
    clear hsp hq
    by_cases e : q = i
    · subst e
      go_wp2_with fail
      go_ret
      have hP := HS.out
      obtain ⟨hdn, hcp, hcl, hfar, hl, hm⟩ := HF.out
      exact ⟨rfl, lc, hcp.trans (hP.perm.symm.cons _), down_done hP.ok HSP.out.2, some ⟨g, 0, none⟩, c, hP.hp, HO.out.next hP.only (fun k _ hk => .inr (by rw [hk]; rfl)), fun g' hg' => .inl hg'⟩
    · have hne : (q == i) = false := by simpa using e
      have hne2 : ((q : Int) == (i : Int)) = false := beq_eq_false_iff_ne.2 (by omega)
      have hP := HS.out
      have h4 := HSP.out.1.resolve_left e
      have hip : i < lc.length := by have := par_lt h4.1; have := h4.2.2.1; omega
      have CS := Lib.hid (swap_any hP.hp i q hip h4.2.1)
      have hs2 := down_step hP.ok h4.1 h4.2.1 h4.2.2.1 h4.2.2.2 (fun j h0 hj hp => by have := HSP.out.2 j h0 hj hp; exact this)
      have hperm := (sw_perm hip h4.2.1).trans hP.perm
      have HN := Lib.hid (And.intro hs2 (And.intro hperm (And.intro hP.only (And.intro hP.len (And.intro h4.2.1 (And.intro (par_lt h4.1) h4.2.2.1))))))
      clear hs2 hperm hP h4 hip HS HSP e
      go_wp2_with fail
      refine CS.out.mono ?_
      rintro e w4 ⟨rfl, h4, o4⟩
      have H4 := Lib.hid (And.intro h4 o4)
      have CL := Lib.hid (least_any h4 q (by obtain ⟨_, _, _, hl2, hq2, _⟩ := HN.out; obtain ⟨hdn, hcp, hcl, hfar, hl, hm⟩ := HF.out; omega))
      clear h4 o4
      go_wp2_with fail
      refine CL.out.mono ?_
      rintro e w5 ⟨rfl, hb⟩
      have HB5 := Lib.hid hb
      clear hb
      go_wp2_with fail
      go_roundw
      case rel =>
        obtain ⟨hs2, hperm, ho, hlen, hq2, hlt, hpar⟩ := HN.out
        exact ⟨q, sw lc i q, rfl, rfl, Lib.hid ⟨⟨H4.out.1.row.after HB5.out, H4.out.1.line.after HB5.out, H4.out.1.far⟩, (ho.next H4.out.2 (fun k _ hk => (Option.some.inj (show some g = some k from hk)).symm)).trans (Only.of HB5.out), hperm, by rw [sw_len]; exact hlen, hs2, .inl (by omega)⟩⟩
      case measure =>
        obtain ⟨hs2, hperm, ho, hlen, hq2, hlt, hpar⟩ := HN.out
        rw [hpar] at hlt
        simp [intOf]; omega
end Go.Proofs.Ytncgjlhmgdgokaa
