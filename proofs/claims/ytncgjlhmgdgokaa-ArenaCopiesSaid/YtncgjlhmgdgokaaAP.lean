/- New; Take of an arena and of none; no condition. -/
import Derived.Test.YtncgjlhmgdgokaaAO
import Derived.ScopeJumps
namespace Go.Proofs.Ytncgjlhmgdgokaa
open Go.RowKit Go.Sort ArenaMath Go.Maps

/-- Block b is an arena of so many places, of which these are taken; its map lies in block m, its heap's line at A. -/
def ArS (w : World) (base b many : Nat) (L : List Int) (m : Nat) (A : Option Addr) : Prop :=
  (∃ (mark top : Int) (c : Nat) (hs : List Int) (D : DataW Unit) (tk : Int → Option Bool), ArMem w base b many mark top A c hs m D tk ∧ AInv many mark top hs tk L ∧ Maps.size D = L.length) ∧ many ≤ 65536
/-- Its line lies where it lay, or in a block that is new. -/
def LocA (w : World) (A A' : Option Addr) : Prop := ∀ g, ownB A' = some g → ownB A = some g ∨ w.heap.size ≤ g
theorem LocA.refl (w : World) (A : Option Addr) : LocA w A A := fun _ h => .inl h
section
variable {w w' : World} {base b many m : Nat} {L : List Int} {A : Option Addr}
theorem ArS.only {F : Nat → Prop} (h : ArS w base b many L m A) (ho : Only F w w') (hF : ∀ k, foot b m A k → ¬ F k) : ArS w' base b many L m A := by
  obtain ⟨⟨mark, top, c, hs, D, tk, h1, h2⟩, h3⟩ := h
  exact ⟨⟨mark, top, c, hs, D, tk, h1.only ho hF, h2⟩, h3⟩
theorem ArS.after (h : ArS w base b many L m A) (hb : Below w.heap.size w w') : ArS w' base b many L m A := h.only (F := fun _ => False) (Only.of hb) (fun _ _ q => q)
theorem ArS.lt (h : ArS w base b many L m A) : b < w.heap.size ∧ m < w.heap.size ∧ ∀ g, ownB A = some g → g < w.heap.size := by
  obtain ⟨⟨mark, top, c, hs, D, tk, h1, h2⟩, h3⟩ := h
  refine ⟨h1.hp.row.lt, h1.map.lt, fun g hg => ?_⟩
  rcases h1.hp.line.form with ⟨e, _⟩ | ⟨g', e, _, hl⟩
  · rw [e] at hg; cases hg
  · rw [e] at hg; cases hg; exact hl
end
theorem take1_any {w : World} {base b many c m T : Nat} {mark top : Int} {A : Option Addr} {hs : List Int} {D : DataW Unit} {tk : Int → Option Bool} (h : ArMem w base b many mark top A c hs m D tk) (hT : Row w T [.pointer (some ⟨b, 0, none⟩)]) :
    Calls Try.prog 25 #[.pointer (some ⟨T, 0, none⟩)] w fun e w' => e = .returned (.bool (decide (Maps.size D < many))) ∧ Below w.heap.size w w' := by
  have h2 := h.hp.row.c 2 rfl
  have t0 := hT.c 0 rfl
  have CL := Lib.hid (fun k => len_any (w := w.drewN k) ⟨⟨h.hp.row.drewN _, h.hp.line.drewN _, h.hp.far⟩, h.map, h.is, h.base⟩)
  clear h hT
  obtain ⟨r, hr⟩ : ∃ r, decide (Maps.size D < many) = r := ⟨_, rfl⟩
  rw [hr]
  go_enter Try.func25, Try.ntmps25
  go_wp2_with fail
  go_quiet ((go_at_call 15; exact Calls.quiet_of_same (CL.out _)))
  go_wp2_with fail
  go_ret
  exact ⟨rfl, below_drewN (Below.refl _ _) _⟩
/-- The frame at which Take leaves with an error. -/
def TakeJ (w : World) (p q : Value) (e : Int) (P : Prop) (a : Act) (W : World) : Prop := P ∧ ∃ v4 v5 v6 v7 v8 v9 v10 v11 v12 v13 v14 v15 v16 v17 v18 v19 v20, a = { tmps := #[p, q, .int .i64 0, .int .i64 e, v4, v5, v6, v7, v8, v9, v10, v11, v12, v13, v14, v15, v16, v17, v18, v19, v20], defers := [] } ∧ Below w.heap.size w W
set_option maxRecDepth 1000000 in
set_option maxHeartbeats 16000000 in
theorem take_any {w : World} {base b many m : Nat} {A : Option Addr} {L : List Int} (h : ArS w base b many L m A) (hbase : base ≤ w.heap.size) :
    Calls Try.prog 9 #[.pointer (some ⟨b, 0, none⟩)] w fun e w' =>
      (L.length < many → ∃ x A', e = .returned (.tuple #[.int .i64 x, .int .i64 0]) ∧ LeastFree many L x ∧ ArS w' base b many (insR x L) m A' ∧ Only (foot b m A) w w' ∧ LocA w A A') ∧
      (¬ L.length < many → e = .returned (.tuple #[.int .i64 0, .int .i64 210]) ∧ Below w.heap.size w w') := by
  obtain ⟨⟨mark, top, c, hs, D, tk, hmem, hinv, hsz⟩, hm⟩ := h
  have hmf : ∀ (fn : Fn) (first cap : Array Value) (w : World), (Instr.makeFunc fn first cap).run Try.prog w = .ok (.func fn first cap) w := fun _ _ _ _ => rfl
  have H := Lib.hid (And.intro hmem (And.intro hinv (And.intro hsz (And.intro hm hbase))))
  clear hmem hinv hsz hm hbase
  go_enter Try.func9, Try.ntmps9
  go_wp2_with fail
  generalize hW : World.alloc _ _ = W0
  have rT : Row W0 w.heap.size [.pointer (some ⟨b, 0, none⟩)] := by rw [← hW]; exact Row.at rfl _ _
  have hB : Below w.heap.size w W0 := by rw [← hW]; exact (Below.refl w.heap.size w).alloc (Nat.le_refl _) _
  clear hW
  refine wp_scope_jumps 0 (TakeJ w (.pointer (some ⟨b, 0, none⟩)) (.pointer (some ⟨w.heap.size, 0, none⟩)) 210 (¬ L.length < many)) (fun _ _ => 0) rfl ?_ ?_
  · have t0 := rT.c 0 rfl
    have HT := Lib.hid (And.intro rT hB)
    clear rT hB
    go_wp2_with fail
    refine (unless_any _ _ _ 1 _).mono ?_
    rintro e W1 ⟨rfl, rB1, rE1, hb⟩
    have HB1 := Lib.hid (HT.out.2.trans (hb.mono HT.out.2.size))
    have H1 := Lib.hid (And.intro (HT.out.1.after hb) (And.intro rB1 rE1))
    generalize W0.heap.size = n1 at *
    clear hb rB1 rE1 t0
    go_wp2_with fail
    refine (unless_any _ _ _ 210 _).mono ?_
    rintro e W2 ⟨rfl, rB2, rE2, hb⟩
    have HB2 := Lib.hid (HB1.out.trans (hb.mono HB1.out.size))
    have H2 := Lib.hid (And.intro (H1.out.1.after hb) (And.intro (H1.out.2.1.after hb) (And.intro (H1.out.2.2.after hb) (And.intro rB2 rE2))))
    generalize W1.heap.size = n2 at *
    clear hb rB2 rE2 HT H1 HB1
    go_wp2_with fail
    generalize hW : World.alloc _ _ = W3
    have hb3 : Below W2.heap.size W2 W3 := by rw [← hW]; exact (Below.refl _ _).alloc (Nat.le_refl _) _
    have rS : Row W3 W2.heap.size [dbtV n1 (n1 + 1), dbtV n2 (n2 + 1)] := by rw [← hW]; exact Row.at rfl _ _
    clear hW
    have hB3 := HB2.out.trans (hb3.mono HB2.out.size)
    have hA3 := H.out.1.after hB3
    obtain ⟨rT, rB1, rE1, rB2, rE2⟩ := H2.out
    have d1 : Doubt W3 n1 (n1 + 1) 0 := fun W hW => doubt_m 24 (fun _ _ => by go_simp) _ n1 (n1 + 1) 1 true W ((rB1.after hb3).after hW) ((rE1.after hb3).after hW) ((there_yes (hA3.after hW).hp.row).mono fun e w' ⟨h1, h2⟩ => ⟨h1, by rw [h2]; exact Below.refl _ _⟩)
    have d2 : Doubt W3 n2 (n2 + 1) (if decide (Maps.size D < many) = true then 0 else 210) := fun W hW => doubt_c 25 (fun _ _ => by go_simp) _ n2 (n2 + 1) 210 _ W ((rB2.after hb3).after hW) ((rE2.after hb3).after hW) (take1_any (hA3.after hW) ((rT.after hb3).after hW))
    have CF := Lib.hid (first_two _ _ _ _ _ _ _ W3 rS d1 (fun _ => d2))
    have H3 := Lib.hid (And.intro hB3 (rT.after hb3))
    clear d1 d2 rS hb3 hB3 hA3 rT rB1 rE1 rB2 rE2 H2 HB2
    refine CF.out.mono ?_
    rintro e W4 ⟨rfl, hb⟩
    rw [if_pos rfl]
    have hB4 := H3.out.1.trans (hb.mono H3.out.1.size)
    have hRT := Lib.hid (H3.out.2.after hb)
    have t0 := hRT.out.c 0 rfl
    have HB4 := Lib.hid hB4
    clear hb hB4 CF H3
    by_cases hL : L.length < many
    · have e0 : (if decide (Maps.size D < many) = true then (0 : Int) else 210) = 0 := by rw [if_pos (by rw [H.out.2.2.1]; exact decide_eq_true hL)]
      rw [e0]
      have HL := Lib.hid hL
      clear hL e0
      have CL := Lib.hid (leastFree_any (H.out.1.after HB4.out) H.out.2.1 H.out.2.2.1 HL.out H.out.2.2.2.1 (Nat.le_trans H.out.2.2.2.2 HB4.out.size))
      go_wp2_with fail
      refine CL.out.mono ?_
      rintro e W5 ⟨x, mark', A', c', hs', D', tk', rfl, hlf, hmem, hbut, hsz, ho, hloc⟩
      have HLF := Lib.hid (And.intro hlf (And.intro hmem (And.intro hbut (And.intro hsz (And.intro ho hloc)))))
      have CH := Lib.hid (hold_any x false hmem ⟨hlf.1, by have := hlf.2.1; have := H.out.2.2.2.1; omega⟩ (by rw [hsz]; have := H.out.2.1.len; have := H.out.2.2.2.1; omega))
      have hT5 : W5.cell? ⟨w.heap.size, 0, none⟩ = some (.pointer (some ⟨b, 0, none⟩)) := by
        have hlt := (ArS.lt (L := L) ⟨⟨mark, top, c, hs, D, tk, H.out.1, H.out.2.1, H.out.2.2.1⟩, H.out.2.2.2.1⟩)
        have hr := hRT.out
        exact (hr.only ho (by rintro (e | e | e); omega; omega; exact absurd (hlt.2.2 _ e) (by omega))).c 0 rfl
      clear hlf hmem hbut hsz ho hloc t0 CL
      go_wp2_with fail
      refine CH.out.mono ?_
      rintro e W6 ⟨rfl, hm6, ho6⟩
      have H6 := Lib.hid (And.intro hm6 ho6)
      clear hm6 ho6 CH hT5
      go_wp2_with fail
      (try simp only [Exit.jump])
      go_ret2
      obtain ⟨hlf, hmem, hbut, hsz, ho, hloc⟩ := HLF.out
      refine ⟨fun _ => ⟨x, A', rfl, hlf, ⟨⟨mark', max top (x + 1), c', hs', _, _, H6.out.1, hbut.hold, ?_⟩, H.out.2.2.2.1⟩, ?_, ?_⟩, fun q => absurd HL.out q⟩
      · rw [size_put (hmem.map.tidy lawK), (hmem.is x).1, ins_len, hsz]
        have : tk' x = none := Decidable.byContradiction fun q => hbut.free.2.2 ((hbut.mem x).2 q)
        rw [this]; rfl
      · exact ((Only.of HB4.out).next ho (fun k _ q => q)).next H6.out.2 (fun k _ q => by rcases q with q | q; exact .inl q; exact .inr (.inl q))
      · exact fun g hg => by
          rcases hloc g hg with e | e
          · exact .inl e
          · exact .inr (Nat.le_trans HB4.out.size e)
    · have e0 : (if decide (Maps.size D < many) = true then (0 : Int) else 210) = 210 := by rw [if_neg (by rw [H.out.2.2.1]; simpa using hL)]
      rw [e0]
      clear e0
      go_wp2_with fail
      go_step3
      exact ⟨rfl, hL, _, _, _, _, _, _, _, _, _, _, _, _, _, _, _, _, _, rfl, HB4.out⟩
  · rintro a W ⟨hL, v4, v5, v6, v7, v8, v9, v10, v11, v12, v13, v14, v15, v16, v17, v18, v19, v20, rfl, hb⟩
    have HB := Lib.hid hb
    have HL := Lib.hid hL
    clear hb hL
    go_wp2_with fail
    (try simp only [Exit.jump])
    go_ret2
    exact ⟨fun q => absurd q HL.out, fun _ => ⟨rfl, HB.out⟩⟩
end Go.Proofs.Ytncgjlhmgdgokaa
