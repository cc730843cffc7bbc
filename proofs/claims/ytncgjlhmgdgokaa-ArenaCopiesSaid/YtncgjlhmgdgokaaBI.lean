/- law11.act of Take; no condition. -/
import Derived.Test.YtncgjlhmgdgokaaBE
import Derived.Test.YtncgjlhmgdgokaaRJ
namespace Go.Proofs.Ytncgjlhmgdgokaa
open Go.RowKit Go.Sort ArenaMath Go.Maps

/-- In the midst of a region whose store is told apart. -/
def TwR (V : World) (B : Nat) (y0 y1 : Value) (_ lf : Bool) (W : World) : Prop := ∃ X, Below V.heap.size V X ∧ W = if lf = true then (X.setCell ⟨B, 0, none⟩ y0).setCell ⟨B, 1, none⟩ y1 else X
/-- What a call by both tells: they stand alike behind it. -/
def ActPost (w : World) (base b many m : Nat) (A A2 : Option Addr) (e : Ending) (w' : World) : Prop :=
  ∃ L' A' A3 n3 c3, e = .returned (.tuple #[.pointer (some ⟨b, 0, none⟩), rv many A3 n3 c3, .bool true]) ∧ ArS w' base b many L' m A' ∧ Only (foot b m A) w w' ∧ LocA w A A' ∧ n3 = L'.length ∧ CellsS w' A3 (intCs L') ∧ (∀ a, A3 = some a → A2 = some a ∨ (w.heap.size ≤ a.block ∧ a.block < w'.heap.size)) ∧ (∀ a, A3 = some a → ¬ foot b m A' a.block)
set_option maxRecDepth 100000 in
set_option maxHeartbeats 8000000 in
theorem act0_any {w : World} {base b many m n c : Nat} {L : List Int} {A A2 : Option Addr} (x : Int) (h : ArS w base b many L m A) (hbase : base ≤ w.heap.size) (hn : n = L.length) (hA : CellsS w A2 (intCs L)) (hfar : ∀ a, A2 = some a → a.block < w.heap.size ∧ ¬ foot b m A a.block) :
    Calls Try.prog 19 #[.pointer (some ⟨b, 0, none⟩), rv many A2 n c, .agg #[.int .i64 0, .int .i64 x]] w (ActPost w base b many m A A2) := by
  have H := Lib.hid (And.intro h (And.intro hbase hfar))
  have hg := h.rng
  have HRT := Lib.hid (fun W (hW : Below w.heap.size w W) => rtake_any many L A2 n c W hn (by omega) hg.1 hg.2.1 (hA.after hW))
  clear h hbase hn hA hfar hg
  unfold rv at *
  go_enter Try.func19, Try.ntmps19
  go_upto_region 1 with fail
  generalize hW : World.alloc _ _ = W0
  have hR4 : Row W0 (w.heap.size) [.int .i64 (many : Nat), .slice A2 n c] := by rw [← hW]; exact ((Row.at rfl [_, _] _).alloc _).alloc _
  have hR5 : Row W0 (w.heap.size + 1) [.int .i64 0, .int .i64 x] := by rw [← hW]; exact (Row.at (by simp) [_, _] _).alloc _
  have hR7 : Row W0 (w.heap.size + 1 + 1) [.int .i64 0, .slice none 0 0] := by rw [← hW]; exact Row.at (by simp) [_, _] _
  have hB0 : Below w.heap.size w W0 := by rw [← hW]; exact (((Below.refl _ _).alloc (Nat.le_refl _) _).alloc (by simp) _).alloc (by simp; omega) _
  clear hW
  have x40 := hR4.c 0 rfl
  have x41 := hR4.c 1 rfl
  have x50 := hR5.c 0 rfl
  go_wp2_with fail
  refine (HRT.out _ hB0).mono ?_
  rintro e W1 ⟨v, h1, h2⟩
  obtain ⟨y, er, L', rfl, hRP, htk⟩ : ∃ (y er : Int) (L' : List Int), e = .returned (.tuple #[v, .int .i64 y, .int .i64 er]) ∧ RP W0 A2 many L' v W1 ∧ (∀ V, ArS V base b many L m A → base ≤ V.heap.size → Calls Try.prog 9 #[.pointer (some ⟨b, 0, none⟩)] V fun e V' => e = .returned (.tuple #[.int .i64 y, .int .i64 er]) ∧ ∃ A', ArS V' base b many L' m A' ∧ Only (foot b m A) V V' ∧ LocA V A A') := by
    by_cases hl : L.length < many
    · obtain ⟨y, rfl, hf, hr⟩ := h1 hl
      refine ⟨y, 0, _, rfl, hr, fun V hV hb => (take_any hV hb).mono ?_⟩
      rintro e V' ⟨g1, _⟩
      obtain ⟨z, A', rfl, hf', g2, g3, g4⟩ := g1 hl
      obtain rfl := leastFree_one hf' hf
      exact ⟨rfl, A', g2, g3, g4⟩
    · obtain ⟨rfl, hr⟩ := h2 hl
      refine ⟨0, 210, _, rfl, hr, fun V hV hb => (take_any hV hb).mono ?_⟩
      rintro e V' ⟨_, g1⟩
      obtain ⟨rfl, g2⟩ := g1 hl
      exact ⟨rfl, A, hV.after g2, Only.of g2, LocA.refl _ _⟩
  obtain ⟨A3, n3, c3, rfl, hn3, hA3, hfr3, hb1⟩ := hRP
  unfold rv
  have HTk := Lib.hid htk
  have hB1 := hB0.trans (hb1.mono hB0.size)
  have hR70 := hR7
  have hR7 := hR7.after hb1
  have hs0 : w.heap.size + 1 + 1 < W0.heap.size := hR70.lt
  have HQ := Lib.hid (And.intro hn3 (And.intro hA3 (And.intro hfr3 hs0)))
  clear h1 h2 htk hR70 hR4 hR5 x40 x41 x50 hb1 hB0 hn3 hA3 hfr3 hs0 HRT
  go_upto_region 4 with fail
  generalize hW : World.alloc _ _ = W2
  have hR9 : Row W2 W1.heap.size [.int .i64 (many : Nat), .slice A3 n3 c3] := by rw [← hW]; exact Row.at rfl [_, _] _
  have hb2 : Below W1.heap.size W1 W2 := by rw [← hW]; exact (Below.refl _ _).alloc (Nat.le_refl _) _
  clear hW
  have hB2 := hB1.trans (hb2.mono hB1.size)
  have hR7 := hR7.after hb2
  have hA3 := HQ.out.2.1.after hb2
  have h9 : w.heap.size ≤ W1.heap.size := hB1.size
  obtain ⟨B9, hB9⟩ : ∃ B9, B9 = W1.heap.size := ⟨_, rfl⟩
  rw [← hB9] at hR9 h9 ⊢
  clear hB9
  have hT := HTk.out W2 (H.out.1.after hB2) (Nat.le_trans H.out.2.1 hB2.size)
  have HT := Lib.hid hT
  have HS := Lib.hid (And.intro hR9 (And.intro hR7 (And.intro hB2 (And.intro hA3 hb2.size))))
  have hlt := H.out.1.lt
  have HLT : Hid (∀ k, foot b m A k → k < w.heap.size) := Lib.hid (fun k hk => by
    rcases hk with h | h | h
    · omega
    · omega
    · exact hlt.2.2 k h)
  clear hT hR9 hR7 hB2 hB1 hb2 hA3 hlt HTk
  go_wp2_with fail
  refine HT.out.mono ?_
  rintro e V ⟨rfl, A', ha, ho, hlc⟩
  have HV : Hid (Row V B9 [.int .i64 (many : Nat), .slice A3 n3 c3] ∧ Row V (w.heap.size + 1 + 1) [.int .i64 0, .slice none 0 0]) := Lib.hid
    ⟨HS.out.1.only ho (fun hk => by have := HLT.out _ hk; omega), HS.out.2.1.only ho (fun hk => by have := HLT.out _ hk; omega)⟩
  have HF : Hid (∀ X W, Below V.heap.size V X → W = (X.setCell ⟨w.heap.size + 1 + 1, 0, none⟩ (.int .i64 (many : Nat))).setCell ⟨w.heap.size + 1 + 1, 1, none⟩ (.slice A3 n3 c3) → ActPost w base b many m A A2 (.returned (.tuple #[.pointer (some ⟨b, 0, none⟩), Value.agg #[.int .i64 (many : Nat), .slice A3 n3 c3], .bool true])) W) := Lib.hid (fun X W hX hW => by
    subst hW
    have hoX : Only (foot b m A) w X := ((Only.of HS.out.2.2.1).trans ho).trans (Only.of hX)
    have hbS : ∀ k, foot b m A k → k ≠ w.heap.size + 1 + 1 := fun k hk e => by have := HLT.out k hk; omega
    have hfoot' : ∀ k, foot b m A' k → k ≠ w.heap.size + 1 + 1 := fun k hk e => by
      have hS7 := HV.out.2.lt
      rcases hk with h | h | h
      · exact hbS k (.inl h) e
      · exact hbS k (.inr (.inl h)) e
      · rcases hlc k h with h' | h'
        · exact hbS k (.inr (.inr h')) e
        · have := HS.out.2.1.lt
          omega
    have hst : Only (fun k => k = w.heap.size + 1 + 1) X ((X.setCell ⟨w.heap.size + 1 + 1, 0, none⟩ (.int .i64 (many : Nat))).setCell ⟨w.heap.size + 1 + 1, 1, none⟩ (.slice A3 n3 c3)) := ((Only.refl (fun k => k = w.heap.size + 1 + 1) X).put (p := ⟨w.heap.size + 1 + 1, 0, none⟩) (.inl rfl) _).put (p := ⟨w.heap.size + 1 + 1, 1, none⟩) (.inl rfl) _
    obtain ⟨hn3, _, hfr3, hs0⟩ := HQ.out
    have hsz : X.heap.size = ((X.setCell ⟨w.heap.size + 1 + 1, 0, none⟩ (.int .i64 (many : Nat))).setCell ⟨w.heap.size + 1 + 1, 1, none⟩ (.slice A3 n3 c3)).heap.size := by simp [World.setCell]
    have hW1X : W1.heap.size ≤ X.heap.size := Nat.le_trans HS.out.2.2.2.2 (Nat.le_trans ho.size hX.size)
    have hfar3 : ∀ a, A3 = some a → A2 = some a ∨ (w.heap.size ≤ a.block ∧ a.block < X.heap.size) := fun a ha => by
      rcases hfr3 a ha with h | h
      · exact .inl h
      · exact .inr (by omega)
    have hc3 : CellsS X A3 (intCs L') := (HS.out.2.2.2.1.only ho (fun _ a ha hk => by
      rcases hfar3 a ha with h | h
      · exact (H.out.2.2 a h).2 hk
      · have := HLT.out _ hk; omega)).after hX
    refine ⟨L', A', A3, n3, c3, rfl, (ha.after hX).only hst (fun k hk e => hfoot' k hk e), hoX.next hst (fun k hk e => by have : k = w.heap.size + 1 + 1 := e; omega), fun k hk => ?_, hn3, ?_, fun a ha => by rw [← hsz]; exact hfar3 a ha, fun a ha hk => by
      have h2 := HS.out.2.2.2.2
      have h3 := HS.out.2.2.1.size
      rcases hfr3 a ha with h | h
      · have h9 := H.out.2.2 a h
        rcases hk with h' | h' | h'
        · exact h9.2 (.inl h')
        · exact h9.2 (.inr (.inl h'))
        · rcases hlc _ h' with h'' | h''
          · exact h9.2 (.inr (.inr h''))
          · omega
      · rcases hk with h' | h' | h'
        · have := HLT.out _ (.inl rfl); omega
        · have := HLT.out _ (.inr (.inl rfl)); omega
        · rcases hlc _ h' with h'' | h''
          · have := HLT.out _ (.inr (.inr h'')); omega
          · omega⟩
    · rcases hlc k hk with h | h
      · exact .inl h
      · exact .inr (Nat.le_trans HS.out.2.2.1.size h)
    · have hne : ∀ a, A3 = some a → a.block ≠ w.heap.size + 1 + 1 := fun a ha => by
        rcases hfr3 a ha with h | h
        · have := (H.out.2.2 a h).1; omega
        · have := HQ.out.2.2.2; omega
      exact (hc3.put (p := ⟨w.heap.size + 1 + 1, 0, none⟩) (fun _ a ha => hne a ha)).put (p := ⟨w.heap.size + 1 + 1, 1, none⟩) (fun _ a ha => hne a ha))
  have hV0 : TwR V (w.heap.size + 1 + 1) (.int .i64 (many : Nat)) (.slice A3 n3 c3) false false V.drew := ⟨_, (Below.refl _ _).drew, rfl⟩
  clear ha ho hlc HT HS HQ H
  go_upto_region 5 with fail
  refine wp_region_two (by kernel_rfl) [5] (fun ix => match ix with
    | 0 => some (Value.pointer (some ⟨b, 0, none⟩))
    | 1 => some (Value.agg #[.int .i64 (many : Nat), .slice A3 n3 c3])
    | 2 => some (Value.int .i64 y)
    | 3 => some (Value.int .i64 y)
    | 4 => some (Value.bool true)
    | 5 => some (Value.bool true)
    | 6 => some (Value.int .i64 er)
    | 7 => some (Value.int .i64 er)
    | 8 => some (Value.int .i64 er)
    | 9 => some (Value.bool true)
    | 10 => some (Value.bool true)
    | 11 => some (Value.pointer (some ⟨b, 0, none⟩))
    | 13 => some (Value.bool true)
    | _ => none) (by intro j hj; simp only [List.mem_cons, List.not_mem_nil, or_false] at hj; rcases hj with rfl <;> rfl) 0 [1] 12 (TwR V (w.heap.size + 1 + 1) (.int .i64 (many : Nat)) (.slice A3 n3 c3)) (by kernel_rfl) (by kernel_rfl) (by decide) (by decide) hV0 ?_ ?_
  · intro listed a W ix o hI ho hno hdep hlf hR K hK
    have hi : ix < 14 := (Array.getElem?_eq_some_iff.1 ho).1
    have hcase : ix = 0 ∨ ix = 1 ∨ ix = 2 ∨ ix = 3 ∨ ix = 4 ∨ ix = 5 ∨ ix = 6 ∨ ix = 7 ∨ ix = 8 ∨ ix = 9 ∨ ix = 10 ∨ ix = 11 ∨ ix = 12 ∨ ix = 13 := by omega
    clear hi
    rcases hcase with rfl | rfl | rfl | rfl | rfl | rfl | rfl | rfl | rfl | rfl | rfl | rfl | rfl | rfl
    · obtain rfl := Option.some.inj (show some _ = some o from ho)
      have q0 : a.tmps[0]?.getD undef = Value.pointer (some ⟨b, 0, none⟩) := hI.old 0 (noDst_spec (by kernel_rfl))
      clear hdep hI ho hno hlf
      go_simp
      exact hK (Value.pointer (some ⟨b, 0, none⟩)) _ (fun u hu => Option.some.inj (show some _ = some u from hu)) hR
    · obtain rfl := Option.some.inj (show some _ = some o from ho)
      have hf0 := hlf (by decide)
      rw [hf0] at hR hK
      have q9 : a.tmps[9]?.getD undef = Value.pointer (some ⟨B9, 0, none⟩) := hI.old 9 (noDst_spec (by kernel_rfl))
      obtain ⟨X, hX, hW⟩ := hR
      rw [if_neg Bool.false_ne_true] at hW
      subst hW
      have x0 := (HV.out.1.after hX).c 0 rfl
      have x1 := (HV.out.1.after hX).c 1 rfl
      have hR : TwR V (w.heap.size + 1 + 1) (.int .i64 (many : Nat)) (.slice A3 n3 c3) false false W := ⟨W, hX, rfl⟩
      clear hdep hI ho hno hlf
      go_simp
      exact hK (Value.agg #[.int .i64 (many : Nat), .slice A3 n3 c3]) _ (fun u hu => Option.some.inj (show some _ = some u from hu)) hR
    · obtain rfl := Option.some.inj (show some _ = some o from ho)
      have q12 : a.tmps[12]?.getD undef = Value.int .i64 y := hI.old 12 (noDst_spec (by kernel_rfl))
      clear hdep hI ho hno hlf
      go_simp
      exact hK (Value.int .i64 y) _ (fun u hu => Option.some.inj (show some _ = some u from hu)) hR
    · obtain rfl := Option.some.inj (show some _ = some o from ho)
      have q10 : a.tmps[10]?.getD undef = Value.int .i64 y := hI.old 10 (noDst_spec (by kernel_rfl))
      clear hdep hI ho hno hlf
      go_simp
      exact hK (Value.int .i64 y) _ (fun u hu => Option.some.inj (show some _ = some u from hu)) hR
    · obtain rfl := Option.some.inj (show some _ = some o from ho)
      have d2 : listed.getD 2 false = true := hdep ⟨2, .data⟩ (by simp) rfl
      have q35 : a.tmps[35]?.getD undef = Value.int .i64 y := hI.val 2 _ 35 _ rfl rfl rfl d2
      have d3 : listed.getD 3 false = true := hdep ⟨3, .data⟩ (by simp) rfl
      have q36 : a.tmps[36]?.getD undef = Value.int .i64 y := hI.val 3 _ 36 _ rfl rfl rfl d3
      clear hdep hI ho hno hlf
      go_simp
      exact hK (Value.bool true) _ (fun u hu => Option.some.inj (show some _ = some u from hu)) hR
    · obtain rfl := Option.some.inj (show some _ = some o from ho)
      have d4 : listed.getD 4 false = true := hdep ⟨4, .data⟩ (by simp) rfl
      have q37 : a.tmps[37]?.getD undef = Value.bool true := hI.val 4 _ 37 _ rfl rfl rfl d4
      clear hdep hI ho hno hlf
      go_simp
      exact hK (Value.bool true) _ (fun u hu => Option.some.inj (show some _ = some u from hu)) hR
    · obtain rfl := Option.some.inj (show some _ = some o from ho)
      have q13 : a.tmps[13]?.getD undef = Value.int .i64 er := hI.old 13 (noDst_spec (by kernel_rfl))
      clear hdep hI ho hno hlf
      go_simp
      exact hK (Value.int .i64 er) _ (fun u hu => Option.some.inj (show some _ = some u from hu)) hR
    · obtain rfl := Option.some.inj (show some _ = some o from ho)
      have d6 : listed.getD 6 false = true := hdep ⟨6, .data⟩ (by simp) rfl
      have q39 : a.tmps[39]?.getD undef = Value.int .i64 er := hI.val 6 _ 39 _ rfl rfl rfl d6
      clear hdep hI ho hno hlf
      go_simp
      refine (num_any er _).mono ?_
      rintro e W2 ⟨rfl, rfl⟩
      exact hK (Value.int .i64 er) _ (fun u hu => Option.some.inj (show some _ = some u from hu)) hR
    · obtain rfl := Option.some.inj (show some _ = some o from ho)
      have q11 : a.tmps[11]?.getD undef = Value.int .i64 er := hI.old 11 (noDst_spec (by kernel_rfl))
      clear hdep hI ho hno hlf
      go_simp
      exact hK (Value.int .i64 er) _ (fun u hu => Option.some.inj (show some _ = some u from hu)) hR
    · obtain rfl := Option.some.inj (show some _ = some o from ho)
      have d7 : listed.getD 7 false = true := hdep ⟨7, .data⟩ (by simp) rfl
      have q40 : a.tmps[40]?.getD undef = Value.int .i64 er := hI.val 7 _ 40 _ rfl rfl rfl d7
      have d8 : listed.getD 8 false = true := hdep ⟨8, .data⟩ (by simp) rfl
      have q41 : a.tmps[41]?.getD undef = Value.int .i64 er := hI.val 8 _ 41 _ rfl rfl rfl d8
      clear hdep hI ho hno hlf
      go_simp
      exact hK (Value.bool true) _ (fun u hu => Option.some.inj (show some _ = some u from hu)) hR
    · obtain rfl := Option.some.inj (show some _ = some o from ho)
      have d5 : listed.getD 5 false = true := hdep ⟨5, .data⟩ (by simp) rfl
      have q38 : a.tmps[38]?.getD undef = Value.bool true := hI.val 5 _ 38 _ rfl rfl rfl d5
      have d9 : listed.getD 9 false = true := hdep ⟨9, .data⟩ (by simp) rfl
      have q42 : a.tmps[42]?.getD undef = Value.bool true := hI.val 9 _ 42 _ rfl rfl rfl d9
      clear hdep hI ho hno hlf
      go_simp
      exact hK (Value.bool true) _ (fun u hu => Option.some.inj (show some _ = some u from hu)) hR
    · obtain rfl := Option.some.inj (show some _ = some o from ho)
      have d0 : listed.getD 0 false = true := hdep ⟨0, .data⟩ (by simp) rfl
      have q33 : a.tmps[33]?.getD undef = Value.pointer (some ⟨b, 0, none⟩) := hI.val 0 _ 33 _ rfl rfl rfl d0
      clear hdep hI ho hno hlf
      go_simp
      exact hK (Value.pointer (some ⟨b, 0, none⟩)) _ (fun u hu => Option.some.inj (show some _ = some u from hu)) hR
    · obtain rfl := Option.some.inj (show some _ = some o from ho)
      have hf0 := hlf (by decide)
      rw [hf0] at hR hK
      have d1 : listed.getD 1 false = true := hdep ⟨1, .data⟩ (by simp) rfl
      have q34 : a.tmps[34]?.getD undef = Value.agg #[.int .i64 (many : Nat), .slice A3 n3 c3] := hI.val 1 _ 34 _ rfl rfl rfl d1
      have q7 : a.tmps[7]?.getD undef = Value.pointer (some ⟨w.heap.size + 1 + 1, 0, none⟩) := hI.old 7 (noDst_spec (by kernel_rfl))
      obtain ⟨X, hX, hW⟩ := hR
      rw [if_neg Bool.false_ne_true] at hW
      subst hW
      have r7 := HV.out.2.after hX
      have x0 := r7.c 0 rfl
      have f0 := r7.f 0 rfl
      have x1 := (r7.set 0 (by simp) (.int .i64 (many : Nat))).c 1 rfl
      have f1 := (r7.set 0 (by simp) (.int .i64 (many : Nat))).f 1 rfl
      have f1' := r7.f 1 rfl
      clear hdep hI ho hno hlf
      go_simp
      exact hK undef _ (fun u hu => absurd (show (none : Option Value) = some u from hu) (by simp)) (⟨W, hX, rfl⟩)
    · obtain rfl := Option.some.inj (show some _ = some o from ho)
      have d10 : listed.getD 10 false = true := hdep ⟨10, .data⟩ (by simp) rfl
      have q43 : a.tmps[43]?.getD undef = Value.bool true := hI.val 10 _ 43 _ rfl rfl rfl d10
      clear hdep hI ho hno hlf
      go_simp
      exact hK (Value.bool true) _ (fun u hu => Option.some.inj (show some _ = some u from hu)) hR
  · intro listed a W hI hall hR
    obtain ⟨X, hX, hW⟩ := hR
    rw [if_pos rfl] at hW
    have q6 : a.tmps[6]?.getD undef = Value.pointer (some ⟨b, 0, none⟩) := hI.val 11 _ 6 _ rfl rfl rfl (hall 11 (by decide))
    have q8 : a.tmps[8]?.getD undef = Value.bool true := hI.val 13 _ 8 _ rfl rfl rfl (hall 13 (by decide))
    have q7 : a.tmps[7]?.getD undef = Value.pointer (some ⟨w.heap.size + 1 + 1, 0, none⟩) := hI.old 7 (noDst_spec (by kernel_rfl))
    have hdf : a.defers = [] := hI.defers
    have r7 := ((HV.out.2.after hX).set 0 (by simp) (.int .i64 (many : Nat))).set 1 (by simp) (.slice A3 n3 c3)
    rw [← hW] at r7
    have z0 := r7.c 0 rfl
    have z1 := r7.c 1 rfl
    have HP := Lib.hid (HF.out X W hX hW)
    clear hI hall r7 hX hW
    obtain ⟨tm, df⟩ := a
    simp only at hdf q6 q7 q8
    subst hdf
    go_wp2_with fail
    refine bodyPost_ret (v := .tuple #[.pointer (some ⟨b, 0, none⟩), Value.agg #[.int .i64 (many : Nat), .slice A3 n3 c3], .bool true]) (by simp [results, Try.results19, go_sem, q6, q7, q8, z0, z1]) rfl ?_
    exact HP.out
end Go.Proofs.Ytncgjlhmgdgokaa
