/- law11.act of Claim; no condition. -/
import Derived.Test.YtncgjlhmgdgokaaBI
namespace Go.Proofs.Ytncgjlhmgdgokaa
open Go.RowKit Go.Sort ArenaMath Go.Maps

/-- In the midst of a region in which a call turns the arena. -/
def ThZ (V : World) (base b many m : Nat) (L' : List Int) (A : Option Addr) (lc : Bool) (X : World) : Prop := match lc with
  | false => Below V.heap.size V X
  | true => ∃ A', ArS X base b many L' m A' ∧ Only (foot b m A) V X ∧ LocA V A A'
def ThR (V : World) (base b many m : Nat) (L' : List Int) (A : Option Addr) (B : Nat) (y0 y1 : Value) (lc lf : Bool) (W : World) : Prop := ∃ X, ThZ V base b many m L' A lc X ∧ W = if lf = true then (X.setCell ⟨B, 0, none⟩ y0).setCell ⟨B, 1, none⟩ y1 else X
theorem ThZ.only {V X : World} {base b many m : Nat} {L' : List Int} {A : Option Addr} {lc : Bool} (h : ThZ V base b many m L' A lc X) : Only (foot b m A) V X := by
  cases lc with
  | false => exact Only.of h
  | true => exact h.choose_spec.2.1
set_option maxRecDepth 100000 in
set_option maxHeartbeats 8000000 in
theorem act1_any {w : World} {base b many m n c : Nat} {L : List Int} {A A2 : Option Addr} (x : Int) (h : ArS w base b many L m A) (hbase : base ≤ w.heap.size) (hn : n = L.length) (hA : CellsS w A2 (intCs L)) (hfar : ∀ a, A2 = some a → a.block < w.heap.size ∧ ¬ foot b m A a.block) (hwf : (Lit.int .i64 x).wf = true) :
    Calls Try.prog 19 #[.pointer (some ⟨b, 0, none⟩), rv many A2 n c, .agg #[.int .i64 1, .int .i64 x]] w (ActPost w base b many m A A2) := by
  have H := Lib.hid (And.intro h (And.intro hbase hfar))
  have HWF := Lib.hid hwf
  have hg := h.rng
  have HGL := Lib.hid (And.intro hn hg.2.2)
  have HRT := Lib.hid (fun W (hW : Below w.heap.size w W) => rclaim_any many x L A2 n c W hn (by omega) (hA.after hW))
  clear h hbase hn hA hfar hg hwf
  unfold rv at *
  go_enter Try.func19, Try.ntmps19
  go_upto_region 1 with fail
  generalize hW : World.alloc _ _ = W0
  have hR4 : Row W0 (w.heap.size) [.int .i64 (many : Nat), .slice A2 n c] := by rw [← hW]; exact ((Row.at rfl [_, _] _).alloc _).alloc _
  have hR5 : Row W0 (w.heap.size + 1) [.int .i64 1, .int .i64 x] := by rw [← hW]; exact (Row.at (by simp) [_, _] _).alloc _
  have hR7 : Row W0 (w.heap.size + 1 + 1) [.int .i64 0, .slice none 0 0] := by rw [← hW]; exact Row.at (by simp) [_, _] _
  have hB0 : Below w.heap.size w W0 := by rw [← hW]; exact (((Below.refl _ _).alloc (Nat.le_refl _) _).alloc (by simp) _).alloc (by simp; omega) _
  clear hW
  have x40 := hR4.c 0 rfl
  have x41 := hR4.c 1 rfl
  have x50 := hR5.c 0 rfl
  have x51 := hR5.c 1 rfl
  go_wp2_with fail
  refine (HRT.out _ hB0).mono ?_
  rintro e W1 ⟨v, h1, h2, h3⟩
  obtain ⟨er, L', rfl, hRP, hlen, htk⟩ : ∃ (er : Int) (L' : List Int), e = .returned (.tuple #[v, .int .i64 er]) ∧ RP W0 A2 many L' v W1 ∧ L'.length ≤ L.length + 1 ∧ (∀ V, ArS V base b many L m A → base ≤ V.heap.size → Calls Try.prog 12 #[.pointer (some ⟨b, 0, none⟩), .int .i64 x] V fun e V' => e = .returned (.int .i64 er) ∧ ∃ A', ArS V' base b many L' m A' ∧ Only (foot b m A) V V' ∧ LocA V A A') := by
    by_cases hin : 0 ≤ x ∧ x < (many : Int)
    · by_cases hx : x ∈ L
      · obtain ⟨rfl, hr⟩ := h2 hin hx
        refine ⟨210, _, rfl, hr, Nat.le_succ _, fun V hV hb => (claim_any x hV hb HWF.out).mono ?_⟩
        rintro e V' ⟨_, g, _⟩
        obtain ⟨rfl, g2⟩ := g hin hx
        exact ⟨rfl, A, hV.after g2, Only.of g2, LocA.refl _ _⟩
      · obtain ⟨rfl, hr⟩ := h3 hin hx
        refine ⟨0, _, rfl, hr, Nat.le_of_eq (ins_len _ _), fun V hV hb => (claim_any x hV hb HWF.out).mono ?_⟩
        rintro e V' ⟨_, _, g⟩
        obtain ⟨A', rfl, g2, g3, g4⟩ := g hin hx
        exact ⟨rfl, A', g2, g3, g4⟩
    · obtain ⟨rfl, hr⟩ := h1 hin
      refine ⟨4, _, rfl, hr, Nat.le_succ _, fun V hV hb => (claim_any x hV hb HWF.out).mono ?_⟩
      rintro e V' ⟨g, _, _⟩
      obtain ⟨rfl, g2⟩ := g hin
      exact ⟨rfl, A, hV.after g2, Only.of g2, LocA.refl _ _⟩
  obtain ⟨A3, n3, c3, rfl, hn3, hA3, hfr3, hb1⟩ := hRP
  obtain ⟨tk, HTV⟩ : ∃ tk, Hid (decide (x ∈ L') = tk) := ⟨_, Lib.hid rfl⟩
  unfold rv
  have HTk := Lib.hid htk
  have HN3 : Hid (n3 = L'.length ∧ n3 ≤ 100000) := Lib.hid ⟨hn3, by have := HGL.out; omega⟩
  have hB1 := hB0.trans (hb1.mono hB0.size)
  have hs0 : w.heap.size + 1 + 1 < W0.heap.size := hR7.lt
  have hR7 := hR7.after hb1
  have hR5 := hR5.after hb1
  have HQ := Lib.hid (And.intro hn3 (And.intro hA3 (And.intro hfr3 hs0)))
  clear h1 h2 h3 htk hR4 x40 x41 x50 x51 hb1 hB0 hn3 hA3 hfr3 hs0 HRT hlen
  go_upto_region 8 with fail
  generalize hW : World.alloc _ _ = V
  have hR9 : Row V W1.heap.size [.int .i64 (many : Nat), .slice A3 n3 c3] := by rw [← hW]; exact Row.at rfl [_, _] _
  have hb2 : Below W1.heap.size W1 V := by rw [← hW]; exact (Below.refl _ _).alloc (Nat.le_refl _) _
  clear hW
  have hB2 := hB1.trans (hb2.mono hB1.size)
  have hR7 := hR7.after hb2
  have hR5 := hR5.after hb2
  have hA3 := HQ.out.2.1.after hb2
  have h9 : w.heap.size ≤ W1.heap.size := hB1.size
  have hs1 := hb2.size
  obtain ⟨B9, hB9⟩ : ∃ B9, B9 = W1.heap.size := ⟨_, rfl⟩
  rw [← hB9] at hR9 h9 ⊢
  clear hB9
  have HCl : Hid (∀ W, Below V.heap.size V W → Calls Try.prog 12 #[.pointer (some ⟨b, 0, none⟩), .int .i64 x] W fun e W' => e = .returned (.int .i64 er) ∧ ThZ V base b many m L' A true W') := Lib.hid (fun W hW => by
    have hBW := hB2.trans (hW.mono hB2.size)
    refine (HTk.out W (H.out.1.after hBW) (Nat.le_trans H.out.2.1 hBW.size)).mono ?_
    rintro e W' ⟨rfl, A', g1, g2, g3⟩
    exact ⟨rfl, A', g1, (Only.of hW).trans g2, fun k hk => by
      rcases g3 k hk with h | h
      · exact .inl h
      · exact .inr (Nat.le_trans hW.size h)⟩)
  have hlt := H.out.1.lt
  have HLT : Hid (∀ k, foot b m A k → k < w.heap.size) := Lib.hid (fun k hk => by
    rcases hk with h | h | h
    · omega
    · omega
    · exact hlt.2.2 k h)
  have hfar3 : ∀ a, A3 = some a → A2 = some a ∨ (w.heap.size + 1 + 1 < a.block ∧ a.block < V.heap.size) := fun a ha => by
    have := HQ.out.2.2.2
    rcases HQ.out.2.2.1 a ha with h | h
    · exact .inl h
    · exact .inr (by omega)
  have HZR : Hid (∀ lc X, ThZ V base b many m L' A lc X → Row X B9 [.int .i64 (many : Nat), .slice A3 n3 c3] ∧ Row X (w.heap.size + 1) [.int .i64 1, .int .i64 x] ∧ Row X (w.heap.size + 1 + 1) [.int .i64 0, .slice none 0 0] ∧ CellsS X A3 (intCs L')) := Lib.hid (fun lc X hZ => by
    have ho := hZ.only
    exact ⟨hR9.only ho (fun hk => by have := HLT.out _ hk; omega), hR5.only ho (fun hk => by have := HLT.out _ hk; omega), hR7.only ho (fun hk => by have := HLT.out _ hk; omega), hA3.only ho (fun _ a ha hk => by
      rcases hfar3 a ha with h | h
      · exact (H.out.2.2 a h).2 hk
      · have := HLT.out _ hk; omega)⟩)
  have HF : Hid (∀ X W, ThZ V base b many m L' A true X → W = (X.setCell ⟨w.heap.size + 1 + 1, 0, none⟩ (.int .i64 (many : Nat))).setCell ⟨w.heap.size + 1 + 1, 1, none⟩ (.slice A3 n3 c3) → ActPost w base b many m A A2 (.returned (.tuple #[.pointer (some ⟨b, 0, none⟩), Value.agg #[.int .i64 (many : Nat), .slice A3 n3 c3], .bool true])) W) := Lib.hid (fun X W hZ hW => by
    subst hW
    have hzr := HZR.out _ _ hZ
    obtain ⟨A', ha, ho, hlc⟩ := hZ
    have hoX : Only (foot b m A) w X := (Only.of hB2).trans ho
    have hbS : ∀ k, foot b m A k → k ≠ w.heap.size + 1 + 1 := fun k hk e => by have := HLT.out k hk; omega
    have hV7 := hR7.lt
    have hfoot' : ∀ k, foot b m A' k → k ≠ w.heap.size + 1 + 1 := fun k hk e => by
      rcases hk with h | h | h
      · exact hbS k (.inl h) e
      · exact hbS k (.inr (.inl h)) e
      · rcases hlc k h with h' | h'
        · exact hbS k (.inr (.inr h')) e
        · omega
    have hst : Only (fun k => k = w.heap.size + 1 + 1) X ((X.setCell ⟨w.heap.size + 1 + 1, 0, none⟩ (.int .i64 (many : Nat))).setCell ⟨w.heap.size + 1 + 1, 1, none⟩ (.slice A3 n3 c3)) := ((Only.refl (fun k => k = w.heap.size + 1 + 1) X).put (p := ⟨w.heap.size + 1 + 1, 0, none⟩) (.inl rfl) _).put (p := ⟨w.heap.size + 1 + 1, 1, none⟩) (.inl rfl) _
    have hsz : X.heap.size = ((X.setCell ⟨w.heap.size + 1 + 1, 0, none⟩ (.int .i64 (many : Nat))).setCell ⟨w.heap.size + 1 + 1, 1, none⟩ (.slice A3 n3 c3)).heap.size := by simp [World.setCell]
    have hne : ∀ a, A3 = some a → a.block ≠ w.heap.size + 1 + 1 := fun a ha => by
      rcases hfar3 a ha with h | h
      · have := (H.out.2.2 a h).1; omega
      · omega
    refine ⟨L', A', A3, n3, c3, rfl, ha.only hst (fun k hk e => hfoot' k hk e), hoX.next hst (fun k hk e => by have : k = w.heap.size + 1 + 1 := e; omega), fun k hk => ?_, HQ.out.1, (hzr.2.2.2.put (p := ⟨w.heap.size + 1 + 1, 0, none⟩) (fun _ a ha => hne a ha)).put (p := ⟨w.heap.size + 1 + 1, 1, none⟩) (fun _ a ha => hne a ha), fun a ha => ?_, fun a ha hk => ?_⟩
    · rcases hlc k hk with h | h
      · exact .inl h
      · exact .inr (Nat.le_trans hB2.size h)
    · rw [← hsz]
      have := ho.size
      rcases hfar3 a ha with h | h
      · exact .inl h
      · exact .inr (by omega)
    · have h3 := hB2.size
      rcases hfar3 a ha with h | h
      · have h9 := H.out.2.2 a h
        rcases hk with h' | h' | h'
        · exact h9.2 (.inl h')
        · exact h9.2 (.inr (.inl h'))
        · rcases hlc _ h' with h'' | h''
          · exact h9.2 (.inr (.inr h''))
          · omega
      · rcases hk with h' | h' | h'
        · have := HLT.out _ (.inl rfl); omega
        · have := HLT.out _ (.inr (.inl rfl)); omega
        · rcases hlc _ h' with h'' | h''
          · have := HLT.out _ (.inr (.inr h'')); omega
          · omega)
  have hV0 : ThR V base b many m L' A (w.heap.size + 1 + 1) (.int .i64 (many : Nat)) (.slice A3 n3 c3) false false V.drew := ⟨_, (Below.refl _ _).drew, rfl⟩
  clear hR9 hR7 hR5 hA3 hB2 hB1 hb2 hlt hfar3 HQ HTk h9 hs1
  go_upto_region 8 with fail
  refine wp_region_two (by kernel_rfl) [9] (fun ix => match ix with
    | 0 => some (Value.pointer (some ⟨b, 0, none⟩))
    | 1 => some (Value.agg #[.int .i64 (many : Nat), .slice A3 n3 c3])
    | 2 => some (Value.pointer (some ⟨b, 0, none⟩))
    | 3 => some (Value.pointer (some ⟨w.heap.size + 1, 1, none⟩))
    | 4 => some (Value.int .i64 x)
    | 5 => some (Value.int .i64 er)
    | 6 => some (Value.int .i64 er)
    | 7 => some (Value.int .i64 er)
    | 8 => some (Value.bool true)
    | 9 => some (Value.bool true)
    | 10 => some (Value.pointer (some ⟨b, 0, none⟩))
    | 11 => some (Value.pointer (some ⟨w.heap.size + 1, 1, none⟩))
    | 12 => some (Value.int .i64 x)
    | 13 => some (Value.bool tk)
    | 14 => some (Value.agg #[.int .i64 (many : Nat), .slice A3 n3 c3])
    | 15 => some (Value.pointer (some ⟨w.heap.size + 1, 1, none⟩))
    | 16 => some (Value.int .i64 x)
    | 17 => some (Value.bool tk)
    | 18 => some (Value.bool true)
    | 19 => some (Value.bool true)
    | 20 => some (Value.pointer (some ⟨b, 0, none⟩))
    | 22 => some (Value.bool true)
    | _ => none) (by intro j hj; simp only [List.mem_cons, List.not_mem_nil, or_false] at hj; rcases hj with rfl <;> rfl) 5 [0, 1, 2, 3, 4, 5, 6, 7, 8, 9, 10, 11, 12, 13, 14, 15, 16, 17, 20] 21 (ThR V base b many m L' A (w.heap.size + 1 + 1) (.int .i64 (many : Nat)) (.slice A3 n3 c3)) (by kernel_rfl) (by kernel_rfl) (by decide) (by decide) hV0 ?_ ?_
  · intro listed a W ix o hI ho hno hdep hlf hR K hK
    have hi : ix < 23 := (Array.getElem?_eq_some_iff.1 ho).1
    have hcase : ix = 0 ∨ ix = 1 ∨ ix = 2 ∨ ix = 3 ∨ ix = 4 ∨ ix = 5 ∨ ix = 6 ∨ ix = 7 ∨ ix = 8 ∨ ix = 9 ∨ ix = 10 ∨ ix = 11 ∨ ix = 12 ∨ ix = 13 ∨ ix = 14 ∨ ix = 15 ∨ ix = 16 ∨ ix = 17 ∨ ix = 18 ∨ ix = 19 ∨ ix = 20 ∨ ix = 21 ∨ ix = 22 := by omega
    clear hi
    rcases hcase with rfl | rfl | rfl | rfl | rfl | rfl | rfl | rfl | rfl | rfl | rfl | rfl | rfl | rfl | rfl | rfl | rfl | rfl | rfl | rfl | rfl | rfl | rfl
    · obtain rfl := Option.some.inj (show some _ = some o from ho)
      have hf0 := hlf (by decide)
      rw [hf0] at hR hK
      have q0 : a.tmps[0]?.getD undef = Value.pointer (some ⟨b, 0, none⟩) := hI.old 0 (noDst_spec (by kernel_rfl))
      clear hdep hI ho hno hlf
      go_simp
      exact hK (Value.pointer (some ⟨b, 0, none⟩)) _ (fun u hu => Option.some.inj (show some _ = some u from hu)) hR
    · obtain rfl := Option.some.inj (show some _ = some o from ho)
      have hf0 := hlf (by decide)
      rw [hf0] at hR hK
      have q14 : a.tmps[14]?.getD undef = Value.pointer (some ⟨B9, 0, none⟩) := hI.old 14 (noDst_spec (by kernel_rfl))
      obtain ⟨X, hZ, hW⟩ := hR
      rw [if_neg Bool.false_ne_true] at hW
      subst hW
      obtain ⟨z9, z5, z7, zA⟩ := HZR.out _ _ hZ
      have x0 := z9.c 0 rfl
      have x1 := z9.c 1 rfl
      have hR : ThR V base b many m L' A (w.heap.size + 1 + 1) (.int .i64 (many : Nat)) (.slice A3 n3 c3) (listed.getD 5 false) false W := ⟨W, hZ, rfl⟩
      clear z9 z5 z7 zA hZ
      clear hdep hI ho hno hlf
      go_simp
      exact hK (Value.agg #[.int .i64 (many : Nat), .slice A3 n3 c3]) _ (fun u hu => Option.some.inj (show some _ = some u from hu)) hR
    · obtain rfl := Option.some.inj (show some _ = some o from ho)
      have hf0 := hlf (by decide)
      rw [hf0] at hR hK
      have q0 : a.tmps[0]?.getD undef = Value.pointer (some ⟨b, 0, none⟩) := hI.old 0 (noDst_spec (by kernel_rfl))
      clear hdep hI ho hno hlf
      go_simp
      exact hK (Value.pointer (some ⟨b, 0, none⟩)) _ (fun u hu => Option.some.inj (show some _ = some u from hu)) hR
    · obtain rfl := Option.some.inj (show some _ = some o from ho)
      have hf0 := hlf (by decide)
      rw [hf0] at hR hK
      have q5 : a.tmps[5]?.getD undef = Value.pointer (some ⟨w.heap.size + 1, 0, none⟩) := hI.old 5 (noDst_spec (by kernel_rfl))
      clear hdep hI ho hno hlf
      go_simp
      exact hK (Value.pointer (some ⟨w.heap.size + 1, 1, none⟩)) _ (fun u hu => Option.some.inj (show some _ = some u from hu)) hR
    · obtain rfl := Option.some.inj (show some _ = some o from ho)
      have hf0 := hlf (by decide)
      rw [hf0] at hR hK
      have d3 : listed.getD 3 false = true := hdep ⟨3, .data⟩ (by simp) rfl
      have q56 : a.tmps[56]?.getD undef = Value.pointer (some ⟨w.heap.size + 1, 1, none⟩) := hI.val 3 _ 56 _ rfl rfl rfl d3
      obtain ⟨X, hZ, hW⟩ := hR
      rw [if_neg Bool.false_ne_true] at hW
      subst hW
      obtain ⟨z9, z5, z7, zA⟩ := HZR.out _ _ hZ
      have x1 := z5.c 1 rfl
      have hR : ThR V base b many m L' A (w.heap.size + 1 + 1) (.int .i64 (many : Nat)) (.slice A3 n3 c3) (listed.getD 5 false) false W := ⟨W, hZ, rfl⟩
      clear z9 z5 z7 zA hZ
      clear hdep hI ho hno hlf
      go_simp
      exact hK (Value.int .i64 x) _ (fun u hu => Option.some.inj (show some _ = some u from hu)) hR
    · obtain rfl := Option.some.inj (show some _ = some o from ho)
      have hf0 := hlf (by decide)
      rw [hf0] at hR hK
      have d2 : listed.getD 2 false = true := hdep ⟨2, .data⟩ (by simp) rfl
      have q55 : a.tmps[55]?.getD undef = Value.pointer (some ⟨b, 0, none⟩) := hI.val 2 _ 55 _ rfl rfl rfl d2
      have d4 : listed.getD 4 false = true := hdep ⟨4, .data⟩ (by simp) rfl
      have q57 : a.tmps[57]?.getD undef = Value.int .i64 x := hI.val 4 _ 57 _ rfl rfl rfl d4
      rw [hno] at hR hK
      obtain ⟨X, hZ, hW⟩ := hR
      rw [if_neg Bool.false_ne_true] at hW
      subst hW
      clear hdep hI ho hno hlf
      go_simp
      refine (HCl.out _ hZ).mono ?_
      rintro e W2 ⟨rfl, hz⟩
      exact hK (Value.int .i64 er) _ (fun u hu => Option.some.inj (show some _ = some u from hu)) ⟨W2, hz, rfl⟩
    · obtain rfl := Option.some.inj (show some _ = some o from ho)
      have hf0 := hlf (by decide)
      rw [hf0] at hR hK
      have d5 : listed.getD 5 false = true := hdep ⟨5, .data⟩ (by simp) rfl
      have q58 : a.tmps[58]?.getD undef = Value.int .i64 er := hI.val 5 _ 58 _ rfl rfl rfl d5
      clear hdep hI ho hno hlf
      go_simp
      refine (num_any er _).mono ?_
      rintro e W2 ⟨rfl, rfl⟩
      exact hK (Value.int .i64 er) _ (fun u hu => Option.some.inj (show some _ = some u from hu)) hR
    · obtain rfl := Option.some.inj (show some _ = some o from ho)
      have hf0 := hlf (by decide)
      rw [hf0] at hR hK
      have q15 : a.tmps[15]?.getD undef = Value.int .i64 er := hI.old 15 (noDst_spec (by kernel_rfl))
      clear hdep hI ho hno hlf
      go_simp
      exact hK (Value.int .i64 er) _ (fun u hu => Option.some.inj (show some _ = some u from hu)) hR
    · obtain rfl := Option.some.inj (show some _ = some o from ho)
      have hf0 := hlf (by decide)
      rw [hf0] at hR hK
      have d6 : listed.getD 6 false = true := hdep ⟨6, .data⟩ (by simp) rfl
      have q59 : a.tmps[59]?.getD undef = Value.int .i64 er := hI.val 6 _ 59 _ rfl rfl rfl d6
      have d7 : listed.getD 7 false = true := hdep ⟨7, .data⟩ (by simp) rfl
      have q60 : a.tmps[60]?.getD undef = Value.int .i64 er := hI.val 7 _ 60 _ rfl rfl rfl d7
      clear hdep hI ho hno hlf
      go_simp
      exact hK (Value.bool true) _ (fun u hu => Option.some.inj (show some _ = some u from hu)) hR
    · obtain rfl := Option.some.inj (show some _ = some o from ho)
      have hf0 := hlf (by decide)
      rw [hf0] at hR hK
      have d8 : listed.getD 8 false = true := hdep ⟨8, .data⟩ (by simp) rfl
      have q61 : a.tmps[61]?.getD undef = Value.bool true := hI.val 8 _ 61 _ rfl rfl rfl d8
      clear hdep hI ho hno hlf
      go_simp
      exact hK (Value.bool true) _ (fun u hu => Option.some.inj (show some _ = some u from hu)) hR
    · obtain rfl := Option.some.inj (show some _ = some o from ho)
      have hf0 := hlf (by decide)
      rw [hf0] at hR hK
      have q0 : a.tmps[0]?.getD undef = Value.pointer (some ⟨b, 0, none⟩) := hI.old 0 (noDst_spec (by kernel_rfl))
      clear hdep hI ho hno hlf
      go_simp
      exact hK (Value.pointer (some ⟨b, 0, none⟩)) _ (fun u hu => Option.some.inj (show some _ = some u from hu)) hR
    · obtain rfl := Option.some.inj (show some _ = some o from ho)
      have hf0 := hlf (by decide)
      rw [hf0] at hR hK
      have q5 : a.tmps[5]?.getD undef = Value.pointer (some ⟨w.heap.size + 1, 0, none⟩) := hI.old 5 (noDst_spec (by kernel_rfl))
      clear hdep hI ho hno hlf
      go_simp
      exact hK (Value.pointer (some ⟨w.heap.size + 1, 1, none⟩)) _ (fun u hu => Option.some.inj (show some _ = some u from hu)) hR
    · obtain rfl := Option.some.inj (show some _ = some o from ho)
      have hf0 := hlf (by decide)
      rw [hf0] at hR hK
      have d11 : listed.getD 11 false = true := hdep ⟨11, .data⟩ (by simp) rfl
      have q64 : a.tmps[64]?.getD undef = Value.pointer (some ⟨w.heap.size + 1, 1, none⟩) := hI.val 11 _ 64 _ rfl rfl rfl d11
      obtain ⟨X, hZ, hW⟩ := hR
      rw [if_neg Bool.false_ne_true] at hW
      subst hW
      obtain ⟨z9, z5, z7, zA⟩ := HZR.out _ _ hZ
      have x1 := z5.c 1 rfl
      have hR : ThR V base b many m L' A (w.heap.size + 1 + 1) (.int .i64 (many : Nat)) (.slice A3 n3 c3) (listed.getD 5 false) false W := ⟨W, hZ, rfl⟩
      clear z9 z5 z7 zA hZ
      clear hdep hI ho hno hlf
      go_simp
      exact hK (Value.int .i64 x) _ (fun u hu => Option.some.inj (show some _ = some u from hu)) hR
    · obtain rfl := Option.some.inj (show some _ = some o from ho)
      have hf0 := hlf (by decide)
      rw [hf0] at hR hK
      have d10 : listed.getD 10 false = true := hdep ⟨10, .data⟩ (by simp) rfl
      have q63 : a.tmps[63]?.getD undef = Value.pointer (some ⟨b, 0, none⟩) := hI.val 10 _ 63 _ rfl rfl rfl d10
      have d12 : listed.getD 12 false = true := hdep ⟨12, .data⟩ (by simp) rfl
      have q65 : a.tmps[65]?.getD undef = Value.int .i64 x := hI.val 12 _ 65 _ rfl rfl rfl d12
      have d9 : listed.getD 9 false = true := hdep ⟨9, .guard⟩ (by simp) rfl
      have d8 : listed.getD 8 false = true := hI.world.1 9 _ rfl d9 ⟨8, .data⟩ (by simp) rfl
      have d6 : listed.getD 6 false = true := hI.world.1 8 _ rfl d8 ⟨6, .data⟩ (by simp) rfl
      have d5 : listed.getD 5 false = true := hI.world.1 6 _ rfl d6 ⟨5, .data⟩ (by simp) rfl
      rw [d5] at hR hK
      obtain ⟨X, ⟨A', ha, ho', hl⟩, hW⟩ := hR
      rw [if_neg Bool.false_ne_true] at hW
      subst hW
      have hT := ha.taken x HWF.out
      rw [HTV.out] at hT
      clear hdep hI ho hno hlf
      go_simp
      refine hT.mono ?_
      rintro e W2 ⟨rfl, hb⟩
      exact hK (Value.bool tk) _ (fun u hu => Option.some.inj (show some _ = some u from hu)) ⟨W2, ⟨A', ha.after hb, ho'.trans (Only.of hb), hl⟩, rfl⟩
    · obtain rfl := Option.some.inj (show some _ = some o from ho)
      have hf0 := hlf (by decide)
      rw [hf0] at hR hK
      have q14 : a.tmps[14]?.getD undef = Value.pointer (some ⟨B9, 0, none⟩) := hI.old 14 (noDst_spec (by kernel_rfl))
      obtain ⟨X, hZ, hW⟩ := hR
      rw [if_neg Bool.false_ne_true] at hW
      subst hW
      obtain ⟨z9, z5, z7, zA⟩ := HZR.out _ _ hZ
      have x0 := z9.c 0 rfl
      have x1 := z9.c 1 rfl
      have hR : ThR V base b many m L' A (w.heap.size + 1 + 1) (.int .i64 (many : Nat)) (.slice A3 n3 c3) (listed.getD 5 false) false W := ⟨W, hZ, rfl⟩
      clear z9 z5 z7 zA hZ
      clear hdep hI ho hno hlf
      go_simp
      exact hK (Value.agg #[.int .i64 (many : Nat), .slice A3 n3 c3]) _ (fun u hu => Option.some.inj (show some _ = some u from hu)) hR
    · obtain rfl := Option.some.inj (show some _ = some o from ho)
      have hf0 := hlf (by decide)
      rw [hf0] at hR hK
      have q5 : a.tmps[5]?.getD undef = Value.pointer (some ⟨w.heap.size + 1, 0, none⟩) := hI.old 5 (noDst_spec (by kernel_rfl))
      clear hdep hI ho hno hlf
      go_simp
      exact hK (Value.pointer (some ⟨w.heap.size + 1, 1, none⟩)) _ (fun u hu => Option.some.inj (show some _ = some u from hu)) hR
    · obtain rfl := Option.some.inj (show some _ = some o from ho)
      have hf0 := hlf (by decide)
      rw [hf0] at hR hK
      have d15 : listed.getD 15 false = true := hdep ⟨15, .data⟩ (by simp) rfl
      have q68 : a.tmps[68]?.getD undef = Value.pointer (some ⟨w.heap.size + 1, 1, none⟩) := hI.val 15 _ 68 _ rfl rfl rfl d15
      obtain ⟨X, hZ, hW⟩ := hR
      rw [if_neg Bool.false_ne_true] at hW
      subst hW
      obtain ⟨z9, z5, z7, zA⟩ := HZR.out _ _ hZ
      have x1 := z5.c 1 rfl
      have hR : ThR V base b many m L' A (w.heap.size + 1 + 1) (.int .i64 (many : Nat)) (.slice A3 n3 c3) (listed.getD 5 false) false W := ⟨W, hZ, rfl⟩
      clear z9 z5 z7 zA hZ
      clear hdep hI ho hno hlf
      go_simp
      exact hK (Value.int .i64 x) _ (fun u hu => Option.some.inj (show some _ = some u from hu)) hR
    · obtain rfl := Option.some.inj (show some _ = some o from ho)
      have hf0 := hlf (by decide)
      rw [hf0] at hR hK
      have d14 : listed.getD 14 false = true := hdep ⟨14, .data⟩ (by simp) rfl
      have q67 : a.tmps[67]?.getD undef = Value.agg #[.int .i64 (many : Nat), .slice A3 n3 c3] := hI.val 14 _ 67 _ rfl rfl rfl d14
      have d16 : listed.getD 16 false = true := hdep ⟨16, .data⟩ (by simp) rfl
      have q69 : a.tmps[69]?.getD undef = Value.int .i64 x := hI.val 16 _ 69 _ rfl rfl rfl d16
      have d9 : listed.getD 9 false = true := hdep ⟨9, .guard⟩ (by simp) rfl
      have d8 : listed.getD 8 false = true := hI.world.1 9 _ rfl d9 ⟨8, .data⟩ (by simp) rfl
      have d6 : listed.getD 6 false = true := hI.world.1 8 _ rfl d8 ⟨6, .data⟩ (by simp) rfl
      have d5 : listed.getD 5 false = true := hI.world.1 6 _ rfl d6 ⟨5, .data⟩ (by simp) rfl
      rw [d5] at hR hK
      obtain ⟨X, hZ, hW⟩ := hR
      rw [if_neg Bool.false_ne_true] at hW
      subst hW
      obtain ⟨z9, z5, z7, zA⟩ := HZR.out _ _ hZ
      have hT := rtaken_any many x L' A3 n3 c3 _ HN3.out.1 HN3.out.2 zA
      unfold rv at hT
      rw [HTV.out] at hT
      obtain ⟨A', ha, ho', hl⟩ := hZ
      clear hdep hI ho hno hlf z9 z5 z7 zA
      go_simp
      refine hT.mono ?_
      rintro e W2 ⟨rfl, hb⟩
      exact hK (Value.bool tk) _ (fun u hu => Option.some.inj (show some _ = some u from hu)) ⟨W2, ⟨A', ha.after hb, ho'.trans (Only.of hb), hl⟩, rfl⟩
    · obtain rfl := Option.some.inj (show some _ = some o from ho)
      have d13 : listed.getD 13 false = true := hdep ⟨13, .data⟩ (by simp) rfl
      have q66 : a.tmps[66]?.getD undef = Value.bool tk := hI.val 13 _ 66 _ rfl rfl rfl d13
      have d17 : listed.getD 17 false = true := hdep ⟨17, .data⟩ (by simp) rfl
      have q70 : a.tmps[70]?.getD undef = Value.bool tk := hI.val 17 _ 70 _ rfl rfl rfl d17
      clear hdep hI ho hno hlf
      go_simp
      exact hK (Value.bool true) _ (fun u hu => Option.some.inj (show some _ = some u from hu)) hR
    · obtain rfl := Option.some.inj (show some _ = some o from ho)
      have d9 : listed.getD 9 false = true := hdep ⟨9, .data⟩ (by simp) rfl
      have q62 : a.tmps[62]?.getD undef = Value.bool true := hI.val 9 _ 62 _ rfl rfl rfl d9
      have d18 : listed.getD 18 false = true := hdep ⟨18, .data⟩ (by simp) rfl
      have q71 : a.tmps[71]?.getD undef = Value.bool true := hI.val 18 _ 71 _ rfl rfl rfl d18
      clear hdep hI ho hno hlf
      go_simp
      exact hK (Value.bool true) _ (fun u hu => Option.some.inj (show some _ = some u from hu)) hR
    · obtain rfl := Option.some.inj (show some _ = some o from ho)
      have hf0 := hlf (by decide)
      rw [hf0] at hR hK
      have d0 : listed.getD 0 false = true := hdep ⟨0, .data⟩ (by simp) rfl
      have q53 : a.tmps[53]?.getD undef = Value.pointer (some ⟨b, 0, none⟩) := hI.val 0 _ 53 _ rfl rfl rfl d0
      clear hdep hI ho hno hlf
      go_simp
      exact hK (Value.pointer (some ⟨b, 0, none⟩)) _ (fun u hu => Option.some.inj (show some _ = some u from hu)) hR
    · obtain rfl := Option.some.inj (show some _ = some o from ho)
      have hf0 := hlf (by decide)
      rw [hf0] at hR hK
      have d1 : listed.getD 1 false = true := hdep ⟨1, .data⟩ (by simp) rfl
      have q54 : a.tmps[54]?.getD undef = Value.agg #[.int .i64 (many : Nat), .slice A3 n3 c3] := hI.val 1 _ 54 _ rfl rfl rfl d1
      have q7 : a.tmps[7]?.getD undef = Value.pointer (some ⟨w.heap.size + 1 + 1, 0, none⟩) := hI.old 7 (noDst_spec (by kernel_rfl))
      obtain ⟨X, hZ, hW⟩ := hR
      rw [if_neg Bool.false_ne_true] at hW
      subst hW
      obtain ⟨z9, z5, z7, zA⟩ := HZR.out _ _ hZ
      have x0 := z7.c 0 rfl
      have f0 := z7.f 0 rfl
      have x1 := (z7.set 0 (by simp) (.int .i64 (many : Nat))).c 1 rfl
      have f1 := (z7.set 0 (by simp) (.int .i64 (many : Nat))).f 1 rfl
      have f1' := z7.f 1 rfl
      clear hdep hI ho hno hlf
      go_simp
      exact hK undef _ (fun u hu => absurd (show (none : Option Value) = some u from hu) (by simp)) (⟨W, hZ, rfl⟩)
    · obtain rfl := Option.some.inj (show some _ = some o from ho)
      have d19 : listed.getD 19 false = true := hdep ⟨19, .data⟩ (by simp) rfl
      have q72 : a.tmps[72]?.getD undef = Value.bool true := hI.val 19 _ 72 _ rfl rfl rfl d19
      clear hdep hI ho hno hlf
      go_simp
      exact hK (Value.bool true) _ (fun u hu => Option.some.inj (show some _ = some u from hu)) hR
  · intro listed a W hI hall hR
    obtain ⟨X, hZ, hW⟩ := hR
    rw [if_pos rfl] at hW
    have q6 : a.tmps[6]?.getD undef = Value.pointer (some ⟨b, 0, none⟩) := hI.val 20 _ 6 _ rfl rfl rfl (hall 20 (by decide))
    have q8 : a.tmps[8]?.getD undef = Value.bool true := hI.val 22 _ 8 _ rfl rfl rfl (hall 22 (by decide))
    have q7 : a.tmps[7]?.getD undef = Value.pointer (some ⟨w.heap.size + 1 + 1, 0, none⟩) := hI.old 7 (noDst_spec (by kernel_rfl))
    have hdf : a.defers = [] := hI.defers
    have r7 := ((HZR.out _ _ hZ).2.2.1.set 0 (by simp) (.int .i64 (many : Nat))).set 1 (by simp) (.slice A3 n3 c3)
    rw [← hW] at r7
    have z0 := r7.c 0 rfl
    have z1 := r7.c 1 rfl
    have HP := Lib.hid (HF.out X W hZ hW)
    clear hI hall r7 hZ hW
    obtain ⟨tm, df⟩ := a
    simp only at hdf q6 q7 q8
    subst hdf
    go_wp2_with fail
    refine bodyPost_ret (v := .tuple #[.pointer (some ⟨b, 0, none⟩), Value.agg #[.int .i64 (many : Nat), .slice A3 n3 c3], .bool true]) (by simp [results, Try.results19, go_sem, q6, q7, q8, z0, z1]) rfl ?_
    exact HP.out
end Go.Proofs.Ytncgjlhmgdgokaa
