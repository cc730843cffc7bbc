/- law11.is: the program's arena stands as the document's; no condition. -/
import Derived.Test.YtncgjlhmgdgokaaBB
import Derived.Test.YtncgjlhmgdgokaaRI
namespace Go.Proofs.Ytncgjlhmgdgokaa
open Go.RowKit Go.Sort ArenaMath Go.Maps
attribute [local go_sem] Oper.semAt_some

section
variable {w w' : World} {base b many m : Nat} {L : List Int} {A : Option Addr}
theorem ArS.lenB (h : ArS w base b many L m A) : Calls Try.prog 15 #[.pointer (some ⟨b, 0, none⟩)] w fun e w' => e = .returned (.int .i64 (L.length : Nat)) ∧ Below w.heap.size w w' := h.len.mono fun _ _ h => ⟨h.1, h.2 ▸ Below.refl _ _⟩
theorem ArS.topB (h : ArS w base b many L m A) : Calls Try.prog 16 #[.pointer (some ⟨b, 0, none⟩)] w fun e w' => e = .returned (.int .i64 (topL L)) ∧ Below w.heap.size w w' := h.topT.mono fun _ _ h => ⟨h.1, h.2 ▸ Below.refl _ _⟩
theorem CellsS.only {F : Nat → Prop} {xs : List Value} (h : CellsS w A xs) (ho : Only F w w') (hF : 0 < xs.length → ∀ a, A = some a → ¬ F a.block) : CellsS w' A xs := fun h0 => by
  obtain ⟨b, o, rfl, hl, hc⟩ := h h0
  have hb := ho.block b hl (hF h0 _ rfl)
  exact ⟨b, o, rfl, Nat.lt_of_lt_of_le hl ho.size, fun j v hv => by rw [← hc j v hv]; simp only [World.cell?, hb]⟩
theorem CellsS.lt {xs : List Value} (h : CellsS w A xs) (h0 : 0 < xs.length) : ∀ a, A = some a → a.block < w.heap.size := fun a ha => by
  obtain ⟨b, o, hA, hl, _⟩ := h h0
  rw [ha] at hA; cases hA
  exact hl
end
theorem noDst_spec {ops : Array Oper} {t : Nat} (h : (ops.all fun o => o.dst != some t) = true) (i : Nat) (o : Oper) (hi : ops[i]? = some o) : o.dst ≠ some t := by
  have := Array.all_eq_true_iff_forall_mem.1 h o (Array.mem_of_getElem? hi)
  simpa using this
/-- Between the rounds. -/
def IsJ (m : World) (bN : Nat) (pre : List Int) (W : World) : Prop := Only (fun k => k = bN) m W ∧ Row W bN [.int .i64 (pre.length : Nat)]
theorem wrap_next (k : Nat) (h : k < 1000000) : IntKind.i64.wrap ((k : Int) + 1) = ((k + 1 : Nat) : Int) := by
  rw [IntWalk.i64_in _ (by omega)]; omega
set_option maxRecDepth 100000 in
set_option maxHeartbeats 16000000 in
theorem is_any {w : World} {base b many m n c : Nat} {L : List Int} {A A2 : Option Addr} (h : ArS w base b many L m A) (hn : n = L.length) (hA : CellsS w A2 (intCs L)) :
    Calls Try.prog 20 #[.pointer (some ⟨b, 0, none⟩), rv many A2 n c] w fun e w' => e = .returned (.bool true) ∧ Below w.heap.size w w' := by
  have H := Lib.hid h
  have HG := Lib.hid h.rng
  have HN := Lib.hid hn
  have HA := Lib.hid hA
  obtain ⟨tp, HT⟩ : ∃ tp, Hid (topL L = tp) := ⟨_, Lib.hid rfl⟩
  unfold rv
  clear h hn hA
  refine (callsIn_wide (n := 9)).1 ?_
  refine callsIn_of_wp_marks Try.func20 rfl trivial ?_ rfl
  simp only [Try.ntmps20, List.size_toArray, List.length_cons, List.length_nil, Nat.reduceAdd, Nat.reduceSub, Array.replicate_succ, Array.replicate_zero, List.push_toArray, List.append_toArray, List.nil_append, List.cons_append]
  refine wpIn_wide.2 ?_
  go_upto_region 2 with fail
  generalize hW : World.alloc _ _ = W5
  have hR2 : Row W5 (w.heap.size) [.pointer (some ⟨b, 0, none⟩)] := by rw [← hW]; exact (((Row.at rfl [_] _).alloc _).alloc _).alloc _
  have hR3 : Row W5 (w.heap.size + 1) [.int .i64 (many : Nat), .slice A2 n c] := by rw [← hW]; exact ((Row.at (by simp) [_, _] _).alloc _).alloc _
  have hR4 : Row W5 (w.heap.size + 1 + 1) [.bool false] := by rw [← hW]; exact (Row.at (by simp) [_] _).alloc _
  have hR5 : Row W5 (w.heap.size + 1 + 1 + 1) [.int .i64 0] := by rw [← hW]; exact Row.at (by simp) [_] _
  have hB5 : Below w.heap.size w W5 := by rw [← hW]; exact ((((Below.refl _ _).alloc (Nat.le_refl _) _).alloc (by simp) _).alloc (by simp; omega) _).alloc (by simp; omega) _
  clear hW
  have x2 := hR2.c 0 rfl
  have HC := Lib.hid (all_any (H.out.after hB5))
  go_wp2_with fail
  refine HC.out.mono ?_
  rintro e W6 ⟨E, AL, c6, rfl, hRE, hCA, hfr, hE6, hb6⟩
  have hB6 := hB5.trans (hb6.mono hB5.size)
  have hlN := (hR5.after hb6).lt
  have HFar : Hid (∀ a, AL = some a → a.block ≠ w.heap.size + 1 + 1 + 1) := Lib.hid (fun a ha => by have := hfr a ha; have := hR5.lt; omega)
  have hAr6 := H.out.after hB6
  have HAr : Hid (∀ W, Only (fun k => k = w.heap.size + 1 + 1 + 1) W6 W → ArS W base b many L m A) := Lib.hid (fun W hW => hAr6.only hW (fun k hk e => by
    have hlt := H.out.lt
    rcases hk with h | h | h
    · omega
    · omega
    · have := hlt.2.2 k h; omega))
  have hA26 := HA.out.after hB6
  have HA2 : Hid (∀ W, Only (fun k => k = w.heap.size + 1 + 1 + 1) W6 W → CellsS W A2 (intCs L)) := Lib.hid (fun W hW => hA26.only hW (fun h0 a ha e => by have := HA.out.lt h0 a ha; omega))
  have HSEQ := Lib.hid (vals_u 7 E L AL L.length c6 W6 rfl (by have := HG.out; omega) hRE hCA)
  have HA5 := Lib.hid hCA
  have HS := Lib.hid (And.intro (hR2.after hb6) (And.intro (hR3.after hb6) (And.intro (hR4.after hb6) (And.intro (hR5.after hb6) hB6))))
  clear hb6 hE6 hRE hCA hfr hB6 hB5 hR2 hR3 hR4 hR5 HC x2 hAr6 hA26 HA
  go_wp2_with fail
  refine (wpIn_wide (n := 9)).1 ?_
  refine wpIn_range_u (α := Int) rfl (by omega) (gf := 51) (lb := #[.pointer (some ⟨E, 0, none⟩)]) rfl trivial (enters_of Try.func51 (by kernel_rfl) rfl)
    HSEQ.out KeepsO.trans (fun _ l' W _ o' h _ _ _ => KeepsO.turn W o' (fun h0 a ha => CellsS.far HA5.out h (by rw [intCs_len]; omega) a ha)) (fun _ _ _ h => KeepsO.below h) (Below.refl _ _) (fun _ => rfl)
    (IsJ W6 (w.heap.size + 1 + 1 + 1)) (fun _ _ _ => False)
    (fun pre X Y h hb => ⟨h.1.under hb (Nat.le_refl _), h.2.below hb hlN⟩)
    (fun c pre X Y h hb => h.elim)
    ⟨Only.refl _ _, HS.out.2.2.2.1⟩
    (fun x a' _ => a' = { tmps := #[.pointer (some ⟨b, 0, none⟩), .agg #[.int .i64 (many : Nat), .slice A2 n c], .pointer (some ⟨w.heap.size, 0, none⟩), .pointer (some ⟨w.heap.size + 1, 0, none⟩), .pointer (some ⟨w.heap.size + 1 + 1, 0, none⟩), .pointer (some ⟨w.heap.size + 1 + 1 + 1, 0, none⟩), .int .i64 x, .pointer (some ⟨b, 0, none⟩), .func (.func 51) #[] #[.pointer (some ⟨E, 0, none⟩)], .int .i64 x, undef, undef, undef, undef, undef, undef, undef, undef, undef, undef, undef, undef, undef, undef, undef, undef, undef, undef, undef, undef, undef, undef, undef, undef, undef, undef, undef, undef, undef, undef, undef, undef, undef, undef, undef, undef, undef, undef, undef, undef, undef, undef, undef, undef, undef, undef, undef, undef, undef, undef, undef, undef], defers := [] })
    (fun x a' W lo o h1 h2 e => e) ?assign ?body ?done ?stop
  case stop => exact fun _ _ _ _ _ _ h => h.elim
  case assign =>
    intro l' pre x W K hI hW hK
    clear hI
    unfold encI
    gi_wp2
    exact hK _ _ (Below.refl _ _) rfl
  case body =>
    rintro l' pre x a' W ⟨ho, hS⟩ hW hp rfl
    have hx : x ∈ L := hp.subset (by simp)
    have hk : pre.length < n := by have h1 := hp.length_le; have h2 := HN.out; simp at h1; omega
    have hget : L[pre.length]? = some x := by
      obtain ⟨t, rfl⟩ := hp
      simp
    have x2 := (HS.out.1.only ho (by show ¬ w.heap.size = w.heap.size + 1 + 1 + 1; omega)).c 0 rfl
    have x31 := (HS.out.2.1.only ho (by show ¬ w.heap.size + 1 = w.heap.size + 1 + 1 + 1; omega)).c 1 rfl
    have x5 := hS.c 0 rfl
    obtain ⟨bk, ok, rfl, hl⟩ := HA2.out W ho (by rw [intCs_len, ← HN.out]; omega)
    have c0 : W.cell? ⟨bk, ok + pre.length, none⟩ = some (.int .i64 x) := hl.2 _ _ (intCs_get hget)
    have hk1 : (pre.length : Int) < n := by omega
    have hxr := HG.out.2.1 x hx
    have hr9 := (HAr.out W ho).taken x (wf64 (by have := HG.out.2.2.1; omega))
    rw [decide_eq_true hx] at hr9
    have HRx := Lib.hid hr9
    have HI := Lib.hid (And.intro ho hS)
    clear hr9 hl hp hget hx hxr ho hS
    generalize hkl : pre.length = k at *
    have HK := Lib.hid hkl
    clear hkl
    gi_wp2_with (fail)
    refine ⟨trivial, CallsIn.inRound _ (callsIn_wide.2 (HRx.out.mono ?_))⟩
    rintro e V ⟨rfl, hb⟩
    obtain ⟨ho, hS⟩ := HI.out
    have hoV := ho.under hb ho.size
    have hSV := hS.after hb
    have x5 := hSV.c 0 rfl
    have f5 := hSV.f 0 rfl
    have hwr := wrap_next k (by have := HG.out; have := HN.out; omega)
    have HF : Hid (KeepsFrom W6.heap.size W (V.setCell ⟨w.heap.size + 1 + 1 + 1, 0, none⟩ (.int .i64 ((k + 1 : Nat) : Int))) ∧ KeepsO L.length AL W (V.setCell ⟨w.heap.size + 1 + 1 + 1, 0, none⟩ (.int .i64 ((k + 1 : Nat) : Int))) ∧ IsJ W6 (w.heap.size + 1 + 1 + 1) (pre ++ [x]) (V.setCell ⟨w.heap.size + 1 + 1 + 1, 0, none⟩ (.int .i64 ((k + 1 : Nat) : Int)))) := Lib.hid
      ⟨KeepsFrom.put ((keeps_below hb).from _) hlN _, (KeepsO.below hb).put (fun _ a ha => HFar.out a ha) _ _, hoV.put (.inl rfl) _, by
        have := hSV.set 0 (by simp) (.int .i64 ((k + 1 : Nat) : Int))
        rw [show (pre ++ [x]).length = k + 1 by rw [List.length_append, HK.out]; rfl]
        exact this⟩
    clear hoV hSV hb ho hS HI HRx x2 x31 c0
    gi_wp2_with (fail)
    exact HF.out
  case done =>
    rintro D V hD ⟨ho, hS⟩ hK
    have HM := Lib.hid hK
    have hArV := HAr.out V ho
    have hA2V := HA2.out V ho
    have HLn : Hid (∀ W, Below V.heap.size V W → Calls Try.prog 15 #[.pointer (some ⟨b, 0, none⟩)] W fun e w' => e = .returned (.int .i64 (n : Nat)) ∧ Below W.heap.size W w') := Lib.hid (fun W hW => by rw [HN.out]; exact (hArV.after hW).lenB)
    have HTo : Hid (∀ W, Below V.heap.size V W → Calls Try.prog 16 #[.pointer (some ⟨b, 0, none⟩)] W fun e w' => e = .returned (.int .i64 tp) ∧ Below W.heap.size W w') := Lib.hid (fun W hW => by rw [← HT.out]; exact (hArV.after hW).topB)
    have HRt : Hid (∀ W, Below V.heap.size V W → Calls Try.prog 44 #[.agg #[.int .i64 (many : Nat), .slice A2 n c]] W fun e w' => e = .returned (.int .i64 tp) ∧ Below W.heap.size W w') := Lib.hid (fun W hW => by
      rw [← HT.out]
      exact rtop_any many L A2 n c W HN.out (by have := HG.out; have := HN.out; omega) (fun z hz => by have := HG.out.2.1 z hz; have := HG.out.2.2.1; omega) (hA2V.after hW))
    have HTn : Hid (∀ W (x : Int), (x < 0 ∧ -10 ≤ x) ∨ x = (many : Nat) → Below V.heap.size V W → Calls Try.prog 14 #[.pointer (some ⟨b, 0, none⟩), .int .i64 x] W fun e w' => e = .returned (.bool false) ∧ Below W.heap.size W w') := Lib.hid (fun W x hx hW => by
      have h9 := (hArV.after hW).taken x (wf64 (by have := HG.out.2.2.1; omega))
      rwa [decide_eq_false (fun hz => by have := HG.out.2.1 x hz; omega)] at h9)
    have hlen : L.length = n := HN.out.symm
    rw [hlen] at hS
    have HV : Hid (Row V (w.heap.size) [.pointer (some ⟨b, 0, none⟩)] ∧ Row V (w.heap.size + 1) [.int .i64 (many : Nat), .slice A2 n c] ∧ Row V (w.heap.size + 1 + 1) [.bool false] ∧ Row V (w.heap.size + 1 + 1 + 1) [.int .i64 (n : Nat)] ∧ Below w.heap.size w V) := Lib.hid
      ⟨HS.out.1.only ho (by show ¬ w.heap.size = w.heap.size + 1 + 1 + 1; omega), HS.out.2.1.only ho (by show ¬ w.heap.size + 1 = w.heap.size + 1 + 1 + 1; omega), HS.out.2.2.1.only ho (by show ¬ w.heap.size + 1 + 1 = w.heap.size + 1 + 1 + 1; omega), hS, HS.out.2.2.2.2.trans (ho.below (fun k hk => by have : k = w.heap.size + 1 + 1 + 1 := hk; omega) (by omega))⟩
    clear hK ho hS hArV hA2V hlen HAr HA2 H
    go_upto_region 7 with fail
    refine wp_region_fct (by kernel_rfl) [5, 11, 18, 23] (fun ix => match ix with
      | 0 => some (Value.int .i64 (n : Nat))
      | 1 => some (Value.pointer (some ⟨w.heap.size + 1, 1, none⟩))
      | 2 => some (Value.slice A2 n c)
      | 3 => some (Value.int .i64 (n : Nat))
      | 4 => some (Value.bool true)
      | 5 => some (Value.bool true)
      | 6 => some (Value.pointer (some ⟨b, 0, none⟩))
      | 7 => some (Value.int .i64 (n : Nat))
      | 8 => some (Value.int .i64 (n : Nat))
      | 9 => some (Value.bool true)
      | 10 => some (Value.bool true)
      | 11 => some (Value.bool true)
      | 12 => some (Value.pointer (some ⟨b, 0, none⟩))
      | 13 => some (Value.int .i64 tp)
      | 14 => some (Value.agg #[.int .i64 (many : Nat), .slice A2 n c])
      | 15 => some (Value.int .i64 tp)
      | 16 => some (Value.bool true)
      | 17 => some (Value.bool true)
      | 18 => some (Value.bool true)
      | 19 => some (Value.pointer (some ⟨b, 0, none⟩))
      | 20 => some (Value.bool false)
      | 21 => some (Value.bool true)
      | 22 => some (Value.bool true)
      | 23 => some (Value.bool true)
      | 24 => some (Value.pointer (some ⟨b, 0, none⟩))
      | 25 => some (Value.pointer (some ⟨w.heap.size + 1, 0, none⟩))
      | 26 => some (Value.int .i64 (many : Nat))
      | 27 => some (Value.bool false)
      | 28 => some (Value.bool true)
      | 29 => some (Value.bool true)
      | _ => none) (by intro j hj; simp only [List.mem_cons, List.not_mem_nil, or_false] at hj; rcases hj with rfl | rfl | rfl | rfl <;> rfl) 30 [] (fun W => ∃ X, Below V.heap.size V X ∧ W = X.setCell ⟨w.heap.size + 1 + 1, 0, none⟩ (.bool true)) (by kernel_rfl) (by kernel_rfl) (by rfl) ?_ ?_
    · intro listed a W ix o hI ho hdep hB hF K hK hKf
      have hi : ix < 31 := (Array.getElem?_eq_some_iff.1 ho).1
      have hcase : ix = 0 ∨ ix = 1 ∨ ix = 2 ∨ ix = 3 ∨ ix = 4 ∨ ix = 5 ∨ ix = 6 ∨ ix = 7 ∨ ix = 8 ∨ ix = 9 ∨ ix = 10 ∨ ix = 11 ∨ ix = 12 ∨ ix = 13 ∨ ix = 14 ∨ ix = 15 ∨ ix = 16 ∨ ix = 17 ∨ ix = 18 ∨ ix = 19 ∨ ix = 20 ∨ ix = 21 ∨ ix = 22 ∨ ix = 23 ∨ ix = 24 ∨ ix = 25 ∨ ix = 26 ∨ ix = 27 ∨ ix = 28 ∨ ix = 29 ∨ ix = 30 := by omega
      clear hi
      rcases hcase with rfl | rfl | rfl | rfl | rfl | rfl | rfl | rfl | rfl | rfl | rfl | rfl | rfl | rfl | rfl | rfl | rfl | rfl | rfl | rfl | rfl | rfl | rfl | rfl | rfl | rfl | rfl | rfl | rfl | rfl | rfl
      · obtain rfl := Option.some.inj (show some _ = some o from ho)
        have q5 : a.tmps[5]?.getD undef = Value.pointer (some ⟨w.heap.size + 1 + 1 + 1, 0, none⟩) := hI.old 5 (noDst_spec (by kernel_rfl))
        have x := (HV.out.2.2.2.1.after hB).c 0 rfl
        clear hdep hI ho hF
        go_simp
        exact hK (by decide) (Value.int .i64 (n : Nat)) _ (fun u hu => Option.some.inj (show some _ = some u from hu)) (Below.refl _ _) (fct_none rfl)
      · obtain rfl := Option.some.inj (show some _ = some o from ho)
        have q3 : a.tmps[3]?.getD undef = Value.pointer (some ⟨w.heap.size + 1, 0, none⟩) := hI.old 3 (noDst_spec (by kernel_rfl))
        clear hdep hI ho hF
        go_simp
        exact hK (by decide) (Value.pointer (some ⟨w.heap.size + 1, 1, none⟩)) _ (fun u hu => Option.some.inj (show some _ = some u from hu)) (Below.refl _ _) (fct_none rfl)
      · obtain rfl := Option.some.inj (show some _ = some o from ho)
        have d1 : listed.getD 1 false = true := hdep ⟨1, .data⟩ (by simp) rfl
        have q33 : a.tmps[33]?.getD undef = Value.pointer (some ⟨w.heap.size + 1, 1, none⟩) := hI.val 1 _ 33 _ rfl rfl rfl d1
        have x := (HV.out.2.1.after hB).c 1 rfl
        clear hdep hI ho hF
        go_simp
        exact hK (by decide) (Value.slice A2 n c) _ (fun u hu => Option.some.inj (show some _ = some u from hu)) (Below.refl _ _) (fct_none rfl)
      · obtain rfl := Option.some.inj (show some _ = some o from ho)
        have d2 : listed.getD 2 false = true := hdep ⟨2, .data⟩ (by simp) rfl
        have q34 : a.tmps[34]?.getD undef = Value.slice A2 n c := hI.val 2 _ 34 _ rfl rfl rfl d2
        clear hdep hI ho hF
        go_simp
        exact hK (by decide) (Value.int .i64 (n : Nat)) _ (fun u hu => Option.some.inj (show some _ = some u from hu)) (Below.refl _ _) (fct_none rfl)
      · obtain rfl := Option.some.inj (show some _ = some o from ho)
        have d0 : listed.getD 0 false = true := hdep ⟨0, .data⟩ (by simp) rfl
        have q32 : a.tmps[32]?.getD undef = Value.int .i64 (n : Nat) := hI.val 0 _ 32 _ rfl rfl rfl d0
        have d3 : listed.getD 3 false = true := hdep ⟨3, .data⟩ (by simp) rfl
        have q35 : a.tmps[35]?.getD undef = Value.int .i64 (n : Nat) := hI.val 3 _ 35 _ rfl rfl rfl d3
        clear hdep hI ho hF
        go_simp
        exact hK (by decide) (Value.bool true) _ (fun u hu => Option.some.inj (show some _ = some u from hu)) (Below.refl _ _) (fct_none rfl)
      · obtain rfl := Option.some.inj (show some _ = some o from ho)
        have d4 : listed.getD 4 false = true := hdep ⟨4, .data⟩ (by simp) rfl
        have q36 : a.tmps[36]?.getD undef = Value.bool true := hI.val 4 _ 36 _ rfl rfl rfl d4
        clear hdep hI ho hF
        go_simp
        exact hK (by decide) (Value.bool true) _ (fun u hu => Option.some.inj (show some _ = some u from hu)) (Below.refl _ _) (fct_none rfl)
      · obtain rfl := Option.some.inj (show some _ = some o from ho)
        have q2 : a.tmps[2]?.getD undef = Value.pointer (some ⟨w.heap.size, 0, none⟩) := hI.old 2 (noDst_spec (by kernel_rfl))
        have x := (HV.out.1.after hB).c 0 rfl
        clear hdep hI ho hF
        go_simp
        exact hK (by decide) (Value.pointer (some ⟨b, 0, none⟩)) _ (fun u hu => Option.some.inj (show some _ = some u from hu)) (Below.refl _ _) (fct_none rfl)
      · obtain rfl := Option.some.inj (show some _ = some o from ho)
        have d6 : listed.getD 6 false = true := hdep ⟨6, .data⟩ (by simp) rfl
        have q38 : a.tmps[38]?.getD undef = Value.pointer (some ⟨b, 0, none⟩) := hI.val 6 _ 38 _ rfl rfl rfl d6
        clear hdep hI ho hF
        go_simp
        refine (HLn.out _ hB).mono ?_
        rintro e W2 ⟨rfl, hb⟩
        exact hK (by decide) (Value.int .i64 (n : Nat)) _ (fun u hu => Option.some.inj (show some _ = some u from hu)) hb (fct_none rfl)
      · obtain rfl := Option.some.inj (show some _ = some o from ho)
        have q5 : a.tmps[5]?.getD undef = Value.pointer (some ⟨w.heap.size + 1 + 1 + 1, 0, none⟩) := hI.old 5 (noDst_spec (by kernel_rfl))
        have x := (HV.out.2.2.2.1.after hB).c 0 rfl
        clear hdep hI ho hF
        go_simp
        exact hK (by decide) (Value.int .i64 (n : Nat)) _ (fun u hu => Option.some.inj (show some _ = some u from hu)) (Below.refl _ _) (fct_none rfl)
      · obtain rfl := Option.some.inj (show some _ = some o from ho)
        have d7 : listed.getD 7 false = true := hdep ⟨7, .data⟩ (by simp) rfl
        have q39 : a.tmps[39]?.getD undef = Value.int .i64 (n : Nat) := hI.val 7 _ 39 _ rfl rfl rfl d7
        have d8 : listed.getD 8 false = true := hdep ⟨8, .data⟩ (by simp) rfl
        have q40 : a.tmps[40]?.getD undef = Value.int .i64 (n : Nat) := hI.val 8 _ 40 _ rfl rfl rfl d8
        clear hdep hI ho hF
        go_simp
        exact hK (by decide) (Value.bool true) _ (fun u hu => Option.some.inj (show some _ = some u from hu)) (Below.refl _ _) (fct_none rfl)
      · obtain rfl := Option.some.inj (show some _ = some o from ho)
        have d5 : listed.getD 5 false = true := hdep ⟨5, .data⟩ (by simp) rfl
        have q37 : a.tmps[37]?.getD undef = Value.bool true := hI.val 5 _ 37 _ rfl rfl rfl d5
        have d9 : listed.getD 9 false = true := hdep ⟨9, .data⟩ (by simp) rfl
        have q41 : a.tmps[41]?.getD undef = Value.bool true := hI.val 9 _ 41 _ rfl rfl rfl d9
        clear hdep hI ho hF
        go_simp
        exact hK (by decide) (Value.bool true) _ (fun u hu => Option.some.inj (show some _ = some u from hu)) (Below.refl _ _) (fct_none rfl)
      · obtain rfl := Option.some.inj (show some _ = some o from ho)
        have d10 : listed.getD 10 false = true := hdep ⟨10, .data⟩ (by simp) rfl
        have q42 : a.tmps[42]?.getD undef = Value.bool true := hI.val 10 _ 42 _ rfl rfl rfl d10
        clear hdep hI ho hF
        go_simp
        exact hK (by decide) (Value.bool true) _ (fun u hu => Option.some.inj (show some _ = some u from hu)) (Below.refl _ _) (fct_none rfl)
      · obtain rfl := Option.some.inj (show some _ = some o from ho)
        have q2 : a.tmps[2]?.getD undef = Value.pointer (some ⟨w.heap.size, 0, none⟩) := hI.old 2 (noDst_spec (by kernel_rfl))
        have x := (HV.out.1.after hB).c 0 rfl
        clear hdep hI ho hF
        go_simp
        exact hK (by decide) (Value.pointer (some ⟨b, 0, none⟩)) _ (fun u hu => Option.some.inj (show some _ = some u from hu)) (Below.refl _ _) (fct_none rfl)
      · obtain rfl := Option.some.inj (show some _ = some o from ho)
        have d12 : listed.getD 12 false = true := hdep ⟨12, .data⟩ (by simp) rfl
        have q44 : a.tmps[44]?.getD undef = Value.pointer (some ⟨b, 0, none⟩) := hI.val 12 _ 44 _ rfl rfl rfl d12
        clear hdep hI ho hF
        go_simp
        refine (HTo.out _ hB).mono ?_
        rintro e W2 ⟨rfl, hb⟩
        exact hK (by decide) (Value.int .i64 tp) _ (fun u hu => Option.some.inj (show some _ = some u from hu)) hb (fct_none rfl)
      · obtain rfl := Option.some.inj (show some _ = some o from ho)
        have q3 : a.tmps[3]?.getD undef = Value.pointer (some ⟨w.heap.size + 1, 0, none⟩) := hI.old 3 (noDst_spec (by kernel_rfl))
        have x := (HV.out.2.1.after hB).c 0 rfl
        have y := (HV.out.2.1.after hB).c 1 rfl
        clear hdep hI ho hF
        go_simp
        exact hK (by decide) (Value.agg #[.int .i64 (many : Nat), .slice A2 n c]) _ (fun u hu => Option.some.inj (show some _ = some u from hu)) (Below.refl _ _) (fct_none rfl)
      · obtain rfl := Option.some.inj (show some _ = some o from ho)
        have d14 : listed.getD 14 false = true := hdep ⟨14, .data⟩ (by simp) rfl
        have q46 : a.tmps[46]?.getD undef = Value.agg #[.int .i64 (many : Nat), .slice A2 n c] := hI.val 14 _ 46 _ rfl rfl rfl d14
        clear hdep hI ho hF
        go_simp
        refine (HRt.out _ hB).mono ?_
        rintro e W2 ⟨rfl, hb⟩
        exact hK (by decide) (Value.int .i64 tp) _ (fun u hu => Option.some.inj (show some _ = some u from hu)) hb (fct_none rfl)
      · obtain rfl := Option.some.inj (show some _ = some o from ho)
        have d13 : listed.getD 13 false = true := hdep ⟨13, .data⟩ (by simp) rfl
        have q45 : a.tmps[45]?.getD undef = Value.int .i64 tp := hI.val 13 _ 45 _ rfl rfl rfl d13
        have d15 : listed.getD 15 false = true := hdep ⟨15, .data⟩ (by simp) rfl
        have q47 : a.tmps[47]?.getD undef = Value.int .i64 tp := hI.val 15 _ 47 _ rfl rfl rfl d15
        clear hdep hI ho hF
        go_simp
        exact hK (by decide) (Value.bool true) _ (fun u hu => Option.some.inj (show some _ = some u from hu)) (Below.refl _ _) (fct_none rfl)
      · obtain rfl := Option.some.inj (show some _ = some o from ho)
        have d11 : listed.getD 11 false = true := hdep ⟨11, .data⟩ (by simp) rfl
        have q43 : a.tmps[43]?.getD undef = Value.bool true := hI.val 11 _ 43 _ rfl rfl rfl d11
        have d16 : listed.getD 16 false = true := hdep ⟨16, .data⟩ (by simp) rfl
        have q48 : a.tmps[48]?.getD undef = Value.bool true := hI.val 16 _ 48 _ rfl rfl rfl d16
        clear hdep hI ho hF
        go_simp
        exact hK (by decide) (Value.bool true) _ (fun u hu => Option.some.inj (show some _ = some u from hu)) (Below.refl _ _) (fct_none rfl)
      · obtain rfl := Option.some.inj (show some _ = some o from ho)
        have d17 : listed.getD 17 false = true := hdep ⟨17, .data⟩ (by simp) rfl
        have q49 : a.tmps[49]?.getD undef = Value.bool true := hI.val 17 _ 49 _ rfl rfl rfl d17
        clear hdep hI ho hF
        go_simp
        exact hK (by decide) (Value.bool true) _ (fun u hu => Option.some.inj (show some _ = some u from hu)) (Below.refl _ _) (fct_none rfl)
      · obtain rfl := Option.some.inj (show some _ = some o from ho)
        have q2 : a.tmps[2]?.getD undef = Value.pointer (some ⟨w.heap.size, 0, none⟩) := hI.old 2 (noDst_spec (by kernel_rfl))
        have x := (HV.out.1.after hB).c 0 rfl
        clear hdep hI ho hF
        go_simp
        exact hK (by decide) (Value.pointer (some ⟨b, 0, none⟩)) _ (fun u hu => Option.some.inj (show some _ = some u from hu)) (Below.refl _ _) (fct_none rfl)
      · obtain rfl := Option.some.inj (show some _ = some o from ho)
        have d19 : listed.getD 19 false = true := hdep ⟨19, .data⟩ (by simp) rfl
        have q51 : a.tmps[51]?.getD undef = Value.pointer (some ⟨b, 0, none⟩) := hI.val 19 _ 51 _ rfl rfl rfl d19
        clear hdep hI ho hF
        go_simp
        refine (HTn.out _ (-1) (by omega) hB).mono ?_
        rintro e W2 ⟨rfl, hb⟩
        exact hK (by decide) (Value.bool false) _ (fun u hu => Option.some.inj (show some _ = some u from hu)) hb (fct_none rfl)
      · obtain rfl := Option.some.inj (show some _ = some o from ho)
        have d20 : listed.getD 20 false = true := hdep ⟨20, .data⟩ (by simp) rfl
        have q52 : a.tmps[52]?.getD undef = Value.bool false := hI.val 20 _ 52 _ rfl rfl rfl d20
        clear hdep hI ho hF
        go_simp
        exact hK (by decide) (Value.bool true) _ (fun u hu => Option.some.inj (show some _ = some u from hu)) (Below.refl _ _) (fct_none rfl)
      · obtain rfl := Option.some.inj (show some _ = some o from ho)
        have d18 : listed.getD 18 false = true := hdep ⟨18, .data⟩ (by simp) rfl
        have q50 : a.tmps[50]?.getD undef = Value.bool true := hI.val 18 _ 50 _ rfl rfl rfl d18
        have d21 : listed.getD 21 false = true := hdep ⟨21, .data⟩ (by simp) rfl
        have q53 : a.tmps[53]?.getD undef = Value.bool true := hI.val 21 _ 53 _ rfl rfl rfl d21
        clear hdep hI ho hF
        go_simp
        exact hK (by decide) (Value.bool true) _ (fun u hu => Option.some.inj (show some _ = some u from hu)) (Below.refl _ _) (fct_none rfl)
      · obtain rfl := Option.some.inj (show some _ = some o from ho)
        have d22 : listed.getD 22 false = true := hdep ⟨22, .data⟩ (by simp) rfl
        have q54 : a.tmps[54]?.getD undef = Value.bool true := hI.val 22 _ 54 _ rfl rfl rfl d22
        clear hdep hI ho hF
        go_simp
        exact hK (by decide) (Value.bool true) _ (fun u hu => Option.some.inj (show some _ = some u from hu)) (Below.refl _ _) (fct_none rfl)
      · obtain rfl := Option.some.inj (show some _ = some o from ho)
        have q2 : a.tmps[2]?.getD undef = Value.pointer (some ⟨w.heap.size, 0, none⟩) := hI.old 2 (noDst_spec (by kernel_rfl))
        have x := (HV.out.1.after hB).c 0 rfl
        clear hdep hI ho hF
        go_simp
        exact hK (by decide) (Value.pointer (some ⟨b, 0, none⟩)) _ (fun u hu => Option.some.inj (show some _ = some u from hu)) (Below.refl _ _) (fct_none rfl)
      · obtain rfl := Option.some.inj (show some _ = some o from ho)
        have q3 : a.tmps[3]?.getD undef = Value.pointer (some ⟨w.heap.size + 1, 0, none⟩) := hI.old 3 (noDst_spec (by kernel_rfl))
        clear hdep hI ho hF
        go_simp
        exact hK (by decide) (Value.pointer (some ⟨w.heap.size + 1, 0, none⟩)) _ (fun u hu => Option.some.inj (show some _ = some u from hu)) (Below.refl _ _) (fct_none rfl)
      · obtain rfl := Option.some.inj (show some _ = some o from ho)
        have d25 : listed.getD 25 false = true := hdep ⟨25, .data⟩ (by simp) rfl
        have q57 : a.tmps[57]?.getD undef = Value.pointer (some ⟨w.heap.size + 1, 0, none⟩) := hI.val 25 _ 57 _ rfl rfl rfl d25
        have x := (HV.out.2.1.after hB).c 0 rfl
        clear hdep hI ho hF
        go_simp
        exact hK (by decide) (Value.int .i64 (many : Nat)) _ (fun u hu => Option.some.inj (show some _ = some u from hu)) (Below.refl _ _) (fct_none rfl)
      · obtain rfl := Option.some.inj (show some _ = some o from ho)
        have d24 : listed.getD 24 false = true := hdep ⟨24, .data⟩ (by simp) rfl
        have q56 : a.tmps[56]?.getD undef = Value.pointer (some ⟨b, 0, none⟩) := hI.val 24 _ 56 _ rfl rfl rfl d24
        have d26 : listed.getD 26 false = true := hdep ⟨26, .data⟩ (by simp) rfl
        have q58 : a.tmps[58]?.getD undef = Value.int .i64 (many : Nat) := hI.val 26 _ 58 _ rfl rfl rfl d26
        clear hdep hI ho hF
        go_simp
        refine (HTn.out _ (many : Nat) (by omega) hB).mono ?_
        rintro e W2 ⟨rfl, hb⟩
        exact hK (by decide) (Value.bool false) _ (fun u hu => Option.some.inj (show some _ = some u from hu)) hb (fct_none rfl)
      · obtain rfl := Option.some.inj (show some _ = some o from ho)
        have d27 : listed.getD 27 false = true := hdep ⟨27, .data⟩ (by simp) rfl
        have q59 : a.tmps[59]?.getD undef = Value.bool false := hI.val 27 _ 59 _ rfl rfl rfl d27
        clear hdep hI ho hF
        go_simp
        exact hK (by decide) (Value.bool true) _ (fun u hu => Option.some.inj (show some _ = some u from hu)) (Below.refl _ _) (fct_none rfl)
      · obtain rfl := Option.some.inj (show some _ = some o from ho)
        have d23 : listed.getD 23 false = true := hdep ⟨23, .data⟩ (by simp) rfl
        have q55 : a.tmps[55]?.getD undef = Value.bool true := hI.val 23 _ 55 _ rfl rfl rfl d23
        have d28 : listed.getD 28 false = true := hdep ⟨28, .data⟩ (by simp) rfl
        have q60 : a.tmps[60]?.getD undef = Value.bool true := hI.val 28 _ 60 _ rfl rfl rfl d28
        clear hdep hI ho hF
        go_simp
        exact hK (by decide) (Value.bool true) _ (fun u hu => Option.some.inj (show some _ = some u from hu)) (Below.refl _ _) (fct_none rfl)
      · obtain rfl := Option.some.inj (show some _ = some o from ho)
        have d29 : listed.getD 29 false = true := hdep ⟨29, .data⟩ (by simp) rfl
        have q61 : a.tmps[61]?.getD undef = Value.bool true := hI.val 29 _ 61 _ rfl rfl rfl d29
        have q4 : a.tmps[4]?.getD undef = Value.pointer (some ⟨w.heap.size + 1 + 1, 0, none⟩) := hI.old 4 (noDst_spec (by kernel_rfl))
        have x := (HV.out.2.2.1.after hB).c 0 rfl
        have f := (HV.out.2.2.1.after hB).f 0 rfl
        clear hdep hI ho hF
        go_simp
        exact hKf rfl undef _ (fun u hu => absurd (show (none : Option Value) = some u from hu) (by simp)) ⟨W, hB, rfl⟩
    · intro listed a W hI hall hfin hend
      obtain ⟨X, hX, rfl⟩ := hfin (by decide)
      have q4 : a.tmps[4]?.getD undef = Value.pointer (some ⟨w.heap.size + 1 + 1, 0, none⟩) := hI.old 4 (noDst_spec (by kernel_rfl))
      have hdf : a.defers = [{ target := .collected D, args := #[] }] := hI.defers
      have hrow : Row (X.setCell ⟨w.heap.size + 1 + 1, 0, none⟩ (.bool true)) (w.heap.size + 1 + 1) [.bool true] := (HV.out.2.2.1.after hX).set 0 (by simp) _
      have hD1 : D < V.heap.size := (Array.getElem?_eq_some_iff.1 HM.out).1
      have hMk : Marks W6.heap.size [D] (X.setCell ⟨w.heap.size + 1 + 1, 0, none⟩ (.bool true)) := ⟨hD, (Below.heap_setCell _ _ _ _ (by show D ≠ w.heap.size + 1 + 1; omega)).trans ((hX.block D hD1).trans HM.out), by simp, trivial⟩
      have hBX : Below w.heap.size w (X.setCell ⟨w.heap.size + 1 + 1, 0, none⟩ (.bool true)) := below_put1 (HV.out.2.2.2.2.trans (hX.mono HV.out.2.2.2.2.size)) (by omega) 0 _
      have HE := Lib.hid (And.intro hrow (And.intro hMk hBX))
      clear hrow hMk hBX hX hfin hend hall hI hD1
      generalize X.setCell ⟨w.heap.size + 1 + 1, 0, none⟩ (.bool true) = V4 at HE ⊢
      obtain ⟨tm, df⟩ := a
      simp only at hdf q4
      subst hdf
      go_wp2_with fail
      refine leaves_marks [D] V4 HE.out.2.1 fun V5 hV => ?_
      have c1 := (HE.out.1.below hV (by omega)).c 0 rfl
      exact ⟨.bool true, by simp [results, Try.results20, go_sem, q4, c1], rfl, HE.out.2.2.trans (hV.mono (by omega))⟩
end Go.Proofs.Ytncgjlhmgdgokaa
