/- Same of two arenas; no condition. -/
import Derived.Test.YtncgjlhmgdgokaaBA
namespace Go.Proofs.Ytncgjlhmgdgokaa
open Go.RowKit Go.Sort ArenaMath Go.Maps
attribute [local go_sem] Oper.semAt_some

theorem wf64 {x : Int} (h : -9223372036854775808 ≤ x ∧ x ≤ 9223372036854775807) : (Lit.int .i64 x).wf = true := by
  simp [Lit.wf, IntKind.min, IntKind.max, IntKind.signed, IntKind.bits]; omega
theorem SeqU.later {α : Type} {F : Fence} {n : Nat} {P : Program} {g : Nat} {lb : Array Value} {encs : α → Array Value} {Kp : Nat → World → World → Prop} {T : List α} {w w' : World} (h : SeqU F n P g lb encs Kp T w) (hb : Below w.heap.size w w') : SeqU F n P g lb encs Kp T w' :=
  fun l J Jx W hW hJ hJx hY h0 => h l J Jx W (hb.trans (hW.mono hb.size)) hJ hJx hY h0
theorem KeepsFrom.put {s b : Nat} {X Y : World} (h : KeepsFrom s X Y) (hb : b < s) (v : Value) : KeepsFrom s X (Y.setCell ⟨b, 0, none⟩ v) :=
  ⟨by simpa [World.setCell] using h.1, fun k o hk h1 h2 => (Below.heap_setCell _ _ _ _ (by show k ≠ b; omega)).trans (h.2 k o hk h1 h2)⟩
/-- Between the rounds: the places so far are taken in the other one, too. -/
def SmJ (m : World) (bS : Nat) (L' : List Int) (pre : List Int) (W : World) : Prop := Only (fun k => k = bS) m W ∧ Row W bS [.bool true] ∧ ∀ z ∈ pre, z ∈ L'
/-- Left at a place that is not. -/
def SmX (m : World) (bS : Nat) (L' : List Int) (c : Code) (pre : List Int) (W : World) : Prop := c = .exit 0 ∧ Only (fun k => k = bS) m W ∧ Row W bS [.bool false] ∧ ∃ z ∈ pre, z ∉ L'
set_option maxRecDepth 100000 in
set_option maxHeartbeats 6400000 in
theorem same_any {w : World} {base b many m base' b' many' m' : Nat} {L L' : List Int} {A A' : Option Addr} (h : ArS w base b many L m A) (h' : ArS w base' b' many' L' m' A') :
    Calls Try.prog 18 #[.pointer (some ⟨b, 0, none⟩), .pointer (some ⟨b', 0, none⟩)] w fun e w' => e = .returned (.bool (decide (many = many' ∧ L = L'))) ∧ Below w.heap.size w w' := by
  obtain ⟨r, HQ⟩ : ∃ r, Hid (decide (many = many' ∧ L = L') = r) := ⟨_, Lib.hid rfl⟩
  rw [HQ.out]
  have H := Lib.hid (And.intro h h')
  have HG := Lib.hid (And.intro h.rng h'.rng)
  clear h h'
  refine (callsIn_wide (n := 9)).1 ?_
  refine callsIn_of_wp_marks Try.func18 rfl trivial ?_ rfl
  simp only [Try.ntmps18, List.size_toArray, List.length_cons, List.length_nil, Nat.reduceAdd, Nat.reduceSub, Array.replicate_succ, Array.replicate_zero, List.push_toArray, List.append_toArray, List.nil_append, List.cons_append]
  refine wpIn_wide.2 ?_
  go_upto_region 1 with fail
  generalize hW : World.alloc _ _ = W0
  have hR3 : Row W0 w.heap.size [.pointer (some ⟨b', 0, none⟩)] := by rw [← hW]; exact Row.at rfl [_] _
  have hB0 : Below w.heap.size w W0 := by rw [← hW]; exact (Below.refl _ _).alloc (Nat.le_refl _) _
  clear hW
  have x3 := hR3.c 0 rfl
  have m1 := (H.out.1.after hB0).manyC
  have m2 := (H.out.2.after hB0).manyC
  have CT1 := Lib.hid (H.out.1.after hB0).there
  have CT2 := Lib.hid (H.out.2.after hB0).there
  have C : Hid (∀ (p n j : Nat), (p = b ∧ n = L.length) ∨ (p = b' ∧ n = L'.length) → Calls Try.prog 15 #[.pointer (some ⟨p, 0, none⟩)] (W0.drewN j) fun e w' => e = .returned (.int .i64 (n : Nat)) ∧ w' = W0.drewN j) := Lib.hid (fun p n j h => by
    rcases h with ⟨rfl, rfl⟩ | ⟨rfl, rfl⟩
    · exact (H.out.1.after (below_drewN hB0 j)).len
    · exact (H.out.2.after (below_drewN hB0 j)).len)
  refine wp_scope_straight ?_
  go_wp2_with fail
  refine CT1.out.mono ?_
  rintro e W1 ⟨rfl, rfl⟩
  go_wp2_with fail
  refine CT2.out.mono ?_
  rintro e W1 ⟨rfl, rfl⟩
  clear CT1 CT2
  have HR3 := Lib.hid (And.intro hR3 hB0)
  by_cases hm : many = many'
  case neg =>
    obtain rfl : r = false := by rw [← HQ.out]; exact decide_eq_false (fun h => hm h.1)
    have hm1 : ((many : Int) != (many' : Int)) = true := by simp; omega
    clear HQ hm hR3 hB0
    go_wp2_with fail
    go_quiet ((go_at_call 15; exact Calls.quiet_of_same (C.out _ _ _ (by first | exact .inl ⟨rfl, rfl⟩ | exact .inr ⟨rfl, rfl⟩))))
    go_wp2_with fail
    (try simp only [Exit.noGoto])
    refine leaves_marks (B := w.heap.size) [] _ trivial fun V hV => ?_
    exact ⟨.bool false, by simp [results, Try.results18, go_sem], rfl, (below_drewN HR3.out.2 _).trans hV⟩
  by_cases hl : L.length = L'.length
  case neg =>
    obtain rfl : r = false := by rw [← HQ.out]; exact decide_eq_false (fun h => hl (by rw [h.2]))
    have hm1 : ((many : Int) != (many' : Int)) = false := by simp; omega
    have hl1 : ((L.length : Int) != (L'.length : Int)) = true := by simp; omega
    clear HQ hm hl hR3 hB0
    go_wp2_with fail
    go_quiet ((go_at_call 15; exact Calls.quiet_of_same (C.out _ _ _ (by first | exact .inl ⟨rfl, rfl⟩ | exact .inr ⟨rfl, rfl⟩))))
    go_wp2_with fail
    (try simp only [Exit.noGoto])
    refine leaves_marks (B := w.heap.size) [] _ trivial fun V hV => ?_
    exact ⟨.bool false, by simp [results, Try.results18, go_sem], rfl, (below_drewN HR3.out.2 _).trans hV⟩
  have hm1 : ((many : Int) != (many' : Int)) = false := by simp; omega
  have hl1 : ((L.length : Int) != (L'.length : Int)) = false := by simp; omega
  have HE := Lib.hid (And.intro hm hl)
  clear hm hl hR3 hB0
  go_wp2_with fail
  go_quiet ((go_at_call 15; exact Calls.quiet_of_same (C.out _ _ _ (by first | exact .inl ⟨rfl, rfl⟩ | exact .inr ⟨rfl, rfl⟩))))
  go_upto_region 5 with fail
  generalize hD : World.drewN _ _ = W4
  have hB4 : Below W1.heap.size W1 W4 := by rw [← hD]; exact below_drewN (Below.refl _ _) _
  have hr3 := HR3.out.1.after hB4
  have hB4w := HR3.out.2.trans (hB4.mono HR3.out.2.size)
  have HR4 := Lib.hid (And.intro hr3 hB4w)
  clear hD hB4 hr3 hB4w HR3 C x3 m1 m2 hm1 hl1
  go_upto_region 6 with fail
  generalize hW5 : World.alloc _ _ = W5
  have hr5 : Row W5 W4.heap.size [.bool true] := by rw [← hW5]; exact Row.at rfl [_] _
  have hb5 : Below W4.heap.size W4 W5 := by rw [← hW5]; exact (Below.refl _ _).alloc (Nat.le_refl _) _
  have hr3 := HR4.out.1.after hb5
  have hz4 : w.heap.size < W4.heap.size := HR4.out.1.lt
  have hb5w := HR4.out.2.trans (hb5.mono HR4.out.2.size)
  clear hW5 hb5 HR4
  generalize W4.heap.size = bS at *
  have HC := Lib.hid (all_any (H.out.1.after hb5w))
  (first | refine wp_label ?_ | refine wp_label.2 ?_)
  go_wp2_with fail
  refine HC.out.mono ?_
  rintro e W6 ⟨E, AL, c6, rfl, hRE, hCA, hfr, hE6, hb6⟩
  have HFar : Hid (∀ a, AL = some a → a.block ≠ bS) := Lib.hid (fun a ha => by have := hfr a ha; have := hr5.lt; omega)
  replace hr3 := hr3.after hb6
  replace hr5 := hr5.after hb6
  replace hb5w := hb5w.trans (hb6.mono hb5w.size)
  have HTk : Hid (∀ x ∈ L, ∀ W, Only (fun k => k = bS) W6 W → Calls Try.prog 14 #[.pointer (some ⟨b', 0, none⟩), .int .i64 x] W fun e w' => e = .returned (.bool (decide (x ∈ L'))) ∧ Below W.heap.size W w') := Lib.hid (fun x hx W hW => by
    have h6 := H.out.2.after hb5w
    have hlt := H.out.2.lt
    have h7 := h6.only hW (fun k hk e => by
      rcases hk with h | h | h
      · omega
      · omega
      · have := hlt.2.2 k h; omega)
    have hx2 := HG.out.1.2.1 x hx
    have hx3 := HG.out.1.2.2.1
    exact h7.taken x (wf64 (by omega)))
  have HSEQ := Lib.hid (vals_u 7 E L AL L.length c6 W6 rfl (by have := HG.out.1; omega) hRE hCA)
  have HA5 := Lib.hid hCA
  have HB := Lib.hid hb5w
  have hlS := hr5.lt
  have HS := Lib.hid (And.intro hr3 hr5)
  clear hb6 hE6 hRE hCA hfr hb5w hr3 hr5 HC H
  go_wp2_with fail
  refine (wpIn_wide (n := 9)).1 ?_
  refine wpIn_range_u (α := Int) rfl (by omega) (gf := 51) (lb := #[.pointer (some ⟨E, 0, none⟩)]) rfl trivial (enters_of Try.func51 (by kernel_rfl) rfl)
    HSEQ.out KeepsO.trans (fun _ l' W _ o' h _ _ _ => KeepsO.turn W o' (fun h0 a ha => CellsS.far HA5.out h (by rw [intCs_len]; omega) a ha)) (fun _ _ _ h => KeepsO.below h) (Below.refl _ _) (fun _ => rfl)
    (SmJ W6 bS L') (SmX W6 bS L')
    (fun pre X Y h hb => ⟨h.1.under hb (Nat.le_refl _), h.2.1.below hb hlS, h.2.2⟩)
    (fun c pre X Y h hb => ⟨h.1, h.2.1.under hb (Nat.le_refl _), h.2.2.1.below hb hlS, h.2.2.2⟩)
    ⟨Only.refl _ _, HS.out.2, fun z hz => by cases hz⟩
    (fun x a' _ => a' = { tmps := #[.pointer (some ⟨b, 0, none⟩), .pointer (some ⟨b', 0, none⟩), undef, .pointer (some ⟨w.heap.size, 0, none⟩), .bool false, .pointer (some ⟨bS, 0, none⟩), .int .i64 x, .pointer (some ⟨b, 0, none⟩), .bool true, .bool false, .bool false, .pointer (some ⟨b', 0, none⟩), .bool true, .bool false, .bool false, undef, undef, undef, undef, undef, .pointer (some ⟨b, 0, none⟩), .pointer (some ⟨b, 0, none⟩), .pointer (some ⟨b, 2, none⟩), .int .i64 many, .pointer (some ⟨b', 0, none⟩), .pointer (some ⟨b', 0, none⟩), .pointer (some ⟨b', 2, none⟩), .int .i64 many', .bool false, .bool false, .pointer (some ⟨b, 0, none⟩), .int .i64 (L.length : Nat), .pointer (some ⟨b', 0, none⟩), .int .i64 (L'.length : Nat), .bool false, .bool false, .pointer (some ⟨b, 0, none⟩), .func (.func 51) #[] #[.pointer (some ⟨E, 0, none⟩)], .int .i64 x, undef, undef, undef, undef, undef], defers := [] })
    (fun x a' W lo o h1 h2 e => e) ?assign ?body ?done ?stop
  case assign =>
    intro l' pre x W K hI hW hK
    clear hI
    unfold encI
    gi_wp2
    exact hK _ _ (Below.refl _ _) rfl
  case body =>
    rintro l' pre x a' W ⟨ho, hS, hP⟩ hW hp rfl
    have hx : x ∈ L := hp.subset (by simp)
    have x3 := (HS.out.1.only ho (by show ¬ w.heap.size = bS; omega)).c 0 rfl
    have HI := Lib.hid (And.intro ho (And.intro hS hP))
    have HRx := Lib.hid (HTk.out x hx W ho)
    clear ho hS hP hx hp
    gi_wp2_with (fail)
    refine ⟨trivial, CallsIn.inRound _ (callsIn_wide.2 (HRx.out.mono ?_))⟩
    rintro e V ⟨rfl, hb⟩
    obtain ⟨ho, hS, hP⟩ := HI.out
    have hoV := ho.under hb ho.size
    have hSV := hS.after hb
    have x5 := hSV.c 0 rfl
    have f5 := hSV.f 0 rfl
    by_cases hx' : x ∈ L'
    · rw [decide_eq_true hx']
      have HF : Hid (KeepsFrom W6.heap.size W V ∧ KeepsO L.length AL W V ∧ SmJ W6 bS L' (pre ++ [x]) V) := Lib.hid
        ⟨(keeps_below hb).from _, KeepsO.below hb, hoV, hSV, fun z hz => by
          rcases List.mem_append.1 hz with h | h
          · exact hP z h
          · simp at h; rw [h]; exact hx'⟩
      clear hoV hSV hb ho hS hP HI hx' x3 HRx
      gi_wp2_with (fail)
      exact HF.out
    · rw [decide_eq_false hx']
      have HF : Hid (KeepsFrom W6.heap.size W (V.setCell ⟨bS, 0, none⟩ (.bool false)) ∧ KeepsO L.length AL W (V.setCell ⟨bS, 0, none⟩ (.bool false)) ∧ SmX W6 bS L' (.exit 0) (pre ++ [x]) (V.setCell ⟨bS, 0, none⟩ (.bool false))) := Lib.hid
        ⟨KeepsFrom.put ((keeps_below hb).from _) hlS _, (KeepsO.below hb).put (fun _ a ha => HFar.out a ha) _ _, rfl, hoV.put (.inl rfl) _, hSV.set 0 (by simp) _, x, by simp, hx'⟩
      clear hoV hSV hb ho hS hP HI hx' x3 HRx
      gi_wp2_with (fail)
      exact HF.out
  case done =>
    rintro D V hD ⟨ho, hS, hP⟩ hK
    obtain rfl : r = true := by
      rw [← HQ.out]
      exact decide_eq_true ⟨HE.out.1, ris_same HG.out.1.1 HG.out.2.1 HE.out.2 hP⟩
    have x5 := hS.c 0 rfl
    have hM : Marks W6.heap.size [D] V := ⟨hD, hK, fun E hE' => by simp at hE', trivial⟩
    have hB9 : Below w.heap.size w V := HB.out.trans (ho.below (fun k hk => by have : k = bS := hk; omega) (by omega))
    have HM := Lib.hid (And.intro hM hB9)
    clear hK hM hB9 ho hS hP HQ
    go_wp2_with fail
    (try simp only [Exit.noGoto])
    refine leaves_marks [D] _ HM.out.1 fun V' hV => ?_
    exact ⟨.bool true, by simp [results, Try.results18, go_sem], rfl, HM.out.2.trans (hV.mono (by omega))⟩
  case stop =>
    rintro D cx pre V hD hp ⟨rfl, ho, hS, z, hz, hz'⟩ hK
    refine wpIn_wide.2 ?_
    obtain rfl : r = false := by
      rw [← HQ.out]
      exact decide_eq_false (fun h => hz' (h.2 ▸ hp.subset hz))
    have x5 := hS.c 0 rfl
    have hM : Marks W6.heap.size [D] V := ⟨hD, hK, fun E hE' => by simp at hE', trivial⟩
    have hB9 : Below w.heap.size w V := HB.out.trans (ho.below (fun k hk => by have : k = bS := hk; omega) (by omega))
    have HM := Lib.hid (And.intro hM hB9)
    clear hK hM hB9 ho hS HQ hz hz' hp
    go_wp2_with fail
    (try simp only [Exit.noGoto])
    refine leaves_marks [D] _ HM.out.1 fun V' hV => ?_
    exact ⟨.bool false, by simp [results, Try.results18, go_sem], rfl, HM.out.2.trans (hV.mono (by omega))⟩
end Go.Proofs.Ytncgjlhmgdgokaa
