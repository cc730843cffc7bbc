/- AngleMirrors walked, over what its calls answer; its truth. -/
import Derived.Test.YtfdofajknnocfaaNO
import Derived.Test.YtfdofajknnocfaaNT
namespace Go.Proofs.Ytfdofajknnocfaa
open Go.RowKit Go.Sort

set_option maxHeartbeats 12800000 in
set_option maxRecDepth 100000 in
theorem mirrors_core (x y u v s t : Int) (w : World) (p q : Bool) (hy : Rnd.Bd y) (hv : Rnd.Bd v) (ht : Rnd.Bd t)
    (Ha : Hid (∀ W, Calls Try.prog 13 #[wayV x y] W fun e w' => e = .returned (.int .i64 0) ∧ Below W.heap.size W w')) (Hb : Hid (∀ W, Calls Try.prog 13 #[wayV u v] W fun e w' => e = .returned (.int .i64 0) ∧ Below W.heap.size W w')) (Hc : Hid (∀ W, Calls Try.prog 13 #[wayV s t] W fun e w' => e = .returned (.int .i64 0) ∧ Below W.heap.size W w'))
    (H1 : Hid (∀ W, Calls Try.prog 18 #[wayV x y, wayV u v, wayV s t] W fun e w' => e = .returned (.tuple #[.bool p, .int .i64 0]) ∧ Below W.heap.size W w')) (H2 : Hid (∀ W, Calls Try.prog 18 #[wayV u (-v), wayV x (-y), wayV s (-t)] W fun e w' => e = .returned (.tuple #[.bool p, .int .i64 0]) ∧ Below W.heap.size W w')) (H3 : Hid (∀ W, Calls Try.prog 9 #[wayV x y, wayV u v] W fun e w' => e = .returned (.tuple #[.bool q, .int .i64 0]) ∧ Below W.heap.size W w')) (H4 : Hid (∀ W, Calls Try.prog 9 #[wayV x (-y), wayV u (-v)] W fun e w' => e = .returned (.tuple #[.bool q, .int .i64 0]) ∧ Below W.heap.size W w')) :
    Calls Try.prog 7 #[wayV x y, wayV u v, wayV s t] w fun e w' => e = .returned (.bool true) ∧ Below w.heap.size w w' := by
  obtain ⟨hy1, hy2⟩ := hy
  obtain ⟨hv1, hv2⟩ := hv
  obtain ⟨ht1, ht2⟩ := ht
  have e1 : (p == p) = true := by simp
  have e2 : (q == q) = true := by simp
  go_enter Try.func7, Try.ntmps7
  go_wp2_with fail
  have hS : RS w [(w.heap.size, wayL x y), (w.heap.size + 1, wayL u v), (w.heap.size + 1 + 1, wayL s t)] _ :=
    ((((RS.nil w).new (B := w.heap.size) rfl (wayL x y) 23).new (B := w.heap.size + 1) (by simp) (wayL u v) 23).new (B := w.heap.size + 1 + 1) (by simp) (wayL s t) 23)
  generalize World.alloc _ _ = W0 at hS ⊢
  have g00 := hS.c 0 rfl 0 rfl
  have g01 := hS.c 0 rfl 1 rfl
  have g10 := hS.c 1 rfl 0 rfl
  have g11 := hS.c 1 rfl 1 rfl
  have g20 := hS.c 2 rfl 0 rfl
  have g21 := hS.c 2 rfl 1 rfl
  go_wp2_with (go_at_call 12; refine (num_any _ _).mono ?_; rintro e w' ⟨rfl, rfl⟩)
  refine (Ha.out _).mono ?_
  rintro e w5 ⟨rfl, hb⟩
  clear g00 g01 g10 g11 g20 g21
  replace hS := hS.after hb
  clear hb
  have g00 := hS.c 0 rfl 0 rfl
  have g01 := hS.c 0 rfl 1 rfl
  have g10 := hS.c 1 rfl 0 rfl
  have g11 := hS.c 1 rfl 1 rfl
  have g20 := hS.c 2 rfl 0 rfl
  have g21 := hS.c 2 rfl 1 rfl
  go_wp2_with (go_at_call 12; refine (num_any _ _).mono ?_; rintro e w' ⟨rfl, rfl⟩)
  refine (Hb.out _).mono ?_
  rintro e w6 ⟨rfl, hb⟩
  clear g00 g01 g10 g11 g20 g21
  replace hS := hS.after hb
  clear hb
  have g00 := hS.c 0 rfl 0 rfl
  have g01 := hS.c 0 rfl 1 rfl
  have g10 := hS.c 1 rfl 0 rfl
  have g11 := hS.c 1 rfl 1 rfl
  have g20 := hS.c 2 rfl 0 rfl
  have g21 := hS.c 2 rfl 1 rfl
  go_wp2_with (go_at_call 12; refine (num_any _ _).mono ?_; rintro e w' ⟨rfl, rfl⟩)
  refine (Hc.out _).mono ?_
  rintro e w7 ⟨rfl, hb⟩
  clear g00 g01 g10 g11 g20 g21
  replace hS := hS.after hb
  clear hb
  have g00 := hS.c 0 rfl 0 rfl
  have g01 := hS.c 0 rfl 1 rfl
  have g10 := hS.c 1 rfl 0 rfl
  have g11 := hS.c 1 rfl 1 rfl
  have g20 := hS.c 2 rfl 0 rfl
  have g21 := hS.c 2 rfl 1 rfl
  go_wp2_with fail
  obtain ⟨LL, hLL⟩ : ∃ LL, LL = [(w.heap.size, wayL x y), (w.heap.size + 1, wayL u v), (w.heap.size + 1 + 1, wayL s t)] := ⟨_, rfl⟩
  rw [← hLL] at hS
  have HL := Lib.hid hLL
  clear hLL
  clear g00 g01 g10 g11 g20 g21
  have n0 : wrap64 (-y) = -y := Rnd.wrap_in (by omega) (by omega)
  have i0 : IntKind.i64.wrap (-y) = -y := by simp only [IntKind.wrap_i64]; omega
  have n1 : wrap64 (-v) = -v := Rnd.wrap_in (by omega) (by omega)
  have i1 : IntKind.i64.wrap (-v) = -v := by simp only [IntKind.wrap_i64]; omega
  have n2 : wrap64 (-t) = -t := Rnd.wrap_in (by omega) (by omega)
  have i2 : IntKind.i64.wrap (-t) = -t := by simp only [IntKind.wrap_i64]; omega
  refine wp_region_mid (by kernel_rfl) (fun i => match i with
    | 0 => some (.pointer (some ⟨w.heap.size, 0, none⟩))
    | 1 => some (.int .i64 x)
    | 2 => some (.pointer (some ⟨w.heap.size, 1, none⟩))
    | 3 => some (.int .i64 y)
    | 4 => some (.int .i64 (-y))
    | 5 => some (wayV x (-y))
    | 6 => some (.pointer (some ⟨(w.heap.size + 1), 0, none⟩))
    | 7 => some (.int .i64 u)
    | 8 => some (.pointer (some ⟨(w.heap.size + 1), 1, none⟩))
    | 9 => some (.int .i64 v)
    | 10 => some (.int .i64 (-v))
    | 11 => some (wayV u (-v))
    | 12 => some (.pointer (some ⟨(w.heap.size + 1 + 1), 0, none⟩))
    | 13 => some (.int .i64 s)
    | 14 => some (.pointer (some ⟨(w.heap.size + 1 + 1), 1, none⟩))
    | 15 => some (.int .i64 t)
    | 16 => some (.int .i64 (-t))
    | 17 => some (wayV s (-t))
    | _ => none) (TriS w LL (sel3 x u s) (sel3 (-y) (-v) (-t))) (by kernel_rfl) ⟨hS.drew, fun k _ h => by simp at h, fun j k _ _ _ h => by simp at h, fun k _ h => by simp at h⟩ ?_ ?_
  · intro listed a W i o hI ho h0 hdep K hK'
    have hi : i < 24 := (Array.getElem?_eq_some_iff.1 ho).1
    have hM := hI.world
    have hls : listed.size = 24 := hI.lsize
    have hsz : 9 < a.tmps.size := by rw [hI.size]; show (9 : Nat) < 101; decide
    have q3 : a.tmps[3]?.getD undef = .pointer (some ⟨w.heap.size, 0, none⟩) := hI.old 3 (noDst_spec (by kernel_rfl))
    have q4 : a.tmps[4]?.getD undef = .pointer (some ⟨(w.heap.size + 1), 0, none⟩) := hI.old 4 (noDst_spec (by kernel_rfl))
    have q5 : a.tmps[5]?.getD undef = .pointer (some ⟨(w.heap.size + 1 + 1), 0, none⟩) := hI.old 5 (noDst_spec (by kernel_rfl))
    have hcase : i = 0 ∨ i = 1 ∨ i = 2 ∨ i = 3 ∨ i = 4 ∨ i = 5 ∨ i = 6 ∨ i = 7 ∨ i = 8 ∨ i = 9 ∨ i = 10 ∨ i = 11 ∨ i = 12 ∨ i = 13 ∨ i = 14 ∨ i = 15 ∨ i = 16 ∨ i = 17 ∨ i = 18 ∨ i = 19 ∨ i = 20 ∨ i = 21 ∨ i = 22 ∨ i = 23 := by omega
    clear hi hS
    rcases hcase with rfl | rfl | rfl | rfl | rfl | rfl | rfl | rfl | rfl | rfl | rfl | rfl | rfl | rfl | rfl | rfl | rfl | rfl | rfl | rfl | rfl | rfl | rfl | rfl
    · obtain rfl := Option.some.inj (show some _ = some o from ho)
      clear hdep hI ho
      go_simp
      exact hK' (.pointer (some ⟨w.heap.size, 0, none⟩)) _ (fun u hu => Option.some.inj (show some _ = some u from hu)) (hM.next (Below.refl _ _) 0 32 _ (by decide) (by decide))
    · obtain rfl := Option.some.inj (show some _ = some o from ho)
      have d0 : listed.getD 0 false = true := hdep ⟨0, .data⟩ (by simp) rfl
      have q132 : a.tmps[32]?.getD undef = .pointer (some ⟨w.heap.size, 0, none⟩) := hI.val 0 _ 32 _ rfl rfl rfl d0
      have z0 := hM.base.c 0 (b := w.heap.size) (vs := wayL x y) (by rw [HL.out]; rfl) 0 rfl
      clear hdep hI ho
      go_simp
      exact hK' (.int .i64 x) _ (fun u hu => Option.some.inj (show some _ = some u from hu)) (hM.next (Below.refl _ _) 1 33 _ (by decide) (by decide))
    · obtain rfl := Option.some.inj (show some _ = some o from ho)
      clear hdep hI ho
      go_simp
      exact hK' (.pointer (some ⟨w.heap.size, 1, none⟩)) _ (fun u hu => Option.some.inj (show some _ = some u from hu)) (hM.next (Below.refl _ _) 2 34 _ (by decide) (by decide))
    · obtain rfl := Option.some.inj (show some _ = some o from ho)
      have d2 : listed.getD 2 false = true := hdep ⟨2, .data⟩ (by simp) rfl
      have q134 : a.tmps[34]?.getD undef = .pointer (some ⟨w.heap.size, 1, none⟩) := hI.val 2 _ 34 _ rfl rfl rfl d2
      have z0 := hM.base.c 0 (b := w.heap.size) (vs := wayL x y) (by rw [HL.out]; rfl) 1 rfl
      clear hdep hI ho
      go_simp
      exact hK' (.int .i64 y) _ (fun u hu => Option.some.inj (show some _ = some u from hu)) (hM.next (Below.refl _ _) 3 35 _ (by decide) (by decide))
    · obtain rfl := Option.some.inj (show some _ = some o from ho)
      have d3 : listed.getD 3 false = true := hdep ⟨3, .data⟩ (by simp) rfl
      have q135 : a.tmps[35]?.getD undef = .int .i64 y := hI.val 3 _ 35 _ rfl rfl rfl d3
      clear hdep hI ho
      go_simp
      exact hK' (.int .i64 (-y)) _ (fun u hu => Option.some.inj (show some _ = some u from hu)) (hM.next (Below.refl _ _) 4 36 _ (by decide) (by decide))
    · obtain rfl := Option.some.inj (show some _ = some o from ho)
      have d1 : listed.getD 1 false = true := hdep ⟨1, .data⟩ (by simp) rfl
      have q133 : a.tmps[33]?.getD undef = .int .i64 x := hI.val 1 _ 33 _ rfl rfl rfl d1
      have d4 : listed.getD 4 false = true := hdep ⟨4, .data⟩ (by simp) rfl
      have q136 : a.tmps[36]?.getD undef = .int .i64 (-y) := hI.val 4 _ 36 _ rfl rfl rfl d4
      clear hdep hI ho
      go_simp
      exact hK' (wayV x (-y)) _ (fun u hu => Option.some.inj (show some _ = some u from hu)) (hM.next (Below.refl _ _) 5 37 _ (by decide) (by decide))
    · obtain rfl := Option.some.inj (show some _ = some o from ho)
      clear hdep hI ho
      go_simp
      exact hK' (.pointer (some ⟨(w.heap.size + 1), 0, none⟩)) _ (fun u hu => Option.some.inj (show some _ = some u from hu)) (hM.next (Below.refl _ _) 6 38 _ (by decide) (by decide))
    · obtain rfl := Option.some.inj (show some _ = some o from ho)
      have d6 : listed.getD 6 false = true := hdep ⟨6, .data⟩ (by simp) rfl
      have q138 : a.tmps[38]?.getD undef = .pointer (some ⟨(w.heap.size + 1), 0, none⟩) := hI.val 6 _ 38 _ rfl rfl rfl d6
      have z0 := hM.base.c 1 (b := (w.heap.size + 1)) (vs := wayL u v) (by rw [HL.out]; rfl) 0 rfl
      clear hdep hI ho
      go_simp
      exact hK' (.int .i64 u) _ (fun u hu => Option.some.inj (show some _ = some u from hu)) (hM.next (Below.refl _ _) 7 39 _ (by decide) (by decide))
    · obtain rfl := Option.some.inj (show some _ = some o from ho)
      clear hdep hI ho
      go_simp
      exact hK' (.pointer (some ⟨(w.heap.size + 1), 1, none⟩)) _ (fun u hu => Option.some.inj (show some _ = some u from hu)) (hM.next (Below.refl _ _) 8 40 _ (by decide) (by decide))
    · obtain rfl := Option.some.inj (show some _ = some o from ho)
      have d8 : listed.getD 8 false = true := hdep ⟨8, .data⟩ (by simp) rfl
      have q140 : a.tmps[40]?.getD undef = .pointer (some ⟨(w.heap.size + 1), 1, none⟩) := hI.val 8 _ 40 _ rfl rfl rfl d8
      have z0 := hM.base.c 1 (b := (w.heap.size + 1)) (vs := wayL u v) (by rw [HL.out]; rfl) 1 rfl
      clear hdep hI ho
      go_simp
      exact hK' (.int .i64 v) _ (fun u hu => Option.some.inj (show some _ = some u from hu)) (hM.next (Below.refl _ _) 9 41 _ (by decide) (by decide))
    · obtain rfl := Option.some.inj (show some _ = some o from ho)
      have d9 : listed.getD 9 false = true := hdep ⟨9, .data⟩ (by simp) rfl
      have q141 : a.tmps[41]?.getD undef = .int .i64 v := hI.val 9 _ 41 _ rfl rfl rfl d9
      clear hdep hI ho
      go_simp
      exact hK' (.int .i64 (-v)) _ (fun u hu => Option.some.inj (show some _ = some u from hu)) (hM.next (Below.refl _ _) 10 42 _ (by decide) (by decide))
    · obtain rfl := Option.some.inj (show some _ = some o from ho)
      have d7 : listed.getD 7 false = true := hdep ⟨7, .data⟩ (by simp) rfl
      have q139 : a.tmps[39]?.getD undef = .int .i64 u := hI.val 7 _ 39 _ rfl rfl rfl d7
      have d10 : listed.getD 10 false = true := hdep ⟨10, .data⟩ (by simp) rfl
      have q142 : a.tmps[42]?.getD undef = .int .i64 (-v) := hI.val 10 _ 42 _ rfl rfl rfl d10
      clear hdep hI ho
      go_simp
      exact hK' (wayV u (-v)) _ (fun u hu => Option.some.inj (show some _ = some u from hu)) (hM.next (Below.refl _ _) 11 43 _ (by decide) (by decide))
    · obtain rfl := Option.some.inj (show some _ = some o from ho)
      clear hdep hI ho
      go_simp
      exact hK' (.pointer (some ⟨(w.heap.size + 1 + 1), 0, none⟩)) _ (fun u hu => Option.some.inj (show some _ = some u from hu)) (hM.next (Below.refl _ _) 12 44 _ (by decide) (by decide))
    · obtain rfl := Option.some.inj (show some _ = some o from ho)
      have d12 : listed.getD 12 false = true := hdep ⟨12, .data⟩ (by simp) rfl
      have q144 : a.tmps[44]?.getD undef = .pointer (some ⟨(w.heap.size + 1 + 1), 0, none⟩) := hI.val 12 _ 44 _ rfl rfl rfl d12
      have z0 := hM.base.c 2 (b := (w.heap.size + 1 + 1)) (vs := wayL s t) (by rw [HL.out]; rfl) 0 rfl
      clear hdep hI ho
      go_simp
      exact hK' (.int .i64 s) _ (fun u hu => Option.some.inj (show some _ = some u from hu)) (hM.next (Below.refl _ _) 13 45 _ (by decide) (by decide))
    · obtain rfl := Option.some.inj (show some _ = some o from ho)
      clear hdep hI ho
      go_simp
      exact hK' (.pointer (some ⟨(w.heap.size + 1 + 1), 1, none⟩)) _ (fun u hu => Option.some.inj (show some _ = some u from hu)) (hM.next (Below.refl _ _) 14 46 _ (by decide) (by decide))
    · obtain rfl := Option.some.inj (show some _ = some o from ho)
      have d14 : listed.getD 14 false = true := hdep ⟨14, .data⟩ (by simp) rfl
      have q146 : a.tmps[46]?.getD undef = .pointer (some ⟨(w.heap.size + 1 + 1), 1, none⟩) := hI.val 14 _ 46 _ rfl rfl rfl d14
      have z0 := hM.base.c 2 (b := (w.heap.size + 1 + 1)) (vs := wayL s t) (by rw [HL.out]; rfl) 1 rfl
      clear hdep hI ho
      go_simp
      exact hK' (.int .i64 t) _ (fun u hu => Option.some.inj (show some _ = some u from hu)) (hM.next (Below.refl _ _) 15 47 _ (by decide) (by decide))
    · obtain rfl := Option.some.inj (show some _ = some o from ho)
      have d15 : listed.getD 15 false = true := hdep ⟨15, .data⟩ (by simp) rfl
      have q147 : a.tmps[47]?.getD undef = .int .i64 t := hI.val 15 _ 47 _ rfl rfl rfl d15
      clear hdep hI ho
      go_simp
      exact hK' (.int .i64 (-t)) _ (fun u hu => Option.some.inj (show some _ = some u from hu)) (hM.next (Below.refl _ _) 16 48 _ (by decide) (by decide))
    · obtain rfl := Option.some.inj (show some _ = some o from ho)
      have d13 : listed.getD 13 false = true := hdep ⟨13, .data⟩ (by simp) rfl
      have q145 : a.tmps[45]?.getD undef = .int .i64 s := hI.val 13 _ 45 _ rfl rfl rfl d13
      have d16 : listed.getD 16 false = true := hdep ⟨16, .data⟩ (by simp) rfl
      have q148 : a.tmps[48]?.getD undef = .int .i64 (-t) := hI.val 16 _ 48 _ rfl rfl rfl d16
      clear hdep hI ho
      go_simp
      exact hK' (wayV s (-t)) _ (fun u hu => Option.some.inj (show some _ = some u from hu)) (hM.next (Below.refl _ _) 17 49 _ (by decide) (by decide))
    · obtain rfl := Option.some.inj (show some _ = some o from ho)
      have hz : listed.getD (18 + 0) false = false := getD_no h0
      clear hdep hI ho
      go_simp
      exact hK' _ _ (fun u hu => absurd (show (none : Option Value) = some u from hu) (by simp)) (hM.new hls hsz 0 (by decide) hz _)
    · obtain rfl := Option.some.inj (show some _ = some o from ho)
      have hz : listed.getD (18 + 1) false = false := getD_no h0
      clear hdep hI ho
      go_simp
      exact hK' _ _ (fun u hu => absurd (show (none : Option Value) = some u from hu) (by simp)) (hM.new hls hsz 1 (by decide) hz _)
    · obtain rfl := Option.some.inj (show some _ = some o from ho)
      have hz : listed.getD (18 + 2) false = false := getD_no h0
      clear hdep hI ho
      go_simp
      exact hK' _ _ (fun u hu => absurd (show (none : Option Value) = some u from hu) (by simp)) (hM.new hls hsz 2 (by decide) hz _)
    · obtain rfl := Option.some.inj (show some _ = some o from ho)
      have dA : listed.getD (18 + 0) false = true := hdep ⟨18, .data⟩ (by simp) rfl
      have dB : listed.getD 5 false = true := hdep ⟨5, .data⟩ (by simp) rfl
      have q100 : a.tmps[37]?.getD undef = wayV x (-y) := hI.val 5 _ 37 _ rfl rfl rfl dB
      obtain ⟨A, hA, hlA, hr⟩ := hM.blk 0 (by decide) dA
      have hz : listed.getD (21 + 0) false = false := getD_no h0
      rw [hz, if_neg (by decide)] at hr
      have q101 : a.tmps[7]?.getD undef = .pointer (some ⟨A, 0, none⟩) := hA
      have z0 := hr.c 0 rfl
      have z1 := hr.c 1 rfl
      have f0 := hr.f 0 rfl
      have f1 := hr.f 1 rfl
      clear hdep hI ho hr hsz
      go_simp
      exact hK' undef _ (fun u hu => absurd (show (none : Option Value) = some u from hu) (by simp)) (hM.put hls 0 (by decide) dA hA)
    · obtain rfl := Option.some.inj (show some _ = some o from ho)
      have dA : listed.getD (18 + 1) false = true := hdep ⟨19, .data⟩ (by simp) rfl
      have dB : listed.getD 11 false = true := hdep ⟨11, .data⟩ (by simp) rfl
      have q100 : a.tmps[43]?.getD undef = wayV u (-v) := hI.val 11 _ 43 _ rfl rfl rfl dB
      obtain ⟨A, hA, hlA, hr⟩ := hM.blk 1 (by decide) dA
      have hz : listed.getD (21 + 1) false = false := getD_no h0
      rw [hz, if_neg (by decide)] at hr
      have q101 : a.tmps[8]?.getD undef = .pointer (some ⟨A, 0, none⟩) := hA
      have z0 := hr.c 0 rfl
      have z1 := hr.c 1 rfl
      have f0 := hr.f 0 rfl
      have f1 := hr.f 1 rfl
      clear hdep hI ho hr hsz
      go_simp
      exact hK' undef _ (fun u hu => absurd (show (none : Option Value) = some u from hu) (by simp)) (hM.put hls 1 (by decide) dA hA)
    · obtain rfl := Option.some.inj (show some _ = some o from ho)
      have dA : listed.getD (18 + 2) false = true := hdep ⟨20, .data⟩ (by simp) rfl
      have dB : listed.getD 17 false = true := hdep ⟨17, .data⟩ (by simp) rfl
      have q100 : a.tmps[49]?.getD undef = wayV s (-t) := hI.val 17 _ 49 _ rfl rfl rfl dB
      obtain ⟨A, hA, hlA, hr⟩ := hM.blk 2 (by decide) dA
      have hz : listed.getD (21 + 2) false = false := getD_no h0
      rw [hz, if_neg (by decide)] at hr
      have q101 : a.tmps[9]?.getD undef = .pointer (some ⟨A, 0, none⟩) := hA
      have z0 := hr.c 0 rfl
      have z1 := hr.c 1 rfl
      have f0 := hr.f 0 rfl
      have f1 := hr.f 1 rfl
      clear hdep hI ho hr hsz
      go_simp
      exact hK' undef _ (fun u hu => absurd (show (none : Option Value) = some u from hu) (by simp)) (hM.put hls 2 (by decide) dA hA)
  · intro listed a W hI hall
    obtain ⟨A, hA, hlA, hrA⟩ := hI.world.blk 0 (by decide) (hall 18 (by decide))
    obtain ⟨B, hB, hlB, hrB⟩ := hI.world.blk 1 (by decide) (hall 19 (by decide))
    obtain ⟨D, hD, hlD, hrD⟩ := hI.world.blk 2 (by decide) (hall 20 (by decide))
    rw [hall (21 + 0) (by decide), if_pos rfl] at hrA
    rw [hall (21 + 1) (by decide), if_pos rfl] at hrB
    rw [hall (21 + 2) (by decide), if_pos rfl] at hrD
    have hbase := hI.world.base
    have hdef := hI.defers
    obtain ⟨x0, x1, x2, x3, x4, x5, x6, x7, x8, x9, x10, x11, x12, x13, x14, x15, x16, x17, x18, x19, x20, x21, x22, x23, x24, x25, x26, x27, x28, x29, x30, x31, x32, x33, x34, x35, x36, x37, x38, x39, x40, x41, x42, x43, x44, x45, x46, x47, x48, x49, x50, x51, x52, x53, x54, x55, x56, x57, x58, x59, x60, x61, x62, x63, x64, x65, x66, x67, x68, x69, x70, x71, x72, x73, x74, x75, x76, x77, x78, x79, x80, x81, x82, x83, x84, x85, x86, x87, x88, x89, x90, x91, x92, x93, x94, x95, x96, x97, x98, x99, x100, hx⟩ := arr101 a.tmps hI.size
    obtain ⟨tmps, defers⟩ := a
    simp only at hx hdef
    subst hx
    subst hdef
    obtain rfl := (hI.old 0 (noDst_spec (by kernel_rfl))).trans (show slotOf _ 0 = wayV x y from rfl)
    obtain rfl := (hI.old 1 (noDst_spec (by kernel_rfl))).trans (show slotOf _ 1 = wayV u v from rfl)
    obtain rfl := (hI.old 2 (noDst_spec (by kernel_rfl))).trans (show slotOf _ 2 = wayV s t from rfl)
    obtain rfl := (hI.old 3 (noDst_spec (by kernel_rfl))).trans (show slotOf _ 3 = .pointer (some ⟨w.heap.size, 0, none⟩) from rfl)
    obtain rfl := (hI.old 4 (noDst_spec (by kernel_rfl))).trans (show slotOf _ 4 = .pointer (some ⟨(w.heap.size + 1), 0, none⟩) from rfl)
    obtain rfl := (hI.old 5 (noDst_spec (by kernel_rfl))).trans (show slotOf _ 5 = .pointer (some ⟨(w.heap.size + 1 + 1), 0, none⟩) from rfl)
    obtain rfl := (hI.old 6 (noDst_spec (by kernel_rfl))).trans (show slotOf _ 6 = .bool false from rfl)
    obtain rfl := (hI.old 10 (noDst_spec (by kernel_rfl))).trans (show slotOf _ 10 = undef from rfl)
    obtain rfl := (hI.old 11 (noDst_spec (by kernel_rfl))).trans (show slotOf _ 11 = undef from rfl)
    obtain rfl := (hI.old 12 (noDst_spec (by kernel_rfl))).trans (show slotOf _ 12 = undef from rfl)
    obtain rfl := (hI.old 13 (noDst_spec (by kernel_rfl))).trans (show slotOf _ 13 = undef from rfl)
    obtain rfl := (hI.old 14 (noDst_spec (by kernel_rfl))).trans (show slotOf _ 14 = undef from rfl)
    obtain rfl := (hI.old 15 (noDst_spec (by kernel_rfl))).trans (show slotOf _ 15 = undef from rfl)
    obtain rfl := (hI.old 16 (noDst_spec (by kernel_rfl))).trans (show slotOf _ 16 = undef from rfl)
    obtain rfl := (hI.old 17 (noDst_spec (by kernel_rfl))).trans (show slotOf _ 17 = undef from rfl)
    obtain rfl := (hI.old 18 (noDst_spec (by kernel_rfl))).trans (show slotOf _ 18 = wayV x y from rfl)
    obtain rfl := (hI.old 19 (noDst_spec (by kernel_rfl))).trans (show slotOf _ 19 = .int .i64 0 from rfl)
    obtain rfl := (hI.old 20 (noDst_spec (by kernel_rfl))).trans (show slotOf _ 20 = .bool false from rfl)
    obtain rfl := (hI.old 21 (noDst_spec (by kernel_rfl))).trans (show slotOf _ 21 = .bool false from rfl)
    obtain rfl := (hI.old 22 (noDst_spec (by kernel_rfl))).trans (show slotOf _ 22 = wayV u v from rfl)
    obtain rfl := (hI.old 23 (noDst_spec (by kernel_rfl))).trans (show slotOf _ 23 = .int .i64 0 from rfl)
    obtain rfl := (hI.old 24 (noDst_spec (by kernel_rfl))).trans (show slotOf _ 24 = .bool false from rfl)
    obtain rfl := (hI.old 25 (noDst_spec (by kernel_rfl))).trans (show slotOf _ 25 = .bool false from rfl)
    obtain rfl := (hI.old 26 (noDst_spec (by kernel_rfl))).trans (show slotOf _ 26 = .bool false from rfl)
    obtain rfl := (hI.old 27 (noDst_spec (by kernel_rfl))).trans (show slotOf _ 27 = wayV s t from rfl)
    obtain rfl := (hI.old 28 (noDst_spec (by kernel_rfl))).trans (show slotOf _ 28 = .int .i64 0 from rfl)
    obtain rfl := (hI.old 29 (noDst_spec (by kernel_rfl))).trans (show slotOf _ 29 = .bool false from rfl)
    obtain rfl := (hI.old 30 (noDst_spec (by kernel_rfl))).trans (show slotOf _ 30 = .bool false from rfl)
    obtain rfl := (hI.old 31 (noDst_spec (by kernel_rfl))).trans (show slotOf _ 31 = undef from rfl)
    obtain rfl := (hI.old 50 (noDst_spec (by kernel_rfl))).trans (show slotOf _ 50 = undef from rfl)
    obtain rfl := (hI.old 51 (noDst_spec (by kernel_rfl))).trans (show slotOf _ 51 = undef from rfl)
    obtain rfl := (hI.old 52 (noDst_spec (by kernel_rfl))).trans (show slotOf _ 52 = undef from rfl)
    obtain rfl := (hI.old 53 (noDst_spec (by kernel_rfl))).trans (show slotOf _ 53 = undef from rfl)
    obtain rfl := (hI.old 54 (noDst_spec (by kernel_rfl))).trans (show slotOf _ 54 = undef from rfl)
    obtain rfl := (hI.old 55 (noDst_spec (by kernel_rfl))).trans (show slotOf _ 55 = undef from rfl)
    obtain rfl := (hI.old 56 (noDst_spec (by kernel_rfl))).trans (show slotOf _ 56 = undef from rfl)
    obtain rfl := (hI.old 57 (noDst_spec (by kernel_rfl))).trans (show slotOf _ 57 = undef from rfl)
    obtain rfl := (hI.old 58 (noDst_spec (by kernel_rfl))).trans (show slotOf _ 58 = undef from rfl)
    obtain rfl := (hI.old 59 (noDst_spec (by kernel_rfl))).trans (show slotOf _ 59 = undef from rfl)
    obtain rfl := (hI.old 60 (noDst_spec (by kernel_rfl))).trans (show slotOf _ 60 = undef from rfl)
    obtain rfl := (hI.old 61 (noDst_spec (by kernel_rfl))).trans (show slotOf _ 61 = undef from rfl)
    obtain rfl := (hI.old 62 (noDst_spec (by kernel_rfl))).trans (show slotOf _ 62 = undef from rfl)
    obtain rfl := (hI.old 63 (noDst_spec (by kernel_rfl))).trans (show slotOf _ 63 = undef from rfl)
    obtain rfl := (hI.old 64 (noDst_spec (by kernel_rfl))).trans (show slotOf _ 64 = undef from rfl)
    obtain rfl := (hI.old 65 (noDst_spec (by kernel_rfl))).trans (show slotOf _ 65 = undef from rfl)
    obtain rfl := (hI.old 66 (noDst_spec (by kernel_rfl))).trans (show slotOf _ 66 = undef from rfl)
    obtain rfl := (hI.old 67 (noDst_spec (by kernel_rfl))).trans (show slotOf _ 67 = undef from rfl)
    obtain rfl := (hI.old 68 (noDst_spec (by kernel_rfl))).trans (show slotOf _ 68 = undef from rfl)
    obtain rfl := (hI.old 69 (noDst_spec (by kernel_rfl))).trans (show slotOf _ 69 = undef from rfl)
    obtain rfl := (hI.old 70 (noDst_spec (by kernel_rfl))).trans (show slotOf _ 70 = undef from rfl)
    obtain rfl := (hI.old 71 (noDst_spec (by kernel_rfl))).trans (show slotOf _ 71 = undef from rfl)
    obtain rfl := (hI.old 72 (noDst_spec (by kernel_rfl))).trans (show slotOf _ 72 = undef from rfl)
    obtain rfl := (hI.old 73 (noDst_spec (by kernel_rfl))).trans (show slotOf _ 73 = undef from rfl)
    obtain rfl := (hI.old 74 (noDst_spec (by kernel_rfl))).trans (show slotOf _ 74 = undef from rfl)
    obtain rfl := (hI.old 75 (noDst_spec (by kernel_rfl))).trans (show slotOf _ 75 = undef from rfl)
    obtain rfl := (hI.old 76 (noDst_spec (by kernel_rfl))).trans (show slotOf _ 76 = undef from rfl)
    obtain rfl := (hI.old 77 (noDst_spec (by kernel_rfl))).trans (show slotOf _ 77 = undef from rfl)
    obtain rfl := (hI.old 78 (noDst_spec (by kernel_rfl))).trans (show slotOf _ 78 = undef from rfl)
    obtain rfl := (hI.old 79 (noDst_spec (by kernel_rfl))).trans (show slotOf _ 79 = undef from rfl)
    obtain rfl := (hI.old 80 (noDst_spec (by kernel_rfl))).trans (show slotOf _ 80 = undef from rfl)
    obtain rfl := (hI.old 81 (noDst_spec (by kernel_rfl))).trans (show slotOf _ 81 = undef from rfl)
    obtain rfl := (hI.old 82 (noDst_spec (by kernel_rfl))).trans (show slotOf _ 82 = undef from rfl)
    obtain rfl := (hI.old 83 (noDst_spec (by kernel_rfl))).trans (show slotOf _ 83 = undef from rfl)
    obtain rfl := (hI.old 84 (noDst_spec (by kernel_rfl))).trans (show slotOf _ 84 = undef from rfl)
    obtain rfl := (hI.old 85 (noDst_spec (by kernel_rfl))).trans (show slotOf _ 85 = undef from rfl)
    obtain rfl := (hI.old 86 (noDst_spec (by kernel_rfl))).trans (show slotOf _ 86 = undef from rfl)
    obtain rfl := (hI.old 87 (noDst_spec (by kernel_rfl))).trans (show slotOf _ 87 = undef from rfl)
    obtain rfl := (hI.old 88 (noDst_spec (by kernel_rfl))).trans (show slotOf _ 88 = undef from rfl)
    obtain rfl := (hI.old 89 (noDst_spec (by kernel_rfl))).trans (show slotOf _ 89 = undef from rfl)
    obtain rfl := (hI.old 90 (noDst_spec (by kernel_rfl))).trans (show slotOf _ 90 = undef from rfl)
    obtain rfl := (hI.old 91 (noDst_spec (by kernel_rfl))).trans (show slotOf _ 91 = undef from rfl)
    obtain rfl := (hI.old 92 (noDst_spec (by kernel_rfl))).trans (show slotOf _ 92 = undef from rfl)
    obtain rfl := (hI.old 93 (noDst_spec (by kernel_rfl))).trans (show slotOf _ 93 = undef from rfl)
    obtain rfl := (hI.old 94 (noDst_spec (by kernel_rfl))).trans (show slotOf _ 94 = undef from rfl)
    obtain rfl := (hI.old 95 (noDst_spec (by kernel_rfl))).trans (show slotOf _ 95 = undef from rfl)
    obtain rfl := (hI.old 96 (noDst_spec (by kernel_rfl))).trans (show slotOf _ 96 = undef from rfl)
    obtain rfl := (hI.old 97 (noDst_spec (by kernel_rfl))).trans (show slotOf _ 97 = undef from rfl)
    obtain rfl := (hI.old 98 (noDst_spec (by kernel_rfl))).trans (show slotOf _ 98 = undef from rfl)
    obtain rfl := (hI.old 99 (noDst_spec (by kernel_rfl))).trans (show slotOf _ 99 = undef from rfl)
    obtain rfl := (hI.old 100 (noDst_spec (by kernel_rfl))).trans (show slotOf _ 100 = undef from rfl)
    obtain rfl := hA
    obtain rfl := hB
    obtain rfl := hD
    have hS : RS w [(w.heap.size, wayL x y), (w.heap.size + 1, wayL u v), (w.heap.size + 1 + 1, wayL s t), (A, wayL x (-y)), (B, wayL u (-v)), (D, wayL s (-t))] W := by
      rw [HL.out] at hbase
      exact ⟨fun p hp => by
        simp only [List.mem_cons, List.not_mem_nil, or_false] at hp
        rcases hp with rfl | rfl | rfl | rfl | rfl | rfl
        · exact hbase.row 0 rfl
        · exact hbase.row 1 rfl
        · exact hbase.row 2 rfl
        · exact hrA
        · exact hrB
        · exact hrD, hbase.2⟩
    clear hI hall hlA hlB hlD hrA hrB hrD hbase n0 n1 n2 i0 i1 i2
    have g00 := hS.c 0 rfl 0 rfl
    have g01 := hS.c 0 rfl 1 rfl
    have g10 := hS.c 1 rfl 0 rfl
    have g11 := hS.c 1 rfl 1 rfl
    have g20 := hS.c 2 rfl 0 rfl
    have g21 := hS.c 2 rfl 1 rfl
    have g30 := hS.c 3 rfl 0 rfl
    have g31 := hS.c 3 rfl 1 rfl
    have g40 := hS.c 4 rfl 0 rfl
    have g41 := hS.c 4 rfl 1 rfl
    have g50 := hS.c 5 rfl 0 rfl
    have g51 := hS.c 5 rfl 1 rfl
    go_wp2_with (go_at_call 12; refine (num_any _ _).mono ?_; rintro e w' ⟨rfl, rfl⟩)
    refine (H1.out _).mono ?_
    rintro e w1 ⟨rfl, hb⟩
    clear g00 g01 g10 g11 g20 g21 g30 g31 g40 g41 g50 g51
    replace hS := hS.after hb
    clear hb
    have g00 := hS.c 0 rfl 0 rfl
    have g01 := hS.c 0 rfl 1 rfl
    have g10 := hS.c 1 rfl 0 rfl
    have g11 := hS.c 1 rfl 1 rfl
    have g20 := hS.c 2 rfl 0 rfl
    have g21 := hS.c 2 rfl 1 rfl
    have g30 := hS.c 3 rfl 0 rfl
    have g31 := hS.c 3 rfl 1 rfl
    have g40 := hS.c 4 rfl 0 rfl
    have g41 := hS.c 4 rfl 1 rfl
    have g50 := hS.c 5 rfl 0 rfl
    have g51 := hS.c 5 rfl 1 rfl
    go_wp2_with (go_at_call 12; refine (num_any _ _).mono ?_; rintro e w' ⟨rfl, rfl⟩)
    refine (H2.out _).mono ?_
    rintro e w2 ⟨rfl, hb⟩
    clear g00 g01 g10 g11 g20 g21 g30 g31 g40 g41 g50 g51
    replace hS := hS.after hb
    clear hb
    have g00 := hS.c 0 rfl 0 rfl
    have g01 := hS.c 0 rfl 1 rfl
    have g10 := hS.c 1 rfl 0 rfl
    have g11 := hS.c 1 rfl 1 rfl
    have g20 := hS.c 2 rfl 0 rfl
    have g21 := hS.c 2 rfl 1 rfl
    have g30 := hS.c 3 rfl 0 rfl
    have g31 := hS.c 3 rfl 1 rfl
    have g40 := hS.c 4 rfl 0 rfl
    have g41 := hS.c 4 rfl 1 rfl
    have g50 := hS.c 5 rfl 0 rfl
    have g51 := hS.c 5 rfl 1 rfl
    go_wp2_with (go_at_call 12; refine (num_any _ _).mono ?_; rintro e w' ⟨rfl, rfl⟩)
    refine (H3.out _).mono ?_
    rintro e w3 ⟨rfl, hb⟩
    clear g00 g01 g10 g11 g20 g21 g30 g31 g40 g41 g50 g51
    replace hS := hS.after hb
    clear hb
    have g00 := hS.c 0 rfl 0 rfl
    have g01 := hS.c 0 rfl 1 rfl
    have g10 := hS.c 1 rfl 0 rfl
    have g11 := hS.c 1 rfl 1 rfl
    have g20 := hS.c 2 rfl 0 rfl
    have g21 := hS.c 2 rfl 1 rfl
    have g30 := hS.c 3 rfl 0 rfl
    have g31 := hS.c 3 rfl 1 rfl
    have g40 := hS.c 4 rfl 0 rfl
    have g41 := hS.c 4 rfl 1 rfl
    have g50 := hS.c 5 rfl 0 rfl
    have g51 := hS.c 5 rfl 1 rfl
    go_wp2_with (go_at_call 12; refine (num_any _ _).mono ?_; rintro e w' ⟨rfl, rfl⟩)
    refine (H4.out _).mono ?_
    rintro e w4 ⟨rfl, hb⟩
    clear g00 g01 g10 g11 g20 g21 g30 g31 g40 g41 g50 g51
    replace hS := hS.after hb
    clear hb
    have g00 := hS.c 0 rfl 0 rfl
    have g01 := hS.c 0 rfl 1 rfl
    have g10 := hS.c 1 rfl 0 rfl
    have g11 := hS.c 1 rfl 1 rfl
    have g20 := hS.c 2 rfl 0 rfl
    have g21 := hS.c 2 rfl 1 rfl
    have g30 := hS.c 3 rfl 0 rfl
    have g31 := hS.c 3 rfl 1 rfl
    have g40 := hS.c 4 rfl 0 rfl
    have g41 := hS.c 4 rfl 1 rfl
    have g50 := hS.c 5 rfl 0 rfl
    have g51 := hS.c 5 rfl 1 rfl
    go_wp2_with (go_at_call 12; refine (num_any _ _).mono ?_; rintro e w' ⟨rfl, rfl⟩)
    refine (works_true _).mono ?_
    rintro e w9 ⟨rfl, hb⟩
    have hB := hS.2.trans (hb.mono hS.2.size)
    clear g00 g01 g10 g11 g20 g21 g30 g31 g40 g41 g50 g51
    clear hb hS
    go_wp2
    go_ret
    exact ⟨rfl, hB⟩
set_option maxHeartbeats 6400000 in
set_option maxRecDepth 100000 in
theorem mirrors_no (x y u v s t : Int) (w : World) (za zb zc : Bool) (hz : (za && zb && zc) = false)
    (Ha : Hid (∀ W, Calls Try.prog 13 #[wayV x y] W fun e w' => e = .returned (.int .i64 (errI za)) ∧ Below W.heap.size W w')) (Hb : Hid (∀ W, Calls Try.prog 13 #[wayV u v] W fun e w' => e = .returned (.int .i64 (errI zb)) ∧ Below W.heap.size W w')) (Hc : Hid (∀ W, Calls Try.prog 13 #[wayV s t] W fun e w' => e = .returned (.int .i64 (errI zc)) ∧ Below W.heap.size W w')) :
    Calls Try.prog 7 #[wayV x y, wayV u v, wayV s t] w fun e w' => e = .returned (.bool true) ∧ Below w.heap.size w w' := by
  cases za <;> cases zb <;> cases zc
  · clear hz
    replace Ha : Hid (∀ W, Calls Try.prog 13 #[wayV x y] W fun e w' => e = .returned (.int .i64 2) ∧ Below W.heap.size W w') := Ha
    replace Hb : Hid (∀ W, Calls Try.prog 13 #[wayV u v] W fun e w' => e = .returned (.int .i64 2) ∧ Below W.heap.size W w') := Hb
    replace Hc : Hid (∀ W, Calls Try.prog 13 #[wayV s t] W fun e w' => e = .returned (.int .i64 2) ∧ Below W.heap.size W w') := Hc
    go_enter Try.func7, Try.ntmps7
    go_wp2_with fail
    have hS : RS w [(w.heap.size, wayL x y), (w.heap.size + 1, wayL u v), (w.heap.size + 1 + 1, wayL s t)] _ :=
      ((((RS.nil w).new (B := w.heap.size) rfl (wayL x y) 23).new (B := w.heap.size + 1) (by simp) (wayL u v) 23).new (B := w.heap.size + 1 + 1) (by simp) (wayL s t) 23)
    generalize World.alloc _ _ = W0 at hS ⊢
    have g00 := hS.c 0 rfl 0 rfl
    have g01 := hS.c 0 rfl 1 rfl
    have g10 := hS.c 1 rfl 0 rfl
    have g11 := hS.c 1 rfl 1 rfl
    have g20 := hS.c 2 rfl 0 rfl
    have g21 := hS.c 2 rfl 1 rfl
    go_wp2_with (go_at_call 12; refine (num_any _ _).mono ?_; rintro e w' ⟨rfl, rfl⟩)
    refine (Ha.out _).mono ?_
    rintro e w1 ⟨rfl, hb⟩
    clear g00 g01 g10 g11 g20 g21
    replace hS := hS.after hb
    clear hb
    have g00 := hS.c 0 rfl 0 rfl
    have g01 := hS.c 0 rfl 1 rfl
    have g10 := hS.c 1 rfl 0 rfl
    have g11 := hS.c 1 rfl 1 rfl
    have g20 := hS.c 2 rfl 0 rfl
    have g21 := hS.c 2 rfl 1 rfl
    go_wp2_with fail
    refine (works_true _).mono ?_
    rintro e w9 ⟨rfl, hb⟩
    have hB := hS.2.trans (hb.mono hS.2.size)
    clear g00 g01 g10 g11 g20 g21
    clear hb hS
    go_wp2
    go_ret
    exact ⟨rfl, hB⟩
  · clear hz
    replace Ha : Hid (∀ W, Calls Try.prog 13 #[wayV x y] W fun e w' => e = .returned (.int .i64 2) ∧ Below W.heap.size W w') := Ha
    replace Hb : Hid (∀ W, Calls Try.prog 13 #[wayV u v] W fun e w' => e = .returned (.int .i64 2) ∧ Below W.heap.size W w') := Hb
    replace Hc : Hid (∀ W, Calls Try.prog 13 #[wayV s t] W fun e w' => e = .returned (.int .i64 0) ∧ Below W.heap.size W w') := Hc
    go_enter Try.func7, Try.ntmps7
    go_wp2_with fail
    have hS : RS w [(w.heap.size, wayL x y), (w.heap.size + 1, wayL u v), (w.heap.size + 1 + 1, wayL s t)] _ :=
      ((((RS.nil w).new (B := w.heap.size) rfl (wayL x y) 23).new (B := w.heap.size + 1) (by simp) (wayL u v) 23).new (B := w.heap.size + 1 + 1) (by simp) (wayL s t) 23)
    generalize World.alloc _ _ = W0 at hS ⊢
    have g00 := hS.c 0 rfl 0 rfl
    have g01 := hS.c 0 rfl 1 rfl
    have g10 := hS.c 1 rfl 0 rfl
    have g11 := hS.c 1 rfl 1 rfl
    have g20 := hS.c 2 rfl 0 rfl
    have g21 := hS.c 2 rfl 1 rfl
    go_wp2_with (go_at_call 12; refine (num_any _ _).mono ?_; rintro e w' ⟨rfl, rfl⟩)
    refine (Ha.out _).mono ?_
    rintro e w1 ⟨rfl, hb⟩
    clear g00 g01 g10 g11 g20 g21
    replace hS := hS.after hb
    clear hb
    have g00 := hS.c 0 rfl 0 rfl
    have g01 := hS.c 0 rfl 1 rfl
    have g10 := hS.c 1 rfl 0 rfl
    have g11 := hS.c 1 rfl 1 rfl
    have g20 := hS.c 2 rfl 0 rfl
    have g21 := hS.c 2 rfl 1 rfl
    go_wp2_with fail
    refine (works_true _).mono ?_
    rintro e w9 ⟨rfl, hb⟩
    have hB := hS.2.trans (hb.mono hS.2.size)
    clear g00 g01 g10 g11 g20 g21
    clear hb hS
    go_wp2
    go_ret
    exact ⟨rfl, hB⟩
  · clear hz
    replace Ha : Hid (∀ W, Calls Try.prog 13 #[wayV x y] W fun e w' => e = .returned (.int .i64 2) ∧ Below W.heap.size W w') := Ha
    replace Hb : Hid (∀ W, Calls Try.prog 13 #[wayV u v] W fun e w' => e = .returned (.int .i64 0) ∧ Below W.heap.size W w') := Hb
    replace Hc : Hid (∀ W, Calls Try.prog 13 #[wayV s t] W fun e w' => e = .returned (.int .i64 2) ∧ Below W.heap.size W w') := Hc
    go_enter Try.func7, Try.ntmps7
    go_wp2_with fail
    have hS : RS w [(w.heap.size, wayL x y), (w.heap.size + 1, wayL u v), (w.heap.size + 1 + 1, wayL s t)] _ :=
      ((((RS.nil w).new (B := w.heap.size) rfl (wayL x y) 23).new (B := w.heap.size + 1) (by simp) (wayL u v) 23).new (B := w.heap.size + 1 + 1) (by simp) (wayL s t) 23)
    generalize World.alloc _ _ = W0 at hS ⊢
    have g00 := hS.c 0 rfl 0 rfl
    have g01 := hS.c 0 rfl 1 rfl
    have g10 := hS.c 1 rfl 0 rfl
    have g11 := hS.c 1 rfl 1 rfl
    have g20 := hS.c 2 rfl 0 rfl
    have g21 := hS.c 2 rfl 1 rfl
    go_wp2_with (go_at_call 12; refine (num_any _ _).mono ?_; rintro e w' ⟨rfl, rfl⟩)
    refine (Ha.out _).mono ?_
    rintro e w1 ⟨rfl, hb⟩
    clear g00 g01 g10 g11 g20 g21
    replace hS := hS.after hb
    clear hb
    have g00 := hS.c 0 rfl 0 rfl
    have g01 := hS.c 0 rfl 1 rfl
    have g10 := hS.c 1 rfl 0 rfl
    have g11 := hS.c 1 rfl 1 rfl
    have g20 := hS.c 2 rfl 0 rfl
    have g21 := hS.c 2 rfl 1 rfl
    go_wp2_with fail
    refine (works_true _).mono ?_
    rintro e w9 ⟨rfl, hb⟩
    have hB := hS.2.trans (hb.mono hS.2.size)
    clear g00 g01 g10 g11 g20 g21
    clear hb hS
    go_wp2
    go_ret
    exact ⟨rfl, hB⟩
  · clear hz
    replace Ha : Hid (∀ W, Calls Try.prog 13 #[wayV x y] W fun e w' => e = .returned (.int .i64 2) ∧ Below W.heap.size W w') := Ha
    replace Hb : Hid (∀ W, Calls Try.prog 13 #[wayV u v] W fun e w' => e = .returned (.int .i64 0) ∧ Below W.heap.size W w') := Hb
    replace Hc : Hid (∀ W, Calls Try.prog 13 #[wayV s t] W fun e w' => e = .returned (.int .i64 0) ∧ Below W.heap.size W w') := Hc
    go_enter Try.func7, Try.ntmps7
    go_wp2_with fail
    have hS : RS w [(w.heap.size, wayL x y), (w.heap.size + 1, wayL u v), (w.heap.size + 1 + 1, wayL s t)] _ :=
      ((((RS.nil w).new (B := w.heap.size) rfl (wayL x y) 23).new (B := w.heap.size + 1) (by simp) (wayL u v) 23).new (B := w.heap.size + 1 + 1) (by simp) (wayL s t) 23)
    generalize World.alloc _ _ = W0 at hS ⊢
    have g00 := hS.c 0 rfl 0 rfl
    have g01 := hS.c 0 rfl 1 rfl
    have g10 := hS.c 1 rfl 0 rfl
    have g11 := hS.c 1 rfl 1 rfl
    have g20 := hS.c 2 rfl 0 rfl
    have g21 := hS.c 2 rfl 1 rfl
    go_wp2_with (go_at_call 12; refine (num_any _ _).mono ?_; rintro e w' ⟨rfl, rfl⟩)
    refine (Ha.out _).mono ?_
    rintro e w1 ⟨rfl, hb⟩
    clear g00 g01 g10 g11 g20 g21
    replace hS := hS.after hb
    clear hb
    have g00 := hS.c 0 rfl 0 rfl
    have g01 := hS.c 0 rfl 1 rfl
    have g10 := hS.c 1 rfl 0 rfl
    have g11 := hS.c 1 rfl 1 rfl
    have g20 := hS.c 2 rfl 0 rfl
    have g21 := hS.c 2 rfl 1 rfl
    go_wp2_with fail
    refine (works_true _).mono ?_
    rintro e w9 ⟨rfl, hb⟩
    have hB := hS.2.trans (hb.mono hS.2.size)
    clear g00 g01 g10 g11 g20 g21
    clear hb hS
    go_wp2
    go_ret
    exact ⟨rfl, hB⟩
  · clear hz
    replace Ha : Hid (∀ W, Calls Try.prog 13 #[wayV x y] W fun e w' => e = .returned (.int .i64 0) ∧ Below W.heap.size W w') := Ha
    replace Hb : Hid (∀ W, Calls Try.prog 13 #[wayV u v] W fun e w' => e = .returned (.int .i64 2) ∧ Below W.heap.size W w') := Hb
    replace Hc : Hid (∀ W, Calls Try.prog 13 #[wayV s t] W fun e w' => e = .returned (.int .i64 2) ∧ Below W.heap.size W w') := Hc
    go_enter Try.func7, Try.ntmps7
    go_wp2_with fail
    have hS : RS w [(w.heap.size, wayL x y), (w.heap.size + 1, wayL u v), (w.heap.size + 1 + 1, wayL s t)] _ :=
      ((((RS.nil w).new (B := w.heap.size) rfl (wayL x y) 23).new (B := w.heap.size + 1) (by simp) (wayL u v) 23).new (B := w.heap.size + 1 + 1) (by simp) (wayL s t) 23)
    generalize World.alloc _ _ = W0 at hS ⊢
    have g00 := hS.c 0 rfl 0 rfl
    have g01 := hS.c 0 rfl 1 rfl
    have g10 := hS.c 1 rfl 0 rfl
    have g11 := hS.c 1 rfl 1 rfl
    have g20 := hS.c 2 rfl 0 rfl
    have g21 := hS.c 2 rfl 1 rfl
    go_wp2_with (go_at_call 12; refine (num_any _ _).mono ?_; rintro e w' ⟨rfl, rfl⟩)
    refine (Ha.out _).mono ?_
    rintro e w1 ⟨rfl, hb⟩
    clear g00 g01 g10 g11 g20 g21
    replace hS := hS.after hb
    clear hb
    have g00 := hS.c 0 rfl 0 rfl
    have g01 := hS.c 0 rfl 1 rfl
    have g10 := hS.c 1 rfl 0 rfl
    have g11 := hS.c 1 rfl 1 rfl
    have g20 := hS.c 2 rfl 0 rfl
    have g21 := hS.c 2 rfl 1 rfl
    go_wp2_with (go_at_call 12; refine (num_any _ _).mono ?_; rintro e w' ⟨rfl, rfl⟩)
    refine (Hb.out _).mono ?_
    rintro e w2 ⟨rfl, hb⟩
    clear g00 g01 g10 g11 g20 g21
    replace hS := hS.after hb
    clear hb
    have g00 := hS.c 0 rfl 0 rfl
    have g01 := hS.c 0 rfl 1 rfl
    have g10 := hS.c 1 rfl 0 rfl
    have g11 := hS.c 1 rfl 1 rfl
    have g20 := hS.c 2 rfl 0 rfl
    have g21 := hS.c 2 rfl 1 rfl
    go_wp2_with fail
    refine (works_true _).mono ?_
    rintro e w9 ⟨rfl, hb⟩
    have hB := hS.2.trans (hb.mono hS.2.size)
    clear g00 g01 g10 g11 g20 g21
    clear hb hS
    go_wp2
    go_ret
    exact ⟨rfl, hB⟩
  · clear hz
    replace Ha : Hid (∀ W, Calls Try.prog 13 #[wayV x y] W fun e w' => e = .returned (.int .i64 0) ∧ Below W.heap.size W w') := Ha
    replace Hb : Hid (∀ W, Calls Try.prog 13 #[wayV u v] W fun e w' => e = .returned (.int .i64 2) ∧ Below W.heap.size W w') := Hb
    replace Hc : Hid (∀ W, Calls Try.prog 13 #[wayV s t] W fun e w' => e = .returned (.int .i64 0) ∧ Below W.heap.size W w') := Hc
    go_enter Try.func7, Try.ntmps7
    go_wp2_with fail
    have hS : RS w [(w.heap.size, wayL x y), (w.heap.size + 1, wayL u v), (w.heap.size + 1 + 1, wayL s t)] _ :=
      ((((RS.nil w).new (B := w.heap.size) rfl (wayL x y) 23).new (B := w.heap.size + 1) (by simp) (wayL u v) 23).new (B := w.heap.size + 1 + 1) (by simp) (wayL s t) 23)
    generalize World.alloc _ _ = W0 at hS ⊢
    have g00 := hS.c 0 rfl 0 rfl
    have g01 := hS.c 0 rfl 1 rfl
    have g10 := hS.c 1 rfl 0 rfl
    have g11 := hS.c 1 rfl 1 rfl
    have g20 := hS.c 2 rfl 0 rfl
    have g21 := hS.c 2 rfl 1 rfl
    go_wp2_with (go_at_call 12; refine (num_any _ _).mono ?_; rintro e w' ⟨rfl, rfl⟩)
    refine (Ha.out _).mono ?_
    rintro e w1 ⟨rfl, hb⟩
    clear g00 g01 g10 g11 g20 g21
    replace hS := hS.after hb
    clear hb
    have g00 := hS.c 0 rfl 0 rfl
    have g01 := hS.c 0 rfl 1 rfl
    have g10 := hS.c 1 rfl 0 rfl
    have g11 := hS.c 1 rfl 1 rfl
    have g20 := hS.c 2 rfl 0 rfl
    have g21 := hS.c 2 rfl 1 rfl
    go_wp2_with (go_at_call 12; refine (num_any _ _).mono ?_; rintro e w' ⟨rfl, rfl⟩)
    refine (Hb.out _).mono ?_
    rintro e w2 ⟨rfl, hb⟩
    clear g00 g01 g10 g11 g20 g21
    replace hS := hS.after hb
    clear hb
    have g00 := hS.c 0 rfl 0 rfl
    have g01 := hS.c 0 rfl 1 rfl
    have g10 := hS.c 1 rfl 0 rfl
    have g11 := hS.c 1 rfl 1 rfl
    have g20 := hS.c 2 rfl 0 rfl
    have g21 := hS.c 2 rfl 1 rfl
    go_wp2_with fail
    refine (works_true _).mono ?_
    rintro e w9 ⟨rfl, hb⟩
    have hB := hS.2.trans (hb.mono hS.2.size)
    clear g00 g01 g10 g11 g20 g21
    clear hb hS
    go_wp2
    go_ret
    exact ⟨rfl, hB⟩
  · clear hz
    replace Ha : Hid (∀ W, Calls Try.prog 13 #[wayV x y] W fun e w' => e = .returned (.int .i64 0) ∧ Below W.heap.size W w') := Ha
    replace Hb : Hid (∀ W, Calls Try.prog 13 #[wayV u v] W fun e w' => e = .returned (.int .i64 0) ∧ Below W.heap.size W w') := Hb
    replace Hc : Hid (∀ W, Calls Try.prog 13 #[wayV s t] W fun e w' => e = .returned (.int .i64 2) ∧ Below W.heap.size W w') := Hc
    go_enter Try.func7, Try.ntmps7
    go_wp2_with fail
    have hS : RS w [(w.heap.size, wayL x y), (w.heap.size + 1, wayL u v), (w.heap.size + 1 + 1, wayL s t)] _ :=
      ((((RS.nil w).new (B := w.heap.size) rfl (wayL x y) 23).new (B := w.heap.size + 1) (by simp) (wayL u v) 23).new (B := w.heap.size + 1 + 1) (by simp) (wayL s t) 23)
    generalize World.alloc _ _ = W0 at hS ⊢
    have g00 := hS.c 0 rfl 0 rfl
    have g01 := hS.c 0 rfl 1 rfl
    have g10 := hS.c 1 rfl 0 rfl
    have g11 := hS.c 1 rfl 1 rfl
    have g20 := hS.c 2 rfl 0 rfl
    have g21 := hS.c 2 rfl 1 rfl
    go_wp2_with (go_at_call 12; refine (num_any _ _).mono ?_; rintro e w' ⟨rfl, rfl⟩)
    refine (Ha.out _).mono ?_
    rintro e w1 ⟨rfl, hb⟩
    clear g00 g01 g10 g11 g20 g21
    replace hS := hS.after hb
    clear hb
    have g00 := hS.c 0 rfl 0 rfl
    have g01 := hS.c 0 rfl 1 rfl
    have g10 := hS.c 1 rfl 0 rfl
    have g11 := hS.c 1 rfl 1 rfl
    have g20 := hS.c 2 rfl 0 rfl
    have g21 := hS.c 2 rfl 1 rfl
    go_wp2_with (go_at_call 12; refine (num_any _ _).mono ?_; rintro e w' ⟨rfl, rfl⟩)
    refine (Hb.out _).mono ?_
    rintro e w2 ⟨rfl, hb⟩
    clear g00 g01 g10 g11 g20 g21
    replace hS := hS.after hb
    clear hb
    have g00 := hS.c 0 rfl 0 rfl
    have g01 := hS.c 0 rfl 1 rfl
    have g10 := hS.c 1 rfl 0 rfl
    have g11 := hS.c 1 rfl 1 rfl
    have g20 := hS.c 2 rfl 0 rfl
    have g21 := hS.c 2 rfl 1 rfl
    go_wp2_with (go_at_call 12; refine (num_any _ _).mono ?_; rintro e w' ⟨rfl, rfl⟩)
    refine (Hc.out _).mono ?_
    rintro e w3 ⟨rfl, hb⟩
    clear g00 g01 g10 g11 g20 g21
    replace hS := hS.after hb
    clear hb
    have g00 := hS.c 0 rfl 0 rfl
    have g01 := hS.c 0 rfl 1 rfl
    have g10 := hS.c 1 rfl 0 rfl
    have g11 := hS.c 1 rfl 1 rfl
    have g20 := hS.c 2 rfl 0 rfl
    have g21 := hS.c 2 rfl 1 rfl
    go_wp2_with fail
    refine (works_true _).mono ?_
    rintro e w9 ⟨rfl, hb⟩
    have hB := hS.2.trans (hb.mono hS.2.size)
    clear g00 g01 g10 g11 g20 g21
    clear hb hS
    go_wp2
    go_ret
    exact ⟨rfl, hB⟩
  · cases hz
theorem mirrors_true (x y u v s t : Int) (w : World) :
    Calls Try.prog 7 #[wayV x y, wayV u v, wayV s t] w fun e w' => e = .returned (.bool true) ∧ Below w.heap.size w w' := by
  have Ha := fun W => check_any x y W
  have Hb := fun W => check_any u v W
  have Hc := fun W => check_any s t W
  cases hz : (mayB x y && mayB u v && mayB s t)
  · exact mirrors_no x y u v s t w _ _ _ hz (Lib.hid Ha) (Lib.hid Hb) (Lib.hid Hc)
  · simp only [Bool.and_eq_true] at hz
    obtain ⟨⟨za, zb⟩, zc⟩ := hz
    have oa := Rnd.may_ok.1 za
    have ob := Rnd.may_ok.1 zb
    have oc := Rnd.may_ok.1 zc
    have ya := Rnd.may_ok.2 oa.neg
    have yb := Rnd.may_ok.2 ob.neg
    have yc := Rnd.may_ok.2 oc.neg
    have H1 := fun W => bet_any x y u v s t W
    have H2 := fun W => bet_any u (-v) x (-y) s (-t) W
    have H3 := fun W => opp_any x y u v W
    have H4 := fun W => opp_any x (-y) u (-v) W
    rw [za, zb, zc] at H1
    rw [ya, yb, yc, ← Rnd.bet_mir oa ob oc] at H2
    rw [za, zb] at H3
    rw [ya, yb, ← Rnd.opp_mir oa ob] at H4
    rw [za] at Ha
    rw [zb] at Hb
    rw [zc] at Hc
    exact mirrors_core x y u v s t w (betA x y u v s t) (oppA x y u v) oa.2.2 ob.2.2 oc.2.2 (Lib.hid Ha) (Lib.hid Hb) (Lib.hid Hc) (Lib.hid H1) (Lib.hid H2) (Lib.hid H3) (Lib.hid H4)
end Go.Proofs.Ytfdofajknnocfaa
