/- Contract of angle's circleOf: the ways by their quarters, those of one sorted. -/
import Derived.Test.YtfdofajknnocfaaOD
namespace Go.Proofs.Ytfdofajknnocfaa
open Go.RowKit Go.Sort


/-- What is known while the quarters are sorted, k of them by now. -/
structure CirW (C R : Nat) (A : Nat → Option Addr) (N cap : Nat → Nat) (L : Nat → List (Int × Int)) (k : Nat) (w W : World) : Prop where
  below : Below w.heap.size w W
  cells : Cells4 C A N cap W
  res : Row W R [.slice none 0 0, .slice none 0 0, .slice none 0 0, .slice none 0 0]
  pre : ∀ q, k ≤ q → q < 4 → QPre W (A q) (N q) (cap q) (L q)
  read : ∀ q, q < k → q < 4 → QRead W (A q) (N q) (cap q) (Ins.srt Ins.ltT (L q))
  dis : ∀ p q, p < 4 → q < 4 → p ≠ q → ∀ a b, A p = some a → A q = some b → a.block ≠ b.block
  ge : ∀ q, q < 4 → ∀ a, A q = some a → C < a.block
  ord : w.heap.size ≤ R ∧ R < C
theorem CirW.step {C R k : Nat} {A : Nat → Option Addr} {N cap : Nat → Nat} {L : Nat → List (Int × Int)} {w W W1 : World} (h : CirW C R A N cap L k w W) (hk : k < 4) (hg : W.grownBy W1 ((A k).map (·.block)))
    (hr : QRead W1 (A k) (N k) (cap k) (Ins.srt Ins.ltT (L k))) : CirW C R A N cap L (k + 1) w W1 := by
  have hb : ∀ b, (A k).map (·.block) = some b → C < b := fun b hb => by
    cases hA : A k with
    | none => rw [hA] at hb; cases hb
    | some a =>
      rw [hA] at hb
      injection hb with hb
      have hb : a.block = b := hb
      have := h.ge k hk a hA
      omega
  have hC : some C ≠ (A k).map (·.block) := fun e => by have := hb C e.symm; omega
  have hR : some R ≠ (A k).map (·.block) := fun e => by have := hb R e.symm; have := h.ord.2; omega
  have hq : ∀ q g, q < 4 → q ≠ k → A q = some ⟨g, 0, none⟩ → some g ≠ (A k).map (·.block) := fun q g hq hn hA e => by
    cases hB : A k with
    | none => rw [hB] at e; cases e
    | some a =>
      rw [hB] at e
      injection e with e
      exact h.dis q k hq hk hn _ a hA hB e
  refine ⟨h.below.grown hg h.below.size (fun b e => by have := hb b e; have := h.ord; omega), ⟨Nat.lt_of_lt_of_le h.cells.1 hg.size, fun q hq => ?_⟩, ⟨Nat.lt_of_lt_of_le h.res.lt hg.size, fun i v hv => ?_⟩, fun q h1 h2 => ?_, fun q h1 h2 => ?_, h.dis, h.ge, h.ord⟩
  · have e := grown_cell hg h.cells.1 hC q
    rw [e.1, e.2]; exact h.cells.2 q hq
  · have e := grown_cell hg h.res.lt hR i
    rw [e.1, e.2]; exact h.res.2 i v hv
  · obtain ⟨p1, p2, p3⟩ := h.pre q (by omega) h2
    refine ⟨p1, p2, fun h0 => ?_⟩
    obtain ⟨g, hA, hh, hg'⟩ := p3 h0
    refine ⟨g, hA, fun j hj => ?_, Nat.lt_of_lt_of_le hg' hg.size⟩
    have e := grown_cell hg hg' (hq q g h2 (by omega) hA) (0 + j)
    rw [e.1, e.2]; exact hh j hj
  · by_cases e : q = k
    · subst e; exact hr
    · obtain ⟨p1, p2, p3⟩ := h.read q (by omega) h2
      refine ⟨p1, p2, fun h0 => ?_⟩
      obtain ⟨g, hA, hl, hh⟩ := p3 h0
      refine ⟨g, hA, Nat.lt_of_lt_of_le hl hg.size, fun i p hp => ?_⟩
      have e := fun j => (grown_cell hg hl (hq q g h2 e hA) j).1
      rw [e, e, e]; exact hh i p hp
theorem CirW.get {C R : Nat} {A : Nat → Option Addr} {N cap : Nat → Nat} {L : Nat → List (Int × Int)} {k : Nat} {w W : World} (h : CirW C R A N cap L k w W) (q : Nat) (hq : q < 4) : W.cell? ⟨C, q, none⟩ = some (.slice (A q) (N q) (cap q)) := (h.cells.2 q hq).1
/-- What circleOf answers. -/
def CirclePost (w : World) (ws : List (Int × Int)) (e : Ending) (w' : World) : Prop :=
  ∃ (A : Nat → Option Addr) (N cap : Nat → Nat), e = .returned (.agg #[.slice (A 0) (N 0) (cap 0), .slice (A 1) (N 1) (cap 1), .slice (A 2) (N 2) (cap 2), .slice (A 3) (N 3) (cap 3)]) ∧
    (∀ q, q < 4 → QRead w' (A q) (N q) (cap q) (Ins.srt Ins.ltT (partQ ws q))) ∧ (∀ q, q < 4 → ∀ a, A q = some a → w.heap.size ≤ a.block) ∧ Below w.heap.size w w'
theorem ix40 (a b c d : Value) (W : World) : (Instr.index 59 (.agg #[a, b, c, d]) (.int .i64 0)).run Try.prog W = .ok a W := by kernel_rfl
theorem ix41 (a b c d : Value) (W : World) : (Instr.index 59 (.agg #[a, b, c, d]) (.int .i64 1)).run Try.prog W = .ok b W := by kernel_rfl
theorem ix42 (a b c d : Value) (W : World) : (Instr.index 59 (.agg #[a, b, c, d]) (.int .i64 2)).run Try.prog W = .ok c W := by kernel_rfl
theorem ix43 (a b c d : Value) (W : World) : (Instr.index 59 (.agg #[a, b, c, d]) (.int .i64 3)).run Try.prog W = .ok d W := by kernel_rfl
theorem QRead.set {w : World} {A : Option Addr} {N cap b : Nat} {l : List (Int × Int)} (h : QRead w A N cap l) (hn : ∀ a, A = some a → a.block ≠ b) (i : Nat) (v : Value) : QRead (w.setCell ⟨b, i, none⟩ v) A N cap l := by
  obtain ⟨h1, h2, h3⟩ := h
  refine ⟨h1, h2, fun h0 => ?_⟩
  obtain ⟨g, hA, hl, hh⟩ := h3 h0
  refine ⟨g, hA, by simpa [World.setCell] using hl, fun j p hp => ?_⟩
  have hg := hn _ hA
  have e : ∀ k, (w.setCell ⟨b, i, none⟩ v).cell? ⟨g, k, none⟩ = w.cell? ⟨g, k, none⟩ := fun k => World.cell?_setCell_other _ _ _ _ (fun he => hg (congrArg Addr.block he).symm)
  rw [e, e, e]; exact hh j p hp
set_option maxHeartbeats 12800000 in
set_option maxRecDepth 100000 in
theorem circle_any (ws : List (Int × Int)) (b o c : Nat) (w : World) (hn : ws.length ≤ 20) (hx : ArmsL w b o ws) (hok : ∀ p, p ∈ ws → Ins.OkP p) :
    Calls Try.prog 38 #[.slice (some ⟨b, o, none⟩) ws.length c] w (CirclePost w ws) := by
  obtain ⟨i0, hi, hz, hz1, hz2⟩ := info_parts infoArm2
  have Hx := Lib.hid hx; clear hx
  have Hok := Lib.hid hok; clear hok
  generalize hN : ws.length = n at hn
  have HN := Lib.hid hN; clear hN
  go_enter Try.func38, Try.ntmps38
  go_wp2_with fail
  generalize hW : World.alloc (World.alloc _ _) _ = W0
  have hC0 : w.heap.size + 1 ≤ W0.heap.size := by rw [← hW]; simp
  have hB0 : Below w.heap.size w W0 := by rw [← hW]; exact ((Below.refl _ _).alloc (Nat.le_refl _) _).alloc (by simp) _
  have hR : Row W0 w.heap.size [.slice none 0 0, .slice none 0 0, .slice none 0 0, .slice none 0 0] := by rw [← hW]; exact (Row.at rfl _ _).alloc _
  have hK : CirK (w.heap.size + 1) (fun _ => none) (fun _ => 0) (fun _ => 0) (partQ []) W0 W0 := by
    refine ⟨⟨fun q _ => OwnA.start _ _, fun p q _ _ _ a b ha => by cases ha⟩, ?_, fun q _ _ => ⟨rfl, rfl⟩, Below.refl _ _⟩
    have hr : Row W0 (w.heap.size + 1) [.slice none 0 0, .slice none 0 0, .slice none 0 0, .slice none 0 0] := by rw [← hW]; exact Row.at (by simp) _ _
    refine ⟨hr.lt, fun q hq => ?_⟩
    match q, hq with
    | 0, _ => exact ⟨hr.c 0 rfl, hr.f 0 rfl⟩
    | 1, _ => exact ⟨hr.c 1 rfl, hr.f 1 rfl⟩
    | 2, _ => exact ⟨hr.c 2 rfl, hr.f 2 rfl⟩
    | 3, _ => exact ⟨hr.c 3 rfl, hr.f 3 rfl⟩
    | _ + 4, hq => omega
  clear hW
  have HX0 := Lib.hid (Hx.out.below hB0 Hx.out.1)
  have hbw : b < w.heap.size := Hx.out.1
  have HK0 := Lib.hid hK
  have HR := Lib.hid hR
  clear hK hR
  go_loopw [10] (fun i wr => ∃ (k : Nat) (A : Nat → Option Addr) (N cap : Nat → Nat), k ≤ n ∧ i = .int .i64 k ∧ Hid (CirK (w.heap.size + 1) A N cap (partQ (ws.take k)) W0 wr)) (fun i _ => n - (intOf i).toNat)
  case atStart => exact ⟨0, _, _, _, Nat.zero_le _, rfl, by rw [List.take_zero]; exact HK0⟩
  case round =>
    obtain ⟨k, A, N, cap, hk, rfl, HK⟩ := hrel
    by_cases hkn : k < n
    · have hk1 : (k : Int) < n := by omega
      obtain ⟨p, hpk⟩ : ∃ p, ws[k]? = some p := ⟨_, List.getElem?_eq_getElem (by rw [HN.out]; exact hkn)⟩
      obtain ⟨c0, c1, c2⟩ := (HX0.out.below HK.out.below (by omega)).2 k p hpk
      have HTk : Hid (ws.take (k + 1) = ws.take k ++ [p]) := Lib.hid (by rw [List.take_add_one, hpk]; rfl)
      clear hpk
      obtain ⟨m, hm4, hq⟩ := quart_nat p.1 p.2
      have HQ := Lib.hid hq
      have HKey : Hid (keyQ p = m) := Lib.hid (by unfold keyQ; rw [hq]; rfl)
      clear hq
      have hm4i : (m : Int) < 4 := by omega
      have hwc := HK.out.cells.1
      have hnn := HN.out
      go_wp2_with fail
      clear c0 c1 c2
      refine wp_region_mid (by kernel_rfl) (fun i => match i with
        | 0 => some (.pointer (some ⟨wr.heap.size, 2, none⟩))
        | 1 => some (.int .i64 (m : Nat))
        | 2 => some (.pointer (some ⟨wr.heap.size, 2, none⟩))
        | 3 => some (.int .i64 (m : Nat))
        | 4 => some (.pointer (some ⟨(w.heap.size + 1), m, none⟩))
        | 5 => some (.slice (A m) (N m) (cap m))
        | 6 => some (armV p.1 p.2 (quart p.1 p.2))
        | 9 => some (.pointer (some ⟨(w.heap.size + 1), m, none⟩))
        | _ => none) (CirS W0 (w.heap.size + 1 + 1) (w.heap.size + 1) wr.heap.size m p A N cap (partQ (ws.take k))) (by kernel_rfl) ⟨HK.out.below.alloc (Nat.le_trans hC0 HK.out.below.size) _ |>.drew, (Row.at rfl (armL p.1 p.2 (quart p.1 p.2)) _).drew, fun h => by simp at h, fun _ => (HK.out.rows.below ((Below.refl _ _).alloc (Nat.le_refl _) _)).below (Below.refl _ _).drew, fun h => by simp at h, fun _ => (HK.out.cells.below ((Below.refl _ _).alloc (Nat.le_refl _) _)).below (Below.refl _ _).drew, fun h => by simp at h, fun h => by simp at h⟩ ?_ ?_
      · intro listed a W i o' hI ho h0 hdep K hK'
        have hi' : i < 11 := (Array.getElem?_eq_some_iff.1 ho).1
        have hM := hI.world
        have hls : listed.size = 11 := hI.lsize
        have hsz : 22 < a.tmps.size := by rw [hI.size]; show (22 : Nat) < 33; decide
        have q3 : a.tmps[3]?.getD undef = .pointer (some ⟨(w.heap.size + 1), 0, none⟩) := hI.old 3 (noDst_spec (by kernel_rfl))
        have q5 : a.tmps[5]?.getD undef = .pointer (some ⟨wr.heap.size, 0, none⟩) := hI.old 5 (noDst_spec (by kernel_rfl))
        have hcase : i = 0 ∨ i = 1 ∨ i = 2 ∨ i = 3 ∨ i = 4 ∨ i = 5 ∨ i = 6 ∨ i = 7 ∨ i = 8 ∨ i = 9 ∨ i = 10 := by omega
        clear hi'
        rcases hcase with rfl | rfl | rfl | rfl | rfl | rfl | rfl | rfl | rfl | rfl | rfl
        · obtain rfl := Option.some.inj (show some _ = some o' from ho)
          clear hdep hI ho
          go_simp
          exact hK' (.pointer (some ⟨wr.heap.size, 2, none⟩)) _ (fun u hu => Option.some.inj (show some _ = some u from hu)) (hM.next 0 14 _ (by decide) (by decide))
        · obtain rfl := Option.some.inj (show some _ = some o' from ho)
          have d0 : listed.getD 0 false = true := hdep ⟨0, .data⟩ (by simp) rfl
          have q114 : a.tmps[14]?.getD undef = .pointer (some ⟨wr.heap.size, 2, none⟩) := hI.val 0 _ 14 _ rfl rfl rfl d0
          have z0 := hM.box.c 2 rfl
          rw [HQ.out] at z0
          clear hdep hI ho
          go_simp
          exact hK' (.int .i64 (m : Nat)) _ (fun u hu => Option.some.inj (show some _ = some u from hu)) (hM.next 1 15 _ (by decide) (by decide))
        · obtain rfl := Option.some.inj (show some _ = some o' from ho)
          clear hdep hI ho
          go_simp
          exact hK' (.pointer (some ⟨wr.heap.size, 2, none⟩)) _ (fun u hu => Option.some.inj (show some _ = some u from hu)) (hM.next 2 16 _ (by decide) (by decide))
        · obtain rfl := Option.some.inj (show some _ = some o' from ho)
          have d2 : listed.getD 2 false = true := hdep ⟨2, .data⟩ (by simp) rfl
          have q116 : a.tmps[16]?.getD undef = .pointer (some ⟨wr.heap.size, 2, none⟩) := hI.val 2 _ 16 _ rfl rfl rfl d2
          have z0 := hM.box.c 2 rfl
          rw [HQ.out] at z0
          clear hdep hI ho
          go_simp
          exact hK' (.int .i64 (m : Nat)) _ (fun u hu => Option.some.inj (show some _ = some u from hu)) (hM.next 3 17 _ (by decide) (by decide))
        · obtain rfl := Option.some.inj (show some _ = some o' from ho)
          have d3 : listed.getD 3 false = true := hdep ⟨3, .data⟩ (by simp) rfl
          have q117 : a.tmps[17]?.getD undef = .int .i64 (m : Nat) := hI.val 3 _ 17 _ rfl rfl rfl d3
          clear hdep hI ho
          go_simp
          exact hK' (.pointer (some ⟨(w.heap.size + 1), m, none⟩)) _ (fun u hu => Option.some.inj (show some _ = some u from hu)) (hM.next 4 18 _ (by decide) (by decide))
        · obtain rfl := Option.some.inj (show some _ = some o' from ho)
          have d4 : listed.getD 4 false = true := hdep ⟨4, .data⟩ (by simp) rfl
          have q118 : a.tmps[18]?.getD undef = .pointer (some ⟨(w.heap.size + 1), m, none⟩) := hI.val 4 _ 18 _ rfl rfl rfl d4
          have h8 : listed.getD 8 false = false := by
            cases q : listed.getD 8 false
            · rfl
            · have := (hM.o8 q).1; rw [getD_no h0] at this; cases this
          have h10 : listed.getD 10 false = false := by
            cases q : listed.getD 10 false
            · rfl
            · have := hM.o10 q; rw [h8] at this; cases this
          have z0 := ((hM.cel h10).2 m hm4).1
          clear hdep hI ho
          go_simp
          exact hK' (.slice (A m) (N m) (cap m)) _ (fun u hu => Option.some.inj (show some _ = some u from hu)) (hM.next 5 19 _ (by decide) (by decide))
        · obtain rfl := Option.some.inj (show some _ = some o' from ho)
          have z0 := hM.box.c 0 rfl
          have z1 := hM.box.c 1 rfl
          have z2 := hM.box.c 2 rfl
          clear hdep hI ho
          go_simp
          exact hK' (armV p.1 p.2 (quart p.1 p.2)) _ (fun u hu => Option.some.inj (show some _ = some u from hu)) (hM.next 6 20 _ (by decide) (by decide))
        · obtain rfl := Option.some.inj (show some _ = some o' from ho)
          have d6 : listed.getD 6 false = true := hdep ⟨6, .data⟩ (by simp) rfl
          have q120 : a.tmps[20]?.getD undef = armV p.1 p.2 (quart p.1 p.2) := hI.val 6 _ 20 _ rfl rfl rfl d6
          have h8 : listed.getD 8 false = false := by
            cases q : listed.getD 8 false
            · rfl
            · have := (hM.o8 q).2; rw [getD_no h0] at this; cases this
          clear hdep hI ho
          go_simp
          exact hK' _ _ (fun u hu => absurd (show (none : Option Value) = some u from hu) (by simp)) (hM.new hC0 (by omega) h8 _)
        · obtain rfl := Option.some.inj (show some _ = some o' from ho)
          have d5 : listed.getD 5 false = true := hdep ⟨5, .data⟩ (by simp) rfl
          have d7 : listed.getD 7 false = true := hdep ⟨7, .data⟩ (by simp) rfl
          have q119 : a.tmps[19]?.getD undef = .slice (A m) (N m) (cap m) := hI.val 5 _ 19 _ rfl rfl rfl d5
          have h8 : listed.getD 8 false = false := getD_no h0
          have h10 : listed.getD 10 false = false := by
            cases q : listed.getD 10 false
            · rfl
            · have := hM.o10 q; rw [h8] at this; cases this
          obtain ⟨B, hB, hrB⟩ := hM.one d7
          have hrB := hrB h8
          have hrows := (hM.bef h8).own m hm4
          have hcB := (hM.cel h10).1
          have hle : N m ≤ 20 := by
            rw [hrows.2]
            exact Nat.le_trans (List.length_filter_le _ _) (Nat.le_trans (List.length_take_le _ _) (by omega))
          have v19 : a.eval (.tmp 19) = .slice (A m) (N m) (cap m) := by simpa [Act.eval] using q119
          have v21 : a.eval (.tmp 21) = .slice (some ⟨B, 0, none⟩) 1 1 := by have h := hB; simpa [slotOf, Act.eval] using h
          refine wp_append_lies W (.tmp 19) (.tmp 21) 48 rfl (w.heap.size + 1 + 1) 50 i0 (armV 0 0 0) 3 24 Try.underlying48 hi hz hz1 hz2 rfl (by decide) (.slice (A m) (N m) (cap m)) (N m) _ v19 hrows.1 ⟨B, 0, none⟩ 1 1 (armL p.1 p.2 (quart p.1 p.2)) v21 rfl (fun j u hj => ?_) (fun u hu => by simp at hu; rcases hu with rfl | rfl | rfl <;> rfl) (by decide) (by unfold maxLen; omega) (by omega) (by omega) _ rfl ?_
          · have e : (⟨B, 0, none⟩ : Addr).add j = ⟨B, j, none⟩ := by simp [Addr.add]; intro h; rw [h]
            rw [e]; exact hrB.c j hj
          · intro g c' w' hown hgr hat _
            rw [own_block] at hgr hat
            refine hK' _ _ (fun u hu => absurd (show (none : Option Value) = some u from hu) (by simp)) (hM.grow hls hsz h8 h10 hm4 (by omega) (fun b hb he => ?_) hC0 d5 d7 ⟨?_, ?_⟩ hgr hat)
            · have := (HK.out.rows.own m hm4).lt hb
              omega
            · rw [armCs_append]; exact hown
            · rw [hrows.2]; simp
        · obtain rfl := Option.some.inj (show some _ = some o' from ho)
          have d1 : listed.getD 1 false = true := hdep ⟨1, .data⟩ (by simp) rfl
          have q115 : a.tmps[15]?.getD undef = .int .i64 (m : Nat) := hI.val 1 _ 15 _ rfl rfl rfl d1
          clear hdep hI ho
          go_simp
          exact hK' (.pointer (some ⟨(w.heap.size + 1), m, none⟩)) _ (fun u hu => Option.some.inj (show some _ = some u from hu)) (hM.next 9 23 _ (by decide) (by decide))
        · obtain rfl := Option.some.inj (show some _ = some o' from ho)
          have d8 : listed.getD 8 false = true := hdep ⟨8, .data⟩ (by simp) rfl
          have d9 : listed.getD 9 false = true := hdep ⟨9, .data⟩ (by simp) rfl
          have q123 : a.tmps[23]?.getD undef = .pointer (some ⟨(w.heap.size + 1), m, none⟩) := hI.val 9 _ 23 _ rfl rfl rfl d9
          have h10 : listed.getD 10 false = false := getD_no h0
          obtain ⟨g, c', hv, _, _⟩ := hM.aft d8
          have q122 : a.tmps[22]?.getD undef = .slice (some ⟨g, 0, none⟩) (N m + 1) c' := hv
          have z0 := ((hM.cel h10).2 m hm4).1
          have f0 := ((hM.cel h10).2 m hm4).2
          have hDC : wr.heap.size ≠ w.heap.size + 1 := by have := HK.out.cells.1; omega
          clear hdep hI ho hsz
          go_simp
          exact hK' undef _ (fun u hu => absurd (show (none : Option Value) = some u from hu) (by simp)) (hM.put hls d8 h10 hm4 (by omega) hDC hv)
      · intro listed a W hI hall
        obtain ⟨g, c', hv, hrows, hcel⟩ := hI.world.aft (hall 8 (by decide))
        have hcel := hcel (hall 10 (by decide))
        have hbel := hI.world.below
        have hdef := hI.defers
        obtain ⟨x0, x1, x2, x3, x4, x5, x6, x7, x8, x9, x10, x11, x12, x13, x14, x15, x16, x17, x18, x19, x20, x21, x22, x23, x24, x25, x26, x27, x28, x29, x30, x31, x32, hx⟩ := arr33 a.tmps hI.size
        obtain ⟨tmps, defers⟩ := a
        simp only at hx hdef
        subst hx
        subst hdef
        obtain rfl := (hI.old 0 (noDst_spec (by kernel_rfl))).trans (show slotOf _ 0 = .slice (some ⟨b, o, none⟩) n c from rfl)
        obtain rfl := (hI.old 1 (noDst_spec (by kernel_rfl))).trans (show slotOf _ 1 = undef from rfl)
        obtain rfl := (hI.old 2 (noDst_spec (by kernel_rfl))).trans (show slotOf _ 2 = .pointer (some ⟨w.heap.size, 0, none⟩) from rfl)
        obtain rfl := (hI.old 3 (noDst_spec (by kernel_rfl))).trans (show slotOf _ 3 = .pointer (some ⟨(w.heap.size + 1), 0, none⟩) from rfl)
        obtain rfl := (hI.old 4 (noDst_spec (by kernel_rfl))).trans (show slotOf _ 4 = undef from rfl)
        obtain rfl := (hI.old 5 (noDst_spec (by kernel_rfl))).trans (show slotOf _ 5 = .pointer (some ⟨wr.heap.size, 0, none⟩) from rfl)
        obtain rfl := (hI.old 6 (noDst_spec (by kernel_rfl))).trans (show slotOf _ 6 = undef from rfl)
        obtain rfl := (hI.old 7 (noDst_spec (by kernel_rfl))).trans (show slotOf _ 7 = undef from rfl)
        obtain rfl := (hI.old 8 (noDst_spec (by kernel_rfl))).trans (show slotOf _ 8 = .slice (some ⟨b, o, none⟩) n c from rfl)
        obtain rfl := (hI.old 9 (noDst_spec (by kernel_rfl))).trans (show slotOf _ 9 = .int .i64 n from rfl)
        obtain rfl := (hI.old 10 (noDst_spec (by kernel_rfl))).trans (show slotOf _ 10 = .int .i64 k from rfl)
        obtain rfl := (hI.old 11 (noDst_spec (by kernel_rfl))).trans (show slotOf _ 11 = .bool true from rfl)
        obtain rfl := (hI.old 12 (noDst_spec (by kernel_rfl))).trans (show slotOf _ 12 = .pointer (some ⟨b, o + k * 3, none⟩) from rfl)
        obtain rfl := (hI.old 13 (noDst_spec (by kernel_rfl))).trans (show slotOf _ 13 = armV p.1 p.2 (quart p.1 p.2) from rfl)
        obtain rfl := (hI.old 24 (noDst_spec (by kernel_rfl))).trans (show slotOf _ 24 = u24 from rfl)
        obtain rfl := (hI.old 25 (noDst_spec (by kernel_rfl))).trans (show slotOf _ 25 = undef from rfl)
        obtain rfl := (hI.old 26 (noDst_spec (by kernel_rfl))).trans (show slotOf _ 26 = undef from rfl)
        obtain rfl := (hI.old 27 (noDst_spec (by kernel_rfl))).trans (show slotOf _ 27 = undef from rfl)
        obtain rfl := (hI.old 28 (noDst_spec (by kernel_rfl))).trans (show slotOf _ 28 = undef from rfl)
        obtain rfl := (hI.old 29 (noDst_spec (by kernel_rfl))).trans (show slotOf _ 29 = undef from rfl)
        obtain rfl := (hI.old 30 (noDst_spec (by kernel_rfl))).trans (show slotOf _ 30 = undef from rfl)
        obtain rfl := (hI.old 31 (noDst_spec (by kernel_rfl))).trans (show slotOf _ 31 = undef from rfl)
        obtain rfl := (hI.old 32 (noDst_spec (by kernel_rfl))).trans (show slotOf _ 32 = undef from rfl)
        have HK' : Hid (CirK (w.heap.size + 1) (upd A m (some ⟨g, 0, none⟩)) (upd N m (N m + 1)) (upd cap m c') (partQ (ws.take (k + 1))) W0 W) := Lib.hid ⟨by
            rw [HTk.out, partQ_snoc, HKey.out]; exact hrows, hcel, fun q hq h0 => by
            by_cases e : q = m
            · subst e; rw [upd_same] at h0; omega
            · rw [upd_other _ _ e] at h0 ⊢
              rw [upd_other _ _ e]
              exact HK.out.emp q hq h0, hbel⟩
        clear hI hall hrows hcel hbel hv
        go_wp2
        go_roundw
        case rel => exact ⟨k + 1, _, _, _, by omega, by go_num, HK'⟩
        case measure => simp [intOf]; omega
    · obtain rfl : k = n := by omega
      have HLen : Hid (∀ q, (partQ ws q).length ≤ 20) := Lib.hid (fun q => Nat.le_trans (List.length_filter_le _ _) (by rw [HN.out]; exact hn))
      have HQ : Hid (∀ q : Nat, q < 4 → ∀ p, p ∈ partQ ws q → Ins.OkP p ∧ quart p.1 p.2 = (q : Int)) := Lib.hid (fun q _ p hp => by
        have hm := List.mem_filter.1 hp
        have ho := Hok.out p hm.1
        have hb := Rnd.quart_bd ho.1
        have he : keyQ p = q := by simpa using hm.2
        unfold keyQ at he
        exact ⟨ho, by omega⟩)
      have HW : Hid (CirW (w.heap.size + 1) w.heap.size A N cap (partQ ws) 0 w wr) := Lib.hid (by
        have hk := HK.out
        rw [← HN.out, List.take_length] at hk
        refine ⟨hB0.trans (hk.below.mono (by omega)), hk.cells, HR.out.below hk.below (by omega), fun q _ hq => ?_, fun q h => absurd h (by omega), hk.rows.dis, fun q hq a ha => (hk.rows.own q hq).lt ha |>.1, by omega⟩
        have ho := hk.rows.own q hq
        have hle : N q ≤ cap q := by
          obtain ⟨_, ⟨_, hz⟩ | ⟨_, _, _, hv, _, _, hle, _⟩⟩ := ho.1
          · omega
          · injection hv with _ _ hv; omega
        refine ⟨ho.2, ⟨hk.emp q hq, hle⟩, fun h0 => ?_⟩
        obtain ⟨g, cap', hv, hg, hl⟩ := ho.1.form h0
        injection hv with hv _ _
        refine ⟨g, hv, ?_, hl⟩
        rw [hv] at ho
        exact holds_of ho)
      clear HK HK0 HR HX0 hC0 hB0
      have z0 := HW.out.get 0 (by omega)
      have z1 := HW.out.get 1 (by omega)
      have z2 := HW.out.get 2 (by omega)
      have z3 := HW.out.get 3 (by omega)
      have ix0 := ix40 (.slice (A 0) (N 0) (cap 0)) (.slice (A 1) (N 1) (cap 1)) (.slice (A 2) (N 2) (cap 2)) (.slice (A 3) (N 3) (cap 3))
      have ix1 := ix41 (.slice (A 0) (N 0) (cap 0)) (.slice (A 1) (N 1) (cap 1)) (.slice (A 2) (N 2) (cap 2)) (.slice (A 3) (N 3) (cap 3))
      have ix2 := ix42 (.slice (A 0) (N 0) (cap 0)) (.slice (A 1) (N 1) (cap 1)) (.slice (A 2) (N 2) (cap 2)) (.slice (A 3) (N 3) (cap 3))
      have ix3 := ix43 (.slice (A 0) (N 0) (cap 0)) (.slice (A 1) (N 1) (cap 1)) (.slice (A 2) (N 2) (cap 2)) (.slice (A 3) (N 3) (cap 3))
      go_wp2
      clear z0 z1 z2 z3
      refine wp_loop_rounds 5 ?_
      rw [rounds_succ]
      go_wp2_with fail
      refine (sort_q (partQ ws 0) (A 0) (N 0) (cap 0) 0 _ (HLen.out 0) (HW.out.pre 0 (by omega) (by omega)) (HQ.out 0 (by omega))).mono ?_
      rintro e wq0 ⟨rfl, hg, hr⟩
      replace HW := Lib.hid (HW.out.step (by omega) hg hr)
      clear hg hr
      go_wp2_with fail
      rw [rounds_succ]
      go_wp2_with fail
      refine (sort_q (partQ ws 1) (A 1) (N 1) (cap 1) 1 _ (HLen.out 1) (HW.out.pre 1 (by omega) (by omega)) (HQ.out 1 (by omega))).mono ?_
      rintro e wq1 ⟨rfl, hg, hr⟩
      replace HW := Lib.hid (HW.out.step (by omega) hg hr)
      clear hg hr
      go_wp2_with fail
      rw [rounds_succ]
      go_wp2_with fail
      refine (sort_q (partQ ws 2) (A 2) (N 2) (cap 2) 2 _ (HLen.out 2) (HW.out.pre 2 (by omega) (by omega)) (HQ.out 2 (by omega))).mono ?_
      rintro e wq2 ⟨rfl, hg, hr⟩
      replace HW := Lib.hid (HW.out.step (by omega) hg hr)
      clear hg hr
      go_wp2_with fail
      rw [rounds_succ]
      go_wp2_with fail
      refine (sort_q (partQ ws 3) (A 3) (N 3) (cap 3) 3 _ (HLen.out 3) (HW.out.pre 3 (by omega) (by omega)) (HQ.out 3 (by omega))).mono ?_
      rintro e wq3 ⟨rfl, hg, hr⟩
      replace HW := Lib.hid (HW.out.step (by omega) hg hr)
      clear hg hr
      go_wp2_with fail
      rw [rounds_succ]
      have z0 := HW.out.get 0 (by omega)
      have z1 := HW.out.get 1 (by omega)
      have z2 := HW.out.get 2 (by omega)
      have z3 := HW.out.get 3 (by omega)
      have r0 := HW.out.res.c 0 rfl
      have r1 := HW.out.res.c 1 rfl
      have r2 := HW.out.res.c 2 rfl
      have r3 := HW.out.res.c 3 rfl
      have f0 := HW.out.res.f 0 rfl
      have f1 := HW.out.res.f 1 rfl
      have f2 := HW.out.res.f 2 rfl
      have f3 := HW.out.res.f 3 rfl
      go_wp2_with fail
      have hR4 := HW.out.res.put4 (.slice (A 0) (N 0) (cap 0)) (.slice (A 1) (N 1) (cap 1)) (.slice (A 2) (N 2) (cap 2)) (.slice (A 3) (N 3) (cap 3))
      have hB4 := below_put4 HW.out.below HW.out.ord.1 (.slice (A 0) (N 0) (cap 0)) (.slice (A 1) (N 1) (cap 1)) (.slice (A 2) (N 2) (cap 2)) (.slice (A 3) (N 3) (cap 3))
      have hQ4 : ∀ q, q < 4 → QRead _ (A q) (N q) (cap q) (Ins.srt Ins.ltT (partQ ws q)) := fun q hq => by
        have hn : ∀ a, A q = some a → a.block ≠ w.heap.size := fun a ha => by have := HW.out.ge q hq a ha; omega
        exact ((((HW.out.read q hq hq).set hn 0 (.slice (A 0) (N 0) (cap 0))).set hn 1 (.slice (A 1) (N 1) (cap 1))).set hn 2 (.slice (A 2) (N 2) (cap 2))).set hn 3 (.slice (A 3) (N 3) (cap 3))
      clear z0 z1 z2 z3 r0 r1 r2 r3 f0 f1 f2 f3
      generalize World.setCell _ _ _ = W4 at hR4 hB4 hQ4 ⊢
      exact bodyPost_ret (v := .agg #[.slice (A 0) (N 0) (cap 0), .slice (A 1) (N 1) (cap 1), .slice (A 2) (N 2) (cap 2), .slice (A 3) (N 3) (cap 3)]) (by simp [results, Try.results38, go_sem, hR4.c 0 rfl, hR4.c 1 rfl, hR4.c 2 rfl, hR4.c 3 rfl]) rfl ⟨A, N, cap, rfl, hQ4, fun q hq a ha => by have := HW.out.ge q hq a ha; omega, hB4⟩
end Go.Proofs.Ytfdofajknnocfaa
