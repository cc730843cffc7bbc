/- The document's arena over lists: with; no condition. -/
import Derived.Test.YtncgjlhmgdgokaaAV
namespace Go.Proofs.Ytncgjlhmgdgokaa
open Go.RowKit Go.Sort ArenaMath Go.Maps

theorem Own.freshB {e : TypeId} {k base N cap : Nat} {w : World} {A : Option Addr} {xs : List Value} (h : Own e k w base A N cap xs) : ∀ g, ownB A = some g → base ≤ g := fun g hg => by
  rcases h.form with ⟨e, _⟩ | ⟨g', e, h3, _⟩
  · rw [e] at hg; cases hg
  · rw [e] at hg; cases hg; exact h3
theorem Own.ltB {e : TypeId} {k base N cap : Nat} {w : World} {A : Option Addr} {xs : List Value} (h : Own e k w base A N cap xs) : ∀ a, A = some a → a.block < w.heap.size := fun a ha => by
  rcases h.form with ⟨e, _⟩ | ⟨g', e, _, h3⟩
  · rw [e] at ha; cases ha
  · rw [e] at ha; cases ha; exact h3
/-- An answer: so many places, these taken; what holds them is what held those of the argument, or new. -/
def RP (w : World) (A2 : Option Addr) (many : Int) (L : List Int) (v : Value) (w' : World) : Prop := ∃ A n c, v = rv many A n c ∧ n = L.length ∧ CellsS w' A (intCs L) ∧ (∀ a, A = some a → A2 = some a ∨ (w.heap.size ≤ a.block ∧ a.block < w'.heap.size)) ∧ Below w.heap.size w w'
/-- The same, and what holds them is new. -/
def RF (w : World) (many : Int) (L : List Int) (v : Value) (w' : World) : Prop := ∃ A n c, v = rv many A n c ∧ n = L.length ∧ CellsS w' A (intCs L) ∧ (∀ a, A = some a → w.heap.size ≤ a.block ∧ a.block < w'.heap.size) ∧ Below w.heap.size w w'
theorem RF.rp {w w' : World} {A2 : Option Addr} {many : Int} {L : List Int} {v : Value} (h : RF w many L v w') : RP w A2 many L v w' := by
  obtain ⟨A, n, c, h1, h2, h3, h5, h4⟩ := h
  exact ⟨A, n, c, h1, h2, h3, fun a ha => .inr (h5 a ha), h4⟩
set_option maxRecDepth 100000 in
set_option maxHeartbeats 6400000 in
theorem rwith_any (many x : Int) (L : List Int) (A : Option Addr) (n c : Nat) (w : World) (hn : n = L.length) (hb : n ≤ 100000) (hA : CellsS w A (intCs L)) :
    Calls Try.prog 55 #[rv many A n c, .int .i64 x] w fun e w' => ∃ v, e = .returned v ∧ RF w many (insR x L) v w' := by
  have HA := Lib.hid hA
  have HN := Lib.hid hn
  obtain ⟨rl, hrl⟩ : ∃ rl, insR x L = rl := ⟨_, rfl⟩
  rw [hrl]
  have HQ := Lib.hid hrl
  unfold rv
  clear hA hn hrl
  go_enter Try.func55, Try.ntmps55
  go_wp2_with fail
  generalize hW : World.alloc _ _ = WW
  have hR2 : Row WW w.heap.size [.int .i64 many, .slice A n c] := by rw [← hW]; exact (Row.at rfl [_, _] _).alloc _
  have hR4 : Row WW (w.heap.size + 1) [.int .i64 0, .slice none 0 0] := by rw [← hW]; exact Row.at (by simp) [_, _] _
  have hB1 : Below w.heap.size w WW := by rw [← hW]; exact ((Below.refl _ _).alloc (Nat.le_refl _) _).alloc (by simp) _
  clear hW
  have hz : w.heap.size + 2 ≤ WW.heap.size := hR4.1
  have HR := Lib.hid (And.intro hR2 (And.intro hR4 (And.intro hB1 hz)))
  clear hR2 hR4 hB1 hz
  go_loopw [5, 6, 7] (fun s p i wr => ∃ (k m1 c1 : Nat) (A1 : Option Addr) (pt : Bool) (xs : List Int), k ≤ n ∧ i = .int .i64 k ∧ p = .bool pt ∧ s = .slice A1 m1 c1 ∧ m1 ≤ 2 * k ∧ Hid (Own 3 1 wr (w.heap.size + 2) A1 m1 c1 (intCs xs)) ∧ Hid (rl = xs ++ (if pt then L.drop k else insR x (L.drop k))) ∧ Hid (Below (w.heap.size + 2) WW wr)) (fun _ _ i _ => n - (intOf i).toNat)
  case atStart => exact ⟨0, 0, 0, none, false, [], Nat.zero_le _, rfl, rfl, rfl, by omega, Lib.hid (Own.nil _ _ _ _), Lib.hid HQ.out.symm, Lib.hid (Below.refl _ _)⟩
  case round =>
    obtain ⟨k, m1, c1, A1, pt, xs, hk, rfl, rfl, rfl, hm1, HO, HI, HB⟩ := hrel
    have hzr : w.heap.size + 2 ≤ wr.heap.size := Nat.le_trans HR.out.2.2.2 HB.out.size
    have x1 := (HR.out.1.below HB.out (by omega)).c 1 rfl
    by_cases hkn : k < n
    · obtain ⟨p, hpk⟩ : ∃ p, L[k]? = some p := ⟨_, List.getElem?_eq_getElem (by rw [← HN.out]; exact hkn)⟩
      obtain ⟨b, o, rfl, hl⟩ := HA.out (by rw [intCs_len, ← HN.out]; omega)
      have hbl := hl.1
      have HC := Lib.hid (hl.after HR.out.2.2.1)
      have c0 : wr.cell? ⟨b, o + k, none⟩ = some (.int .i64 p) := (HC.out.below HB.out (by omega)).2 _ _ (intCs_get hpk)
      have HD : Hid (L.drop k = p :: L.drop (k + 1)) := Lib.hid (by
        obtain ⟨h1, h2⟩ := List.getElem?_eq_some_iff.1 hpk
        rw [List.drop_eq_getElem_cons h1, h2])
      have hk1 : (k : Int) < n := by omega
      have HCw := Lib.hid (fun W (hW : Below (w.heap.size + 2) wr W) => And.intro ((HC.out.below (HB.out.trans hW) (by omega)).2 _ _ (intCs_get hpk)) (((HR.out.1.below (HB.out.trans hW) (by omega)).c 1 rfl)))
      clear hl hpk
      cases pt with
      | true =>
        go_wp2_with (at_builtin; refine wpList_app rfl (.tmp 30) (.tmp 36) elemInt rfl (w.heap.size + 2) A1 m1 c1 (intCs xs) (some ⟨_, 0, none⟩) 1 1 [.int .i64 p] rfl rfl (HO.out.alloc _) (cells_row (Row.at rfl [.int .i64 p] _)) rfl (intCs_one [p]) (by omega) (by simp; omega) ?_)
        intro A9 c9 W9 hO9 hg9 _
        have hb9 := below_grown hg9 (by simp; omega) HO.out.freshB
        have HO9 : Hid (Own 3 1 W9 (w.heap.size + 2) A9 (m1 + 1) c9 (intCs (xs ++ [p]))) := Lib.hid (by rw [intCs_append]; exact hO9)
        have HB9 : Hid (Below (w.heap.size + 2) WW W9) := Lib.hid ((HB.out.trans ((Below.refl _ _).alloc (by omega) _)).trans hb9)
        have HI9 : Hid (rl = (xs ++ [p]) ++ (if true then L.drop (k + 1) else insR x (L.drop (k + 1)))) := Lib.hid (by rw [HI.out, HD.out]; simp)
        clear hO9 hg9 hb9
        go_wp2_with fail
        go_roundw
        case rel => exact ⟨k + 1, m1 + 1, c9, A9, true, xs ++ [p], by omega, by go_num, rfl, rfl, by omega, HO9, HI9, HB9⟩
        case measure => simp [intOf]; omega
      | false =>
        by_cases hpx : x < p
        · have HI8 : Hid (rl = (xs ++ [x]) ++ p :: L.drop (k + 1)) := Lib.hid (by rw [HI.out, HD.out, if_neg Bool.false_ne_true, insR, if_pos hpx]; simp)
          go_wp2_with (at_builtin; refine wpList_app rfl (.tmp 26) (.tmp 28) elemInt rfl (w.heap.size + 2) A1 m1 c1 (intCs xs) (some ⟨_, 0, none⟩) 1 1 [.int .i64 x] rfl rfl (HO.out.alloc _) (cells_row (Row.at rfl [.int .i64 x] _)) rfl (intCs_one [x]) (by omega) (by simp; omega) ?_)
          intro A8 c8 W8 hO8 hg8 _
          have hb8 := below_grown hg8 (by simp; omega) HO.out.freshB
          have HO8 : Hid (Own 3 1 W8 (w.heap.size + 2) A8 (m1 + 1) c8 (intCs (xs ++ [x]))) := Lib.hid (by rw [intCs_append]; exact hO8)
          have hb8' : Below (w.heap.size + 2) wr W8 := ((Below.refl _ _).alloc (by omega) _).trans hb8
          have HB8 : Hid (Below (w.heap.size + 2) WW W8) := Lib.hid (HB.out.trans hb8')
          have hz8 : w.heap.size + 2 ≤ W8.heap.size := Nat.le_trans HR.out.2.2.2 HB8.out.size
          obtain ⟨c8', x8⟩ := HCw.out W8 hb8'
          clear hO8 hg8 hb8 hb8' c0 x1 HO HI
          go_wp2_with (at_builtin; refine wpList_app rfl (.tmp 30) (.tmp 36) elemInt rfl (w.heap.size + 2) A8 (m1 + 1) c8 (intCs (xs ++ [x])) (some ⟨_, 0, none⟩) 1 1 [.int .i64 p] rfl rfl (HO8.out.alloc _) (cells_row (Row.at rfl [.int .i64 p] _)) rfl (intCs_one [p]) (by omega) (by simp; omega) ?_)
          intro A9 c9 W9 hO9 hg9 _
          have hb9 := below_grown hg9 (by simp; omega) HO8.out.freshB
          have HO9 : Hid (Own 3 1 W9 (w.heap.size + 2) A9 (m1 + 1 + 1) c9 (intCs (xs ++ [x] ++ [p]))) := Lib.hid (by rw [intCs_append]; exact hO9)
          have HB9 : Hid (Below (w.heap.size + 2) WW W9) := Lib.hid ((HB8.out.trans ((Below.refl _ _).alloc (by omega) _)).trans hb9)
          have HI9 : Hid (rl = (xs ++ [x] ++ [p]) ++ (if true then L.drop (k + 1) else insR x (L.drop (k + 1)))) := Lib.hid (by rw [HI8.out]; simp)
          clear hO9 hg9 hb9
          go_wp2_with fail
          go_roundw
          case rel => exact ⟨k + 1, m1 + 1 + 1, c9, A9, true, xs ++ [x] ++ [p], by omega, by go_num, rfl, rfl, by omega, HO9, HI9, HB9⟩
          case measure => simp [intOf]; omega
        · have HI9 : Hid (rl = (xs ++ [p]) ++ (if false then L.drop (k + 1) else insR x (L.drop (k + 1)))) := Lib.hid (by rw [HI.out, HD.out, if_neg Bool.false_ne_true, if_neg Bool.false_ne_true, insR, if_neg hpx]; simp)
          go_wp2_with (at_builtin; refine wpList_app rfl (.tmp 30) (.tmp 36) elemInt rfl (w.heap.size + 2) A1 m1 c1 (intCs xs) (some ⟨_, 0, none⟩) 1 1 [.int .i64 p] rfl rfl (HO.out.alloc _) (cells_row (Row.at rfl [.int .i64 p] _)) rfl (intCs_one [p]) (by omega) (by simp; omega) ?_)
          intro A9 c9 W9 hO9 hg9 _
          have hb9 := below_grown hg9 (by simp; omega) HO.out.freshB
          have HO9 : Hid (Own 3 1 W9 (w.heap.size + 2) A9 (m1 + 1) c9 (intCs (xs ++ [p]))) := Lib.hid (by rw [intCs_append]; exact hO9)
          have HB9 : Hid (Below (w.heap.size + 2) WW W9) := Lib.hid ((HB.out.trans ((Below.refl _ _).alloc (by omega) _)).trans hb9)
          clear hO9 hg9 hb9
          go_wp2_with fail
          go_roundw
          case rel => exact ⟨k + 1, m1 + 1, c9, A9, false, xs ++ [p], by omega, by go_num, rfl, rfl, by omega, HO9, HI9, HB9⟩
          case measure => simp [intOf]; omega
    · obtain rfl : k = n := by omega
      have hend : L.drop k = [] := List.drop_of_length_le (by rw [← HN.out]; exact Nat.le_refl _)
      have hI := HI.out
      rw [hend] at hI
      clear hend HI
      cases pt with
      | true =>
        have HX : Hid (rl = xs) := Lib.hid (by rw [hI]; simp)
        clear hI
        obtain ⟨P2, P4, PB, PZ⟩ := HR.out
        have r2 := P2.below HB.out (by omega)
        have r4 := P4.below HB.out (by omega)
        have hzr9 : w.heap.size + 2 ≤ wr.heap.size := Nat.le_trans PZ HB.out.size
        have q2 := r2.c 1 rfl
        have g2 := r2.f 1 rfl
        have r2' := r2.set 1 (by simp) (.slice A1 m1 c1)
        have r4' := r4.other (p := ⟨w.heap.size, 1, none⟩) (by simp) (.slice A1 m1 c1)
        have HP := Lib.hid (And.intro r2' r4')
        have hbz : Below w.heap.size w wr := PB.trans (HB.out.mono (by omega))
        have HBz := Lib.hid (below_put1 hbz (Nat.le_refl _) 1 (.slice A1 m1 c1))
        have HOz := Lib.hid (HO.out.put (p := ⟨w.heap.size, 1, none⟩) (fun g hg => by have := HO.out.freshB g hg; show g ≠ w.heap.size; omega) (.slice A1 m1 c1))
        clear r2' r4' hbz P2 P4 PB PZ r2 r4 HO HB
        go_upto_region 13 with fail
        generalize hW5 : World.setCell _ _ _ = W5
        rw [hW5] at HP HBz HOz
        have p0 := HP.out.1.c 0 rfl
        have p1 := HP.out.1.c 1 rfl
        have s0 := HP.out.2.f 0 rfl
        have s1 := HP.out.2.f 1 rfl
        have t0 := HP.out.2.c 0 rfl
        have t1 := HP.out.2.c 1 rfl
        have r6 := HP.out.2.set 0 (by simp) (.int .i64 many)
        have t1' := r6.c 1 rfl
        have s1' := r6.f 1 rfl
        have r5 := r6.set 1 (by simp) (.slice A1 m1 c1)
        have z0 := r5.c 0 rfl
        have z1 := r5.c 1 rfl
        have HF : Hid (RF w many rl (.agg #[.int .i64 many, .slice A1 m1 c1]) ((W5.setCell ⟨w.heap.size + 1, 0, none⟩ (.int .i64 many)).setCell ⟨w.heap.size + 1, 1, none⟩ (.slice A1 m1 c1))) := Lib.hid (by
          have hl := HOz.out.len
          rw [intCs_len] at hl
          have hfr := HOz.out.fresh
          refine ⟨A1, m1, c1, rfl, by rw [HX.out]; omega, ?_, fun a ha => ⟨by have := hfr a ha; omega, by have := HOz.out.ltB a ha; simpa [World.setCell] using this⟩, below_put1 (below_put1 HBz.out (Nat.le_succ _) 0 _) (Nat.le_succ _) 1 _⟩
          rw [HX.out]
          exact (HOz.out.cells.put (p := ⟨w.heap.size + 1, 0, none⟩) (fun _ a ha => by have := hfr a ha; show a.block ≠ w.heap.size + 1; omega)).put (p := ⟨w.heap.size + 1, 1, none⟩) (fun _ a ha => by have := hfr a ha; show a.block ≠ w.heap.size + 1; omega))
        clear r6 r5 HP HBz HOz
        go_wp2_with fail
        exact bodyPost_ret (v := .agg #[.int .i64 many, .slice A1 m1 c1]) (by simp [results, Try.results55, go_sem, z0, z1]) rfl ⟨_, rfl, HF.out⟩
      | false =>
        have HX : Hid (rl = xs ++ [x]) := Lib.hid (by rw [hI]; simp [insR])
        clear hI
        go_wp2_with (at_builtin; refine wpList_app rfl (.tmp 40) (.tmp 42) elemInt rfl (w.heap.size + 2) A1 m1 c1 (intCs xs) (some ⟨_, 0, none⟩) 1 1 [.int .i64 x] rfl rfl (HO.out.alloc _) (cells_row (Row.at rfl [.int .i64 x] _)) rfl (intCs_one [x]) (by omega) (by simp; omega) ?_)
        intro A9 c9 W9 hO9 hg9 _
        have hb9 := below_grown hg9 (by simp; omega) HO.out.freshB
        have HO9 : Hid (Own 3 1 W9 (w.heap.size + 2) A9 (m1 + 1) c9 (intCs (xs ++ [x]))) := Lib.hid (by rw [intCs_append]; exact hO9)
        have HB9 : Hid (Below (w.heap.size + 2) WW W9) := Lib.hid ((HB.out.trans ((Below.refl _ _).alloc (by omega) _)).trans hb9)
        clear hO9 hg9 hb9 x1
        obtain ⟨P2, P4, PB, PZ⟩ := HR.out
        have r2 := P2.below HB9.out (by omega)
        have r4 := P4.below HB9.out (by omega)
        have hzr9 : w.heap.size + 2 ≤ W9.heap.size := Nat.le_trans PZ HB9.out.size
        have q2 := r2.c 1 rfl
        have g2 := r2.f 1 rfl
        have r2' := r2.set 1 (by simp) (.slice A9 (m1 + 1) c9)
        have r4' := r4.other (p := ⟨w.heap.size, 1, none⟩) (by simp) (.slice A9 (m1 + 1) c9)
        have HP := Lib.hid (And.intro r2' r4')
        have hbz : Below w.heap.size w W9 := PB.trans (HB9.out.mono (by omega))
        have HBz := Lib.hid (below_put1 hbz (Nat.le_refl _) 1 (.slice A9 (m1 + 1) c9))
        have HOz := Lib.hid (HO9.out.put (p := ⟨w.heap.size, 1, none⟩) (fun g hg => by have := HO9.out.freshB g hg; show g ≠ w.heap.size; omega) (.slice A9 (m1 + 1) c9))
        clear r2' r4' hbz P2 P4 PB PZ r2 r4 HO HB
        go_upto_region 13 with fail
        generalize hW5 : World.setCell _ _ _ = W5
        rw [hW5] at HP HBz HOz
        have p0 := HP.out.1.c 0 rfl
        have p1 := HP.out.1.c 1 rfl
        have s0 := HP.out.2.f 0 rfl
        have s1 := HP.out.2.f 1 rfl
        have t0 := HP.out.2.c 0 rfl
        have t1 := HP.out.2.c 1 rfl
        have r6 := HP.out.2.set 0 (by simp) (.int .i64 many)
        have t1' := r6.c 1 rfl
        have s1' := r6.f 1 rfl
        have r5 := r6.set 1 (by simp) (.slice A9 (m1 + 1) c9)
        have z0 := r5.c 0 rfl
        have z1 := r5.c 1 rfl
        have HF : Hid (RF w many rl (.agg #[.int .i64 many, .slice A9 (m1 + 1) c9]) ((W5.setCell ⟨w.heap.size + 1, 0, none⟩ (.int .i64 many)).setCell ⟨w.heap.size + 1, 1, none⟩ (.slice A9 (m1 + 1) c9))) := Lib.hid (by
          have hl := HOz.out.len
          rw [intCs_len] at hl
          have hfr := HOz.out.fresh
          refine ⟨A9, (m1 + 1), c9, rfl, by rw [HX.out]; omega, ?_, fun a ha => ⟨by have := hfr a ha; omega, by have := HOz.out.ltB a ha; simpa [World.setCell] using this⟩, below_put1 (below_put1 HBz.out (Nat.le_succ _) 0 _) (Nat.le_succ _) 1 _⟩
          rw [HX.out]
          exact (HOz.out.cells.put (p := ⟨w.heap.size + 1, 0, none⟩) (fun _ a ha => by have := hfr a ha; show a.block ≠ w.heap.size + 1; omega)).put (p := ⟨w.heap.size + 1, 1, none⟩) (fun _ a ha => by have := hfr a ha; show a.block ≠ w.heap.size + 1; omega))
        clear r6 r5 HP HBz HOz
        go_wp2_with fail
        exact bodyPost_ret (v := .agg #[.int .i64 many, .slice A9 (m1 + 1) c9]) (by simp [results, Try.results55, go_sem, z0, z1]) rfl ⟨_, rfl, HF.out⟩
end Go.Proofs.Ytncgjlhmgdgokaa
