/- The document's arena over lists: Take, Same; no condition. -/
import Derived.Test.YtncgjlhmgdgokaaAY
namespace Go.Proofs.Ytncgjlhmgdgokaa
open Go.RowKit Go.Sort ArenaMath Go.Maps

theorem leastFree_one {many : Nat} {L : List Int} {x y : Int} (h : LeastFree many L x) (g : LeastFree many L y) : x = y := by
  obtain ⟨a0, a1, a2, a3⟩ := h
  obtain ⟨b0, b1, b2, b3⟩ := g
  by_cases e : x < y
  · exact absurd (b3 x a0 e) a2
  · by_cases e' : y < x
    · exact absurd (a3 y b0 e') b2
    · omega
set_option maxRecDepth 100000 in
set_option maxHeartbeats 3200000 in
theorem rtake_any (many : Nat) (L : List Int) (A : Option Addr) (n c : Nat) (w : World) (hn : n = L.length) (hb : n ≤ 100000) (hL : Ris L) (hr : ∀ z ∈ L, 0 ≤ z ∧ z < (many : Int)) (hA : CellsS w A (intCs L)) :
    Calls Try.prog 40 #[rv many A n c] w fun e w' => ∃ v,
      (L.length < many → ∃ x, e = .returned (.tuple #[v, .int .i64 x, .int .i64 0]) ∧ LeastFree many L x ∧ RP w A many (insR x L) v w') ∧
      (¬ L.length < many → e = .returned (.tuple #[v, .int .i64 0, .int .i64 210]) ∧ RP w A many L v w') := by
  obtain ⟨P, HIN⟩ : ∃ P : Prop, Hid ((L.length < many) = P) := ⟨_, Lib.hid rfl⟩
  rw [HIN.out]
  have HA := Lib.hid hA
  have HN := Lib.hid hn
  have HL := Lib.hid (And.intro hL hr)
  have HT := Lib.hid (fun x W (hW : Below w.heap.size w W) => rtaken_any many x L A n c W hn hb (hA.after hW))
  have HWi := Lib.hid (fun x W (hW : Below w.heap.size w W) => rwith_any many x L A n c W hn hb (hA.after hW))
  unfold rv at *
  clear hA hn hL hr

  go_enter Try.func40, Try.ntmps40
  go_upto_region 1 with fail
  generalize hW : World.alloc _ _ = W0
  have hR2 : Row W0 w.heap.size [.int .i64 many, .slice A n c] := by rw [← hW]; exact (Row.at rfl [_, _] _).alloc _
  have hR4 : Row W0 (w.heap.size + 1) [.int .i64 0, .slice none 0 0] := by rw [← hW]; exact Row.at (by simp) [_, _] _
  have hB0 : Below w.heap.size w W0 := by rw [← hW]; exact ((Below.refl _ _).alloc (Nat.le_refl _) _).alloc (by simp) _
  clear hW
  go_wp2_with fail
  have hz : w.heap.size + 2 ≤ W0.heap.size := hR4.1
  go_loopw [5] (fun i wr => ∃ k : Nat, k ≤ n + 1 ∧ i = .int .i64 k ∧ Hid (∀ y : Int, 0 ≤ y → y < k → y ∈ L) ∧ Hid (Below W0.heap.size W0 wr)) (fun i _ => n + 1 - (intOf i).toNat)
  case atStart => exact ⟨0, Nat.zero_le _, rfl, Lib.hid (fun y h0 h1 => by omega), Lib.hid (Below.refl _ _)⟩
  case round =>
    obtain ⟨k, hk, rfl, HK, HB⟩ := hrel
    have hkl : k ≤ n := by rw [HN.out]; exact ris_full (k := 0) k HL.out.1 (fun z hz => (HL.out.2 z hz).1) (fun z h0 h1 => HK.out z h0 (by omega))
    have r2 := hR2.after HB.out
    have r4 := hR4.after HB.out
    have q0 := r2.c 0 rfl
    have q1 := r2.c 1 rfl
    have hBr : Below w.heap.size w wr := hB0.trans (HB.out.mono hB0.size)
    have hkl1 : (k : Int) ≤ n := by omega
    by_cases hkm : (k : Int) < many
    · clear hk
      go_wp2_with fail
      refine (HT.out _ _ hBr).mono ?_
      rintro e W1 ⟨rfl, hb1⟩
      replace r2 := r2.after hb1
      replace r4 := r4.after hb1
      have HB1 := Lib.hid (HB.out.trans (hb1.mono HB.out.size))
      have hB1 : Below w.heap.size w W1 := hB0.trans (HB1.out.mono hB0.size)
      clear hb1 hBr q0 q1
      by_cases hx : (k : Int) ∈ L
      · rw [decide_eq_true hx]
        have HK2 : Hid (∀ y : Int, 0 ≤ y → y < (k + 1 : Nat) → y ∈ L) := Lib.hid (fun y h0 h1 => by
          by_cases e : y < k
          · exact HK.out y h0 e
          · obtain rfl : y = k := by omega
            exact hx)
        clear hx r2 r4 hB1
        go_wp2_with fail
        go_roundw
        case rel => exact ⟨k + 1, by omega, by go_num, HK2, HB1⟩
        case measure => simp [intOf]; omega
      · rw [decide_eq_false hx]
        have HP : Hid (P ∧ LeastFree many L k) := Lib.hid ⟨by
          rw [← HIN.out]
          have h1 := ris_len (ins_ris HL.out.1 hx) (k := 0) (m := (many : Int)) (by omega) (fun z hz => by
            rcases mem_ins.1 hz with rfl | hz
            · omega
            · exact HL.out.2 z hz)
          rw [ins_len] at h1
          omega, ⟨by omega, hkm, hx, HK.out⟩⟩
        clear hx
        have q0 := r2.c 0 rfl
        have q1 := r2.c 1 rfl
        go_wp2_with fail
        refine (HWi.out _ _ hB1).mono ?_
        rintro e W2 ⟨v, rfl, A', n', c', rfl, hn', hA', hfr, hb2⟩
        have hfr0 : ∀ a, A' = some a → w.heap.size ≤ a.block ∧ a.block < W2.heap.size := fun a ha => by have h1 := hfr a ha; have h2 := r4.lt; omega
        replace hfr : ∀ a, A' = some a → a.block ≠ w.heap.size + 1 := fun a ha => by have h1 := hfr a ha; have h2 := r4.lt; omega
        unfold rv
        replace r4 := r4.after hb2
        have hB2 := hB1.trans (hb2.mono hB1.size)
        have s0 := r4.f 0 rfl
        have r6 := r4.set 0 (by simp) (.int .i64 many)
        have s1 := r4.f 1 rfl
        have s1' := r6.f 1 rfl
        have t0 := r4.c 0 rfl
        have t1 := r4.c 1 rfl
        have t1' := r6.c 1 rfl
        have r5 := r6.set 1 (by simp) (.slice A' n' c')
        have z0 := r5.c 0 rfl
        have z1 := r5.c 1 rfl
        have HF : Hid (RP w A many (insR k L) (.agg #[.int .i64 many, .slice A' n' c']) ((W2.setCell ⟨w.heap.size + 1, 0, none⟩ (.int .i64 many)).setCell ⟨w.heap.size + 1, 1, none⟩ (.slice A' n' c'))) := Lib.hid
          ⟨A', n', c', rfl, hn', (hA'.put (p := ⟨w.heap.size + 1, 0, none⟩) (fun _ a ha => hfr a ha)).put (p := ⟨w.heap.size + 1, 1, none⟩) (fun _ a ha => hfr a ha), (fun a ha => .inr ⟨(hfr0 a ha).1, by have := (hfr0 a ha).2; simpa [World.setCell] using this⟩), below_put1 (below_put1 hB2 (Nat.le_succ _) 0 (.int .i64 many)) (Nat.le_succ _) 1 (.slice A' n' c')⟩
        clear hn' hA' hfr hfr0 hB2 hB1 hb2 r2 r4 r6 r5 q0 q1
        go_wp2_with fail
        refine bodyPost_ret (v := .tuple #[.agg #[.int .i64 many, .slice A' n' c'], .int .i64 k, .int .i64 0]) (by simp [results, Try.results40, go_sem, z0, z1]) rfl ?_
        exact ⟨_, fun _ => ⟨k, rfl, HP.out.2, HF.out⟩, fun h => absurd HP.out.1 h⟩
    · have HP : Hid (¬ P) := Lib.hid (by
        rw [← HIN.out]
        have := HN.out
        omega)
      have p0 := r2.c 0 rfl
      have p1 := r2.c 1 rfl
      have s0 := r4.f 0 rfl
      have r6 := r4.set 0 (by simp) (.int .i64 many)
      have s1 := r4.f 1 rfl
      have s1' := r6.f 1 rfl
      have t0 := r4.c 0 rfl
      have t1 := r4.c 1 rfl
      have t1' := r6.c 1 rfl
      have r5 := r6.set 1 (by simp) (.slice A n c)
      have z0 := r5.c 0 rfl
      have z1 := r5.c 1 rfl
      have HF : Hid (RP w A many L (.agg #[.int .i64 many, .slice A n c]) ((wr.setCell ⟨w.heap.size + 1, 0, none⟩ (.int .i64 many)).setCell ⟨w.heap.size + 1, 1, none⟩ (.slice A n c))) := Lib.hid (by
        have hbx := below_put1 (below_put1 hBr (Nat.le_succ _) 0 (.int .i64 many)) (Nat.le_succ _) 1 (.slice A n c)
        exact ⟨A, n, c, rfl, HN.out, HA.out.after hbx, fun _ h => .inl h, hbx⟩)
      clear r6 r5 r2 r4 hBr q0 q1 hR2 hR4 hB0
      go_wp2_with fail
      refine bodyPost_ret (v := .tuple #[.agg #[.int .i64 many, .slice A n c], .int .i64 0, .int .i64 210]) (by simp [results, Try.results40, go_sem, z0, z1]) rfl ?_
      exact ⟨_, fun h => absurd h HP.out, fun _ => ⟨rfl, HF.out⟩⟩
set_option maxRecDepth 100000 in
set_option maxHeartbeats 3200000 in
theorem rsame_any (many many' : Int) (L M : List Int) (A A' : Option Addr) (n c n' c' : Nat) (w : World) (hn : n = L.length) (hn' : n' = M.length) (hb : n ≤ 100000) (hA : CellsS w A (intCs L)) (hA' : CellsS w A' (intCs M)) :
    Calls Try.prog 21 #[rv many A n c, rv many' A' n' c'] w fun e w' => e = .returned (.bool (decide (many = many' ∧ L = M))) ∧ Below w.heap.size w w' := by
  obtain ⟨q, HQ⟩ : ∃ q, Hid (decide (many = many' ∧ L = M) = q) := ⟨_, Lib.hid rfl⟩
  rw [HQ.out]
  have HA := Lib.hid (And.intro hA hA')
  have HN := Lib.hid (And.intro hn hn')
  unfold rv
  clear hA hn hA' hn'
  go_enter Try.func21, Try.ntmps21
  go_upto_region 1 with fail
  generalize hW : World.alloc _ _ = W0
  have hR2 : Row W0 w.heap.size [.int .i64 many, .slice A n c] := by rw [← hW]; exact (Row.at rfl [_, _] _).alloc _
  have hR3 : Row W0 (w.heap.size + 1) [.int .i64 many', .slice A' n' c'] := by rw [← hW]; exact Row.at (by simp) [_, _] _
  have hB0 : Below w.heap.size w W0 := by rw [← hW]; exact ((Below.refl _ _).alloc (Nat.le_refl _) _).alloc (by simp) _
  clear hW
  have q0 := hR2.c 0 rfl
  have q1 := hR2.c 1 rfl
  have p0 := hR3.c 0 rfl
  have p1 := hR3.c 1 rfl
  have HAW := Lib.hid (And.intro (HA.out.1.after hB0) (HA.out.2.after hB0))
  have HRR := Lib.hid (And.intro hR2 hR3)
  clear hR2 hR3 HA
  by_cases hm : many = many'
  · by_cases hl : n = n'
    · have hm' : (many != many') = false := by simp [hm]
      have hl' : ((n : Int) != (n' : Int)) = false := by simp [hl]
      have HM := Lib.hid hm
      subst hl
      clear hm
      go_wp2_with fail
      clear q0 q1 p0 p1
      go_loopw [5] (fun i wr => ∃ k : Nat, k ≤ n ∧ i = .int .i64 k ∧ Hid (Below W0.heap.size W0 wr) ∧ Hid (L.take k = M.take k)) (fun i _ => n - (intOf i).toNat)
      case atStart => exact ⟨0, Nat.zero_le _, rfl, Lib.hid (Below.refl _ _), Lib.hid rfl⟩
      case round =>
        obtain ⟨k, hk, rfl, HB, HF⟩ := hrel
        have HJ := Lib.hid (hB0.trans (HB.out.mono hB0.size))
        have HB2 := Lib.hid (fun n => below_drewN HB.out n)
        have q1 := (HRR.out.1.after HB.out).c 1 rfl
        have p1 := (HRR.out.2.after HB.out).c 1 rfl
        by_cases hkn : k < n
        · obtain ⟨p, hp⟩ : ∃ p, L[k]? = some p := ⟨_, List.getElem?_eq_getElem (by rw [← HN.out.1]; exact hkn)⟩
          obtain ⟨r, hr⟩ : ∃ r, M[k]? = some r := ⟨_, List.getElem?_eq_getElem (by rw [← HN.out.2]; exact hkn)⟩
          obtain ⟨b, o, rfl, h1⟩ := HAW.out.1 (by rw [intCs_len, ← HN.out.1]; omega)
          obtain ⟨b', o', rfl, h2⟩ := HAW.out.2 (by rw [intCs_len, ← HN.out.2]; omega)
          have c0 : wr.cell? ⟨b, o + k, none⟩ = some (.int .i64 p) := (h1.after HB.out).2 _ _ (intCs_get hp)
          have c1 : wr.cell? ⟨b', o' + k, none⟩ = some (.int .i64 r) := (h2.after HB.out).2 _ _ (intCs_get hr)
          have hk1 : (k : Int) < n := by omega
          have HX := Lib.hid (And.intro hp hr)
          clear h1 h2 hp hr HAW
          by_cases e : p = r
          · have e' : (p != r) = false := by simp [e]
            have HF2 : Hid (L.take (k + 1) = M.take (k + 1)) := Lib.hid (by rw [List.take_add_one, List.take_add_one, HX.out.1, HX.out.2, HF.out, e])
            clear e HX HF
            go_wp2_with fail
            go_quiet (fail)
            go_wp2_with fail
            go_roundw
            case rel => exact ⟨k + 1, by omega, by go_num, Lib.hid (HB2.out _), HF2⟩
            case measure => simp [intOf]; omega
          · have e' : (p != r) = true := by simp [e]
            obtain rfl : q = false := by
              rw [← HQ.out]
              refine decide_eq_false (fun h => e ?_)
              have := HX.out.1
              rw [h.2, HX.out.2] at this
              exact (Option.some.inj this).symm
            clear e HX HF HQ
            go_wp2_with fail
            go_quiet (fail)
            go_wp2_with fail
            go_ret
            exact ⟨by first | rfl | trivial, below_drewN HJ.out _⟩
        · obtain rfl : k = n := by omega
          obtain rfl : q = true := by
            rw [← HQ.out]
            have h := HF.out
            rw [List.take_of_length_le (by rw [← HN.out.1]; exact Nat.le_refl _), List.take_of_length_le (by rw [← HN.out.2]; exact Nat.le_refl _)] at h
            exact decide_eq_true ⟨HM.out, h⟩
          clear HQ HF HAW
          go_wp2_with fail
          go_ret
          exact ⟨by first | rfl | trivial, HJ.out⟩
    · obtain rfl : q = false := by
        rw [← HQ.out]
        exact decide_eq_false (fun h => hl (by rw [HN.out.1, HN.out.2, h.2]))
      have hm' : (many != many') = false := by simp [hm]
      have hl' : ((n : Int) != (n' : Int)) = true := by simp; omega
      clear hm HQ HAW
      go_wp2_with fail
      go_ret
      exact ⟨by first | rfl | trivial, hB0⟩
  · obtain rfl : q = false := by
      rw [← HQ.out]
      exact decide_eq_false (fun h => hm h.1)
    have hm' : (many != many') = true := by simp [hm]
    clear HQ HAW
    go_wp2_with fail
    go_ret
    exact ⟨by first | rfl | trivial, hB0⟩
end Go.Proofs.Ytncgjlhmgdgokaa
