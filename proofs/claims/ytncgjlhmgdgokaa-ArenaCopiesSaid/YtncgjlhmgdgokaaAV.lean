/- The document's arena over lists: Taken, Top, New, with; no condition. -/
import Derived.Test.YtncgjlhmgdgokaaAU
namespace Go.Proofs.Ytncgjlhmgdgokaa
open Go.RowKit Go.Sort ArenaMath Go.Maps

/-- The document's arena, as a value. -/
def rv (many : Int) (A : Option Addr) (n c : Nat) : Value := .agg #[.int .i64 many, .slice A n c]
set_option maxRecDepth 100000 in
set_option maxHeartbeats 1600000 in
theorem rtaken_any (many x : Int) (L : List Int) (A : Option Addr) (n c : Nat) (w : World) (hn : n = L.length) (hb : n ≤ 100000) (hA : CellsS w A (intCs L)) :
    Calls Try.prog 42 #[rv many A n c, .int .i64 x] w fun e w' => e = .returned (.bool (decide (x ∈ L))) ∧ Below w.heap.size w w' := by
  have HA := Lib.hid hA
  have HN := Lib.hid hn
  obtain ⟨q, hq⟩ : ∃ q, decide (x ∈ L) = q := ⟨_, rfl⟩
  rw [hq]
  have HQ := Lib.hid hq
  unfold rv
  clear hA hn hq
  go_enter Try.func42, Try.ntmps42
  go_wp2_with fail
  generalize hW : World.alloc _ _ = W0
  have hR2 : Row W0 w.heap.size [.int .i64 many, .slice A n c] := by rw [← hW]; exact Row.at rfl [_, _] _
  have hB0 : Below w.heap.size w W0 := by rw [← hW]; exact (Below.refl w.heap.size w).alloc (Nat.le_refl _) _
  clear hW
  have y1 := hR2.c 1 rfl
  have HAW := Lib.hid (HA.out.after hB0)
  clear HA hR2
  go_loopw [5] (fun i wr => ∃ k : Nat, k ≤ n ∧ i = .int .i64 k ∧ wr = W0 ∧ Hid (x ∉ L.take k)) (fun i _ => n - (intOf i).toNat)
  case atStart => exact ⟨0, Nat.zero_le _, rfl, rfl, Lib.hid (by simp)⟩
  case round =>
    obtain ⟨k, hk, rfl, rfl, HF⟩ := hrel
    by_cases hkn : k < n
    · obtain ⟨p, hpk⟩ : ∃ p, L[k]? = some p := ⟨_, List.getElem?_eq_getElem (by rw [← HN.out]; exact hkn)⟩
      obtain ⟨b, o, rfl, hl⟩ := HAW.out (by rw [intCs_len, ← HN.out]; omega)
      have c0 : wr.cell? ⟨b, o + k, none⟩ = some (.int .i64 p) := hl.2 _ _ (intCs_get hpk)
      have hk1 : (k : Int) < n := by omega
      have HX := Lib.hid hpk
      clear hl hpk
      by_cases hpx : p = x
      · have HP : q = true := by rw [← HQ.out]; exact decide_eq_true (hpx ▸ List.mem_of_getElem? HX.out)
        subst hpx HP
        clear HX HF HQ HAW
        go_wp2_with fail
        go_ret
        exact ⟨by first | rfl | trivial, hB0⟩
      · have hpx' : (p == x) = false := by simpa using hpx
        have HF2 : Hid (x ∉ L.take (k + 1)) := Lib.hid (by
          rw [List.take_add_one, HX.out]
          intro h
          rcases List.mem_append.1 h with h | h
          · exact HF.out h
          · simp at h; exact hpx h.symm)
        clear hpx HX HF
        go_wp2_with fail
        go_roundw
        case rel => exact ⟨k + 1, by omega, by go_num, by first | rfl | trivial, HF2⟩
        case measure => simp [intOf]; omega
    · obtain rfl : k = n := by omega
      have HP : q = false := by rw [← HQ.out]; exact decide_eq_false (by have h := HF.out; rw [List.take_of_length_le (by rw [← HN.out]; exact Nat.le_refl _)] at h; exact h)
      subst HP
      clear HQ HF HAW
      go_wp2_with fail
      go_ret
      exact ⟨by first | rfl | trivial, hB0⟩
set_option maxRecDepth 100000 in
set_option maxHeartbeats 1600000 in
theorem rtop_any (many : Int) (L : List Int) (A : Option Addr) (n c : Nat) (w : World) (hn : n = L.length) (hb : n ≤ 100000) (hL : ∀ z ∈ L, 0 ≤ z ∧ z < 1000000) (hA : CellsS w A (intCs L)) :
    Calls Try.prog 44 #[rv many A n c] w fun e w' => e = .returned (.int .i64 (topL L)) ∧ Below w.heap.size w w' := by
  have HA := Lib.hid hA
  have HN := Lib.hid hn
  have HL := Lib.hid hL
  obtain ⟨q, hq⟩ : ∃ q, topL L = q := ⟨_, rfl⟩
  rw [hq]
  have HQ := Lib.hid hq
  unfold rv
  clear hA hn hq hL
  go_enter Try.func44, Try.ntmps44
  go_upto_region 1 with fail
  generalize hW : World.alloc _ _ = W0
  have hR2 : Row W0 w.heap.size [.int .i64 many, .slice A n c] := by rw [← hW]; exact Row.at rfl [_, _] _
  have hB0 : Below w.heap.size w W0 := by rw [← hW]; exact (Below.refl w.heap.size w).alloc (Nat.le_refl _) _
  clear hW
  have y1 := hR2.c 1 rfl
  have HAW := Lib.hid (HA.out.after hB0)
  clear HA hR2
  by_cases h0 : n = 0
  · have HP : q = 0 := by rw [← HQ.out, show L = [] from List.length_eq_zero_iff.1 (by rw [← HN.out]; exact h0)]; rfl
    subst h0 HP
    clear HQ HL HAW
    go_wp2_with fail
    go_ret
    exact ⟨rfl, hB0⟩
  · obtain ⟨p, hpk⟩ : ∃ p, L[n - 1]? = some p := ⟨_, List.getElem?_eq_getElem (by rw [← HN.out]; omega)⟩
    obtain ⟨b, o, rfl, hl⟩ := HAW.out (by rw [intCs_len, ← HN.out]; omega)
    have c0 : W0.cell? ⟨b, o + (n - 1), none⟩ = some (.int .i64 p) := hl.2 _ _ (intCs_get hpk)
    have hp := HL.out p (List.mem_of_getElem? hpk)
    have hw : IntKind.i64.wrap (p + 1) = p + 1 := IntWalk.i64_in _ (by omega)
    have HP : q = p + 1 := by
      rw [← HQ.out, topL, List.getLast?_eq_getElem?, ← HN.out, hpk]
    have hn0 : (((n : Nat) : Int) == 0) = false := by simp; omega
    have hn1 : IntKind.i64.wrap ((n : Int) - 1) = ((n - 1 : Nat) : Int) := by rw [IntWalk.i64_in _ (by omega)]; omega
    have hn2 : ((n - 1 : Nat) : Int) < n := by omega
    subst HP
    clear HQ HL HAW hl hpk
    go_wp2_with fail
    go_ret
    exact ⟨rfl, hB0⟩
set_option maxRecDepth 100000 in
theorem rnew_bad (n : Int) (h : n < 0 ∨ 65536 < n) (w : World) : Calls Try.prog 8 #[.int .i64 n] w fun e w' => e = .returned (.tuple #[rv 0 none 0 0, .int .i64 2]) ∧ Below w.heap.size w w' := by
  unfold rv
  have HB := Lib.hid (fun o => (Below.refl w.heap.size w).alloc (Nat.le_refl _) o)
  have HR := Lib.hid (Row.at (w := w) rfl [.int .i64 0, .slice none 0 0] 30)
  have z0 := HR.out.c 0 rfl
  have z1 := HR.out.c 1 rfl
  by_cases h0 : n < 0
  · have e0 : decide (n < 0) = true := decide_eq_true h0
    clear h h0
    go_enter Try.func8, Try.ntmps8
    go_wp2_with fail
    exact bodyPost_ret (v := .tuple #[.agg #[.int .i64 0, .slice none 0 0], .int .i64 2]) (by simp [results, Try.results8, go_sem, z0, z1]) rfl ⟨rfl, HB.out _⟩
  · have e0 : decide (n < 0) = false := decide_eq_false h0
    have e1 : decide (65536 < n) = true := decide_eq_true (by omega)
    clear h h0
    go_enter Try.func8, Try.ntmps8
    go_wp2_with fail
    exact bodyPost_ret (v := .tuple #[.agg #[.int .i64 0, .slice none 0 0], .int .i64 2]) (by simp [results, Try.results8, go_sem, z0, z1]) rfl ⟨rfl, HB.out _⟩
set_option maxRecDepth 100000 in
theorem rnew_any (n : Int) (h : ¬ (n < 0 ∨ 65536 < n)) (w : World) : Calls Try.prog 8 #[.int .i64 n] w fun e w' => e = .returned (.tuple #[rv n none 0 0, .int .i64 0]) ∧ Below w.heap.size w w' := by
  unfold rv
  have HB := Lib.hid (fun o => (Below.refl w.heap.size w).alloc (Nat.le_refl _) o)
  have HR := Lib.hid (Row.at (w := w) rfl [.int .i64 n, .slice none 0 0] 30)
  have z0 := HR.out.c 0 rfl
  have z1 := HR.out.c 1 rfl
  have e0 : decide (n < 0) = false := decide_eq_false (by omega)
  have e1 : decide (65536 < n) = false := decide_eq_false (by omega)
  clear h
  go_enter Try.func8, Try.ntmps8
  go_wp2_with fail
  exact bodyPost_ret (v := .tuple #[.agg #[.int .i64 n, .slice none 0 0], .int .i64 0]) (by simp [results, Try.results8, go_sem, z0, z1]) rfl ⟨rfl, HB.out _⟩
end Go.Proofs.Ytncgjlhmgdgokaa
