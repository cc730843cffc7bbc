/- law11.act of Copy; no condition. -/
import Derived.Test.YtncgjlhmgdgokaaBK
import Derived.Deep.RegionWith
namespace Go.Proofs.Ytncgjlhmgdgokaa
open Go.RowKit Go.Sort ArenaMath Go.Maps

set_option maxRecDepth 100000 in
set_option maxHeartbeats 4000000 in
theorem act3_any {w : World} {base b many m n c : Nat} {L : List Int} {A A2 : Option Addr} (wa x : Int) (hwa : wa ≠ 0 ∧ wa ≠ 1 ∧ wa ≠ 2) (h : ArS w base b many L m A) :
    Calls Try.prog 19 #[.pointer (some ⟨b, 0, none⟩), rv many A2 n c, .agg #[.int .i64 wa, .int .i64 x]] w fun e w' => ∃ b' m' A', e = .returned (.tuple #[.pointer (some ⟨b', 0, none⟩), rv many A2 n c, .bool true]) ∧ ArS w' w.heap.size b' many L m' A' ∧ Below w.heap.size w w' := by
  have H := Lib.hid h
  have e0 : (wa == 0) = false := by simpa using hwa.1
  have e1 : (wa == 1) = false := by simpa using hwa.2.1
  have e2 : (wa == 2) = false := by simpa using hwa.2.2
  clear h hwa
  unfold rv
  go_enter Try.func19, Try.ntmps19
  go_upto_region 1 with fail
  generalize hW : World.alloc _ _ = W0
  have hR4 : Row W0 (w.heap.size) [.int .i64 (many : Nat), .slice A2 n c] := by rw [← hW]; exact ((Row.at rfl [_, _] _).alloc _).alloc _
  have hR5 : Row W0 (w.heap.size + 1) [.int .i64 wa, .int .i64 x] := by rw [← hW]; exact (Row.at (by simp) [_, _] _).alloc _
  have hR7 : Row W0 (w.heap.size + 1 + 1) [.int .i64 0, .slice none 0 0] := by rw [← hW]; exact Row.at (by simp) [_, _] _
  have hB0 : Below w.heap.size w W0 := by rw [← hW]; exact (((Below.refl _ _).alloc (Nat.le_refl _) _).alloc (by simp) _).alloc (by simp; omega) _
  clear hW
  have x50 := hR5.c 0 rfl
  go_upto_region 12 with fail
  clear x50 e0 e1 e2 hR5
  have HC : Hid (∀ k, Calls Try.prog 17 #[.pointer (some ⟨b, 0, none⟩)] (W0.drewN k) fun e w' => ∃ b' m' A', e = .returned (.pointer (some ⟨b', 0, none⟩)) ∧ ArS w' W0.heap.size b' many L m' A' ∧ Below W0.heap.size W0 w') := Lib.hid (fun k => (copy_any (H.out.after (below_drewN hB0 k))).mono (by
    rintro e w' ⟨b', m', A', rfl, ha, hb⟩
    exact ⟨b', m', A', rfl, ha, (below_drewN (Below.refl _ _) k).trans hb⟩))
  have HR := Lib.hid (And.intro hR4 (And.intro hR7 hB0))
  have x40 := hR4.c 0 rfl
  have x41 := hR4.c 1 rfl
  clear hR4 hR7 hB0
  have FIN : Hid (∀ W2 b' m' A', ArS W2 W0.heap.size b' many L m' A' → Below W0.heap.size W0 W2 → ArS ((W2.setCell ⟨w.heap.size + 1 + 1, 0, none⟩ (.int .i64 (many : Nat))).setCell ⟨w.heap.size + 1 + 1, 1, none⟩ (.slice A2 n c)) w.heap.size b' many L m' A' ∧ Below w.heap.size w ((W2.setCell ⟨w.heap.size + 1 + 1, 0, none⟩ (.int .i64 (many : Nat))).setCell ⟨w.heap.size + 1 + 1, 1, none⟩ (.slice A2 n c))) := Lib.hid (fun W2 b' m' A' ha hb => by
    have h7 := HR.out.2.1.lt
    have hst : Only (fun k => k = w.heap.size + 1 + 1) W2 ((W2.setCell ⟨w.heap.size + 1 + 1, 0, none⟩ (.int .i64 (many : Nat))).setCell ⟨w.heap.size + 1 + 1, 1, none⟩ (.slice A2 n c)) := ((Only.refl (fun k => k = w.heap.size + 1 + 1) W2).put (p := ⟨w.heap.size + 1 + 1, 0, none⟩) (.inl rfl) _).put (p := ⟨w.heap.size + 1 + 1, 1, none⟩) (.inl rfl) _
    have hbw := HR.out.2.2.trans (hb.mono HR.out.2.2.size)
    exact ⟨(ha.only hst (fun k hk e => by have := ha.footBase k hk; omega)).toBase HR.out.2.2.size, below_put1 (below_put1 hbw (by omega) 0 _) (by omega) 1 _⟩)
  go_region_with ((go_at_call 17; refine (HC.out _).mono ?_; rintro e W2 ⟨b', m', A', rfl, ha, hb⟩; have y0 := (HR.out.1.after hb).c 0 rfl; have y1 := (HR.out.1.after hb).c 1 rfl; have r7 := HR.out.2.1.after hb; have z0 := r7.c 0 rfl; have g0 := r7.f 0 rfl; have g1 := r7.f 1 rfl; have g1' := (r7.set 0 (by simp) (.int .i64 (many : Nat))).f 1 rfl; have z1' := (r7.set 0 (by simp) (.int .i64 (many : Nat))).c 1 rfl; have u0 := ((r7.set 0 (by simp) (.int .i64 (many : Nat))).set 1 (by simp) (.slice A2 n c)).c 0 rfl; have u1 := ((r7.set 0 (by simp) (.int .i64 (many : Nat))).set 1 (by simp) (.slice A2 n c)).c 1 rfl; have HB2 := Lib.hid (FIN.out W2 b' m' A' ha hb); clear ha hb r7))
  all_goals
    go_wp2_with fail
    refine bodyPost_ret (v := .tuple #[.pointer (some ⟨b', 0, none⟩), .agg #[.int .i64 (many : Nat), .slice A2 n c], .bool true]) (by simp [results, Try.results19, go_sem, u0, u1]) rfl ?_
    exact ⟨b', m', A', rfl, HB2.out.1, HB2.out.2⟩
end Go.Proofs.Ytncgjlhmgdgokaa
