/- What an arena tells, by the places that are taken; Same where one of the two is none; no condition. -/
import Derived.Test.YtncgjlhmgdgokaaAZ
namespace Go.Proofs.Ytncgjlhmgdgokaa
open Go.RowKit Go.Sort ArenaMath Go.Maps

theorem nodup_le : ∀ (M L : List Int), M.Nodup → (∀ x ∈ M, x ∈ L) → M.length ≤ L.length
  | [], _, _, _ => Nat.zero_le _
  | y :: r, L, h, hs => by
    rw [List.nodup_cons] at h
    have hy := hs y (by simp)
    have := nodup_le r (L.erase y) h.2 (fun x hx => (List.mem_erase_of_ne (fun e => h.1 (by rw [← e]; exact hx))).2 (hs x (by simp [hx])))
    rw [List.length_erase_of_mem hy] at this
    have := List.length_pos_of_mem hy
    simp only [List.length_cons]
    omega
/-- A rising list within another one that is no longer is that one. -/
theorem ris_same {L M : List Int} (h : Ris L) (g : Ris M) (hl : L.length = M.length) (hs : ∀ x ∈ L, x ∈ M) : L = M := ris_ext h g fun x => ⟨hs x, fun hx => Classical.byContradiction fun hn => by
  have := nodup_le (insR x L) M (ris_nodup (ins_ris h hn)) (fun z hz => by
    rcases mem_ins.1 hz with rfl | hz
    · exact hx
    · exact hs z hz)
  rw [ins_len] at this
  omega⟩
theorem Only.under {F : Nat → Prop} {a X Y : World} {s : Nat} (h : Only F a X) (hb : Below s X Y) (hs : a.heap.size ≤ s) : Only F a Y :=
  ⟨hb.os.trans h.os, hb.tape.trans h.tape, hb.output.trans h.output, Nat.le_trans h.size hb.size, fun k hk hn => (hb.block k (by omega)).trans (h.block k hk hn)⟩
section
variable {w w' : World} {base b many m : Nat} {L : List Int} {A : Option Addr}
theorem ArS.rng (h : ArS w base b many L m A) : Ris L ∧ (∀ z ∈ L, 0 ≤ z ∧ z < (many : Int)) ∧ many ≤ 65536 ∧ L.length ≤ many := by
  obtain ⟨⟨mark, top, c, hs, D, tk, h1, h2, _⟩, h3⟩ := h
  exact ⟨h2.ris, fun z hz => by have := h2.rng z hz; have := h2.mkb; omega, h3, h2.len⟩
theorem ArS.there (h : ArS w base b many L m A) : Calls Try.prog 24 #[.pointer (some ⟨b, 0, none⟩)] w fun e w' => e = .returned (.bool true) ∧ w' = w := by
  obtain ⟨⟨mark, top, c, hs, D, tk, h1, h2⟩, h3⟩ := h
  exact there_yes h1.hp.row
theorem ArS.taken (h : ArS w base b many L m A) (x : Int) (hx : (Lit.int .i64 x).wf = true) : Calls Try.prog 14 #[.pointer (some ⟨b, 0, none⟩), .int .i64 x] w fun e w' => e = .returned (.bool (decide (x ∈ L))) ∧ Below w.heap.size w w' := by
  obtain ⟨⟨mark, top, c, hs, D, tk, h1, h2, _⟩, h3⟩ := h
  have := taken_any h1 x hx
  rwa [show (tk x).isSome = decide (x ∈ L) from by
    have := h2.mem x
    cases e : tk x <;> simp [e] at this ⊢ <;> exact this] at this
theorem ArS.len (h : ArS w base b many L m A) : Calls Try.prog 15 #[.pointer (some ⟨b, 0, none⟩)] w fun e w' => e = .returned (.int .i64 (L.length : Nat)) ∧ w' = w := by
  obtain ⟨⟨mark, top, c, hs, D, tk, h1, h2, h4⟩, h3⟩ := h
  have := len_any h1
  rwa [h4] at this
theorem ArS.topT (h : ArS w base b many L m A) : Calls Try.prog 16 #[.pointer (some ⟨b, 0, none⟩)] w fun e w' => e = .returned (.int .i64 (topL L)) ∧ w' = w := by
  obtain ⟨⟨mark, top, c, hs, D, tk, h1, h2, h4⟩, h3⟩ := h
  have := top_any h1
  rwa [h2.top] at this
theorem ArS.manyC (h : ArS w base b many L m A) : w.cell? ⟨b, 2, none⟩ = some (.int .i64 many) := by
  obtain ⟨⟨mark, top, c, hs, D, tk, h1, h2, h4⟩, h3⟩ := h
  exact h1.hp.row.c 2 rfl
end
set_option maxRecDepth 100000 in
set_option maxHeartbeats 800000 in
theorem same_not {w : World} {q q' : Option Addr} (t1 t2 : Bool)
    (h1 : ∀ W, Below w.heap.size w W → Calls Try.prog 24 #[.pointer q] W fun e w' => e = .returned (.bool t1) ∧ w' = W)
    (h2 : ∀ W, Below w.heap.size w W → Calls Try.prog 24 #[.pointer q'] W fun e w' => e = .returned (.bool t2) ∧ w' = W) (ht : (t1 && t2) = false) :
    Calls Try.prog 18 #[.pointer q, .pointer q'] w fun e w' => e = .returned (.bool (t1 == t2)) ∧ Below w.heap.size w w' := by
  have H1 := Lib.hid h1
  have H2 := Lib.hid h2
  clear h1 h2
  go_enter Try.func18, Try.ntmps18
  go_upto_region 1 with fail
  generalize hW : World.alloc _ _ = W0
  have hR3 : Row W0 w.heap.size [.pointer q'] := by rw [← hW]; exact Row.at rfl [_] _
  have hB0 : Below w.heap.size w W0 := by rw [← hW]; exact (Below.refl _ _).alloc (Nat.le_refl _) _
  clear hW
  have x3 := hR3.c 0 rfl
  have C : Hid (∀ (p : Option Addr) (t : Bool) (j : Nat), (p = q ∧ t = t1) ∨ (p = q' ∧ t = t2) → Calls Try.prog 24 #[.pointer p] (W0.drewN j) fun e w' => e = .returned (.bool t) ∧ w' = W0.drewN j) := Lib.hid (fun p t j h => by
    rcases h with ⟨rfl, rfl⟩ | ⟨rfl, rfl⟩
    · exact H1.out _ (below_drewN hB0 j)
    · exact H2.out _ (below_drewN hB0 j))
  refine wp_scope_straight ?_
  go_wp2_with fail
  refine (H1.out _ hB0).mono ?_
  rintro e W1 ⟨rfl, rfl⟩
  cases t1 with
  | true =>
    obtain rfl : t2 = false := by simpa using ht
    go_wp2_with fail
    refine (H2.out _ hB0).mono ?_
    rintro e W1 ⟨rfl, rfl⟩
    go_wp2_with fail
    go_quiet ((go_at_call 24; exact Calls.quiet_of_same (C.out _ _ _ (by first | exact .inl ⟨rfl, rfl⟩ | exact .inr ⟨rfl, rfl⟩))))
    go_wp2_with fail
    (try simp only [Exit.noGoto])
    go_ret
    exact ⟨rfl, below_drewN hB0 _⟩
  | false =>
    go_wp2_with fail
    go_quiet ((go_at_call 24; exact Calls.quiet_of_same (C.out _ _ _ (by first | exact .inl ⟨rfl, rfl⟩ | exact .inr ⟨rfl, rfl⟩))))
    go_wp2_with fail
    (try simp only [Exit.noGoto])
    go_ret
    exact ⟨by first | rfl | (cases t2 <;> rfl), below_drewN hB0 _⟩
end Go.Proofs.Ytncgjlhmgdgokaa
