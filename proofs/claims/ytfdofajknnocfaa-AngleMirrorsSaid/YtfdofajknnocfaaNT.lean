/- In the midst of AngleMirrors' three new ways: a predicate that each operation keeps; a frame of so many slots. -/
import Derived.Test.YtfdofajknnocfaaNI
import Derived.Test.YtfdofajknnocfaaNB
namespace Go.Proofs.Ytfdofajknnocfaa
open Go.RowKit

abbrev zeroL : List Value := [.int .i64 0, .int .i64 0]
/-- Three new ways, each from when it is made on. -/
structure TriS (w0 : World) (L : List (Nat × List Value)) (X Y : Nat → Int) (ls : Nat → Bool) (sl : Nat → Value) (W : World) : Prop where
  base : RS w0 L W
  blk : ∀ k, k < 3 → ls (18 + k) = true → ∃ A, sl (7 + k) = .pointer (some ⟨A, 0, none⟩) ∧ LB w0 L A ∧ Row W A (if ls (21 + k) = true then wayL (X k) (Y k) else zeroL)
  ne : ∀ j k, j < 3 → k < 3 → j ≠ k → ls (18 + j) = true → ls (18 + k) = true → sl (7 + j) ≠ sl (7 + k)
  ord : ∀ k, k < 3 → ls (21 + k) = true → ls (18 + k) = true
theorem getD_off {listed : Array Bool} {i j : Nat} (h : i ≠ j) : (listed.setIfInBounds i true).getD j false = listed.getD j false := getD_set_ne false h
theorem getD_no {listed : Array Bool} {i : Nat} (h : listed.getD i true = false) : listed.getD i false = false := by
  cases hl : listed[i]? with
  | none => simp [hl] at h
  | some b => simp [hl] at h ⊢; exact h
theorem listed_self {listed : Array Bool} (hs : listed.size = 24) (i : Nat) (hi : i < 24) : (listed.setIfInBounds i true).getD i false = true := by
  have : i < listed.size := by omega
  simp [this]
section
variable {w0 W W1 : World} {L : List (Nat × List Value)} {X Y : Nat → Int} {listed : Array Bool} {a : Act}
theorem TriS.next (h : TriS w0 L X Y (fun j => listed.getD j false) (slotOf a) W) (hb : Below W.heap.size W W1) (i t : Nat) (v : Value) (hi : i < 18) (ht : t < 7 ∨ 9 < t) :
    TriS w0 L X Y (fun j => (listed.setIfInBounds i true).getD j false) (slotOf (a.put (some t) v)) W1 := by
  refine ⟨h.base.after hb, fun k hk q => ?_, fun j k hj hk hn q r => ?_, fun k hk q => ?_⟩
  · rw [getD_off (by omega)] at q
    obtain ⟨A, hs, hl, hr⟩ := h.blk k hk q
    refine ⟨A, by rw [slot_put_other v (by omega)]; exact hs, hl, ?_⟩
    rw [getD_off (by omega)]; exact hr.after hb
  · rw [getD_off (by omega)] at q r
    rw [slot_put_other v (by omega), slot_put_other v (by omega)]
    exact h.ne j k hj hk hn q r
  · rw [getD_off (by omega)] at q ⊢
    exact h.ord k hk q
theorem TriS.new (h : TriS w0 L X Y (fun j => listed.getD j false) (slotOf a) W) (hs : listed.size = 24) (ht : 9 < a.tmps.size) (m : Nat) (hm : m < 3) (h0 : listed.getD (18 + m) false = false) (t : TypeId) :
    TriS w0 L X Y (fun j => (listed.setIfInBounds (18 + m) true).getD j false) (slotOf (a.put (some (7 + m)) (.pointer (some ⟨W.heap.size, 0, none⟩)))) (W.alloc (.cells #[.int .i64 0, .int .i64 0] t)) := by
  have n0 : listed.getD (21 + m) false = false := by
    cases q : listed.getD (21 + m) false
    · rfl
    · have := h.ord m hm q; rw [h0] at this; cases this
  have hne : ∀ k, k < 3 → k ≠ m → listed.getD (18 + k) false = true → slotOf a (7 + k) ≠ .pointer (some ⟨W.heap.size, 0, none⟩) := fun k hk hn q he => by
    obtain ⟨A, hs, hl, hr⟩ := h.blk k hk q
    rw [hs] at he
    have hlt := hr.lt
    injection he with he
    injection he with he
    injection he with he
    omega
  refine ⟨h.base.after ((Below.refl _ _).alloc (Nat.le_refl _) _), fun k hk q => ?_, fun j k hj hk hn q r => ?_, fun k hk q => ?_⟩
  · by_cases e : k = m
    · subst e
      refine ⟨W.heap.size, slot_put_same _ (by omega), ⟨h.base.2.size, fun p hp => (h.base.1 p hp).lt⟩, ?_⟩
      rw [getD_off (by omega), n0]
      exact Row.at rfl zeroL _
    · rw [getD_off (by omega)] at q
      obtain ⟨A, hs, hl, hr⟩ := h.blk k hk q
      refine ⟨A, by rw [slot_put_other _ (by omega)]; exact hs, hl, ?_⟩
      rw [getD_off (by omega)]; exact hr.alloc _
  · by_cases e : j = m
    · subst e
      rw [slot_put_same _ (by omega), slot_put_other _ (by omega)]
      rw [getD_off (by omega)] at r
      exact fun he => hne k hk (by omega) r he.symm
    · by_cases e' : k = m
      · subst e'
        rw [slot_put_same _ (by omega), slot_put_other _ (by omega)]
        rw [getD_off (by omega)] at q
        exact hne j hj (by omega) q
      · rw [slot_put_other _ (by omega), slot_put_other _ (by omega)]
        rw [getD_off (by omega)] at q r
        exact h.ne j k hj hk hn q r
  · rw [getD_off (by omega)] at q
    by_cases e : k = m
    · subst e; exact listed_self hs _ (by omega)
    · rw [getD_off (by omega)]; exact h.ord k hk q
theorem TriS.put (h : TriS w0 L X Y (fun j => listed.getD j false) (slotOf a) W) (hs : listed.size = 24) (m : Nat) (hm : m < 3) (h1 : listed.getD (18 + m) false = true) {A : Nat} (hA : slotOf a (7 + m) = .pointer (some ⟨A, 0, none⟩)) :
    TriS w0 L X Y (fun j => (listed.setIfInBounds (21 + m) true).getD j false) (slotOf (a.put none undef)) ((W.setCell ⟨A, 0, none⟩ (.int .i64 (X m))).setCell ⟨A, 1, none⟩ (.int .i64 (Y m))) := by
  obtain ⟨A', hs', hl, hr⟩ := h.blk m hm h1
  obtain rfl : A' = A := by rw [hA] at hs'; injection hs' with q; injection q with q; injection q with q; exact q.symm
  have hbase : RS w0 L ((W.setCell ⟨A', 0, none⟩ (.int .i64 (X m))).setCell ⟨A', 1, none⟩ (.int .i64 (Y m))) :=
    ⟨fun p hp => ((h.base.1 p hp).other (p := ⟨A', 0, none⟩) (by have := hl.2 p hp; show A' ≠ p.1; omega) _).other (p := ⟨A', 1, none⟩) (by have := hl.2 p hp; show A' ≠ p.1; omega) _, below_put1 (below_put1 h.base.2 hl.1 _ _) hl.1 _ _⟩
  refine ⟨hbase, fun k hk q => ?_, fun j k hj hk hn q r => ?_, fun k hk q => ?_⟩
  · by_cases e : k = m
    · subst e
      refine ⟨A', hA, hl, ?_⟩
      rw [listed_self hs _ (by omega), if_pos rfl]
      have : ∃ u v : Value, Row W A' [u, v] := by
        revert hr
        split
        · exact fun hr => ⟨_, _, hr⟩
        · exact fun hr => ⟨_, _, hr⟩
      obtain ⟨u, v, hr'⟩ := this
      exact (hr'.set 0 (by simp) _).set 1 (by simp) _
    · rw [getD_off (by omega)] at q
      obtain ⟨B, hsB, hlB, hrB⟩ := h.blk k hk q
      have hn : A' ≠ B := fun he => h.ne m k hm hk (by omega) h1 q (by rw [hA, hsB, he])
      refine ⟨B, hsB, hlB, ?_⟩
      rw [getD_off (by omega)]
      exact (hrB.other (p := ⟨A', 0, none⟩) hn _).other (p := ⟨A', 1, none⟩) hn _
  · rw [getD_off (by omega)] at q r
    exact h.ne j k hj hk hn q r
  · rw [getD_off (by omega)]
    by_cases e : k = m
    · subst e; exact h1
    · rw [getD_off (by omega)] at q
      exact h.ord k hk q
end
theorem noDst_spec {ops : Array Oper} {t : Nat} (h : (ops.all fun o => o.dst != some t) = true) (i : Nat) (o : Oper) (hi : ops[i]? = some o) : o.dst ≠ some t := by
  have := Array.all_eq_true_iff_forall_mem.1 h o (Array.mem_of_getElem? hi)
  simpa using this
set_option maxRecDepth 100000 in
theorem arr101 (a : Array Value) (h : a.size = 101) : ∃ x0 x1 x2 x3 x4 x5 x6 x7 x8 x9 x10 x11 x12 x13 x14 x15 x16 x17 x18 x19 x20 x21 x22 x23 x24 x25 x26 x27 x28 x29 x30 x31 x32 x33 x34 x35 x36 x37 x38 x39 x40 x41 x42 x43 x44 x45 x46 x47 x48 x49 x50 x51 x52 x53 x54 x55 x56 x57 x58 x59 x60 x61 x62 x63 x64 x65 x66 x67 x68 x69 x70 x71 x72 x73 x74 x75 x76 x77 x78 x79 x80 x81 x82 x83 x84 x85 x86 x87 x88 x89 x90 x91 x92 x93 x94 x95 x96 x97 x98 x99 x100, a = #[x0, x1, x2, x3, x4, x5, x6, x7, x8, x9, x10, x11, x12, x13, x14, x15, x16, x17, x18, x19, x20, x21, x22, x23, x24, x25, x26, x27, x28, x29, x30, x31, x32, x33, x34, x35, x36, x37, x38, x39, x40, x41, x42, x43, x44, x45, x46, x47, x48, x49, x50, x51, x52, x53, x54, x55, x56, x57, x58, x59, x60, x61, x62, x63, x64, x65, x66, x67, x68, x69, x70, x71, x72, x73, x74, x75, x76, x77, x78, x79, x80, x81, x82, x83, x84, x85, x86, x87, x88, x89, x90, x91, x92, x93, x94, x95, x96, x97, x98, x99, x100] := by
  refine ⟨a[0], a[1], a[2], a[3], a[4], a[5], a[6], a[7], a[8], a[9], a[10], a[11], a[12], a[13], a[14], a[15], a[16], a[17], a[18], a[19], a[20], a[21], a[22], a[23], a[24], a[25], a[26], a[27], a[28], a[29], a[30], a[31], a[32], a[33], a[34], a[35], a[36], a[37], a[38], a[39], a[40], a[41], a[42], a[43], a[44], a[45], a[46], a[47], a[48], a[49], a[50], a[51], a[52], a[53], a[54], a[55], a[56], a[57], a[58], a[59], a[60], a[61], a[62], a[63], a[64], a[65], a[66], a[67], a[68], a[69], a[70], a[71], a[72], a[73], a[74], a[75], a[76], a[77], a[78], a[79], a[80], a[81], a[82], a[83], a[84], a[85], a[86], a[87], a[88], a[89], a[90], a[91], a[92], a[93], a[94], a[95], a[96], a[97], a[98], a[99], a[100], ?_⟩
  refine Array.ext (by simp [h]) (fun i h1 h2 => ?_)
  match i, h2 with
  | 0, _ | 1, _ | 2, _ | 3, _ | 4, _ | 5, _ | 6, _ | 7, _ | 8, _ | 9, _ | 10, _ | 11, _ | 12, _ | 13, _ | 14, _ | 15, _ | 16, _ | 17, _ | 18, _ | 19, _ | 20, _ | 21, _ | 22, _ | 23, _ | 24, _ | 25, _ | 26, _ | 27, _ | 28, _ | 29, _ | 30, _ | 31, _ | 32, _ | 33, _ | 34, _ | 35, _ | 36, _ | 37, _ | 38, _ | 39, _ | 40, _ | 41, _ | 42, _ | 43, _ | 44, _ | 45, _ | 46, _ | 47, _ | 48, _ | 49, _ | 50, _ | 51, _ | 52, _ | 53, _ | 54, _ | 55, _ | 56, _ | 57, _ | 58, _ | 59, _ | 60, _ | 61, _ | 62, _ | 63, _ | 64, _ | 65, _ | 66, _ | 67, _ | 68, _ | 69, _ | 70, _ | 71, _ | 72, _ | 73, _ | 74, _ | 75, _ | 76, _ | 77, _ | 78, _ | 79, _ | 80, _ | 81, _ | 82, _ | 83, _ | 84, _ | 85, _ | 86, _ | 87, _ | 88, _ | 89, _ | 90, _ | 91, _ | 92, _ | 93, _ | 94, _ | 95, _ | 96, _ | 97, _ | 98, _ | 99, _ | 100, _ => rfl
  | i + 101, h2 => simp at h2; omega
end Go.Proofs.Ytfdofajknnocfaa
