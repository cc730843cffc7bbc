/- All of an arena: the places that are taken, rising, in a slice of its own; no condition. -/
import Derived.Test.YtncgjlhmgdgokaaAR
import Derived.Test.YtncgjlhmgdgokaaShelf
import Derived.OwnWalkIn
import Derived.TacticsInMore
namespace Go.Proofs.Ytncgjlhmgdgokaa
open Go.RowKit Go.Sort ArenaMath Go.Maps

/-- What All hands back: an iterator over a slice that holds these. -/
def AllPost (w : World) (L : List Int) (e : Ending) (w' : World) : Prop := ∃ (B : Nat) (A' : Option Addr) (c : Nat), e = .returned (.func (.func 51) #[] #[.pointer (some ⟨B, 0, none⟩)]) ∧ Row w' B [.slice A' L.length c] ∧ CellsS w' A' (intCs L) ∧ (∀ a, A' = some a → w.heap.size ≤ a.block) ∧ w.heap.size ≤ B ∧ Below w.heap.size w w'
theorem values_any (A : Option Addr) (n c : Nat) (w : World) : Calls Try.prog 30 #[.slice A n c] w fun e w' => e = .returned (.func (.func 51) #[] #[.pointer (some ⟨w.heap.size, 0, none⟩)]) ∧ Row w' w.heap.size [.slice A n c] ∧ Below w.heap.size w w' := by
  have hmf : ∀ (fn : Fn) (first cap : Array Value) (w : World), (Instr.makeFunc fn first cap).run Try.prog w = .ok (.func fn first cap) w := fun _ _ _ _ => rfl
  have HR := Lib.hid (Row.at (w := w) rfl [.slice A n c] 28)
  have HB := Lib.hid ((Below.refl w.heap.size w).alloc (Nat.le_refl _) (.cells #[.slice A n c] 28))
  go_enter Try.func30, Try.ntmps30
  go_wp2
  go_ret
  exact ⟨rfl, HR.out, HB.out⟩
theorem sorted_eq {ss L : List Int} (h : ss.Perm L) (hL : Ris L) : ss.mergeSort (fun x y => decide (x ≤ y)) = L := by
  have h1 : (ss.mergeSort (fun x y => decide (x ≤ y))).Perm L := (List.mergeSort_perm _ _).trans h
  refine ris_ext ?_ hL (fun x => h1.mem_iff)
  have hp : (ss.mergeSort (fun x y => decide (x ≤ y))).Pairwise (fun a b => decide (a ≤ b) = true) := List.pairwise_mergeSort (fun a b c => by simp; omega) (fun a b => by simp; omega) ss
  have hn : (ss.mergeSort (fun x y => decide (x ≤ y))).Nodup := h1.nodup_iff.2 (ris_nodup hL)
  have := List.Pairwise.and hp hn
  exact List.Pairwise.imp (fun {a b} hab => by
    have h2 : a ≤ b := of_decide_eq_true hab.1
    have h3 : a ≠ b := hab.2
    omega) this
theorem keys_perm {w : World} {m n : Nat} {D : DataW Unit} {tk : Int → Option Bool} {L : List Int} (hm : w.ownsMap Try.prog 3 hElem m n D) (hi : MapIs D tk) (hL : Ris L) (hmem : ∀ x, x ∈ L ↔ tk x ≠ none) : L.Perm (intKeys D) :=
  CollectedI.perm (left := fun _ => false) ⟨ris_nodup hL, fun x => by rw [hmem x, (hi x).1]; cases tk x <;> simp⟩ hm lawK Try.underlying3 (fun _ => rfl)
set_option maxHeartbeats 4000000 in
set_option maxRecDepth 100000 in
theorem all_any {w : World} {base b many m : Nat} {L : List Int} {A : Option Addr} (h : ArS w base b many L m A) : Calls Try.prog 10 #[.pointer (some ⟨b, 0, none⟩)] w (AllPost w L) := by
  obtain ⟨⟨mark, top, c, hs, D, tk, hmem, hinv, hsz⟩, hm⟩ := h
  refine (callsIn_wide (n := 6)).1 ?_
  have hLn := hinv.len
  have hmax : Maps.size D ≤ maxLen := by unfold maxLen; omega
  have hbytes : Maps.size D * 8 ≤ 140737488355328 := by omega
  have hbl := hmem.map.lt
  have y1 := hmem.hp.row.c 1 rfl
  have hseq : SeqGives Fence.wide 2 Try.prog 50 #[.pointer (some ⟨w.heap.size, 0, none⟩)] encZ (fun ss => ss.Perm (intKeys D)) (Maps.size D) (w.alloc (.cells #[.map (some m)] 35)) :=
    AnyZI.keys_gives (ρ := Try.keysA_ren) { Try.keysA with } Fence.wide _ trivial rfl (by omega) w.heap.size m (Maps.size D) D _ (by simp) (by simp) (hmem.map.alloc _)
  have cK : ∀ mb W, CallsIn Fence.wide 5 Try.prog 29 #[.map mb] W fun e w' => e = .returned (.func (.func 50) #[] #[.pointer (some ⟨W.heap.size, 0, none⟩)]) ∧ w' = W.alloc (.cells #[.map mb] 35) := fun mb W => AnyZI.keys_in Try.keysA Fence.wide 5 trivial rfl mb W
  have cS := AnyZI.sorted_in Try.sortedA Fence.wide 5 trivial trivial trivial trivial rfl (by omega) (Try.sortsA _) (enters_of Try.func49 (by kernel_rfl) rfl) 50 #[.pointer (some ⟨w.heap.size, 0, none⟩)] trivial (enters_of Try.func50 (by kernel_rfl) rfl) _ _ hmax hbytes _ hseq
  change CallsIn _ _ Try.prog 28 _ _ _ at cS
  have cT : CallsIn Fence.wide 5 Try.prog 24 #[.pointer (some ⟨b, 0, none⟩)] w fun e w' => e = .returned (.bool true) ∧ w' = w := callsIn_wide.2 (there_yes hmem.hp.row)
  have cV : ∀ A n c W, CallsIn Fence.wide 5 Try.prog 30 #[.slice A n c] W fun e w' => e = .returned (.func (.func 51) #[] #[.pointer (some ⟨W.heap.size, 0, none⟩)]) ∧ Row w' W.heap.size [.slice A n c] ∧ Below W.heap.size W w' := fun A n c W => callsIn_wide.2 (values_any A n c W)
  have hfK : Fence.wide.fn 29 := trivial
  have hfS : Fence.wide.fn 28 := trivial
  have hfT : Fence.wide.fn 24 := trivial
  have hfV : Fence.wide.fn 30 := trivial
  have HC := Lib.hid (And.intro cK (And.intro cS (And.intro cT cV)))
  have HM := Lib.hid (And.intro hmem (And.intro hinv hsz))
  clear hmem hinv hsz hm hLn hmax hbytes hbl hseq cK cS cT cV
  refine callsIn_of_wp Try.func10 rfl trivial ?_ rfl
  simp only [Try.ntmps10, List.size_toArray, List.length_cons, List.length_nil, Nat.reduceAdd, Nat.reduceSub, Array.replicate_succ, Array.replicate_zero, List.push_toArray, List.append_toArray, List.nil_append, List.cons_append]
  gi_wp2_with (first
    | (gi_at_call 24; refine HC.out.2.2.1.mono ?_; rintro e w' ⟨rfl, rfl⟩)
    | (gi_at_call 29; refine (HC.out.1 _ _).mono ?_; rintro e w' ⟨rfl, rfl⟩)
    | (gi_at_call 28; refine HC.out.2.1.mono ?_; rintro e w' ⟨v, ss, rfl, hS, hrow, hnil, hb⟩))
  have hss := hS.trans (keys_perm HM.out.1.map HM.out.1.is HM.out.2.1.ris HM.out.2.1.mem).symm
  rw [sorted_eq hss HM.out.2.1.ris, hss.length_eq] at hrow
  obtain ⟨A', c', rfl⟩ := own_slice hrow
  have HR := Lib.hid (And.intro (show Own 3 1 w' _ A' L.length c' (intCs L) from hrow) hb)
  clear hS hss hrow hnil hb
  gi_wp2_with (gi_at_call 30; refine (HC.out.2.2.2 _ _ _ _).mono ?_; rintro e w3 ⟨rfl, hr, hb3⟩)
  go_ret
  obtain ⟨hown, hb⟩ := HR.out
  have hb0 := ((Below.refl _ _).alloc (Nat.le_refl _) (.cells #[.map (some m)] 35)).trans (hb.mono (by simp))
  exact ⟨_, A', c', rfl, hr, hown.cells.after hb3, (fun a ha => Nat.le_trans (by simp) (hown.fresh a ha)), hb0.size, hb0.trans (hb3.mono hb0.size)⟩
set_option maxRecDepth 100000 in
theorem all_none {w : World} {q : Option Addr} (h : NoAr w q) : Calls Try.prog 10 #[.pointer q] w (AllPost w []) := by
  have HT := Lib.hid (h w (Below.refl _ _))
  have HV := Lib.hid (values_any none 0 0 w)
  clear h
  go_enter Try.func10, Try.ntmps10
  go_wp2_with fail
  refine HT.out.mono ?_
  rintro e w1 ⟨rfl, rfl⟩
  go_wp2_with fail
  refine HV.out.mono ?_
  rintro e w2 ⟨rfl, hr, hb⟩
  go_wp2_with fail
  go_ret
  exact ⟨_, none, 0, rfl, hr, CellsS.nil _ _, (fun a ha => by cases ha), Nat.le_refl _, hb⟩
end Go.Proofs.Ytncgjlhmgdgokaa
