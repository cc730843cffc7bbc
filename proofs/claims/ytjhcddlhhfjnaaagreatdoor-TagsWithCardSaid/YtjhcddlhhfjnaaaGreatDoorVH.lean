/- The document's Text over plain lists. -/
import Derived.Test.YtjhcddlhhfjnaaaGreatDoorVG
import Derived.Test.YtjhcddlhhfjnaaaGreatDoorTQ
namespace Go.Proofs.YtjhcddlhhfjnaaaGreatDoor
open Go.RowKit Go.Sort Go.Shelf

theorem tail_snoc (sep x : List UInt8) (r : List (List UInt8)) : Lib.joinTail sep (r ++ [x]) = Lib.joinTail sep r ++ (sep ++ x) := by simp [Lib.joinTail]
theorem join_snoc (sep x : List UInt8) : ∀ l : List (List UInt8), l ≠ [] → Lib.join (l ++ [x]) sep = Lib.join l sep ++ sep ++ x
  | [], h => absurd rfl h
  | y :: r, _ => by rw [List.cons_append, Lib.join_cons, Lib.join_cons, tail_snoc]; simp
theorem text_one (x : Int) : textB [x] = itoaB x := by
  show (⟨(Lib.join [(itoaB x).data.toList] [32]).toArray⟩ : ByteArray) = _
  rw [Lib.join_one]
theorem text_snoc (l : List Int) (x : Int) (h : l ≠ []) : textB (l ++ [x]) = textB l ++ ⟨#[32]⟩ ++ itoaB x := by
  apply Go.WideShapes.bytes_inj
  show (Lib.join (((l ++ [x]).map itoaB).map (·.data.toList)) [32]).toArray.toList = _
  rw [List.map_append, List.map_append, List.map_cons, List.map_nil, List.map_cons, List.map_nil, join_snoc _ _ _ (by simpa using h)]
  simp [textB]
theorem itoaB_size {x : Int} (h : 1 ≤ x ∧ x ≤ 2147483647) : (itoaB x).size ≤ 21 := by
  have := Lib.itoa_length_le x (by omega) (by omega)
  show (Lib.itoa x).toArray.size ≤ 21
  rw [List.size_toArray]; omega
theorem text_size {l : List Int} (h : ∀ x ∈ l, 1 ≤ x ∧ x ≤ 2147483647) : (textB l).size ≤ 22 * l.length := by
  show (Lib.join ((l.map itoaB).map (·.data.toList)) [32]).toArray.size ≤ _
  rw [List.size_toArray]
  have := join_le ((l.map itoaB).map (·.data.toList)) (fun u hu => by
    obtain ⟨y, hy, rfl⟩ := List.mem_map.1 hu
    obtain ⟨x, hx, rfl⟩ := List.mem_map.1 hy
    have := itoaB_size (h x hx)
    simpa using this)
  simpa using this
set_option maxRecDepth 100000 in
set_option maxHeartbeats 6400000 in
theorem rtext_any (l : List Int) (A : Option Addr) (N c : Nat) (w : World) (hN : N = l.length) (hb : N ≤ 100000) (hA : CellsS w A (intCs l)) (hl : ∀ x ∈ l, 1 ≤ x ∧ x ≤ 2147483647) (hv : VarS w) :
    Calls Tryz.prog 33 #[.agg #[.slice A N c]] w fun e w' => e = .returned (.string (textB l)) ∧ Below w.heap.size w w' := by
  have HN := Lib.hid hN
  have HA := Lib.hid (And.intro hA (And.intro hl hv))
  clear hN hA hl hv
  go_enter Tryz.func33, Tryz.ntmps33
  go_wp2_with fail
  generalize hW : World.alloc _ _ = W0
  have hR : Row W0 w.heap.size [.slice A N c] := by rw [← hW]; exact Row.at rfl [_] _
  have hB0 : Below w.heap.size w W0 := by rw [← hW]; exact (Below.refl _ _).alloc (Nat.le_refl _) _
  clear hW
  have HR := Lib.hid (And.intro hR hB0)
  clear hR hB0
  go_loopw [3, 4] (fun s i wr => ∃ k : Nat, k ≤ N ∧ i = .int .i64 k ∧ s = .string (textB (l.take k)) ∧ Hid (Below W0.heap.size W0 wr)) (fun _ i _ => N - (intOf i).toNat)
  case atStart => exact ⟨0, Nat.zero_le _, rfl, rfl, Lib.hid (Below.refl _ _)⟩
  case round =>
    obtain ⟨k, hk, rfl, rfl, HB⟩ := hrel
    have x0 := (HR.out.1.after HB.out).c 0 rfl
    by_cases hkn : k < N
    · obtain ⟨p, hpk⟩ : ∃ p, l[k]? = some p := ⟨_, List.getElem?_eq_getElem (by rw [← HN.out]; exact hkn)⟩
      obtain ⟨b, o, rfl, hl⟩ := HA.out.1 (by rw [intCs_len, ← HN.out]; omega)
      have c0 : wr.cell? ⟨b, o + k, none⟩ = some (.int .i64 p) := ((hl.after HR.out.2).after HB.out).2 _ _ (intCs_get hpk)
      have HT : Hid (l.take (k + 1) = l.take k ++ [p]) := Lib.hid (by rw [List.take_add_one, hpk]; rfl)
      have hk1 : (k : Int) < N := by omega
      have hB1 : Below w.heap.size w wr := HR.out.2.trans (HB.out.mono HR.out.2.size)
      have hpb := HA.out.2.1 p (List.mem_of_getElem? hpk)
      have hts : (textB (l.take k)).size ≤ 2200000 := by
        have h1 := text_size (l := l.take k) (fun x hx => HA.out.2.1 x (List.mem_of_mem_take hx))
        rw [List.length_take] at h1
        omega
      have hps := itoaB_size hpb
      have HF := Lib.hid (format_any p wr (by omega) (by omega) (HA.out.2.2.after hB1))
      clear hl hpk hB1 hpb
      by_cases hk0 : k = 0
      · subst hk0
        have HX : Hid (textB (l.take (0 + 1)) = itoaB p) := Lib.hid (by rw [HT.out]; exact text_one p)
        have c0' : wr.cell? ⟨b, o, none⟩ = some (.int .i64 p) := by simpa using c0
        clear c0 hts
        generalize itoaB p = ps at HF HX hps
        have e0 : textB (l.take 0) = ⟨#[]⟩ := rfl
        rw [e0]
        have hadd : ∀ W, (Op.stringOp .add (⟨#[]⟩ : ByteArray) ps).run Tryz.prog W = .ok (.string ps) W := fun W => by
          rw [run_string_add W _ _ (by decide) (by omega)]
          congr 2
        go_wp2_with fail
        refine HF.out.mono ?_
        rintro e w2 ⟨rfl, hb2⟩
        have HB2 := Lib.hid (HB.out.trans (hb2.mono HB.out.size))
        clear hb2
        go_wp2_with fail
        go_roundw
        case rel => exact ⟨0 + 1, by omega, by go_num, by rw [HX.out], HB2⟩
        case measure => simp [intOf]; omega
      · have hk0' : (0 : Int) < k := by omega
        have HX : Hid (textB (l.take (k + 1)) = textB (l.take k) ++ ⟨#[32]⟩ ++ itoaB p) := Lib.hid (by rw [HT.out]; exact text_snoc _ p (by intro h; have h2 : (l.take k).length = 0 := by rw [h]; rfl
                                                                                                                                            rw [List.length_take, ← HN.out] at h2; omega))
        generalize textB (l.take k) = tx at HX hts ⊢
        generalize itoaB p = ps at HF HX hps
        have hadd1 : ∀ W, (Op.stringOp .add tx (⟨#[32]⟩ : ByteArray)).run Tryz.prog W = .ok (.string (tx ++ ⟨#[32]⟩)) W := fun W => run_string_add W _ _ (by omega) (by decide)
        have hadd2 : ∀ W, (Op.stringOp .add (tx ++ (⟨#[32]⟩ : ByteArray)) ps).run Tryz.prog W = .ok (.string (tx ++ ⟨#[32]⟩ ++ ps)) W := fun W => run_string_add W _ _ (by
          have e : (tx ++ (⟨#[32]⟩ : ByteArray)).size = tx.size + 1 := by rw [ByteArray.size_append]; rfl
          omega) (by omega)
        go_wp2_with fail
        refine HF.out.mono ?_
        rintro e w2 ⟨rfl, hb2⟩
        have HB2 := Lib.hid (HB.out.trans (hb2.mono HB.out.size))
        clear hb2
        go_wp2_with fail
        go_roundw
        case rel => exact ⟨k + 1, by omega, by go_num, by rw [HX.out], HB2⟩
        case measure => simp [intOf]; omega
    · obtain rfl : k = N := by omega
      have hd : l.take k = l := List.take_of_length_le (by rw [← HN.out]; exact Nat.le_refl _)
      rw [hd]
      have HB2 := Lib.hid (HR.out.2.trans (HB.out.mono HR.out.2.size))
      clear hd
      go_wp2_with fail
      go_ret
      exact ⟨rfl, HB2.out⟩
end Go.Proofs.YtjhcddlhhfjnaaaGreatDoor
