/- Contract of tags.New. -/
import Derived.Test.YtjhcddlhhfjnaaaGreatDoorTX
namespace Go.Proofs.YtjhcddlhhfjnaaaGreatDoor
open Go.RowKit Go.Sort

/-- Numbers added one by one: the first error, or the counts. -/
def addAll (cs : List (Int × Int)) : List Int → Int × List (Int × Int)
  | [] => (0, cs)
  | n :: r => if moreE cs n = 0 then addAll (moreL cs n) r else (moreE cs n, [])
theorem addAll_good : ∀ {l : List Int} {cs : List (Int × Int)}, Good cs → Good (addAll cs l).2
  | [], _, h => h
  | n :: r, cs, h => by
    rw [addAll]
    split
    · exact addAll_good (good_more h)
    · exact Good.nil
/-- What stands while New adds. -/
structure NewS (w : World) (l : List Int) (k : Nat) (cs : List (Int × Int)) (A : Option Addr) (N c : Nat) (W : World) : Prop where
  res : Row W w.heap.size [.slice none 0 0]
  box : Row W (w.heap.size + 1) [.slice A N c]
  len : N = cs.length
  cells : CellsS W A (cntCs cs)
  cap : N ≤ c
  far : ∀ a, A = some a → w.heap.size + 2 ≤ a.block
  good : Good cs
  done : addAll [] l = addAll cs (l.drop k)
  below : Below w.heap.size w W
  size : w.heap.size + 2 ≤ W.heap.size
set_option maxRecDepth 100000 in
set_option maxHeartbeats 3200000 in
theorem new1_any (l : List Int) (A : Option Addr) (n c B : Nat) (w : World) (hn : n = l.length) (hb : n ≤ 1000) (hB : Row w B [.slice A n c]) (hA : CellsS w A (intCs l)) :
    Calls Tryz.prog 28 #[.pointer (some ⟨B, 0, none⟩)] w (WorkPost w (addAll [] l).1 (addAll [] l).2) := by
  have HA := Lib.hid hA; clear hA
  have HN := Lib.hid hn; clear hn
  have x0 := hB.c 0 rfl
  have lB := hB.1
  clear hB
  go_enter Tryz.func28, Tryz.ntmps28
  go_wp2_with fail
  generalize hW : World.alloc _ _ = W0
  have HS0 : Hid (NewS w l 0 [] none 0 0 W0) := by
    refine Lib.hid ⟨?_, ?_, rfl, CellsS.nil _ _, Nat.le_refl _, (fun a ha => by cases ha), Good.nil, rfl, ?_, ?_⟩
    · rw [← hW]; exact (Row.at rfl [_] _).alloc _
    · rw [← hW]; exact Row.at (by simp) [_] _
    · rw [← hW]; exact ((Below.refl _ _).alloc (Nat.le_refl _) _).alloc (by simp) _
    · rw [← hW]; simp
  clear hW x0
  go_loopw [7] (fun i wr => ∃ (k N' c' : Nat) (cs : List (Int × Int)) (A' : Option Addr), k ≤ n ∧ i = .int .i64 k ∧ Hid (NewS w l k cs A' N' c' wr)) (fun i _ => n - (intOf i).toNat)
  case atStart => exact ⟨0, 0, 0, [], none, Nat.zero_le _, rfl, HS0⟩
  case round =>
    obtain ⟨k, N', c', cs, A', hk, rfl, HS⟩ := hrel
    clear HS0
    by_cases hkn : k < n
    · have hk1 : (k : Int) < n := by omega
      obtain ⟨x, hx⟩ : ∃ x, l[k]? = some x := ⟨_, List.getElem?_eq_getElem (by rw [← HN.out]; exact hkn)⟩
      obtain ⟨b, o, rfl, hl⟩ := HA.out (by rw [intCs_len, ← HN.out]; omega)
      have c0 : wr.cell? ⟨b, o + k, none⟩ = some (.int .i64 x) := (hl.after HS.out.below).2 k _ (intCs_get hx)
      have HD : Hid (l.drop k = x :: l.drop (k + 1)) := Lib.hid (by
        obtain ⟨h1, h2⟩ := List.getElem?_eq_some_iff.1 hx
        rw [List.drop_eq_getElem_cons h1, h2])
      have y0 := HS.out.box.c 0 rfl
      have hN64 := HS.out.good.len
      have HM := Lib.hid (more_any cs A' N' c' x wr HS.out.len (by have := HS.out.len; omega) HS.out.cap HS.out.cells HS.out.good.work)
      clear hx hl hN64
      go_wp2_with fail
      refine HM.out.mono ?_
      rintro e w2 ⟨A2, N2, c2, rfl, hN2, hC2, hc2, hf2, hb2⟩
      have hz2 := HS.out.size
      have hB2 := HS.out.below.trans (hb2.mono HS.out.below.size)
      have r2 := HS.out.box.after hb2
      have q2 := HS.out.res.after hb2
      have HC := Lib.hid (And.intro hN2 (And.intro hC2 (And.intro hc2 (And.intro (fun a ha => Nat.le_trans hz2 (hf2 a ha)) (And.intro hB2 (And.intro r2 (And.intro q2 (Nat.le_trans hz2 hb2.size))))))))
      have y1 := r2.c 0 rfl
      have f1 := r2.f 0 rfl
      clear hN2 hC2 hc2 hf2 hb2 hB2 r2 q2 hz2 c0 y0 HM
      by_cases he : moreE cs x = 0
      · rw [he]
        have HE : Hid (addAll [] l = addAll (moreL cs x) (l.drop (k + 1))) := Lib.hid (by rw [HS.out.done, HD.out, addAll, if_pos he])
        clear he
        go_wp2_with fail
        refine (must_ok A2 N2 c2 _).mono ?_
        rintro e w3 ⟨rfl, hb3⟩
        have r3 := HC.out.2.2.2.2.2.1.after hb3
        have y2 := r3.c 0 rfl
        have f2 := r3.f 0 rfl
        have HS2 : Hid (NewS w l (k + 1) (moreL cs x) A2 N2 c2 (w3.setCell ⟨w.heap.size + 1, 0, none⟩ (.slice A2 N2 c2))) := by
          obtain ⟨h1, h2, h3, h4, h5, h6, h7, h8⟩ := HC.out
          refine Lib.hid ⟨(h7.after hb3).other (by simp) _, r3.set 0 (by simp) _, h1, (h2.after hb3).put (fun _ a ha => by have := h4 a ha; show a.block ≠ w.heap.size + 1; omega), h3, h4, good_more HS.out.good, HE.out, below_put1 (h5.trans (hb3.mono h5.size)) (Nat.le_succ _) 0 _, by simpa [World.setCell] using Nat.le_trans h8 hb3.size⟩
        clear hb3 r3 HC HE HS y1 f1
        go_wp2_with fail
        generalize World.setCell _ _ _ = W4 at HS2 ⊢
        go_roundw
        case rel => exact ⟨k + 1, N2, c2, moreL cs x, A2, by omega, by go_num, HS2⟩
        case measure => simp [intOf]; omega
      · have HE : Hid (addAll [] l = (moreE cs x, [])) := Lib.hid (by rw [HS.out.done, HD.out, addAll, if_neg he])
        have HM := Lib.hid (fun W => must_gave (.slice A2 N2 c2) _ he W)
        have HP : Hid (∀ W, Below w2.heap.size w2 W → WorkPost w (addAll [] l).1 (addAll [] l).2 (gaveE (moreE cs x)) W) := Lib.hid (fun W hW => by
          rw [HE.out]
          exact ⟨HC.out.2.2.2.2.1.trans (hW.mono HC.out.2.2.2.2.1.size), .inr ⟨he, rfl, rfl⟩⟩)
        clear he
        generalize moreE cs x = er at HM HP ⊢
        go_wp2_with fail
        refine (HM.out _).mono ?_
        rintro e w3 ⟨rfl, hb3⟩
        have HP := Lib.hid (HP.out _ hb3)
        unfold gaveE at HP ⊢
        clear hb3 HE HC HS
        go_wp2
        exact ⟨rfl, HP.out⟩
    · obtain rfl : k = n := by omega
      have y0 := HS.out.box.c 0 rfl
      have z0 := HS.out.res.c 0 rfl
      have g0 := HS.out.res.f 0 rfl
      have HP : Hid (WorkPost w (addAll [] l).1 (addAll [] l).2 (.returned (.agg #[.slice A' N' c'])) (wr.setCell ⟨w.heap.size, 0, none⟩ (.slice A' N' c'))) := by
        have hd : addAll [] l = (0, cs) := by rw [HS.out.done, List.drop_of_length_le (by rw [← HN.out]; exact Nat.le_refl _)]; rfl
        rw [hd]
        exact Lib.hid ⟨below_put1 HS.out.below (Nat.le_refl _) 0 _, .inl ⟨rfl, A', N', c', rfl, HS.out.len, HS.out.cells.put (fun _ a ha => by have := HS.out.far a ha; show a.block ≠ w.heap.size; omega), HS.out.cap, fun a ha => by have := HS.out.far a ha; omega⟩⟩
      have r3 := (HS.out.res.set 0 (by simp) (.slice A' N' c')).c 0 rfl
      clear HS
      go_wp2_with fail
      exact bodyPost_ret (v := .agg #[.slice A' N' c']) (by simp [results, Tryz.results28, go_sem, r3]) rfl HP.out
/-- New: a number that may not be is told ahead of all else. -/
def newA (l : List Int) : Int × List (Int × Int) := if anyOff l then (2, []) else addAll [] l
theorem newA_good (l : List Int) : Good (newA l).2 := by
  unfold newA
  split
  · exact Good.nil
  · exact addAll_good Good.nil
set_option maxHeartbeats 1600000 in
theorem new_any (l : List Int) (A : Option Addr) (n c : Nat) (w : World) (hn : n = l.length) (hb : n ≤ 1000) (hA : CellsS w A (intCs l)) :
    Calls Tryz.prog 8 #[.slice A n c] w (TagPost w w.heap.size (newA l).1 (newA l).2) := by
  have hmf : ∀ (fn : Fn) (first cap : Array Value) (w : World), (Instr.makeFunc fn first cap).run Tryz.prog w = .ok (.func fn first cap) w := fun _ _ _ _ => rfl
  have HA := Lib.hid (fun W (hW : Below w.heap.size w W) => mayAll_any l A n c W hn (by omega) (hA.after hW))
  have HC := Lib.hid (fun B W (hW : Below w.heap.size w W) (hB : Row W B [.slice A n c]) => caught_any 28 #[.pointer (some ⟨B, 0, none⟩)] (addAll [] l).1 (addAll [] l).2 W (fun _ _ => Tryz.call28 _ _) (fun W' hW' => new1_any l A n c B W' hn hb (hB.after hW') ((hA.after hW).after hW')))
  have HV : Hid (newA l = if anyOff l then (2, []) else addAll [] l) := Lib.hid rfl
  clear hA hn
  generalize newA l = na at HV ⊢
  generalize anyOff l = m at HA HV
  generalize addAll [] l = ad at HC HV
  go_enter Tryz.func8, Tryz.ntmps8
  go_wp2_with fail
  generalize hW : World.alloc _ _ = W0
  have hR1 : Row W0 w.heap.size [.slice A n c] := by rw [← hW]; exact (Row.at rfl [.slice A n c] _).alloc _
  have hR2 : Row W0 (w.heap.size + 1) [.slice none 0 0] := by rw [← hW]; exact Row.at (by simp) _ _
  have hB0 : Below w.heap.size w W0 := by rw [← hW]; exact ((Below.refl _ _).alloc (Nat.le_refl _) _).alloc (by simp) _
  clear hW
  refine (HA.out _ hB0).mono ?_
  rintro e w1 ⟨rfl, hb1⟩
  replace hR1 := hR1.after hb1
  replace hR2 := hR2.after hb1
  replace hB0 := hB0.trans (hb1.mono hB0.size)
  clear hb1 HA
  cases m with
  | true =>
    have HE : Hid (na = (2, [])) := Lib.hid (by rw [HV.out, if_pos rfl])
    have y0 := hR2.c 0 rfl
    have f0 := hR2.f 0 rfl
    have r3 := (hR2.set 0 (by simp) (.slice none 0 0)).c 0 rfl
    have HP : Hid (TagPost w w.heap.size na.1 na.2 (.returned (.tuple #[.agg #[.slice none 0 0], .int .i64 2])) (w1.setCell ⟨w.heap.size + 1, 0, none⟩ (.slice none 0 0))) := by
      rw [HE.out]
      exact Lib.hid ⟨none, 0, 0, rfl, rfl, CellsS.nil _ _, Nat.le_refl _, (fun a ha => by cases ha), below_put1 hB0 (Nat.le_succ _) 0 _⟩
    clear HV HE HC hR1 hR2 hB0
    go_wp2_with fail
    exact bodyPost_ret (v := .tuple #[.agg #[.slice none 0 0], .int .i64 2]) (by simp [results, Tryz.results8, go_sem, r3]) rfl HP.out
  | false =>
    have HE : Hid (na = ad) := Lib.hid (by rw [HV.out, if_neg Bool.false_ne_true])
    clear HV
    go_wp2_with fail
    refine (HC.out _ _ hB0 hR1).mono ?_
    rintro e w2 ⟨A2, N2, c2, rfl, hN2, hC2, hc2, hf2, hb2⟩
    have hz := hR2.1
    have r2 := hR2.after hb2
    have y0 := r2.c 0 rfl
    have f0 := r2.f 0 rfl
    have r3 := (r2.set 0 (by simp) (.slice A2 N2 c2)).c 0 rfl
    have HP : Hid (TagPost w w.heap.size na.1 na.2 (.returned (.tuple #[.agg #[.slice A2 N2 c2], .int .i64 ad.1])) (w2.setCell ⟨w.heap.size + 1, 0, none⟩ (.slice A2 N2 c2))) := by
      rw [HE.out]
      exact Lib.hid ⟨A2, N2, c2, rfl, hN2, hC2.put (fun _ a ha => by have := hf2 a ha; show a.block ≠ w.heap.size + 1; omega), hc2, (fun a ha => by have := hf2 a ha; omega), below_put1 (hB0.trans (hb2.mono hB0.size)) (Nat.le_succ _) 0 _⟩
    clear hN2 hC2 hc2 hf2 hb2 hR1 hR2 hB0 r2 hz HC HE
    go_wp2_with fail
    exact bodyPost_ret (v := .tuple #[.agg #[.slice A2 N2 c2], .int .i64 ad.1]) (by simp [results, Tryz.results8, go_sem, r3]) rfl HP.out
end Go.Proofs.YtjhcddlhhfjnaaaGreatDoor
