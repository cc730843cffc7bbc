import Derived.Test.YtongeeggaigepaaGreatDoorZKkWE
import Derived.Test.YtongeeggaigepaaGreatDoorZKkRF
namespace Go.Proofs.YtongeeggaigepaaGreatDoor
open Go.RowKit CrossMath
end Go.Proofs.YtongeeggaigepaaGreatDoor

namespace Go.Proofs.YtongeeggaigepaaGreatDoor
open Go.RowKit CrossMath
structure NegZ (w : World) (A B : Option Addr) (s0 s : Bool) (k c j d m p : Nat) (ls : Nat → Bool) (W : World) : Prop where
 c10 : ls 1 = true → ls 0 = true
 c41 : ls 4 = true → ls 1 = true
 c32 : ls 3 = true → ls 2 = true
 c53 : ls 5 = true → ls 3 = true
 n : Row W w.heap.size [.bool (if ls 4 = true then s else s0), .slice A k c]
 d : Row W (w.heap.size + 1) [.bool (if ls 5 = true then false else true), .slice B j d]
 z : Row W (w.heap.size + 1 + 1) [.bool false, .slice none 0 0, .bool false, .slice none 0 0]
 dA : DS W m A
 dB : DS W p B
 b : Below w.heap.size w W
section
variable {w : World} {A B : Option Addr} {s0 s : Bool} {k c j d m p : Nat} {listed : Array Bool} {W W1 : World}
theorem NegZ.no4 {ls : Nat → Bool} (h : NegZ w A B s0 s k c j d m p ls W) (h0 : ls 0 = false) : ls 4 = false := by
 cases e : ls 4 with
 | false => rfl
 | true => rw [h.c10 (h.c41 e)] at h0; cases h0
theorem NegZ.no5 {ls : Nat → Bool} (h : NegZ w A B s0 s k c j d m p ls W) (h0 : ls 2 = false) : ls 5 = false := by
 cases e : ls 5 with
 | false => rfl
 | true => rw [h.c32 (h.c53 e)] at h0; cases h0
theorem neg_off {i k : Nat} (h : i ≠ k) : (listed.setIfInBounds i true).getD k false = listed.getD k false := getD_set_ne false h
theorem NegZ.next (h : NegZ w A B s0 s k c j d m p (fun j => listed.getD j false) W) (i : Nat) (hi : i ≠ 4 ∧ i ≠ 5) (h1 : i = 1 → listed.getD 0 false = true) (h3 : i = 3 → listed.getD 2 false = true) (hb : Below W.heap.size W W1) :
 NegZ w A B s0 s k c j d m p (fun j => (listed.setIfInBounds i true).getD j false) W1 := by
 have e4 := neg_off (listed := listed) (i := i) (k := 4) hi.1
 have e5 := neg_off (listed := listed) (i := i) (k := 5) hi.2
 refine ⟨fun q => ?_, fun q => ?_, fun q => ?_, fun q => ?_, ?_, ?_, h.z.after hb, h.dA.below hb, h.dB.below hb, h.b.trans (hb.mono h.b.size)⟩
 ·by_cases e : i = 1
  ·exact fct_up (h1 e)
  ·simp only [neg_off e] at q; exact fct_up (h.c10 q)
 ·simp only [e4] at q; exact fct_up (h.c41 q)
 ·by_cases e : i = 3
  ·exact fct_up (h3 e)
  ·simp only [neg_off e] at q; exact fct_up (h.c32 q)
 ·simp only [e5] at q; exact fct_up (h.c53 q)
 ·simp only [e4]; exact h.n.after hb
 ·simp only [e5]; exact h.d.after hb
theorem NegZ.put4 (h : NegZ w A B s0 s k c j d m p (fun j => listed.getD j false) W) (hs : listed.size = 6) (h1 : listed.getD 1 false = true) :
 NegZ w A B s0 s k c j d m p (fun j => (listed.setIfInBounds 4 true).getD j false) ((W.setCell ⟨w.heap.size, 0, none⟩ (.bool s)).setCell ⟨w.heap.size, 1, none⟩ (.slice A k c)) := by
 have e : (listed.setIfInBounds 4 true).getD 4 false = true := by simp [hs]
 have hn := h.n
 have ho := On.setCells W w.heap.size [.bool s, .slice A k c] 0 W (On.refl W _)
 have hc := hn.c 0 rfl
 refine ⟨fun q => ?_, fun _ => fct_up h1, fun q => ?_, fun q => ?_, ?_, ?_, ho.row (by omega) h.z, h.dA.on ho hc, h.dB.on ho hc, below_put1 (below_put1 h.b (Nat.le_refl _) 0 _) (Nat.le_refl _) 1 _⟩
 ·simp only [neg_off (show 4 ≠ 1 by decide)] at q; exact fct_up (h.c10 q)
 ·simp only [neg_off (show 4 ≠ 3 by decide)] at q; exact fct_up (h.c32 q)
 ·simp only [neg_off (show 4 ≠ 5 by decide)] at q; exact fct_up (h.c53 q)
 ·simp only [e, if_true]
  exact (hn.set 0 (by simp) (.bool s)).set 1 (by simp) (.slice A k c)
 ·simp only [neg_off (show 4 ≠ 5 by decide)]
  exact ho.row (by omega) h.d
theorem NegZ.put5 (h : NegZ w A B s0 s k c j d m p (fun j => listed.getD j false) W) (hs : listed.size = 6) (h3 : listed.getD 3 false = true) :
 NegZ w A B s0 s k c j d m p (fun j => (listed.setIfInBounds 5 true).getD j false) ((W.setCell ⟨w.heap.size + 1, 0, none⟩ (.bool false)).setCell ⟨w.heap.size + 1, 1, none⟩ (.slice B j d)) := by
 have e : (listed.setIfInBounds 5 true).getD 5 false = true := by simp [hs]
 have hn := h.d
 have ho := On.setCells W (w.heap.size + 1) [.bool false, .slice B j d] 0 W (On.refl W _)
 have hc := hn.c 0 rfl
 refine ⟨fun q => ?_, fun q => ?_, fun q => ?_, fun _ => fct_up h3, ?_, ?_, ho.row (by omega) h.z, h.dA.on ho hc, h.dB.on ho hc, below_put1 (below_put1 h.b (by omega) 0 _) (by omega) 1 _⟩
 ·simp only [neg_off (show 5 ≠ 1 by decide)] at q; exact fct_up (h.c10 q)
 ·simp only [neg_off (show 5 ≠ 4 by decide)] at q; exact fct_up (h.c41 q)
 ·simp only [neg_off (show 5 ≠ 3 by decide)] at q; exact fct_up (h.c32 q)
 ·simp only [neg_off (show 5 ≠ 4 by decide)]
  exact ho.row (by omega) h.n
 ·simp only [e, if_true]
  exact (hn.set 0 (by simp) (.bool false)).set 1 (by simp) (.slice B j d)
end
set_option maxRecDepth 100000 in
set_option maxHeartbeats 3200000 in
theorem make_one_neg (s s0 : Bool) (A B : Option Addr) (m p k j c d k1 : Nat) (w : World) (dA : DS w m A) (dB : DS w p B) (ck : k ≤ c) (cj : j ≤ d)
 (hN1 : ∀ W, DS W m A → Calls Tryz.prog 78 #[.agg #[.bool s0, .slice A k c]] W fun e w' => e = .returned (.agg #[.bool s, .slice A k c]) ∧ Below W.heap.size W w')
 (hN2 : ∀ W, DS W p B → Calls Tryz.prog 78 #[.agg #[.bool true, .slice B j d]] W fun e w' => e = .returned (.agg #[.bool false, .slice B j d]) ∧ Below W.heap.size W w')
 (hNum : ∀ W, Calls Tryz.prog 80 #[.int .i64 1] W (BgPost W false 1 k1))
 (hCmp : ∀ E h W, DS W p B → DS W 1 E → Calls Tryz.prog 79 #[.agg #[.bool false, .slice B j d], .agg #[.bool false, .slice E k1 h]] W fun e w' => e = .returned (.int .i64 0) ∧ Below W.heap.size W w')
 :
  Calls Tryz.prog 44 #[.agg #[.bool s0, .slice A k c], .agg #[.bool true, .slice B j d]] w (RqPost w s false m p k j) := by
  have HN1 := Lib.hid hN1; clear hN1
  have HN2 := Lib.hid hN2; clear hN2
  have HNum := Lib.hid hNum; clear hNum
  have HCmp := Lib.hid hCmp; clear hCmp
  have HC := Lib.hid (And.intro ck cj); clear ck cj
  go_enter Tryz.func44, Tryz.ntmps44
  go_upto_region 1 with fail
  generalize hW : World.alloc _ _ = W0
  have hb0 : Below w.heap.size w W0 := by rw [← hW]; exact (((Below.refl w.heap.size w).alloc (Nat.le_refl _) _).alloc (by simp) _).alloc (by simp; omega) _
  have rN0 : Row W0 w.heap.size [.bool s0, .slice A k c] := by rw [← hW]; exact ((Row.at rfl [_, _] _).alloc _).alloc _
  have rD0 : Row W0 (w.heap.size + 1) [.bool true, .slice B j d] := by rw [← hW]; exact (Row.at (by simp) [_, _] _).alloc _
  have rZ0 : Row W0 (w.heap.size + 1 + 1) [.bool false, .slice none 0 0, .bool false, .slice none 0 0] := by rw [← hW]; exact Row.at (by simp) _ _
  have dA0 := dA.below hb0
  have dB0 := dB.below hb0
  clear hW dA dB
  have y0 := rD0.c 0 rfl
  go_upto_region 2 with fail
  clear y0
  have HS0 : NegZ w A B s0 s k c j d m p (fun _ => false) W0.drew := ⟨fun h => absurd h Bool.false_ne_true, fun h => absurd h Bool.false_ne_true, fun h => absurd h Bool.false_ne_true, fun h => absurd h Bool.false_ne_true, rN0.drew, rD0.drew, rZ0.drew, dA0, dB0, hb0.drew⟩
  clear rN0 rD0 rZ0 dA0 dB0 hb0
  refine wp_region_mid (by kernel_rfl) (fun i => match i with
   | 0 => some (.agg #[.bool s0, .slice A k c])
   | 1 => some (.agg #[.bool s, .slice A k c])
   | 2 => some (.agg #[.bool true, .slice B j d])
   | 3 => some (.agg #[.bool false, .slice B j d])
   | _ => none) (fun ls _ W => NegZ w A B s0 s k c j d m p ls W) (by kernel_rfl) HS0 ?_ ?_
  ·intro listed a W i o hI ho h0 hdep K hK
   have hi : i < 6 := (Array.getElem?_eq_some_iff.1 ho).1
   have hS : NegZ w A B s0 s k c j d m p (fun j => listed.getD j false) W := hI.world
   have hsz : listed.size = 6 := hI.lsize
   have h0' := fct_no h0
   have q2 : a.tmps[2]?.getD undef = .pointer (some ⟨w.heap.size, 0, none⟩) := hI.old 2 (noDst_spec (by kernel_rfl))
   have q3 : a.tmps[3]?.getD undef = .pointer (some ⟨w.heap.size + 1, 0, none⟩) := hI.old 3 (noDst_spec (by kernel_rfl))
   have hcase : i = 0 ∨ i = 1 ∨ i = 2 ∨ i = 3 ∨ i = 4 ∨ i = 5 := by omega
   clear hi
   rcases hcase with rfl | rfl | rfl | rfl | rfl | rfl
   ·obtain rfl := oI ho
    have r := hS.n
    have e4 : (fun j => listed.getD j false) 4 = false := hS.no4 h0'
    simp only [e4, Bool.false_eq_true, if_false] at r
    have x0 := r.c 0 rfl
    have x1 := r.c 1 rfl
    clear hdep hI ho r
    go_simp
    exact hK (.agg #[.bool s0, .slice A k c]) _ (fun u hu => oV hu) (hS.next 0 (by decide) (fun h => absurd h (by decide)) (fun h => absurd h (by decide)) (Below.refl _ _))
   ·obtain rfl := oI ho
    have d0 : listed.getD 0 false = true := hdep ⟨0, .data⟩ (by simp) rfl
    have q12 : a.tmps[12]?.getD undef = .agg #[.bool s0, .slice A k c] := hI.val 0 _ 12 _ rfl rfl rfl d0
    clear hdep hI ho
    go_simp
    refine (HN1.out _ hS.dA).mono ?_
    rintro e W2 ⟨rfl, hb⟩
    exact hK (.agg #[.bool s, .slice A k c]) _ (fun u hu => oV hu) (hS.next 1 (by decide) (fun _ => d0) (fun h => absurd h (by decide)) hb)
   ·obtain rfl := oI ho
    have r := hS.d
    have e5 : (fun j => listed.getD j false) 5 = false := hS.no5 h0'
    simp only [e5, Bool.false_eq_true, if_false] at r
    have x0 := r.c 0 rfl
    have x1 := r.c 1 rfl
    clear hdep hI ho r
    go_simp
    exact hK (.agg #[.bool true, .slice B j d]) _ (fun u hu => oV hu) (hS.next 2 (by decide) (fun h => absurd h (by decide)) (fun h => absurd h (by decide)) (Below.refl _ _))
   ·obtain rfl := oI ho
    have d2 : listed.getD 2 false = true := hdep ⟨2, .data⟩ (by simp) rfl
    have q14 : a.tmps[14]?.getD undef = .agg #[.bool true, .slice B j d] := hI.val 2 _ 14 _ rfl rfl rfl d2
    clear hdep hI ho
    go_simp
    refine (HN2.out _ hS.dB).mono ?_
    rintro e W2 ⟨rfl, hb⟩
    exact hK (.agg #[.bool false, .slice B j d]) _ (fun u hu => oV hu) (hS.next 3 (by decide) (fun h => absurd h (by decide)) (fun _ => d2) hb)
   ·obtain rfl := oI ho
    have d1 : listed.getD 1 false = true := hdep ⟨1, .data⟩ (by simp) rfl
    have q13 : a.tmps[13]?.getD undef = .agg #[.bool s, .slice A k c] := hI.val 1 _ 13 _ rfl rfl rfl d1
    have r := hS.n
    have e4 : (fun j => listed.getD j false) 4 = false := h0'
    simp only [e4, Bool.false_eq_true, if_false] at r
    have x0 := r.c 0 rfl
    have x1 := r.c 1 rfl
    have f0 := r.f 0 rfl
    have f1 := r.f 1 rfl
    clear hdep hI ho r e4
    go_simp
    exact hK undef _ (fun u hu => nV hu) (hS.put4 hsz d1)
   ·obtain rfl := oI ho
    have d3 : listed.getD 3 false = true := hdep ⟨3, .data⟩ (by simp) rfl
    have q15 : a.tmps[15]?.getD undef = .agg #[.bool false, .slice B j d] := hI.val 3 _ 15 _ rfl rfl rfl d3
    have r := hS.d
    have e5 : (fun j => listed.getD j false) 5 = false := h0'
    simp only [e5, Bool.false_eq_true, if_false] at r
    have x0 := r.c 0 rfl
    have x1 := r.c 1 rfl
    have f0 := r.f 0 rfl
    have f1 := r.f 1 rfl
    clear hdep hI ho r e5
    go_simp
    exact hK undef _ (fun u hu => nV hu) (hS.put5 hsz d3)
  intro listed a1 W1 hI hall
  have hS : NegZ w A B s0 s k c j d m p (fun j => listed.getD j false) W1 := hI.world
  have rN := hS.n
  have rD := hS.d
  have e4 : (fun j => listed.getD j false) 4 = true := hall 4 (by decide)
  have e5 : (fun j => listed.getD j false) 5 = true := hall 5 (by decide)
  simp only [e4, if_true] at rN
  simp only [e5, if_true] at rD
  have rZ := hS.z
  have dA := hS.dA
  have dB := hS.dB
  have hb0 := hS.b
  obtain ⟨f, hf⟩ : ∃ f : Nat → Value, ∀ t, slotOf a1 t = f t := ⟨_, fun _ => rfl⟩
  have ha := hI.frame [12, 13, 14, 15] (by kernel_rfl) f hf
  clear hf hI hall hS e4 e5 HS0 HN1 HN2
  subst ha
  simp only [setAll, List.foldl_cons, List.foldl_nil, List.setIfInBounds_toArray, List.set_cons_zero, List.set_cons_succ]
  generalize W1 = W0 at *
  have HD := Lib.hid (And.intro dA dB)
  have HR := Lib.hid (And.intro rN (And.intro rD (And.intro rZ hb0)))
  clear dA dB rN rD rZ hb0
  go_upto_region 3 with fail
  have hk0 : KS w [(w.heap.size, #[.bool s, .slice A k c]), ((w.heap.size + 1), #[.bool false, .slice B j d]), ((w.heap.size + 1 + 1), #[.bool false, .slice none 0 0, .bool false, .slice none 0 0])] W0 := ⟨fun q hq => by
   simp only [List.mem_cons, List.not_mem_nil, or_false] at hq
   rcases hq with rfl | rfl | rfl
   ·exact HR.out.1
   ·exact HR.out.2.1
   ·exact HR.out.2.2.1, HR.out.2.2.2⟩
  clear HR
  generalize hL : [(w.heap.size, #[.bool s, .slice A k c]), ((w.heap.size + 1), #[.bool false, .slice B j d]), ((w.heap.size + 1 + 1), (#[.bool false, .slice none 0 0, .bool false, .slice none 0 0] : Array Value))] = L at hk0
  have HL := Lib.hid hL; clear hL
  have l0 : ∀ W, KS w L W → W.cell? ⟨(w.heap.size + 1), 0, none⟩ = some (.bool false) := fun W h => h.c 1 (by rw [← HL.out]; rfl) 0 rfl
  have l1 : ∀ W, KS w L W → W.cell? ⟨(w.heap.size + 1), 1, none⟩ = some (.slice B j d) := fun W h => h.c 1 (by rw [← HL.out]; rfl) 1 rfl
  have dA := HD.out.1.drew'
  have dB := HD.out.2.drew'
  clear HD
  have hk := hk0.drew
  clear hk0
  go_region_held3 (fun W : World => KS w L W)
   (repeat (first | (with_reducible assumption) | (with_reducible refine KS.drew ?_) | (with_reducible refine KS.after ?_ hb)))
   (first
     | (go_at_call 80; (with_reducible refine (HNum.out _).mono ?_); rintro e w' ⟨E, h, rfl, _, dE, hb⟩; (replace dA := dA.below hb); (replace dB := dB.below hb))
     | (go_at_call 79; (with_reducible refine (HCmp.out _ _ _ dB dE).mono ?_); rintro e w' ⟨rfl, hb⟩; (replace dA := dA.below hb); (replace dB := dB.below hb)))
  have hK := ‹KS w L _›
  have HD := Lib.hid (And.intro dA dB)
  clear dA dB dE l0 l1
  have x0 := hK.c 0 (b := w.heap.size) (cs := #[.bool s, .slice A k c]) (by rw [← HL.out]; rfl) 0 rfl
  have x1 := hK.c 0 (b := w.heap.size) (cs := #[.bool s, .slice A k c]) (by rw [← HL.out]; rfl) 1 rfl
  have y0 := hK.c 1 (b := w.heap.size + 1) (cs := #[.bool false, .slice B j d]) (by rw [← HL.out]; rfl) 0 rfl
  have y1 := hK.c 1 (b := w.heap.size + 1) (cs := #[.bool false, .slice B j d]) (by rw [← HL.out]; rfl) 1 rfl
  have rZ := hK.row 2 (b := w.heap.size + 1 + 1) (cs := #[.bool false, .slice none 0 0, .bool false, .slice none 0 0]) (by rw [← HL.out]; rfl)
  have hB := Lib.hid hK.2
  clear hK HL hk
  go_wp2_with (refine wpList_store_R rfl _ _ _ rfl _ #[.bool s, .slice A k c, .bool false, .slice B j d] rfl rfl _ rZ (by rfl) agg_rrat (by simp [OneC, Value.oneCell']) ?_; intro w3 r3 o3)
  exact bodyPost_ret (results_R1 (cs := #[.bool s, .slice A k c, .bool false, .slice B j d]) rfl rfl r3 agg_rrat) rfl ⟨A, c, B, d, rfl, HC.out, ⟨HD.out.1.on o3 (rZ.c 0 rfl), HD.out.2.on o3 (rZ.c 0 rfl)⟩, below_on hB.out o3 (by omega)⟩
set_option maxRecDepth 100000 in
set_option maxHeartbeats 3200000 in
theorem make_gen_neg (s s0 u v : Bool) (A B : Option Addr) (m p k j c d k1 gm gk xm xk ym yk : Nat) (r : Int) (w : World) (dA : DS w m A) (dB : DS w p B) (ck : k ≤ c) (cj : j ≤ d)
 (hN1 : ∀ W, DS W m A → Calls Tryz.prog 78 #[.agg #[.bool s0, .slice A k c]] W fun e w' => e = .returned (.agg #[.bool s, .slice A k c]) ∧ Below W.heap.size W w')
 (hN2 : ∀ W, DS W p B → Calls Tryz.prog 78 #[.agg #[.bool true, .slice B j d]] W fun e w' => e = .returned (.agg #[.bool false, .slice B j d]) ∧ Below W.heap.size W w')
 (hNum : ∀ W, Calls Tryz.prog 80 #[.int .i64 1] W (BgPost W false 1 k1))
 (hCmp : ∀ E h W, DS W p B → DS W 1 E → Calls Tryz.prog 79 #[.agg #[.bool false, .slice B j d], .agg #[.bool false, .slice E k1 h]] W fun e w' => e = .returned (.int .i64 r) ∧ Below W.heap.size W w')
 (hGcd : ∀ W, DS W m A → DS W p B → Calls Tryz.prog 81 #[.agg #[.bool s, .slice A k c], .agg #[.bool false, .slice B j d]] W (BgPost W false gm gk))
 (hQ1 : ∀ E h W, DS W m A → DS W gm E → gk ≤ h → Calls Tryz.prog 82 #[.agg #[.bool s, .slice A k c], .agg #[.bool false, .slice E gk h]] W fun e w' => ∃ X x Y y rs rk, e = .returned (.tuple #[.agg #[.bool u, .slice X xk x], .agg #[.bool rs, .slice Y rk y]]) ∧ xk ≤ x ∧ DS w' xm X ∧ Below W.heap.size W w')
 (hQ2 : ∀ E h W, DS W p B → DS W gm E → gk ≤ h → Calls Tryz.prog 82 #[.agg #[.bool false, .slice B j d], .agg #[.bool false, .slice E gk h]] W fun e w' => ∃ X x Y y rs rk, e = .returned (.tuple #[.agg #[.bool v, .slice X yk x], .agg #[.bool rs, .slice Y rk y]]) ∧ yk ≤ x ∧ DS w' ym X ∧ Below W.heap.size W w') (hr : r ≠ 0) :
 Calls Tryz.prog 44 #[.agg #[.bool s0, .slice A k c], .agg #[.bool true, .slice B j d]] w (RqPost w u v xm ym xk yk) := by
 have HN1 := Lib.hid hN1; clear hN1
 have HN2 := Lib.hid hN2; clear hN2
 have HNum := Lib.hid hNum; clear hNum
 have HCmp := Lib.hid hCmp; clear hCmp
 have HGcd := Lib.hid hGcd; clear hGcd
 have HQ1 := Lib.hid hQ1; clear hQ1
 have HQ2 := Lib.hid hQ2; clear hQ2
 have hr0 : (r == 0) = false := by simpa using hr
 clear hr
 have HC := Lib.hid (And.intro ck cj); clear ck cj
 go_enter Tryz.func44, Tryz.ntmps44
 go_upto_region 1 with fail
 generalize hW : World.alloc _ _ = W0
 have hb0 : Below w.heap.size w W0 := by rw [← hW]; exact (((Below.refl w.heap.size w).alloc (Nat.le_refl _) _).alloc (by simp) _).alloc (by simp; omega) _
 have rN0 : Row W0 w.heap.size [.bool s0, .slice A k c] := by rw [← hW]; exact ((Row.at rfl [_, _] _).alloc _).alloc _
 have rD0 : Row W0 (w.heap.size + 1) [.bool true, .slice B j d] := by rw [← hW]; exact (Row.at (by simp) [_, _] _).alloc _
 have rZ0 : Row W0 (w.heap.size + 1 + 1) [.bool false, .slice none 0 0, .bool false, .slice none 0 0] := by rw [← hW]; exact Row.at (by simp) _ _
 have dA0 := dA.below hb0
 have dB0 := dB.below hb0
 clear hW dA dB
 have y0 := rD0.c 0 rfl
 go_upto_region 2 with fail
 clear y0
 have HS0 : NegZ w A B s0 s k c j d m p (fun _ => false) W0.drew := ⟨fun h => absurd h Bool.false_ne_true, fun h => absurd h Bool.false_ne_true, fun h => absurd h Bool.false_ne_true, fun h => absurd h Bool.false_ne_true, rN0.drew, rD0.drew, rZ0.drew, dA0, dB0, hb0.drew⟩
 clear rN0 rD0 rZ0 dA0 dB0 hb0
 refine wp_region_mid (by kernel_rfl) (fun i => match i with
  | 0 => some (.agg #[.bool s0, .slice A k c])
  | 1 => some (.agg #[.bool s, .slice A k c])
  | 2 => some (.agg #[.bool true, .slice B j d])
  | 3 => some (.agg #[.bool false, .slice B j d])
  | _ => none) (fun ls _ W => NegZ w A B s0 s k c j d m p ls W) (by kernel_rfl) HS0 ?_ ?_
 ·intro listed a W i o hI ho h0 hdep K hK
  have hi : i < 6 := (Array.getElem?_eq_some_iff.1 ho).1
  have hS : NegZ w A B s0 s k c j d m p (fun j => listed.getD j false) W := hI.world
  have hsz : listed.size = 6 := hI.lsize
  have h0' := fct_no h0
  have q2 : a.tmps[2]?.getD undef = .pointer (some ⟨w.heap.size, 0, none⟩) := hI.old 2 (noDst_spec (by kernel_rfl))
  have q3 : a.tmps[3]?.getD undef = .pointer (some ⟨w.heap.size + 1, 0, none⟩) := hI.old 3 (noDst_spec (by kernel_rfl))
  have hcase : i = 0 ∨ i = 1 ∨ i = 2 ∨ i = 3 ∨ i = 4 ∨ i = 5 := by omega
  clear hi
  rcases hcase with rfl | rfl | rfl | rfl | rfl | rfl
  ·obtain rfl := oI ho
   have r := hS.n
   have e4 : (fun j => listed.getD j false) 4 = false := hS.no4 h0'
   simp only [e4, Bool.false_eq_true, if_false] at r
   have x0 := r.c 0 rfl
   have x1 := r.c 1 rfl
   clear hdep hI ho r
   go_simp
   exact hK (.agg #[.bool s0, .slice A k c]) _ (fun u hu => oV hu) (hS.next 0 (by decide) (fun h => absurd h (by decide)) (fun h => absurd h (by decide)) (Below.refl _ _))
  ·obtain rfl := oI ho
   have d0 : listed.getD 0 false = true := hdep ⟨0, .data⟩ (by simp) rfl
   have q12 : a.tmps[12]?.getD undef = .agg #[.bool s0, .slice A k c] := hI.val 0 _ 12 _ rfl rfl rfl d0
   clear hdep hI ho
   go_simp
   refine (HN1.out _ hS.dA).mono ?_
   rintro e W2 ⟨rfl, hb⟩
   exact hK (.agg #[.bool s, .slice A k c]) _ (fun u hu => oV hu) (hS.next 1 (by decide) (fun _ => d0) (fun h => absurd h (by decide)) hb)
  ·obtain rfl := oI ho
   have r := hS.d
   have e5 : (fun j => listed.getD j false) 5 = false := hS.no5 h0'
   simp only [e5, Bool.false_eq_true, if_false] at r
   have x0 := r.c 0 rfl
   have x1 := r.c 1 rfl
   clear hdep hI ho r
   go_simp
   exact hK (.agg #[.bool true, .slice B j d]) _ (fun u hu => oV hu) (hS.next 2 (by decide) (fun h => absurd h (by decide)) (fun h => absurd h (by decide)) (Below.refl _ _))
  ·obtain rfl := oI ho
   have d2 : listed.getD 2 false = true := hdep ⟨2, .data⟩ (by simp) rfl
   have q14 : a.tmps[14]?.getD undef = .agg #[.bool true, .slice B j d] := hI.val 2 _ 14 _ rfl rfl rfl d2
   clear hdep hI ho
   go_simp
   refine (HN2.out _ hS.dB).mono ?_
   rintro e W2 ⟨rfl, hb⟩
   exact hK (.agg #[.bool false, .slice B j d]) _ (fun u hu => oV hu) (hS.next 3 (by decide) (fun h => absurd h (by decide)) (fun _ => d2) hb)
  ·obtain rfl := oI ho
   have d1 : listed.getD 1 false = true := hdep ⟨1, .data⟩ (by simp) rfl
   have q13 : a.tmps[13]?.getD undef = .agg #[.bool s, .slice A k c] := hI.val 1 _ 13 _ rfl rfl rfl d1
   have r := hS.n
   have e4 : (fun j => listed.getD j false) 4 = false := h0'
   simp only [e4, Bool.false_eq_true, if_false] at r
   have x0 := r.c 0 rfl
   have x1 := r.c 1 rfl
   have f0 := r.f 0 rfl
   have f1 := r.f 1 rfl
   clear hdep hI ho r e4
   go_simp
   exact hK undef _ (fun u hu => nV hu) (hS.put4 hsz d1)
  ·obtain rfl := oI ho
   have d3 : listed.getD 3 false = true := hdep ⟨3, .data⟩ (by simp) rfl
   have q15 : a.tmps[15]?.getD undef = .agg #[.bool false, .slice B j d] := hI.val 3 _ 15 _ rfl rfl rfl d3
   have r := hS.d
   have e5 : (fun j => listed.getD j false) 5 = false := h0'
   simp only [e5, Bool.false_eq_true, if_false] at r
   have x0 := r.c 0 rfl
   have x1 := r.c 1 rfl
   have f0 := r.f 0 rfl
   have f1 := r.f 1 rfl
   clear hdep hI ho r e5
   go_simp
   exact hK undef _ (fun u hu => nV hu) (hS.put5 hsz d3)
 intro listed a1 W1 hI hall
 have hS : NegZ w A B s0 s k c j d m p (fun j => listed.getD j false) W1 := hI.world
 have rN := hS.n
 have rD := hS.d
 have e4 : (fun j => listed.getD j false) 4 = true := hall 4 (by decide)
 have e5 : (fun j => listed.getD j false) 5 = true := hall 5 (by decide)
 simp only [e4, if_true] at rN
 simp only [e5, if_true] at rD
 have rZ := hS.z
 have dA := hS.dA
 have dB := hS.dB
 have hb0 := hS.b
 obtain ⟨f, hf⟩ : ∃ f : Nat → Value, ∀ t, slotOf a1 t = f t := ⟨_, fun _ => rfl⟩
 have ha := hI.frame [12, 13, 14, 15] (by kernel_rfl) f hf
 clear hf hI hall hS e4 e5 HS0 HN1 HN2
 subst ha
 simp only [setAll, List.foldl_cons, List.foldl_nil, List.setIfInBounds_toArray, List.set_cons_zero, List.set_cons_succ]
 generalize W1 = W0 at *
 have HD := Lib.hid (And.intro dA dB)
 have HR := Lib.hid (And.intro rN (And.intro rD (And.intro rZ hb0)))
 clear dA dB rN rD rZ hb0
 go_upto_region 3 with fail
 have hk0 : KS w [(w.heap.size, #[.bool s, .slice A k c]), ((w.heap.size + 1), #[.bool false, .slice B j d]), ((w.heap.size + 1 + 1), #[.bool false, .slice none 0 0, .bool false, .slice none 0 0])] W0 := ⟨fun q hq => by
  simp only [List.mem_cons, List.not_mem_nil, or_false] at hq
  rcases hq with rfl | rfl | rfl
  ·exact HR.out.1
  ·exact HR.out.2.1
  ·exact HR.out.2.2.1, HR.out.2.2.2⟩
 clear HR
 generalize hL : [(w.heap.size, #[.bool s, .slice A k c]), ((w.heap.size + 1), #[.bool false, .slice B j d]), ((w.heap.size + 1 + 1), (#[.bool false, .slice none 0 0, .bool false, .slice none 0 0] : Array Value))] = L at hk0
 have HL := Lib.hid hL; clear hL
 have l0 : ∀ W, KS w L W → W.cell? ⟨(w.heap.size + 1), 0, none⟩ = some (.bool false) := fun W h => h.c 1 (by rw [← HL.out]; rfl) 0 rfl
 have l1 : ∀ W, KS w L W → W.cell? ⟨(w.heap.size + 1), 1, none⟩ = some (.slice B j d) := fun W h => h.c 1 (by rw [← HL.out]; rfl) 1 rfl
 have dA := HD.out.1.drew'
 have dB := HD.out.2.drew'
 clear HD
 have hk := hk0.drew
 clear hk0
 go_region_held3 (fun W : World => KS w L W)
  (repeat (first | (with_reducible assumption) | (with_reducible refine KS.drew ?_) | (with_reducible refine KS.after ?_ hb)))
  (first
    | (go_at_call 80; (with_reducible refine (HNum.out _).mono ?_); rintro e w' ⟨E, h, rfl, _, dE, hb⟩; (replace dA := dA.below hb); (replace dB := dB.below hb))
    | (go_at_call 79; (with_reducible refine (HCmp.out _ _ _ dB dE).mono ?_); rintro e w' ⟨rfl, hb⟩; (replace dA := dA.below hb); (replace dB := dB.below hb)))
 have hK := ‹KS w L _›
 have HD := Lib.hid (And.intro dA dB)
 clear dA dB dE l0 l1
 have x0 := hK.c 0 (b := w.heap.size) (cs := #[.bool s, .slice A k c]) (by rw [← HL.out]; rfl) 0 rfl
 have x1 := hK.c 0 (b := w.heap.size) (cs := #[.bool s, .slice A k c]) (by rw [← HL.out]; rfl) 1 rfl
 have y0 := hK.c 1 (b := w.heap.size + 1) (cs := #[.bool false, .slice B j d]) (by rw [← HL.out]; rfl) 0 rfl
 have y1 := hK.c 1 (b := w.heap.size + 1) (cs := #[.bool false, .slice B j d]) (by rw [← HL.out]; rfl) 1 rfl
 clear hk
 go_wp2_with fail
 refine (HGcd.out _ HD.out.1 HD.out.2).mono ?_
 rintro e w1 ⟨G, g, rfl, cg, dG, hb⟩
 replace hK := hK.after hb
 have HD1 := Lib.hid (And.intro (HD.out.1.below hb) (And.intro (HD.out.2.below hb) dG))
 have CG := Lib.hid cg
 clear hb HD dG cg x0 x1 y0 y1
 go_upto_region 6 with (refine wpList_store_R rfl _ _ _ rfl _ #[.bool false, .slice G gk g] rfl rfl _ (Row.at rfl [.bool false, .slice none 0 0] _) (by rfl) agg_big (by simp [OneC, Value.oneCell']) ?_; intro w2 r2 o2)
 have HD2 : Hid (DS w2 m A ∧ DS w2 p B ∧ DS w2 gm G) := by
  have zz := (Row.at (w := w1) rfl [.bool false, .slice none 0 0] 53).c 0 rfl
  have hb1 := (Below.refl w1.heap.size w1).alloc (Nat.le_refl _) (.cells #[.bool false, .slice none 0 0] 53)
  exact Lib.hid ⟨(HD1.out.1.below hb1).on o2 zz, (HD1.out.2.1.below hb1).on o2 zz, (HD1.out.2.2.below hb1).on o2 zz⟩
 have hK2 := KS.wroteK hK o2 r2
 clear hK o2 r2 HD1
 generalize w1.heap.size = C at *
 rw [← HL.out] at hK2
 clear HL
 have x0 := hK2.c 0 (b := w.heap.size) (cs := #[.bool s, .slice A k c]) rfl 0 rfl
 have x1 := hK2.c 0 (b := w.heap.size) (cs := #[.bool s, .slice A k c]) rfl 1 rfl
 have g0 := hK2.c 3 (b := C) (cs := #[.bool false, .slice G gk g]) rfl 0 rfl
 have g1 := hK2.c 3 (b := C) (cs := #[.bool false, .slice G gk g]) rfl 1 rfl
 have HK2 := Lib.hid hK2
 clear hK2
 go_wp2_with fail
 refine (HQ1.out _ _ _ HD2.out.1 HD2.out.2.2 CG.out).mono ?_
 rintro e w3 ⟨X, x, X', x', rs, rk, rfl, cx, dX, hb⟩
 have hK := HK2.out.after hb
 have HD3 := Lib.hid (And.intro (HD2.out.2.1.below hb) (And.intro (HD2.out.2.2.below hb) dX))
 have CX := Lib.hid cx
 clear hb HK2 HD2 dX cx x0 x1 g0 g1
 go_upto_region 7 with (first
  | (refine wpList_store_R rfl _ _ _ rfl w3.heap.size #[.bool u, .slice X xk x] rfl rfl _ ((Row.at rfl [.bool false, .slice none 0 0] _).alloc _) (by rfl) agg_big (by simp [OneC, Value.oneCell']) ?_; intro w4 r4 o4)
  | (refine wpList_store_R rfl _ _ _ rfl (w3.heap.size + 1) #[.bool rs, .slice X' rk x'] rfl rfl _ (o4.row (by omega) (Row.at (by simp) [.bool false, .slice none 0 0] _)) (by rfl) agg_big (by simp [OneC, Value.oneCell']) ?_; intro w5 r5 o5))
 have hT := two_wrote hK r4 o4 o5
 have HD4 := Lib.hid (And.intro (hT.2 _ _ HD3.out.1) (And.intro (hT.2 _ _ HD3.out.2.1) (hT.2 _ _ HD3.out.2.2)))
 have HK4 := Lib.hid hT.1
 have y0 := hT.1.c 1 (b := w.heap.size + 1) (cs := #[.bool false, .slice B j d]) rfl 0 rfl
 have y1 := hT.1.c 1 (b := w.heap.size + 1) (cs := #[.bool false, .slice B j d]) rfl 1 rfl
 have g0 := hT.1.c 3 (b := C) (cs := #[.bool false, .slice G gk g]) rfl 0 rfl
 have g1 := hT.1.c 3 (b := C) (cs := #[.bool false, .slice G gk g]) rfl 1 rfl
 clear hT hK r4 o4 r5 o5 HD3
 generalize w3.heap.size = D at *
 go_wp2_with fail
 refine (HQ2.out _ _ _ HD4.out.1 HD4.out.2.1 CG.out).mono ?_
 rintro e w6 ⟨Y, y, Y', y', rs', rk', rfl, cy, dY, hb⟩
 have hK := HK4.out.after hb
 have HD5 := Lib.hid (And.intro (HD4.out.2.2.below hb) dY)
 have CY := Lib.hid cy
 clear hb HK4 HD4 dY cy y0 y1 g0 g1
 go_upto_region 8 with (first
  | (refine wpList_store_R rfl _ _ _ rfl w6.heap.size #[.bool v, .slice Y yk y] rfl rfl _ ((Row.at rfl [.bool false, .slice none 0 0] _).alloc _) (by rfl) agg_big (by simp [OneC, Value.oneCell']) ?_; intro w7 r7 o7)
  | (refine wpList_store_R rfl _ _ _ rfl (w6.heap.size + 1) #[.bool rs', .slice Y' rk' y'] rfl rfl _ (o7.row (by omega) (Row.at (by simp) [.bool false, .slice none 0 0] _)) (by rfl) agg_big (by simp [OneC, Value.oneCell']) ?_; intro w8 r8 o8))
 have hT := two_wrote hK r7 o7 o8
 have HD6 := Lib.hid (And.intro (hT.2 _ _ HD5.out.1) (hT.2 _ _ HD5.out.2))
 have x0 := hT.1.c 4 (b := D) (cs := #[.bool u, .slice X xk x]) rfl 0 rfl
 have x1 := hT.1.c 4 (b := D) (cs := #[.bool u, .slice X xk x]) rfl 1 rfl
 have y0 := hT.1.c 5 (b := w6.heap.size) (cs := #[.bool v, .slice Y yk y]) rfl 0 rfl
 have y1 := hT.1.c 5 (b := w6.heap.size) (cs := #[.bool v, .slice Y yk y]) rfl 1 rfl
 have rZ := hT.1.row 2 (b := w.heap.size + 1 + 1) (cs := #[.bool false, .slice none 0 0, .bool false, .slice none 0 0]) rfl
 have hB := Lib.hid hT.1.2
 clear hT hK r7 o7 r8 o8 HD5
 generalize w6.heap.size = F at *
 go_wp2_with (refine wpList_store_R rfl _ _ _ rfl _ #[.bool u, .slice X xk x, .bool v, .slice Y yk y] rfl rfl _ rZ (by rfl) agg_rrat (by simp [OneC, Value.oneCell']) ?_; intro w9 r9 o9)
 exact bodyPost_ret (results_R1 (cs := #[.bool u, .slice X xk x, .bool v, .slice Y yk y]) rfl rfl r9 agg_rrat) rfl ⟨X, x, Y, y, rfl, ⟨CX.out, CY.out⟩, ⟨HD6.out.1.on o9 (rZ.c 0 rfl), HD6.out.2.on o9 (rZ.c 0 rfl)⟩, below_on hB.out o9 (by omega)⟩
end Go.Proofs.YtongeeggaigepaaGreatDoor

namespace Go.Proofs.YtongeeggaigepaaGreatDoor
open Go.RowKit CrossMath
theorem rmake_neg (n d : Int) (A B : Option Addr) (c e : Nat) (w : World) (hd : 0 < d) (hn : n.natAbs < T256) (hd' : d.natAbs < T256) (dA : DS w n.natAbs A) (dB : DS w d.natAbs B) (hc : L16 n.natAbs ≤ c) (he : L16 d.natAbs ≤ e) :
 Calls Tryz.prog 44 #[.agg #[.bool (decide (-n < 0)), .slice A (L16 n.natAbs) c], .agg #[.bool true, .slice B (L16 d.natAbs) e]] w (RqPost w (decide (frN n d < 0)) false (frN n d).natAbs (frD n d).natAbs (L16 (frN n d).natAbs) (L16 (frD n d).natAbs)) := by
 have d0 : decide (d < 0) = false := by simp; omega
 have d1 : decide (-d < 0) = true := by simp; omega
 have hN1 : ∀ W, DS W n.natAbs A → Calls Tryz.prog 78 #[.agg #[.bool (decide (-n < 0)), .slice A (L16 n.natAbs) c]] W fun e w' => e = .returned (.agg #[.bool (decide (n < 0)), .slice A (L16 n.natAbs) c]) ∧ Below W.heap.size W w' := fun W hA => by
  have := refneg_z (-n) A c W (by rw [Int.natAbs_neg]; exact hA) (by rw [Int.natAbs_neg]; exact hc) (by rw [Int.natAbs_neg]; exact L16_T6 hn)
  rw [Int.neg_neg, bigv, bigv, Int.natAbs_neg] at this
  exact this.mono fun _ _ h => ⟨h.1, h.2.2⟩
 have hN2 : ∀ W, DS W d.natAbs B → Calls Tryz.prog 78 #[.agg #[.bool true, .slice B (L16 d.natAbs) e]] W fun e' w' => e' = .returned (.agg #[.bool false, .slice B (L16 d.natAbs) e]) ∧ Below W.heap.size W w' := fun W hB => by
  have := refneg_z (-d) B e W (by rw [Int.natAbs_neg]; exact hB) (by rw [Int.natAbs_neg]; exact he) (by rw [Int.natAbs_neg]; exact L16_T6 hd')
  rw [Int.neg_neg, bigv, bigv, Int.natAbs_neg, d0, d1] at this
  exact this.mono fun _ _ h => ⟨h.1, h.2.2⟩
 have hg0 : Int.gcd n d ≠ 0 := fun h => by have := (Int.gcd_eq_zero_iff.1 h).2; omega
 have eN : frN n d = n.tdiv (Int.gcd n d : Nat) := by unfold frN; rw [if_neg (by omega), Int.mul_one]
 have eD : frD n d = d.tdiv (Int.gcd n d : Nat) := by unfold frD; rw [show ((d.natAbs : Nat) : Int) = d by omega]
 have hgd : Int.gcd n d ≤ d.natAbs := Nat.le_of_dvd (by omega) (Int.natCast_dvd_natCast.1 (by rw [show ((d.natAbs : Nat) : Int) = d by omega]; exact Int.gcd_dvd_right ..))
 have hgT : Int.gcd n d < T256 := Nat.lt_of_le_of_lt hgd hd'
 have hcmp : ∀ (E : Option Addr) (h : Nat) (W : World), DS W d.natAbs B → DS W 1 E → Calls Tryz.prog 79 #[.agg #[.bool false, .slice B (L16 d.natAbs) e], .agg #[.bool false, .slice E (L16 1) h]] W fun e w' => e = .returned (.int .i64 (cmpI d 1)) ∧ Below W.heap.size W w' := by
  intro E h W hB hE
  have := cmp_z d 1 B E e h W hB hE (L16_T6 hd') (by show L16 1 ≤ _; exact Nat.le_trans (L16_T (by decide)) (by decide))
  rw [bigv, d0] at this
  exact this
 by_cases h1 : d = 1
 ·subst h1
  have e1 : Int.gcd n 1 = 1 := by simp
  rw [eN, eD, e1, show ((1 : Nat) : Int) = 1 from rfl, Int.tdiv_one, Int.tdiv_one]
  rw [show cmpI 1 1 = 0 from rfl] at hcmp
  exact make_one_neg _ _ A B _ _ _ _ c e (L16 1) w dA dB hc he hN1 hN2 one_bg hcmp
 ·have hne : cmpI d 1 ≠ 0 := by unfold cmpI; rw [if_neg (by omega), if_pos (by omega)]; decide
  have q0 : decide (d.tdiv (Int.gcd n d : Nat) < 0) = false := by
   have : 0 ≤ d.tdiv (Int.gcd n d : Nat) := Int.tdiv_nonneg (by omega) (by omega)
   simp; omega
  rw [eN, eD]
  refine make_gen_neg _ _ _ _ A B _ _ _ _ c e (L16 1) (Int.gcd n d) (L16 (Int.gcd n d)) _ _ _ _ (cmpI d 1) w dA dB hc he hN1 hN2 one_bg hcmp ?_ ?_ ?_ hne
  ·intro W hA hB
   have := refgcd_z n d A B c e W hA hB hc he hn hd'
   rw [bigv, bigv, d0] at this
   refine this.mono ?_
   rintro e' w' ⟨X, x, rfl, hx, hD, hb⟩
   refine ⟨X, x, ?_, hx, hD, hb⟩
   rw [bigv, show decide (((Int.gcd n d : Nat) : Int) < 0) = false by simp]
   rfl
  ·intro E h W hA hE hh
   have := refquo_z n (Int.gcd n d : Nat) A E c h W hA hE (L16_T hn) (by rw [Int.natAbs_natCast]; exact L16_T hgT) (by omega)
   rw [bigv, bigv, show decide (((Int.gcd n d : Nat) : Int) < 0) = false by simp] at this
   refine this.mono ?_
   rintro e' w' ⟨X, x, Y, y, rfl, hx, _, hD, _, hb⟩
   exact ⟨X, x, Y, y, _, _, rfl, hx, hD, hb⟩
  ·intro E h W hA hE hh
   have := refquo_z d (Int.gcd n d : Nat) B E e h W hA hE (L16_T hd') (by rw [Int.natAbs_natCast]; exact L16_T hgT) (by omega)
   rw [bigv, bigv, d0, show decide (((Int.gcd n d : Nat) : Int) < 0) = false by simp] at this
   refine this.mono ?_
   rintro e' w' ⟨X, x, Y, y, rfl, hx, _, hD, _, hb⟩
   refine ⟨X, x, Y, y, decide (d.tmod (Int.gcd n d : Nat) < 0), L16 (d.tmod (Int.gcd n d : Nat)).natAbs, ?_, hx, hD, hb⟩
   rw [bigv, q0]
   rfl
theorem rmake_z (n d : Int) (A B : Option Addr) (c e : Nat) (w : World) (hd : d ≠ 0) (hn : n.natAbs < T256) (hd' : d.natAbs < T256) (dA : DS w n.natAbs A) (dB : DS w d.natAbs B) (hc : L16 n.natAbs ≤ c) (he : L16 d.natAbs ≤ e) :
 Calls Tryz.prog 44 #[.agg #[.bool (decide (n < 0)), .slice A (L16 n.natAbs) c], .agg #[.bool (decide (d < 0)), .slice B (L16 d.natAbs) e]] w (RqPost w (decide (frN n d < 0)) false (frN n d).natAbs (frD n d).natAbs (L16 (frN n d).natAbs) (L16 (frD n d).natAbs)) := by
 by_cases h : 0 < d
 ·rw [show decide (d < 0) = false by simp; omega]
  exact rmake_any n d A B c e w h hn hd' dA dB hc he
 ·rw [show decide (d < 0) = true by simp; omega]
  have := rmake_neg (-n) (-d) A B c e w (by omega) (by rw [Int.natAbs_neg]; exact hn) (by rw [Int.natAbs_neg]; exact hd') (by rw [Int.natAbs_neg]; exact dA) (by rw [Int.natAbs_neg]; exact dB) (by rw [Int.natAbs_neg]; exact hc) (by rw [Int.natAbs_neg]; exact he)
  rw [Int.neg_neg, Int.natAbs_neg, Int.natAbs_neg, frN_neg n d hd, frD_neg] at this
  exact this
end Go.Proofs.YtongeeggaigepaaGreatDoor
