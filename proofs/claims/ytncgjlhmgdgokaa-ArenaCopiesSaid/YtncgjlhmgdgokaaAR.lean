/- Take, Claim and Give of none: it is told that there is no arena; no condition. -/
import Derived.Test.YtncgjlhmgdgokaaAQ
namespace Go.Proofs.Ytncgjlhmgdgokaa
open Go.RowKit Go.Sort ArenaMath Go.Maps

/-- A pointer at which no arena is, whatever comes. -/
def NoAr (w : World) (q : Option Addr) : Prop := ∀ W, Below w.heap.size w W → Calls Try.prog 24 #[.pointer q] W fun e w' => e = .returned (.bool false) ∧ w' = W
theorem noAr_nil (w : World) : NoAr w none := fun _ _ => there_nil
theorem noAr_zero {w : World} {b : Nat} {x : Value} {r : List Value} (h : Row w b (x :: .map none :: r)) : NoAr w (some ⟨b, 0, none⟩) := fun _ hW => there_zero (h.after hW)
theorem NoAr.after {w w' : World} {q : Option Addr} (h : NoAr w q) (hb : Below w.heap.size w w') : NoAr w' q := fun W hW => h W (hb.trans (hW.mono hb.size))
set_option maxRecDepth 1000000 in
set_option maxHeartbeats 16000000 in
theorem take_none {w : World} {q : Option Addr} (h : NoAr w q) : Calls Try.prog 9 #[.pointer q] w fun e w' => e = .returned (.tuple #[.int .i64 0, .int .i64 1]) ∧ Below w.heap.size w w' := by
  have hmf : ∀ (fn : Fn) (first cap : Array Value) (w : World), (Instr.makeFunc fn first cap).run Try.prog w = .ok (.func fn first cap) w := fun _ _ _ _ => rfl
  have H := Lib.hid h
  clear h
  go_enter Try.func9, Try.ntmps9
  go_wp2_with fail
  generalize hW : World.alloc _ _ = W0
  have rT : Row W0 w.heap.size [.pointer q] := by rw [← hW]; exact Row.at rfl _ _

  have hB : Below w.heap.size w W0 := by rw [← hW]; exact (Below.refl w.heap.size w).alloc (Nat.le_refl _) _
  clear hW
  refine wp_scope_jumps 0 (TakeJ w (.pointer q) (.pointer (some ⟨w.heap.size, 0, none⟩)) 1 True) (fun _ _ => 0) rfl ?_ ?_
  · have t0 := rT.c 0 rfl
    have HT := Lib.hid (And.intro rT hB)
    clear rT hB
    go_wp2_with fail
    refine (unless_any _ _ _ 1 _).mono ?_
    rintro e W1 ⟨rfl, rB1, rE1, hb⟩
    have HB1 := Lib.hid (HT.out.2.trans (hb.mono HT.out.2.size))
    have H1 := Lib.hid (And.intro (HT.out.1.after hb) (And.intro rB1 rE1))
    generalize W0.heap.size = n1 at *
    clear hb rB1 rE1 t0 HT
    go_wp2_with fail
    refine (unless_any _ _ _ 210 _).mono ?_
    rintro e W2 ⟨rfl, rB2, rE2, hb⟩
    have HB2 := Lib.hid (HB1.out.trans (hb.mono HB1.out.size))
    have H2 := Lib.hid (And.intro (H1.out.1.after hb) (And.intro (H1.out.2.1.after hb) (And.intro (H1.out.2.2.after hb) (And.intro rB2 rE2))))
    generalize W1.heap.size = n2 at *
    clear hb rB2 rE2 H1 HB1
    go_wp2_with fail
    generalize hW : World.alloc _ _ = WF
    have hbF : Below W2.heap.size W2 WF := by rw [← hW]; exact (Below.refl _ _).alloc (Nat.le_refl _) _
    have rS : Row WF W2.heap.size [dbtV n1 (n1 + 1), dbtV n2 (n2 + 1)] := by rw [← hW]; exact Row.at rfl _ _
    clear hW
    have hBF := HB2.out.trans (hbF.mono HB2.out.size)
    obtain ⟨rT, rB1, rE1, rB2, rE2⟩ := H2.out
    have d1 : Doubt WF n1 (n1 + 1) 1 := fun W hW => doubt_m 24 (fun _ _ => by go_simp) _ n1 (n1 + 1) 1 false W ((rB1.after hbF).after hW) ((rE1.after hbF).after hW) ((H.out W (hBF.trans (hW.mono hBF.size))).mono fun e w' ⟨h1, h2⟩ => ⟨h1, by rw [h2]; exact Below.refl _ _⟩)
    have CF := Lib.hid (first_two _ _ _ _ _ 1 0 WF rS d1 (fun h => absurd h (by decide)))
    have HBF := Lib.hid hBF
    clear d1 rS hbF hBF rT rB1 rE1 rB2 rE2 H2 HB2
    refine CF.out.mono ?_
    rintro e W4 ⟨rfl, hb⟩
    have HB4 := Lib.hid (HBF.out.trans (hb.mono HBF.out.size))
    clear hb CF HBF
    go_wp2_with fail
    go_step3
    exact ⟨rfl, trivial, _, _, _, _, _, _, _, _, _, _, _, _, _, _, _, _, _, rfl, HB4.out⟩
  · rintro a W ⟨-, v4, v5, v6, v7, v8, v9, v10, v11, v12, v13, v14, v15, v16, v17, v18, v19, v20, rfl, hb⟩
    have HB := Lib.hid hb
    clear hb
    go_wp2_with fail
    (try simp only [Exit.jump])
    go_ret2
    exact ⟨rfl, HB.out⟩
set_option maxRecDepth 1000000 in
set_option maxHeartbeats 16000000 in
theorem claim_none {w : World} {q : Option Addr} (h : NoAr w q) (x : Int) : Calls Try.prog 12 #[.pointer q, .int .i64 x] w fun e w' => e = .returned (.int .i64 1) ∧ Below w.heap.size w w' := by
  have hmf : ∀ (fn : Fn) (first cap : Array Value) (w : World), (Instr.makeFunc fn first cap).run Try.prog w = .ok (.func fn first cap) w := fun _ _ _ _ => rfl
  have H := Lib.hid h
  clear h
  go_enter Try.func12, Try.ntmps12
  go_wp2_with fail
  generalize hW : World.alloc _ _ = W0
  have rT : Row W0 w.heap.size [.pointer q] := by rw [← hW]; exact (Row.at rfl _ _).alloc _
  have rX : Row W0 (w.heap.size + 1) [.int .i64 x] := by rw [← hW]; exact Row.at (by simp) _ _
  have hB : Below w.heap.size w W0 := by rw [← hW]; exact ((Below.refl w.heap.size w).alloc (Nat.le_refl _) _).alloc (by simp) _
  clear hW
  refine wp_scope_jumps 0 (ClaimJ w (.pointer q) (.int .i64 x) (.pointer (some ⟨w.heap.size, 0, none⟩)) (.pointer (some ⟨w.heap.size + 1, 0, none⟩)) 1 True) (fun _ _ => 0) rfl ?_ ?_
  · have t0 := rT.c 0 rfl
    have HT := Lib.hid (And.intro rT (And.intro rX hB))
    clear rT rX hB
    go_wp2_with fail
    refine (unless_any _ _ _ 1 _).mono ?_
    rintro e W1 ⟨rfl, rB1, rE1, hb⟩
    have HB1 := Lib.hid (HT.out.2.2.trans (hb.mono HT.out.2.2.size))
    have H1 := Lib.hid (And.intro (HT.out.1.after hb) (And.intro (HT.out.2.1.after hb) (And.intro rB1 rE1)))
    generalize W0.heap.size = n1 at *
    clear hb rB1 rE1 t0 HT
    go_wp2_with fail
    refine (unless_any _ _ _ 4 _).mono ?_
    rintro e W2 ⟨rfl, rB2, rE2, hb⟩
    have HB2 := Lib.hid (HB1.out.trans (hb.mono HB1.out.size))
    have H2 := Lib.hid (And.intro (H1.out.1.after hb) (And.intro (H1.out.2.1.after hb) (And.intro (H1.out.2.2.1.after hb) (And.intro (H1.out.2.2.2.after hb) (And.intro rB2 rE2)))))
    generalize W1.heap.size = n2 at *
    clear hb rB2 rE2 H1 HB1
    go_wp2_with fail
    refine (unless_any _ _ _ 210 _).mono ?_
    rintro e W3 ⟨rfl, rB3, rE3, hb⟩
    have HB3 := Lib.hid (HB2.out.trans (hb.mono HB2.out.size))
    have H3 := Lib.hid (And.intro (H2.out.1.after hb) (And.intro (H2.out.2.1.after hb) (And.intro (H2.out.2.2.1.after hb) (And.intro (H2.out.2.2.2.1.after hb) (And.intro (H2.out.2.2.2.2.1.after hb) (And.intro (H2.out.2.2.2.2.2.after hb) (And.intro rB3 rE3)))))))
    generalize W2.heap.size = n3 at *
    clear hb rB3 rE3 H2 HB2
    go_wp2_with fail
    generalize hW : World.alloc _ _ = WF
    have hbF : Below W3.heap.size W3 WF := by rw [← hW]; exact (Below.refl _ _).alloc (Nat.le_refl _) _
    have rS : Row WF W3.heap.size [dbtV n1 (n1 + 1), dbtV n2 (n2 + 1), dbtV n3 (n3 + 1)] := by rw [← hW]; exact Row.at rfl _ _
    clear hW
    have hBF := HB3.out.trans (hbF.mono HB3.out.size)
    obtain ⟨rT, rX, rB1, rE1, rB2, rE2, rB3, rE3⟩ := H3.out
    have d1 : Doubt WF n1 (n1 + 1) 1 := fun W hW => doubt_m 24 (fun _ _ => by go_simp) _ n1 (n1 + 1) 1 false W ((rB1.after hbF).after hW) ((rE1.after hbF).after hW) ((H.out W (hBF.trans (hW.mono hBF.size))).mono fun e w' ⟨h1, h2⟩ => ⟨h1, by rw [h2]; exact Below.refl _ _⟩)
    have CF := Lib.hid (first_three _ _ _ _ _ _ _ 1 0 0 WF rS d1 (fun h => absurd h (by decide)) (fun h => absurd h (by decide)))
    have HBF := Lib.hid hBF
    clear d1 rS hbF hBF rT rX rB1 rE1 rB2 rE2 rB3 rE3 H3 HB3
    refine CF.out.mono ?_
    rintro e W4 ⟨rfl, hb⟩
    have HB4 := Lib.hid (HBF.out.trans (hb.mono HBF.out.size))
    clear hb CF HBF
    go_wp2_with fail
    go_step3
    exact ⟨rfl, trivial, _, _, _, _, _, _, _, _, _, _, _, _, _, _, _, _, _, _, _, rfl, HB4.out⟩
  · rintro a W ⟨-, v6, v7, v8, v9, v10, v11, v12, v13, v14, v15, v16, v17, v18, v19, v20, v21, v22, v23, v24, rfl, hb⟩
    have HB := Lib.hid hb
    clear hb
    go_wp2_with fail
    (try simp only [Exit.jump])
    go_ret
    exact ⟨rfl, HB.out⟩
set_option maxRecDepth 1000000 in
set_option maxHeartbeats 16000000 in
theorem give_none {w : World} {q : Option Addr} (h : NoAr w q) (x : Int) : Calls Try.prog 13 #[.pointer q, .int .i64 x] w fun e w' => e = .returned (.int .i64 1) ∧ Below w.heap.size w w' := by
  have hmf : ∀ (fn : Fn) (first cap : Array Value) (w : World), (Instr.makeFunc fn first cap).run Try.prog w = .ok (.func fn first cap) w := fun _ _ _ _ => rfl
  have H := Lib.hid h
  clear h
  go_enter Try.func13, Try.ntmps13
  go_wp2_with fail
  generalize hW : World.alloc _ _ = W0
  have rT : Row W0 w.heap.size [.pointer q] := by rw [← hW]; exact (Row.at rfl _ _).alloc _
  have rX : Row W0 (w.heap.size + 1) [.int .i64 x] := by rw [← hW]; exact Row.at (by simp) _ _
  have hB : Below w.heap.size w W0 := by rw [← hW]; exact ((Below.refl w.heap.size w).alloc (Nat.le_refl _) _).alloc (by simp) _
  clear hW
  refine wp_scope_jumps 0 (GiveJ w (.pointer q) (.int .i64 x) (.pointer (some ⟨w.heap.size, 0, none⟩)) (.pointer (some ⟨w.heap.size + 1, 0, none⟩)) 1 True) (fun _ _ => 0) rfl ?_ ?_
  · have t0 := rT.c 0 rfl
    have HT := Lib.hid (And.intro rT (And.intro rX hB))
    clear rT rX hB
    go_wp2_with fail
    refine (unless_any _ _ _ 1 _).mono ?_
    rintro e W1 ⟨rfl, rB1, rE1, hb⟩
    have HB1 := Lib.hid (HT.out.2.2.trans (hb.mono HT.out.2.2.size))
    have H1 := Lib.hid (And.intro (HT.out.1.after hb) (And.intro (HT.out.2.1.after hb) (And.intro rB1 rE1)))
    generalize W0.heap.size = n1 at *
    clear hb rB1 rE1 t0 HT
    go_wp2_with fail
    refine (unless_any _ _ _ 4 _).mono ?_
    rintro e W2 ⟨rfl, rB2, rE2, hb⟩
    have HB2 := Lib.hid (HB1.out.trans (hb.mono HB1.out.size))
    have H2 := Lib.hid (And.intro (H1.out.1.after hb) (And.intro (H1.out.2.1.after hb) (And.intro (H1.out.2.2.1.after hb) (And.intro (H1.out.2.2.2.after hb) (And.intro rB2 rE2)))))
    generalize W1.heap.size = n2 at *
    clear hb rB2 rE2 H1 HB1
    go_wp2_with fail
    refine (unless_any _ _ _ 5 _).mono ?_
    rintro e W3 ⟨rfl, rB3, rE3, hb⟩
    have HB3 := Lib.hid (HB2.out.trans (hb.mono HB2.out.size))
    have H3 := Lib.hid (And.intro (H2.out.1.after hb) (And.intro (H2.out.2.1.after hb) (And.intro (H2.out.2.2.1.after hb) (And.intro (H2.out.2.2.2.1.after hb) (And.intro (H2.out.2.2.2.2.1.after hb) (And.intro (H2.out.2.2.2.2.2.after hb) (And.intro rB3 rE3)))))))
    generalize W2.heap.size = n3 at *
    clear hb rB3 rE3 H2 HB2
    go_wp2_with fail
    generalize hW : World.alloc _ _ = WF
    have hbF : Below W3.heap.size W3 WF := by rw [← hW]; exact (Below.refl _ _).alloc (Nat.le_refl _) _
    have rS : Row WF W3.heap.size [dbtV n1 (n1 + 1), dbtV n2 (n2 + 1), dbtV n3 (n3 + 1)] := by rw [← hW]; exact Row.at rfl _ _
    clear hW
    have hBF := HB3.out.trans (hbF.mono HB3.out.size)
    obtain ⟨rT, rX, rB1, rE1, rB2, rE2, rB3, rE3⟩ := H3.out
    have d1 : Doubt WF n1 (n1 + 1) 1 := fun W hW => doubt_m 24 (fun _ _ => by go_simp) _ n1 (n1 + 1) 1 false W ((rB1.after hbF).after hW) ((rE1.after hbF).after hW) ((H.out W (hBF.trans (hW.mono hBF.size))).mono fun e w' ⟨h1, h2⟩ => ⟨h1, by rw [h2]; exact Below.refl _ _⟩)
    have CF := Lib.hid (first_three _ _ _ _ _ _ _ 1 0 0 WF rS d1 (fun h => absurd h (by decide)) (fun h => absurd h (by decide)))
    have HBF := Lib.hid hBF
    clear d1 rS hbF hBF rT rX rB1 rE1 rB2 rE2 rB3 rE3 H3 HB3
    refine CF.out.mono ?_
    rintro e W4 ⟨rfl, hb⟩
    have HB4 := Lib.hid (HBF.out.trans (hb.mono HBF.out.size))
    clear hb CF HBF
    go_wp2_with fail
    go_step3
    exact ⟨rfl, trivial, _, _, _, _, _, _, _, _, _, _, _, _, _, _, _, rfl, HB4.out⟩
  · rintro a W ⟨-, v6, v7, v8, v9, v10, v11, v12, v13, v14, v15, v16, v17, v18, v19, v20, rfl, hb⟩
    have HB := Lib.hid hb
    clear hb
    go_wp2_with fail
    (try simp only [Exit.jump])
    go_ret
    exact ⟨rfl, HB.out⟩
end Go.Proofs.Ytncgjlhmgdgokaa
