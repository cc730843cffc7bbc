/- Doubts: unless, and the first one that tells anything; no condition. -/
import Derived.Test.YtncgjlhmgdgokaaAJ
namespace Go.Proofs.Ytncgjlhmgdgokaa
open Go.RowKit Go.Sort ArenaMath Go.Maps

/-- A doubt's value. -/
abbrev dbtV (B E : Nat) : Value := .func (.func 45) #[] #[.pointer (some ⟨B, 0, none⟩), .pointer (some ⟨E, 0, none⟩)]
set_option maxRecDepth 100000 in
theorem unless_any (fn : Fn) (fs cs : Array Value) (e : Int) (w : World) :
    Calls Try.prog 23 #[.func fn fs cs, .int .i64 e] w fun en w' => en = .returned (dbtV w.heap.size (w.heap.size + 1)) ∧ Row w' w.heap.size [.func fn fs cs] ∧ Row w' (w.heap.size + 1) [.int .i64 e] ∧ Below w.heap.size w w' := by
  have hmf : ∀ (fn : Fn) (first cap : Array Value) (w : World), (Instr.makeFunc fn first cap).run Try.prog w = .ok (.func fn first cap) w := fun _ _ _ _ => rfl
  have HP := Lib.hid (fun o1 o2 => ((Below.refl w.heap.size w).alloc (Nat.le_refl _) o1).alloc (by simp) o2)
  have HR := Lib.hid (fun o => (Row.at (w := w) rfl [.func fn fs cs] 23).alloc o)
  have HE := Lib.hid (fun o => Row.at (w := w.alloc o) (n := w.heap.size + 1) (by simp) [.int .i64 e] 25)
  go_enter Try.func23, Try.ntmps23
  go_wp2
  go_ret
  exact ⟨rfl, HR.out _, HE.out _, HP.out _ _⟩
set_option maxRecDepth 100000 in
/-- A doubt over a method's value. -/
theorem doubt_m (F : FuncId) (eF : ∀ (args : Array Value) (w : World), (callFunc F args).run Try.prog w = .ok (.enter F args) w) (x : Value) (B E : Nat) (e : Int) (r : Bool) (w : World) (hB : Row w B [.func (.func F) #[x] #[]]) (hE : Row w E [.int .i64 e])
    (h : Calls Try.prog F #[x] w fun en w' => en = .returned (.bool r) ∧ Below w.heap.size w w') :
    Calls Try.prog 45 #[.pointer (some ⟨B, 0, none⟩), .pointer (some ⟨E, 0, none⟩)] w fun en w' => en = .returned (.int .i64 (if r = true then 0 else e)) ∧ Below w.heap.size w w' := by
  have h0 := hB.c 0 rfl
  have HE := Lib.hid hE
  have HH := Lib.hid h
  clear hB hE h
  go_enter Try.func45, Try.ntmps45
  go_wp2_with fail
  refine HH.out.mono ?_
  rintro en w1 ⟨rfl, hb⟩
  have h1 := (HE.out.after hb).c 0 rfl
  have HB := Lib.hid hb
  clear hb
  cases r
  · go_wp2_with fail
    go_ret
    exact ⟨rfl, HB.out⟩
  · go_wp2_with fail
    go_ret
    exact ⟨rfl, HB.out⟩
set_option maxRecDepth 100000 in
/-- A doubt over a closure. -/
theorem doubt_c (F : FuncId) (eF : ∀ (args : Array Value) (w : World), (callFunc F args).run Try.prog w = .ok (.enter F args) w) (cs : Array Value) (B E : Nat) (e : Int) (r : Bool) (w : World) (hB : Row w B [.func (.func F) #[] cs]) (hE : Row w E [.int .i64 e])
    (h : Calls Try.prog F cs w fun en w' => en = .returned (.bool r) ∧ Below w.heap.size w w') :
    Calls Try.prog 45 #[.pointer (some ⟨B, 0, none⟩), .pointer (some ⟨E, 0, none⟩)] w fun en w' => en = .returned (.int .i64 (if r = true then 0 else e)) ∧ Below w.heap.size w w' := by
  have h0 := hB.c 0 rfl
  have HE := Lib.hid hE
  have HH := Lib.hid h
  clear hB hE h
  go_enter Try.func45, Try.ntmps45
  go_wp2_with fail
  refine HH.out.mono ?_
  rintro en w1 ⟨rfl, hb⟩
  have h1 := (HE.out.after hb).c 0 rfl
  have HB := Lib.hid hb
  clear hb
  cases r
  · go_wp2_with fail
    go_ret
    exact ⟨rfl, HB.out⟩
  · go_wp2_with fail
    go_ret
    exact ⟨rfl, HB.out⟩
/-- What a doubt tells, whenever it is asked. -/
def Doubt (w : World) (B E : Nat) (e : Int) : Prop := ∀ W, Below w.heap.size w W → Calls Try.prog 45 #[.pointer (some ⟨B, 0, none⟩), .pointer (some ⟨E, 0, none⟩)] W fun en w' => en = .returned (.int .i64 e) ∧ Below W.heap.size W w'
set_option maxRecDepth 100000 in
theorem first_two (S B1 E1 B2 E2 : Nat) (e1 e2 : Int) (w : World) (hS : Row w S [dbtV B1 E1, dbtV B2 E2]) (h1 : Doubt w B1 E1 e1) (h2 : e1 = 0 → Doubt w B2 E2 e2) :
    Calls Try.prog 22 #[.slice (some ⟨S, 0, none⟩) 2 2] w fun en w' => en = .returned (.int .i64 (if e1 = 0 then e2 else e1)) ∧ Below w.heap.size w w' := by
  have eF : ∀ (args : Array Value) (w : World), (callFunc 45 args).run Try.prog w = .ok (.enter 45 args) w := fun _ _ => by go_simp
  have HS := Lib.hid hS
  have H1 := Lib.hid h1
  have H2 := Lib.hid h2
  have s0 := hS.c 0 rfl
  clear hS h1 h2
  by_cases z1 : e1 = 0
  · subst z1
    rw [if_pos rfl]
    have D2 := Lib.hid (H2.out rfl)
    clear H2
    go_enter Try.func22, Try.ntmps22
    go_wp2_with fail
    refine wp_loop_rounds 3 ?_
    rw [rounds_succ]
    go_wp2_with fail
    refine (H1.out _ (Below.refl _ _)).mono ?_
    rintro en w1 ⟨rfl, hb⟩
    have s1 := (HS.out.after hb).c 1 rfl
    have HB := Lib.hid hb
    clear hb s0
    go_wp2_with fail
    rw [rounds_succ]
    go_wp2_with fail
    refine (D2.out _ HB.out).mono ?_
    rintro en w2 ⟨rfl, hb⟩
    have HB2 := Lib.hid (HB.out.trans (hb.mono HB.out.size))
    clear hb HB
    by_cases z2 : e2 = 0
    · subst z2
      go_wp2_with fail
      rw [rounds_succ]
      go_wp2_with fail
      go_ret
      exact ⟨rfl, HB2.out⟩
    · have z2' : (e2 == 0) = false := by simpa using z2
      clear z2
      go_wp2_with fail
      go_ret
      exact ⟨rfl, HB2.out⟩
  · rw [if_neg z1]
    have z1' : (e1 == 0) = false := by simpa using z1
    clear H2 z1
    go_enter Try.func22, Try.ntmps22
    go_wp2_with fail
    refine wp_loop_rounds 3 ?_
    rw [rounds_succ]
    go_wp2_with fail
    refine (H1.out _ (Below.refl _ _)).mono ?_
    rintro en w1 ⟨rfl, hb⟩
    have HB := Lib.hid hb
    clear hb s0
    go_wp2_with fail
    go_ret
    exact ⟨rfl, HB.out⟩
set_option maxRecDepth 100000 in
theorem first_three (S B1 E1 B2 E2 B3 E3 : Nat) (e1 e2 e3 : Int) (w : World) (hS : Row w S [dbtV B1 E1, dbtV B2 E2, dbtV B3 E3]) (h1 : Doubt w B1 E1 e1) (h2 : e1 = 0 → Doubt w B2 E2 e2) (h3 : e1 = 0 → e2 = 0 → Doubt w B3 E3 e3) :
    Calls Try.prog 22 #[.slice (some ⟨S, 0, none⟩) 3 3] w fun en w' => en = .returned (.int .i64 (if e1 = 0 then (if e2 = 0 then e3 else e2) else e1)) ∧ Below w.heap.size w w' := by
  have eF : ∀ (args : Array Value) (w : World), (callFunc 45 args).run Try.prog w = .ok (.enter 45 args) w := fun _ _ => by go_simp
  have HS := Lib.hid hS
  have H1 := Lib.hid h1
  have H2 := Lib.hid h2
  have H3 := Lib.hid h3
  have s0 := hS.c 0 rfl
  clear hS h1 h2 h3
  by_cases z1 : e1 = 0
  · subst z1
    rw [if_pos rfl]
    obtain ⟨v, hv⟩ : ∃ v, (if e2 = 0 then e3 else e2) = v := ⟨_, rfl⟩
    rw [hv]
    have HV := Lib.hid hv
    clear hv
    have D2 := Lib.hid (H2.out rfl)
    have D3 := Lib.hid (H3.out rfl)
    clear H2 H3
    go_enter Try.func22, Try.ntmps22
    go_wp2_with fail
    refine wp_loop_rounds 4 ?_
    rw [rounds_succ]
    go_wp2_with fail
    refine (H1.out _ (Below.refl _ _)).mono ?_
    rintro en w1 ⟨rfl, hb⟩
    have s1 := (HS.out.after hb).c 1 rfl
    have HB := Lib.hid hb
    clear hb s0
    go_wp2_with fail
    rw [rounds_succ]
    go_wp2_with fail
    refine (D2.out _ HB.out).mono ?_
    rintro en w2 ⟨rfl, hb⟩
    have HB2 := Lib.hid (HB.out.trans (hb.mono HB.out.size))
    clear hb HB s1
    by_cases z2 : e2 = 0
    · subst z2
      obtain rfl : e3 = v := by have := HV.out; rwa [if_pos rfl] at this
      have E3 := Lib.hid (D3.out rfl)
      have s2 := (HS.out.after HB2.out).c 2 rfl
      clear D3
      go_wp2_with fail
      rw [rounds_succ]
      go_wp2_with fail
      refine (E3.out _ HB2.out).mono ?_
      rintro en w3 ⟨rfl, hb⟩
      have HB3 := Lib.hid (HB2.out.trans (hb.mono HB2.out.size))
      clear hb HB2 s2
      by_cases z3 : e3 = 0
      · subst z3
        go_wp2_with fail
        rw [rounds_succ]
        go_wp2_with fail
        go_ret
        exact ⟨rfl, HB3.out⟩
      · have z3' : (e3 == 0) = false := by simpa using z3
        clear z3
        go_wp2_with fail
        go_ret
        exact ⟨rfl, HB3.out⟩
    · obtain rfl : e2 = v := by have := HV.out; rwa [if_neg z2] at this
      have z2' : (e2 == 0) = false := by simpa using z2
      clear z2 D3
      go_wp2_with fail
      go_ret
      exact ⟨rfl, HB2.out⟩
  · rw [if_neg z1]
    have z1' : (e1 == 0) = false := by simpa using z1
    clear H2 H3 z1
    go_enter Try.func22, Try.ntmps22
    go_wp2_with fail
    refine wp_loop_rounds 4 ?_
    rw [rounds_succ]
    go_wp2_with fail
    refine (H1.out _ (Below.refl _ _)).mono ?_
    rintro en w1 ⟨rfl, hb⟩
    have HB := Lib.hid hb
    clear hb s0
    go_wp2_with fail
    go_ret
    exact ⟨rfl, HB.out⟩
end Go.Proofs.Ytncgjlhmgdgokaa
