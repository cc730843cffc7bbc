/- A range over a function, where who goes over the elements may gather into blocks of its own: contract and law. The iterator may write one block that it names, and make new ones; it names what a round must keep. A range over a function, a round of which may give up by panic: contract and law. A range over a function in a function that is there: walked at its frames alone; a round may give up by panic. A range over a function whose rounds may give up by panic: the law, for who may gather into blocks of its own. -/
import Derived.Test.YtjhcddlhhfjnaaaGreatDoorPA
import Derived.Laws.AppendOwn
import Derived.RangeFuncLeaves
import Derived.RangeFuncNested
namespace Go.Proofs.YtjhcddlhhfjnaaaGreatDoor
open Go.RowKit

/-- What is known stays if blocks are made, and one block is written. -/
def Steady {β : Type} (r : Option Nat) (J : β → World → Prop) : Prop := ∀ s X Y, J s X → X.grownBy Y r → J s Y
theorem grown_of {X Y : World} (r : Option Nat) (h : Below X.heap.size X Y) : X.grownBy Y r := ⟨h.os, h.tape, h.output, h.size, fun k hk _ => h.block k hk⟩
/-- The contract of an iterator that goes over the list T and may be left behind any of its elements. -/
def SeqV {α : Type} (F : Fence) (n : Nat) (P : Program) (g : Nat) (lb : Array Value) (encs : α → Array Value) (r : Option Nat) (Kp : World → World → Prop) (T : List α) (w : World) : Prop :=
  ∀ (l : Nat) (J Jx : List α → World → Prop) (W : World), Below w.heap.size w W → Steady r J → Steady r Jx →
    (∀ pre x V, J pre V → W.heap.size ≤ V.heap.size → (pre ++ [x]) <+: T → YieldAt F (n - 1) P l (encs x) V fun e V' =>
      ∃ b : Bool, e = .returned (.bool b) ∧ Kp V V' ∧ (if b then J (pre ++ [x]) V' else Jx (pre ++ [x]) V')) →
    J [] W →
    CallsIn F n P g (#[.func (.yield l) #[] #[]] ++ lb) W fun e V => (∃ v, e = .returned v) ∧ (J T V ∨ ∃ pre, pre <+: T ∧ Jx pre V)

/-- How a round's body may be left. -/
def vPost {α : Type} (B : Nat) (Kp : World → World → Prop) (I : List α → World → Prop) (Ix : Code → List α → World → Prop) (xs : List α) (W : World) : Exit → Act → World → Prop
  | .normal, _, V => KeepsFrom B W V ∧ Kp W V ∧ I xs V
  | .ret, _, V => KeepsFrom B W V ∧ Kp W V ∧ Ix .ret xs V
  | .exit id, _, V => KeepsFrom B W V ∧ Kp W V ∧ Ix (.exit id) xs V
  | .goto t, _, V => KeepsFrom B W V ∧ Kp W V ∧ Ix (.goto t) xs V
  | .panic _, _, _ => False
  | .outgrown, _, _ => False

variable {F : Fence} {n : Nat} {P : Program}

/-- The statement itself, at an outermost loop. -/
theorem wpIn_range_v {α : Type} {g : Operand} {ps : Array Tmp} {assign body : Code} {Q : Exit → Act → World → Prop} {a : Act} {w : World}
    (hro : F.round = none) (h1 : 1 ≤ n) {gf : Nat} {lb : Array Value} (hg : a.eval g = .func (.func gf) #[] lb) (hFg : F.fn gf) (eg : ∀ args w, (callFunc gf args).run P w = .ok (.enter gf args) w)
    {encs : α → Array Value} {r : Option Nat} {Kp : World → World → Prop} {T : List α} {w0 : World} (hseq : SeqV F (n - 1) P gf lb encs r Kp T w0) (hr : ∀ b, r = some b → b < w.heap.size)
    (hKt : ∀ {X Y Z : World}, Kp X Y → Kp Y Z → Kp X Z) (hKo : ∀ (l : Nat) (W : World) (o o' : Obj), w.heap.size ≤ l → W.heap[l]? = some o → o.isCells = false → Kp W (W.putObj l o'))
    (hKb : ∀ (X Y : World), Below X.heap.size X Y → Kp X Y)
    (hb0 : Below w0.heap.size w0 w) (hps : ∀ x, (encs x).size = ps.size)
    (I : List α → World → Prop) (Ix : Code → List α → World → Prop) (hI : Steady r I) (hIx : ∀ c, Steady r (Ix c)) (hIo : ∀ pre (W : World) (l : Nat) (o o' : Obj), w.heap.size ≤ l → W.heap[l]? = some o → o.isCells = false → I pre W → I pre (W.putObj l o'))
    (hIxo : ∀ c pre (W : World) (l : Nat) (o o' : Obj), w.heap.size ≤ l → W.heap[l]? = some o → o.isCells = false → Ix c pre W → Ix c pre (W.putObj l o')) (h0 : I [] w)
    (Ax : α → Act → World → Prop) (hAx : ∀ x a' (W : World) l o, w.heap.size ≤ l → l < w.heap.size + 2 → Ax x a' W → Ax x a' (W.putObj l o))
    (hassign : ∀ (l : Nat) (pre : List α) (x : α) (W : World) (K : Act → World → Prop), I pre W → w.heap.size + 2 ≤ W.heap.size → (∀ a' W', Below W.heap.size W W' → Ax x a' W' → K a' W') →
      assign.wpIn (F.inRound l) (n - 1 - 1) P (Exit.then K (fun _ _ _ => False)) { tmps := (ps.zip (encs x)).foldl (fun t (p, v) => t.setIfInBounds p v) a.tmps, defers := [] } W)
    (hbody : ∀ (l : Nat) (pre : List α) (x : α) (a' : Act) (W : World), I pre W → w.heap.size + 2 ≤ W.heap.size → (pre ++ [x]) <+: T → Ax x a' W → body.wpIn (F.inRound l) (n - 1 - 1) P (vPost w.heap.size Kp I Ix (pre ++ [x]) W) a' W)
    (hdone : ∀ (D : Nat) (W : World), w.heap.size ≤ D → I T W → W.heap[D]? = some (.deferred (some [])) → Q .normal { a with defers := { target := .collected D, args := #[] } :: a.defers } W)
    (hstop : ∀ (D : Nat) (c : Code) (pre : List α) (W : World), w.heap.size ≤ D → pre <+: T → Ix c pre W → W.heap[D]? = some (.deferred (some [])) → c.wpIn F n P Q { a with defers := { target := .collected D, args := #[] } :: a.defers } W) :
    (Code.rangeFunc g ps assign body).wpIn F n P Q a w := by
  refine wpIn_rangeFunc fun fn hfn => ?_
  rw [hro]
  generalize hs : w.heap.size = s at *
  obtain ⟨R, hR⟩ : ∃ R : LoopState → Option Code → Loop, R = fun st pe => { state := st, pending := pe, fn, tmps := a.tmps, params := ps, assign, body, defers := s } := ⟨_, rfl⟩
  obtain ⟨V, hV⟩ : ∃ V, V = (w.alloc (.deferred (some []))).alloc (.loop (R .ready none)) := ⟨_, rfl⟩
  have hVs : V.heap.size = s + 2 := by rw [hV]; simp [hs]
  have hBV : Below s w V := by rw [hV]; exact ((Below.refl s w).alloc (by omega) _).alloc (by simp [hs]) _
  have hL : V.heap[s + 1]? = some (.loop (R .ready none)) := by
    have := World.alloc_heap_new (w.alloc (.deferred (some []))) (.loop (R .ready none))
    rw [World.size_alloc, hs] at this
    rw [hV]; exact this
  have hD : V.heap[s]? = some (.deferred (some [])) := by
    have := World.alloc_heap_new w (.deferred (some []))
    rw [hs] at this
    rw [hV]; exact (Below.heap_alloc _ _ _ (by simp [hs])).trans this
  refine ⟨s + 1, [{ target := .collected s, args := #[] }], V, { target := .fn (.func gf) lb, args := #[.func (.yield (s + 1)) #[] #[]] }, V, gf, #[.func (.yield (s + 1)) #[] #[]] ++ lb, V, ?_, ?_, ?_, ?_, fun _ => h1, ?_⟩
  · have := run_enterLoop_outer (P := P) (w := w) fn a.tmps ps assign body
    rw [hs] at this
    rw [this, hV, hR]
  · simp only [resolve, hg]
    simp [go_sem]
  · intro f' hf'
    simp [Target.leads] at hf'
    subst hf'
    exact hFg
  · simp [invoke, go_sem, eg]
  have hbk : ∀ {X Y : World} {o o' : Obj}, Below (s + 2) X Y → X.heap[s + 1]? = some o → X.heap[s]? = some o' → Y.heap[s + 1]? = some o ∧ Y.heap[s]? = some o' :=
    fun hb h h' => ⟨(hb.block _ (by omega)).trans h, (hb.block _ (by omega)).trans h'⟩
  have hgk : ∀ {X Y : World} {o o' : Obj}, X.grownBy Y r → X.heap[s + 1]? = some o → X.heap[s]? = some o' → Y.heap[s + 1]? = some o ∧ Y.heap[s]? = some o' :=
    fun hb h h' => ⟨(hb.block _ (Array.getElem?_eq_some_iff.1 h).1 (fun e => by have := hr _ e.symm; omega)).trans h, (hb.block _ (Array.getElem?_eq_some_iff.1 h').1 (fun e => by have := hr _ e.symm; omega)).trans h'⟩
  refine (hseq (s + 1) (fun pre W => I pre W ∧ W.heap[s + 1]? = some (.loop (R .ready none)) ∧ W.heap[s]? = some (.deferred (some [])))
    (fun pre W => ∃ c, Ix c pre W ∧ W.heap[s + 1]? = some (.loop (R .done (some c))) ∧ W.heap[s]? = some (.deferred (some []))) V (hb0.trans (hBV.mono (by have := hb0.size; omega)))
    (fun pre X Y h hb => ⟨hI pre X Y h.1 hb, hgk hb h.2.1 h.2.2⟩)
    (fun pre X Y h hb => by
      obtain ⟨c, hc, hl, hd⟩ := h
      exact ⟨c, hIx c pre X Y hc hb, hgk hb hl hd⟩)
    ?_ ⟨hI _ _ _ h0 (grown_of r (by rw [hs]; exact hBV)), hL, hD⟩).mono ?_
  · rintro pre x W ⟨hi, hl, hd⟩ hW hp
    rw [hVs] at hW
    have hy := run_yield (P := P) (args := encs x) hl (by rw [hR]; exact hps x)
    rw [hR] at hy
    refine ⟨fn, _, assign, body, hy, roundIn_of_wpIn hfn (hassign _ pre x W _ hi hW fun a' W' hb hax => ?_)⟩
    clear hy
    have hW' : s + 2 ≤ W'.heap.size := Nat.le_trans hW hb.size
    obtain ⟨hl', hd'⟩ := hbk (hb.mono hW) hl hd
    have hi' := hI _ _ _ hi (grown_of r hb)
    have hK1 : Kp W W' := hKb _ _ hb
    have hK2 : Kp W' (W'.putObj (s + 1) (.loop { R .ready none with state := .busy })) := hKo _ _ _ _ (by omega) hl' rfl
    have hl2 : (W'.putObj (s + 1) (.loop { R .ready none with state := .busy })).heap[s + 1]? = some (.loop { R .ready none with state := .busy }) := World.putObj_heap_same (by omega)
    have hd2 : (W'.putObj (s + 1) (.loop { R .ready none with state := .busy })).heap[s]? = some (.deferred (some [])) := (World.putObj_heap_other (by omega)).trans hd'
    have hi2 := hIo _ _ (s + 1) _ (.loop { R .ready none with state := .busy }) (by omega) hl' rfl hi' 
    have hax2 := hAx _ _ _ (s + 1) (.loop { R .ready none with state := .busy }) (by omega) (by omega) hax
    refine ⟨_, run_beginRound hl' (by rw [hR]), wpIn_mono (hbody _ pre x a' _ hi2 (by simpa [World.putObj] using hW') hp hax2) ?_⟩
    have fin : ∀ (j : Option Code) (Z : World), KeepsFrom s (W'.putObj (s + 1) (.loop { R .ready none with state := .busy })) Z → Kp (W'.putObj (s + 1) (.loop { R .ready none with state := .busy })) Z →
        ∃ Y, (Instr.endRound (s + 1) j).run P Z = .ok (.bool j.isNone) Y ∧ Kp W Y ∧ (∀ pre, I pre Z → I pre Y) ∧ (∀ c pre, Ix c pre Z → Ix c pre Y) ∧ Y.heap[s + 1]? = some (.loop (R (if j.isNone then .ready else .done) j)) ∧ Y.heap[s]? = some (.deferred (some [])) := fun j Z hk hkp => by
      have hlZ := hk.same _ _ (by omega) hl2 rfl
      have hdZ := hk.same _ _ (by omega) hd2 rfl
      have hrun := run_endRound (P := P) j hlZ
      refine ⟨_, hrun, hKt (hKt (hKt hK1 hK2) hkp) (hKo _ _ _ _ (by omega) hlZ rfl), fun pre h => hIo pre Z _ _ _ (by omega) hlZ rfl h, fun c pre h => hIxo c pre Z _ _ _ (by omega) hlZ rfl h, ?_, (World.putObj_heap_other (by omega)).trans hdZ⟩
      rw [World.putObj_heap_same (Array.getElem?_eq_some_iff.1 hlZ).1, hR]
    rintro e a3 Z hp
    cases e with
    | normal =>
      obtain ⟨hk, hkp, hi3⟩ := hp
      obtain ⟨Y, hr', hK, hB1, hB2, hl4, hd4⟩ := fin none Z hk hkp
      exact ⟨_, Y, hr', true, rfl, hK, hB1 _ hi3, hl4, hd4⟩
    | ret =>
      obtain ⟨hk, hkp, hi3⟩ := hp
      obtain ⟨Y, hr', hK, hB1, hB2, hl4, hd4⟩ := fin (some .ret) Z hk hkp
      exact ⟨_, Y, hr', false, rfl, hK, .ret, hB2 _ _ hi3, hl4, hd4⟩
    | exit id =>
      obtain ⟨hk, hkp, hi3⟩ := hp
      obtain ⟨Y, hr', hK, hB1, hB2, hl4, hd4⟩ := fin (some (.exit id)) Z hk hkp
      exact ⟨_, Y, hr', false, rfl, hK, .exit id, hB2 _ _ hi3, hl4, hd4⟩
    | goto t =>
      obtain ⟨hk, hkp, hi3⟩ := hp
      obtain ⟨Y, hr', hK, hB1, hB2, hl4, hd4⟩ := fin (some (.goto t)) Z hk hkp
      exact ⟨_, Y, hr', false, rfl, hK, .goto t, hB2 _ _ hi3, hl4, hd4⟩
    | panic ch => exact hp.elim
    | outgrown => exact hp.elim
  · rintro e Z ⟨⟨v, rfl⟩, (⟨hi, hl, hd⟩ | ⟨pre, hp, c, hi, hl, hd⟩)⟩
    · have hrun := run_endLoop (P := P) hl (by rw [hR]; simp)
      rw [show (R .ready none).pending = none by rw [hR]] at hrun
      exact ⟨none, _, hrun, hdone s _ (Nat.le_refl _) (hIo _ _ _ _ _ (by omega) hl rfl hi) ((World.putObj_heap_other (by omega)).trans hd)⟩
    · have hrun := run_endLoop (P := P) hl (by rw [hR]; simp)
      rw [show (R .done (some c)).pending = some c by rw [hR]] at hrun
      exact ⟨some c, _, hrun, hstop s c pre _ (Nat.le_refl _) hp (hIxo c _ _ _ _ _ (by omega) hl rfl hi) ((World.putObj_heap_other (by omega)).trans hd)⟩
end Go.Proofs.YtjhcddlhhfjnaaaGreatDoor
namespace Go.Proofs.YtjhcddlhhfjnaaaGreatDoor
open Go.RowKit

/-- How a round ends that gives up. -/
def gavePost (R : Ending → World → Prop) : Exit → Act → World → Prop
  | .panic ch, a, w => a.defers = [] ∧ R (.panicked ch) w
  | _, _, _ => False
/-- A round that gives up, out of its body's walk. -/
theorem round_gives {n : Nat} {P : Program} {l : Nat} {f : FuncId} {tmps : Array Value} {assign body : Code} {w : World} {R : Ending → World → Prop} (hfn : ∃ fn, P.funcs[f]? = some fn)
    (h : assign.wpIn (Fence.wide.inRound l) n P (Exit.then (fun a₁ w₁ => ∃ w₂, (Instr.beginRound l).run P w₁ = .ok () w₂ ∧ body.wpIn (Fence.wide.inRound l) n P (gavePost R) a₁ w₂) (fun _ _ _ => False)) { tmps := tmps, defers := [] } w) :
    RoundIn Fence.wide n P l f tmps assign body w R := by
  refine ⟨trivial, fun c cs hr => ?_⟩
  obtain ⟨b, hb⟩ : ∃ b : Frame, b = { (default : Frame) with fn := f, kind := .normal, roundOf := some l } := ⟨_, rfl⟩
  have e0 : Frame.round l f tmps assign body .normal = b.atR { tmps := tmps, defers := [] } [.code assign, .beginRound, .code body] := by simp [Frame.round, Frame.atR, hb]
  have hro : b.roundOf = (Fence.wide.inRound l).round := by rw [hb]; rfl
  have hroom : (Fence.wide.inRound l).room ((c :: cs).length + 1 + n) := hr
  obtain ⟨x, a1, w1, hq, harr⟩ := h b [.beginRound, .code body] (c :: cs) hro trivial hroom
  rw [← e0] at harr
  cases x with
  | normal =>
    obtain ⟨w2, hbr, hbody⟩ := hq
    obtain ⟨y, a2, w3, hq2, harr2⟩ := hbody b [] (c :: cs) hro trivial hroom
    cases y with
    | panic ch =>
      obtain ⟨hd, hR⟩ := hq2
      obtain ⟨todo, hs⟩ := harr2
      refine ⟨.panicked ch, w3, hR, ?_⟩
      have s1 := StepsIn.steps harr
      have s3 := StepsIn.steps hs
      have s2 : Steps P (lone (b.atR a1 [.beginRound, .code body]) (c :: cs) w1) (lone (b.atR a1 [.code body]) (c :: cs) w2) := .one (stepR_beginRound (by rw [hb]) hbr)
      obtain ⟨fn, hfn⟩ := hfn
      have s4 : Steps P (lone { b.atR a2 todo with mode := .panicking ch } (c :: cs) w3) (lone (c.raise ch) cs w3) := .one (step_leave_panicked ⟨rfl, by simpa [Frame.atR] using hd, fn, by rw [hb]; exact hfn⟩)
      exact stepsIn_wide.2 (((s1.trans s2).trans s3).trans s4)
    | _ => exact hq2.elim
  | _ => exact hq.elim
end Go.Proofs.YtjhcddlhhfjnaaaGreatDoor
namespace Go.Proofs.YtjhcddlhhfjnaaaGreatDoor
open Go.RowKit

/-- What code does at the frames of one function. -/
def wpAt (P : Program) (f0 : FuncId) (c : Code) (Q : Exit → Act → World → Prop) (a : Act) (w : World) : Prop :=
  ∀ (b : Frame) (k : List Item) (cs : List Frame), b.roundOf = none → b.fn = f0 → ∃ e a' w', Q e a' w' ∧ ArrivesIn (Machine.fenced P Fence.wide) P (lone (b.atR a (.code c :: k)) cs w) b k cs e a' w'
section
variable {P : Program} {f0 : FuncId} {Q : Exit → Act → World → Prop} {a : Act} {w : World}
theorem wpAt_of {c : Code} (h : c.wp P Q a w) : wpAt P f0 c Q a w := fun b k cs hro _ => (wpIn_wide (n := 0)).2 h b k cs hro trivial (room_wide _)
theorem wpAt_seq {x y : Code} (h : wpAt P f0 x (Exit.then (wpAt P f0 y Q) Q) a w) : wpAt P f0 (Code.seq x y) Q a w := by
  intro b k cs hro hb
  have s0 : StepsIn (Machine.fenced P Fence.wide) P (lone (b.atR a (.code (.seq x y) :: k)) cs w) (lone (b.atR a (.code x :: .code y :: k)) cs w) := .one (fenced_wide _ _) stepR_seq
  obtain ⟨e, a1, w1, hq, harr⟩ := h b (.code y :: k) cs hro hb
  cases e with
  | normal =>
    obtain ⟨e2, a2, w2, hq2, harr2⟩ := hq b k cs hro hb
    exact ⟨e2, a2, w2, hq2, .of_steps (s0.trans harr) harr2⟩
  | _ => exact ⟨_, a1, w1, hq, .of_steps s0 (.pass (x := .code y) rfl (fun _ _ => .inl (by simp)) harr)⟩
theorem wpAt_seq_of {x y : Code} (h : x.wp P (Exit.then (wpAt P f0 y Q) Q) a w) : wpAt P f0 (Code.seq x y) Q a w := wpAt_seq (wpAt_of h)
/-- The statement. -/
theorem wpAt_rangeFunc {n : Nat} {g : Operand} {ps : Array Tmp} {assign body : Code}
    (h : ∃ (l : Nat) (mark : List Deferred) (w₁ : World) (d : Deferred) (w₁' : World) (f : FuncId) (args : Array Value) (w₂ : World),
      (Instr.enterLoop f0 a.tmps ps assign body none).run P w = .ok (l, mark) w₁ ∧ (resolve a.eval (rangeCall g l) 0).run P w₁ = .ok d w₁' ∧ (invoke d.target d.args).run P w₁' = .ok (.enter f args) w₂ ∧
      CallsIn Fence.wide n P f args w₂ (rangePost Fence.wide n P l Q { a with defers := mark ++ a.defers })) :
    wpAt P f0 (Code.rangeFunc g ps assign body) Q a w := by
  intro b k cs hro hb
  obtain ⟨l, mark, w1, d, w1', f, args, w2, he, hres, hinv, hcall⟩ := h
  rw [← hb, ← hro] at he
  have s1 : Steps P (lone (b.atR a (.code (.rangeFunc g ps assign body) :: k)) cs w) _ := .one (stepR_rangeFunc (P := P) (b := b) (a := a) (k := k) (cs := cs) (w := w) he hres hinv)
  obtain ⟨e, w3, fr, hR, hs, _, hl⟩ := callsIn_wide.1 hcall (b.atR { a with defers := mark ++ a.defers } (.inRangeFunc l :: k) :: cs)
  cases e with
  | outgrown =>
    obtain ⟨a0, w0, hq⟩ := hR
    exact ⟨.outgrown, a0, w0, hq, .inr (Outgrown.of_steps s1 hs)⟩
  | panicked ch =>
    refine ⟨.panic ch, _, w3, hR, .inRangeFunc l :: k, stepsIn_wide.2 ((s1.trans hs).trans (.one ?_))⟩
    rw [← Frame.raise_atR]; exact step_leave_panicked hl
  | returned v =>
    obtain ⟨jump, w4, hend, hj⟩ := hR
    have s2 : Steps P (lone fr (b.atR { a with defers := mark ++ a.defers } (.inRangeFunc l :: k) :: cs) w3) (lone (b.atR { a with defers := mark ++ a.defers } (.endRangeFunc l :: k)) cs w3) := .one (by
      rw [← finish_atR_inRangeFunc l v]; exact step_leave_returned hl)
    have s4 := stepsIn_wide.2 (((s1.trans hs).trans s2).trans (.one (stepR_endRangeFunc hend)))
    cases jump with
    | none => exact ⟨.normal, _, w4, hj, s4⟩
    | some c =>
      obtain ⟨e', a'', w5, hq, harr⟩ := hj b k cs hro trivial (room_wide _)
      exact ⟨e', a'', w5, hq, .of_steps s4 harr⟩
end
/-- A function's contract, where its body holds a range over a function, walked at its own frames. -/
theorem callsAt_of_marks {n : Nat} {P : Program} {f : FuncId} {fn : Func} {c : Code} {args : Array Value} {w : World} {R : Ending → World → Prop} (hf : P.funcs[f]? = some fn) (hb : fn.body = some c)
    (h : wpAt P f c (bodyPostM Fence.wide n P fn R) { tmps := args ++ Array.replicate (fn.ntmps - args.size) undef, defers := [] } w) : Calls P f args w R := by
  refine (callsIn_wide (n := n)).1 ⟨trivial, fun cs hr => ?_⟩
  obtain ⟨b, eb⟩ : ∃ b : Frame, b = { (default : Frame) with fn := f, kind := .normal, roundOf := none } := ⟨_, rfl⟩
  have e0 : Frame.enter P f args .normal = b.atR { tmps := args ++ Array.replicate (fn.ntmps - args.size) undef, defers := [] } [.code c] := by simp [Frame.enter, Frame.atR, hf, hb, eb]
  have hro : b.roundOf = none := by rw [eb]
  have hbf : b.fn = f := by rw [eb]
  obtain ⟨e, a', w', hq, harr⟩ := h b [] cs hro hbf
  rw [← e0] at harr
  have key : ∀ (u : FrameMode) (fr : Frame), fr.mode = u → fr.defers = a'.defers → fr.tmps = a'.tmps → fr.fn = f → fr.kind = .normal → StepsIn (Machine.fenced P Fence.wide) P (lone (Frame.enter P f args .normal) cs w) (lone fr cs w') →
      LeavesInM Fence.wide n P fn a'.tmps R a'.defers u w' → ∃ e w'' fr', R e w'' ∧ ComesIn (Machine.fenced P Fence.wide) P (lone (Frame.enter P f args .normal) cs w) (lone fr' cs w'') e ∧ fr'.fn = f ∧ fr'.leaving P w'' e := by
    intro u fr h1 h2 h3 h4 h5 hs hq
    obtain ⟨e', w'', fr', hR, hs', hfn, hl⟩ := leaves_stepsInM a'.defers u w' fr cs h1 h2 h3 (by rw [h4]; exact hf) h5 trivial hr hq
    exact ⟨e', w'', fr', hR, ComesIn.of_steps hs hs', hfn.trans h4, hl⟩
  have kk : ∀ todo, (b.atR a' todo).kind = .normal := fun _ => by rw [eb]; rfl
  cases e with
  | normal => exact key .returning { b.atR a' [] with mode := .returning } rfl rfl rfl hbf (kk []) (harr.trans (.one (fenced_wide _ _) (stepR_end hro))) hq
  | ret =>
    obtain ⟨todo, hs⟩ := harr.1 hro
    exact key .returning { b.atR a' todo with mode := .returning } rfl rfl rfl hbf (kk todo) hs hq
  | panic ch =>
    obtain ⟨todo, hs⟩ := harr
    exact key (.panicking ch) { b.atR a' todo with mode := .panicking ch } rfl rfl rfl hbf (kk todo) hs hq
  | exit id => exact hq.elim
  | goto l => exact hq.elim
  | outgrown => exact ⟨.outgrown, w', b, hq, harr.resolve_left (by rw [eb]; simp), hbf, trivial⟩
end Go.Proofs.YtjhcddlhhfjnaaaGreatDoor
namespace Go.Proofs.YtjhcddlhhfjnaaaGreatDoor
open Go.RowKit

/-- The contract of an iterator over the list T, of which any round may give up. -/
def SeqW {α : Type} (n : Nat) (P : Program) (g : Nat) (lb : Array Value) (encs : α → Array Value) (r : Option Nat) (Kp : World → World → Prop) (T : List α) (w : World) : Prop :=
  ∀ (l : Nat) (J Jx : List α → World → Prop) (Jp : List PanicEntry → World → Prop) (W : World), Below w.heap.size w W → Steady r J → Steady r Jx →
    (∀ pre x V, J pre V → W.heap.size ≤ V.heap.size → (pre ++ [x]) <+: T → YieldAt Fence.wide (n - 1) P l (encs x) V fun e V' =>
      (∃ b : Bool, e = .returned (.bool b) ∧ Kp V V' ∧ (if b then J (pre ++ [x]) V' else Jx (pre ++ [x]) V')) ∨ (∃ ch, e = .panicked ch ∧ Jp ch V')) →
    J [] W →
    CallsIn Fence.wide n P g (#[.func (.yield l) #[] #[]] ++ lb) W fun e V => ((∃ v, e = .returned v) ∧ (J T V ∨ ∃ pre, pre <+: T ∧ Jx pre V)) ∨ (∃ ch, e = .panicked ch ∧ Jp ch V)

variable {n : Nat} {P : Program}

/-- The statement itself, at an outermost loop. -/
theorem wpAt_range_w {α : Type} {g : Operand} {ps : Array Tmp} {assign body : Code} {Q : Exit → Act → World → Prop} {a : Act} {w : World} {f0 : FuncId}
    (hfn : ∃ fn, P.funcs[f0]? = some fn) {gf : Nat} {lb : Array Value} (hg : a.eval g = .func (.func gf) #[] lb) (eg : ∀ args w, (callFunc gf args).run P w = .ok (.enter gf args) w)
    {encs : α → Array Value} {r : Option Nat} {Kp : World → World → Prop} {T : List α} {w0 : World} (hseq : SeqW (n - 1) P gf lb encs r Kp T w0) (hr : ∀ b, r = some b → b < w.heap.size)
    (hKt : ∀ {X Y Z : World}, Kp X Y → Kp Y Z → Kp X Z) (hKo : ∀ (l : Nat) (W : World) (o o' : Obj), w.heap.size ≤ l → W.heap[l]? = some o → o.isCells = false → Kp W (W.putObj l o'))
    (hKb : ∀ (X Y : World), Below X.heap.size X Y → Kp X Y)
    (hb0 : Below w0.heap.size w0 w) (hps : ∀ x, (encs x).size = ps.size)
    (I : List α → World → Prop) (Ix : Code → List α → World → Prop) (Ip : List PanicEntry → World → Prop) (hI : Steady r I) (hIx : ∀ c, Steady r (Ix c)) (hIo : ∀ pre (W : World) (l : Nat) (o o' : Obj), w.heap.size ≤ l → W.heap[l]? = some o → o.isCells = false → I pre W → I pre (W.putObj l o'))
    (hIxo : ∀ c pre (W : World) (l : Nat) (o o' : Obj), w.heap.size ≤ l → W.heap[l]? = some o → o.isCells = false → Ix c pre W → Ix c pre (W.putObj l o')) (h0 : I [] w)
    (Ax : α → Act → World → Prop) (hAx : ∀ x a' (W : World) l o, w.heap.size ≤ l → l < w.heap.size + 2 → Ax x a' W → Ax x a' (W.putObj l o))
    (hassign : ∀ (l : Nat) (pre : List α) (x : α) (W : World) (K : Act → World → Prop), I pre W → w.heap.size + 2 ≤ W.heap.size → (∀ a' W', Below W.heap.size W W' → Ax x a' W' → K a' W') →
      assign.wpIn (Fence.wide.inRound l) (n - 1 - 1) P (Exit.then K (fun _ _ _ => False)) { tmps := (ps.zip (encs x)).foldl (fun t (p, v) => t.setIfInBounds p v) a.tmps, defers := [] } W)
    (hbody : ∀ (l : Nat) (pre : List α) (x : α), (pre ++ [x]) <+: T →
      (∀ (a' : Act) (W : World), I pre W → w.heap.size + 2 ≤ W.heap.size → Ax x a' W → body.wpIn (Fence.wide.inRound l) (n - 1 - 1) P (vPost w.heap.size Kp I Ix (pre ++ [x]) W) a' W) ∨
      (∀ (a' : Act) (W : World), I pre W → w.heap.size + 2 ≤ W.heap.size → Ax x a' W → body.wpIn (Fence.wide.inRound l) (n - 1 - 1) P (gavePost fun e V => ∃ ch, e = .panicked ch ∧ KeepsFrom w.heap.size W V ∧ Ip ch V) a' W))
    (hdone : ∀ (D : Nat) (W : World), w.heap.size ≤ D → I T W → W.heap[D]? = some (.deferred (some [])) → Q .normal { a with defers := { target := .collected D, args := #[] } :: a.defers } W)
    (hstop : ∀ (D : Nat) (c : Code) (pre : List α) (W : World), w.heap.size ≤ D → pre <+: T → Ix c pre W → W.heap[D]? = some (.deferred (some [])) → c.wpIn Fence.wide (n - 1) P Q { a with defers := { target := .collected D, args := #[] } :: a.defers } W) 
    (hgave : ∀ (D : Nat) (ch : List PanicEntry) (W : World), w.heap.size ≤ D → Ip ch W → W.heap[D]? = some (.deferred (some [])) → Q (.panic ch) { a with defers := { target := .collected D, args := #[] } :: a.defers } W) :
    wpAt P f0 (Code.rangeFunc g ps assign body) Q a w := by
  refine wpAt_rangeFunc (n := n - 1) ?_
  obtain ⟨fn, efn⟩ : ∃ fn, fn = f0 := ⟨_, rfl⟩
  rw [← efn] at hfn ⊢
  clear efn
  generalize hs : w.heap.size = s at *
  obtain ⟨R, hR⟩ : ∃ R : LoopState → Option Code → Loop, R = fun st pe => { state := st, pending := pe, fn, tmps := a.tmps, params := ps, assign, body, defers := s } := ⟨_, rfl⟩
  obtain ⟨V, hV⟩ : ∃ V, V = (w.alloc (.deferred (some []))).alloc (.loop (R .ready none)) := ⟨_, rfl⟩
  have hVs : V.heap.size = s + 2 := by rw [hV]; simp [hs]
  have hBV : Below s w V := by rw [hV]; exact ((Below.refl s w).alloc (by omega) _).alloc (by simp [hs]) _
  have hL : V.heap[s + 1]? = some (.loop (R .ready none)) := by
    have := World.alloc_heap_new (w.alloc (.deferred (some []))) (.loop (R .ready none))
    rw [World.size_alloc, hs] at this
    rw [hV]; exact this
  have hD : V.heap[s]? = some (.deferred (some [])) := by
    have := World.alloc_heap_new w (.deferred (some []))
    rw [hs] at this
    rw [hV]; exact (Below.heap_alloc _ _ _ (by simp [hs])).trans this
  refine ⟨s + 1, [{ target := .collected s, args := #[] }], V, { target := .fn (.func gf) lb, args := #[.func (.yield (s + 1)) #[] #[]] }, V, gf, #[.func (.yield (s + 1)) #[] #[]] ++ lb, V, ?_, ?_, ?_, ?_⟩
  · have := run_enterLoop_outer (P := P) (w := w) fn a.tmps ps assign body
    rw [hs] at this
    rw [this, hV, hR]
  · simp only [resolve, hg]
    simp [go_sem]
  · simp [invoke, go_sem, eg]
  have hbk : ∀ {X Y : World} {o o' : Obj}, Below (s + 2) X Y → X.heap[s + 1]? = some o → X.heap[s]? = some o' → Y.heap[s + 1]? = some o ∧ Y.heap[s]? = some o' :=
    fun hb h h' => ⟨(hb.block _ (by omega)).trans h, (hb.block _ (by omega)).trans h'⟩
  have hgk : ∀ {X Y : World} {o o' : Obj}, X.grownBy Y r → X.heap[s + 1]? = some o → X.heap[s]? = some o' → Y.heap[s + 1]? = some o ∧ Y.heap[s]? = some o' :=
    fun hb h h' => ⟨(hb.block _ (Array.getElem?_eq_some_iff.1 h).1 (fun e => by have := hr _ e.symm; omega)).trans h, (hb.block _ (Array.getElem?_eq_some_iff.1 h').1 (fun e => by have := hr _ e.symm; omega)).trans h'⟩
  refine (hseq (s + 1) (fun pre W => I pre W ∧ W.heap[s + 1]? = some (.loop (R .ready none)) ∧ W.heap[s]? = some (.deferred (some [])))
    (fun pre W => ∃ c, Ix c pre W ∧ W.heap[s + 1]? = some (.loop (R .done (some c))) ∧ W.heap[s]? = some (.deferred (some []))) (fun ch W => Ip ch W ∧ W.heap[s]? = some (.deferred (some []))) V (hb0.trans (hBV.mono (by have := hb0.size; omega)))
    (fun pre X Y h hb => ⟨hI pre X Y h.1 hb, hgk hb h.2.1 h.2.2⟩)
    (fun pre X Y h hb => by
      obtain ⟨c, hc, hl, hd⟩ := h
      exact ⟨c, hIx c pre X Y hc hb, hgk hb hl hd⟩)
    ?_ ⟨hI _ _ _ h0 (grown_of r (by rw [hs]; exact hBV)), hL, hD⟩).mono ?_
  · rintro pre x W ⟨hi, hl, hd⟩ hW hp
    rw [hVs] at hW
    have hy := run_yield (P := P) (args := encs x) hl (by rw [hR]; exact hps x)
    rw [hR] at hy
    rcases hbody (s + 1) pre x hp with hbd | hbd
    · refine ⟨fn, _, assign, body, hy, roundIn_of_wpIn trivial (hassign _ pre x W _ hi hW fun a' W' hb hax => ?_)⟩
      clear hy
      have hW' : s + 2 ≤ W'.heap.size := Nat.le_trans hW hb.size
      obtain ⟨hl', hd'⟩ := hbk (hb.mono hW) hl hd
      have hi' := hI _ _ _ hi (grown_of r hb)
      have hK1 : Kp W W' := hKb _ _ hb
      have hK2 : Kp W' (W'.putObj (s + 1) (.loop { R .ready none with state := .busy })) := hKo _ _ _ _ (by omega) hl' rfl
      have hl2 : (W'.putObj (s + 1) (.loop { R .ready none with state := .busy })).heap[s + 1]? = some (.loop { R .ready none with state := .busy }) := World.putObj_heap_same (by omega)
      have hd2 : (W'.putObj (s + 1) (.loop { R .ready none with state := .busy })).heap[s]? = some (.deferred (some [])) := (World.putObj_heap_other (by omega)).trans hd'
      have hi2 := hIo _ _ (s + 1) _ (.loop { R .ready none with state := .busy }) (by omega) hl' rfl hi' 
      have hax2 := hAx _ _ _ (s + 1) (.loop { R .ready none with state := .busy }) (by omega) (by omega) hax
      refine ⟨_, run_beginRound hl' (by rw [hR]), wpIn_mono (hbd a' _ hi2 (by simpa [World.putObj] using hW') hax2) ?_⟩
      have fin : ∀ (j : Option Code) (Z : World), KeepsFrom s (W'.putObj (s + 1) (.loop { R .ready none with state := .busy })) Z → Kp (W'.putObj (s + 1) (.loop { R .ready none with state := .busy })) Z →
          ∃ Y, (Instr.endRound (s + 1) j).run P Z = .ok (.bool j.isNone) Y ∧ Kp W Y ∧ (∀ pre, I pre Z → I pre Y) ∧ (∀ c pre, Ix c pre Z → Ix c pre Y) ∧ Y.heap[s + 1]? = some (.loop (R (if j.isNone then .ready else .done) j)) ∧ Y.heap[s]? = some (.deferred (some [])) := fun j Z hk hkp => by
        have hlZ := hk.same _ _ (by omega) hl2 rfl
        have hdZ := hk.same _ _ (by omega) hd2 rfl
        have hrun := run_endRound (P := P) j hlZ
        refine ⟨_, hrun, hKt (hKt (hKt hK1 hK2) hkp) (hKo _ _ _ _ (by omega) hlZ rfl), fun pre h => hIo pre Z _ _ _ (by omega) hlZ rfl h, fun c pre h => hIxo c pre Z _ _ _ (by omega) hlZ rfl h, ?_, (World.putObj_heap_other (by omega)).trans hdZ⟩
        rw [World.putObj_heap_same (Array.getElem?_eq_some_iff.1 hlZ).1, hR]
      rintro e a3 Z hp
      cases e with
      | normal =>
        obtain ⟨hk, hkp, hi3⟩ := hp
        obtain ⟨Y, hr', hK, hB1, hB2, hl4, hd4⟩ := fin none Z hk hkp
        exact ⟨_, Y, hr', .inl ⟨true, rfl, hK, hB1 _ hi3, hl4, hd4⟩⟩
      | ret =>
        obtain ⟨hk, hkp, hi3⟩ := hp
        obtain ⟨Y, hr', hK, hB1, hB2, hl4, hd4⟩ := fin (some .ret) Z hk hkp
        exact ⟨_, Y, hr', .inl ⟨false, rfl, hK, .ret, hB2 _ _ hi3, hl4, hd4⟩⟩
      | exit id =>
        obtain ⟨hk, hkp, hi3⟩ := hp
        obtain ⟨Y, hr', hK, hB1, hB2, hl4, hd4⟩ := fin (some (.exit id)) Z hk hkp
        exact ⟨_, Y, hr', .inl ⟨false, rfl, hK, .exit id, hB2 _ _ hi3, hl4, hd4⟩⟩
      | goto t =>
        obtain ⟨hk, hkp, hi3⟩ := hp
        obtain ⟨Y, hr', hK, hB1, hB2, hl4, hd4⟩ := fin (some (.goto t)) Z hk hkp
        exact ⟨_, Y, hr', .inl ⟨false, rfl, hK, .goto t, hB2 _ _ hi3, hl4, hd4⟩⟩
      | panic ch => exact hp.elim
      | outgrown => exact hp.elim
    · refine ⟨fn, _, assign, body, hy, round_gives hfn (hassign _ pre x W _ hi hW fun a' W' hb hax => ?_)⟩
      clear hy
      have hW' : s + 2 ≤ W'.heap.size := Nat.le_trans hW hb.size
      obtain ⟨hl', hd'⟩ := hbk (hb.mono hW) hl hd
      have hi' := hI _ _ _ hi (grown_of r hb)
      have hK1 : Kp W W' := hKb _ _ hb
      have hK2 : Kp W' (W'.putObj (s + 1) (.loop { R .ready none with state := .busy })) := hKo _ _ _ _ (by omega) hl' rfl
      have hl2 : (W'.putObj (s + 1) (.loop { R .ready none with state := .busy })).heap[s + 1]? = some (.loop { R .ready none with state := .busy }) := World.putObj_heap_same (by omega)
      have hd2 : (W'.putObj (s + 1) (.loop { R .ready none with state := .busy })).heap[s]? = some (.deferred (some [])) := (World.putObj_heap_other (by omega)).trans hd'
      have hi2 := hIo _ _ (s + 1) _ (.loop { R .ready none with state := .busy }) (by omega) hl' rfl hi' 
      have hax2 := hAx _ _ _ (s + 1) (.loop { R .ready none with state := .busy }) (by omega) (by omega) hax
      refine ⟨_, run_beginRound hl' (by rw [hR]), wpIn_mono (hbd a' _ hi2 (by simpa [World.putObj] using hW') hax2) ?_⟩
      rintro e a3 Z hp
      cases e with
      | panic ch =>
        obtain ⟨hd0, ch', he, hk, hip⟩ := hp
        cases he
        exact ⟨hd0, .inr ⟨ch, rfl, hip, hk.same _ _ (by omega) hd2 rfl⟩⟩
      | _ => exact hp.elim
  · rintro e Z (⟨⟨v, rfl⟩, (⟨hi, hl, hd⟩ | ⟨pre, hp, c, hi, hl, hd⟩)⟩ | ⟨ch, rfl, hip, hd⟩)
    · have hrun := run_endLoop (P := P) hl (by rw [hR]; simp)
      rw [show (R .ready none).pending = none by rw [hR]] at hrun
      exact ⟨none, _, hrun, hdone s _ (Nat.le_refl _) (hIo _ _ _ _ _ (by omega) hl rfl hi) ((World.putObj_heap_other (by omega)).trans hd)⟩
    · have hrun := run_endLoop (P := P) hl (by rw [hR]; simp)
      rw [show (R .done (some c)).pending = some c by rw [hR]] at hrun
      exact ⟨some c, _, hrun, hstop s c pre _ (Nat.le_refl _) hp (hIxo c _ _ _ _ _ (by omega) hl rfl hi) ((World.putObj_heap_other (by omega)).trans hd)⟩
    · exact hgave s ch Z (Nat.le_refl _) hip hd
end Go.Proofs.YtjhcddlhhfjnaaaGreatDoor
