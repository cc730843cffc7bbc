import Derived.RangeFuncNested
import Derived.RangeFuncLeaves
namespace Go.Proofs.YtongeeggaigepaaGreatDoor
open Go.RowKit

def Under {β : Type} (B : Nat) (J : β → World → Prop) : Prop := ∀ s X Y, J s X → Below B X Y → J s Y
theorem Under.size {β : Type} (B n : Nat) : Under B (fun (_ : β) (W : World) => n ≤ W.heap.size) := fun _ _ _ h hb => Nat.le_trans h hb.size
theorem below_putObj {B : Nat} (W : World) {l : Nat} (o : Obj) (h : B ≤ l) : Below B W (W.putObj l o) :=
 ⟨rfl, rfl, rfl, by simp [World.putObj], fun k hk => World.putObj_heap_other (by omega)⟩

def SeqU {α : Type} (F : Fence) (n : Nat) (P : Program) (g : Nat) (lb : Array Value) (encs : α → Array Value) (Kp : Nat → World → World → Prop) (T : List α) (w : World) : Prop :=
 ∀ (l : Nat) (J Jx : List α → World → Prop) (W : World), Below w.heap.size w W → Under W.heap.size J → Under W.heap.size Jx →
  (∀ pre x V, J pre V → W.heap.size ≤ V.heap.size → (pre ++ [x]) <+: T → YieldAt F (n - 1) P l (encs x) V fun e V' =>
    ∃ b : Bool, e = .returned (.bool b) ∧ Kp W.heap.size V V' ∧ (if b then J (pre ++ [x]) V' else Jx (pre ++ [x]) V')) →
  J [] W →
  CallsIn F n P g (#[.func (.yield l) #[] #[]] ++ lb) W fun e V => (∃ v, e = .returned v) ∧ (J T V ∨ ∃ pre, pre <+: T ∧ Jx pre V)

def uPost {α : Type} (B : Nat) (Kp : Nat → World → World → Prop) (I : List α → World → Prop) (Ix : Code → List α → World → Prop) (xs : List α) (W : World) : Exit → Act → World → Prop
 | .normal, _, V => KeepsFrom B W V ∧ Kp (B + 2) W V ∧ I xs V
 | .ret, _, V => KeepsFrom B W V ∧ Kp (B + 2) W V ∧ Ix .ret xs V
 | .exit id, _, V => KeepsFrom B W V ∧ Kp (B + 2) W V ∧ Ix (.exit id) xs V
 | .goto t, _, V => KeepsFrom B W V ∧ Kp (B + 2) W V ∧ Ix (.goto t) xs V
 | .panic _, _, _ => False
 | .outgrown, _, _ => False

variable {F : Fence} {n : Nat} {P : Program}

theorem wpIn_range_u {α : Type} {g : Operand} {ps : Array Tmp} {assign body : Code} {Q : Exit → Act → World → Prop} {a : Act} {w : World}
 (hro : F.round = none) (h1 : 1 ≤ n) {gf : Nat} {lb : Array Value} (hg : a.eval g = .func (.func gf) #[] lb) (hFg : F.fn gf) (eg : ∀ args w, (callFunc gf args).run P w = .ok (.enter gf args) w)
 {encs : α → Array Value} {Kp : Nat → World → World → Prop} {T : List α} {w0 : World} (hseq : SeqU F (n - 1) P gf lb encs Kp T w0)
 (hKt : ∀ {B : Nat} {X Y Z : World}, Kp B X Y → Kp B Y Z → Kp B X Z) (hKo : ∀ (B l : Nat) (W : World) (o o' : Obj), w.heap.size ≤ l → l < B → W.heap[l]? = some o → o.isCells = false → Kp B W (W.putObj l o'))
 (hKb : ∀ (B : Nat) (X Y : World), Below X.heap.size X Y → Kp B X Y)
 (hb0 : Below w0.heap.size w0 w) (hps : ∀ x, (encs x).size = ps.size)
 (I : List α → World → Prop) (Ix : Code → List α → World → Prop) (hI : Under w.heap.size I) (hIx : ∀ c, Under w.heap.size (Ix c)) (h0 : I [] w)
 (Ax : α → Act → World → Prop) (hAx : ∀ x a' (W : World) l o, w.heap.size ≤ l → l < w.heap.size + 2 → Ax x a' W → Ax x a' (W.putObj l o))
 (hassign : ∀ (l : Nat) (pre : List α) (x : α) (W : World) (K : Act → World → Prop), I pre W → w.heap.size + 2 ≤ W.heap.size → (∀ a' W', Below W.heap.size W W' → Ax x a' W' → K a' W') →
   assign.wpIn (F.inRound l) (n - 1 - 1) P (Exit.then K (fun _ _ _ => False)) { tmps := (ps.zip (encs x)).foldl (fun t (p, v) => t.setIfInBounds p v) a.tmps, defers := [] } W)
 (hbody : ∀ (l : Nat) (pre : List α) (x : α) (a' : Act) (W : World), I pre W → w.heap.size + 2 ≤ W.heap.size → (pre ++ [x]) <+: T → Ax x a' W → body.wpIn (F.inRound l) (n - 1 - 1) P (uPost w.heap.size Kp I Ix (pre ++ [x]) W) a' W)
 (hdone : ∀ (D : Nat) (W : World), w.heap.size ≤ D → I T W → W.heap[D]? = some (.deferred (some [])) → Q .normal { a with defers := { target := .collected D, args := #[] } :: a.defers } W)
 (hstop : ∀ (D : Nat) (c : Code) (pre : List α) (W : World), w.heap.size ≤ D → pre <+: T → Ix c pre W → W.heap[D]? = some (.deferred (some [])) → c.wpIn F n P Q { a with defers := { target := .collected D, args := #[] } :: a.defers } W) :
 (Code.rangeFunc g ps assign body).wpIn F n P Q a w := by
 refine wpIn_rangeFunc fun fn hfn => ?_
 rw [hro]
 generalize hs : w.heap.size = s at *
 obtain ⟨R, hR⟩ : ∃ R : LoopState → Option Code → Loop, R = fun st pe => { state := st, pending := pe, fn, tmps := a.tmps, params := ps, assign, body, defers := s } := ⟨_, rfl⟩
 obtain ⟨V, hV⟩ : ∃ V, V = (w.alloc (.deferred (some []))).alloc (.loop (R .ready none)) := ⟨_, rfl⟩
 have hVs : V.heap.size = s + 2 := by rw [hV]; simp [hs]
 have hBV : Below s w V := by rw [hV]; exact ((Below.refl s w).alloc (by omega) _).alloc (by simp [hs]) _
 have hL : V.heap[s + 1]? = some (.loop (R .ready none)) := by
  have := World.alloc_heap_new (w.alloc (.deferred (some []))) (.loop (R .ready none))
  rw [World.size_alloc, hs] at this
  rw [hV]; exact this
 have hD : V.heap[s]? = some (.deferred (some [])) := by
  have := World.alloc_heap_new w (.deferred (some []))
  rw [hs] at this
  rw [hV]; exact (Below.heap_alloc _ _ _ (by simp [hs])).trans this
 refine ⟨s + 1, [{ target := .collected s, args := #[] }], V, { target := .fn (.func gf) lb, args := #[.func (.yield (s + 1)) #[] #[]] }, V, gf, #[.func (.yield (s + 1)) #[] #[]] ++ lb, V, ?_, ?_, ?_, ?_, fun _ => h1, ?_⟩
 ·have := run_enterLoop_outer (P := P) (w := w) fn a.tmps ps assign body
  rw [hs] at this
  rw [this, hV, hR]
 ·simp only [resolve, hg]
  simp [go_sem]
 ·intro f' hf'
  simp [Target.leads] at hf'
  subst hf'
  exact hFg
 ·simp [invoke, go_sem, eg]
 have hbk : ∀ {X Y : World} {o o' : Obj}, Below (s + 2) X Y → X.heap[s + 1]? = some o → X.heap[s]? = some o' → Y.heap[s + 1]? = some o ∧ Y.heap[s]? = some o' :=
  fun hb h h' => ⟨(hb.block _ (by omega)).trans h, (hb.block _ (by omega)).trans h'⟩
 refine (hseq (s + 1) (fun pre W => I pre W ∧ W.heap[s + 1]? = some (.loop (R .ready none)) ∧ W.heap[s]? = some (.deferred (some [])))
  (fun pre W => ∃ c, Ix c pre W ∧ W.heap[s + 1]? = some (.loop (R .done (some c))) ∧ W.heap[s]? = some (.deferred (some []))) V (hb0.trans (hBV.mono (by have := hb0.size; omega)))
  (fun pre X Y h hb => by rw [hVs] at hb; exact ⟨hI pre X Y h.1 (hb.mono (by omega)), hbk hb h.2.1 h.2.2⟩)
  (fun pre X Y h hb => by
    rw [hVs] at hb
    obtain ⟨c, hc, hl, hd⟩ := h
    exact ⟨c, hIx c pre X Y hc (hb.mono (by omega)), hbk hb hl hd⟩)
  ?_ ⟨hI _ _ _ h0 hBV, hL, hD⟩).mono ?_
 ·rintro pre x W ⟨hi, hl, hd⟩ hW hp
  rw [hVs] at hW ⊢
  have hy := run_yield (P := P) (args := encs x) hl (by rw [hR]; exact hps x)
  rw [hR] at hy
  refine ⟨fn, _, assign, body, hy, roundIn_of_wpIn hfn (hassign _ pre x W _ hi hW fun a' W' hb hax => ?_)⟩
  clear hy
  have hW' : s + 2 ≤ W'.heap.size := Nat.le_trans hW hb.size
  obtain ⟨hl', hd'⟩ := hbk (hb.mono hW) hl hd
  have hi' := hI _ _ _ hi (hb.mono (by omega))
  have hK1 : Kp (s + 2) W W' := hKb _ _ _ hb
  have hK2 : Kp (s + 2) W' (W'.putObj (s + 1) (.loop { R .ready none with state := .busy })) := hKo _ _ _ _ _ (by omega) (by omega) hl' rfl
  have hl2 : (W'.putObj (s + 1) (.loop { R .ready none with state := .busy })).heap[s + 1]? = some (.loop { R .ready none with state := .busy }) := World.putObj_heap_same (by omega)
  have hd2 : (W'.putObj (s + 1) (.loop { R .ready none with state := .busy })).heap[s]? = some (.deferred (some [])) := (World.putObj_heap_other (by omega)).trans hd'
  have hi2 := hI _ _ _ hi' (below_putObj (B := s) W' (l := s + 1) (.loop { R .ready none with state := .busy }) (by omega))
  have hax2 := hAx _ _ _ (s + 1) (.loop { R .ready none with state := .busy }) (by omega) (by omega) hax
  refine ⟨_, run_beginRound hl' (by rw [hR]), wpIn_mono (hbody _ pre x a' _ hi2 (by simpa [World.putObj] using hW') hp hax2) ?_⟩
  have fin : ∀ (j : Option Code) (Z : World), KeepsFrom s (W'.putObj (s + 1) (.loop { R .ready none with state := .busy })) Z → Kp (s + 2) (W'.putObj (s + 1) (.loop { R .ready none with state := .busy })) Z →
   ∃ Y, (Instr.endRound (s + 1) j).run P Z = .ok (.bool j.isNone) Y ∧ Kp (s + 2) W Y ∧ Below s Z Y ∧ Y.heap[s + 1]? = some (.loop (R (if j.isNone then .ready else .done) j)) ∧ Y.heap[s]? = some (.deferred (some [])) := fun j Z hk hkp => by
   have hlZ := hk.same _ _ (by omega) hl2 rfl
   have hdZ := hk.same _ _ (by omega) hd2 rfl
   have hrun := run_endRound (P := P) j hlZ
   refine ⟨_, hrun, hKt (hKt (hKt hK1 hK2) hkp) (hKo _ _ _ _ _ (by omega) (by omega) hlZ rfl), below_putObj Z _ (by omega), ?_, (World.putObj_heap_other (by omega)).trans hdZ⟩
   rw [World.putObj_heap_same (Array.getElem?_eq_some_iff.1 hlZ).1, hR]
  rintro e a3 Z hp
  cases e with
  | normal =>
    obtain ⟨hk, hkp, hi3⟩ := hp
    obtain ⟨Y, hr, hK, hB, hl4, hd4⟩ := fin none Z hk hkp
    exact ⟨_, Y, hr, true, rfl, hK, hI _ _ _ hi3 hB, hl4, hd4⟩
  | ret =>
    obtain ⟨hk, hkp, hi3⟩ := hp
    obtain ⟨Y, hr, hK, hB, hl4, hd4⟩ := fin (some .ret) Z hk hkp
    exact ⟨_, Y, hr, false, rfl, hK, .ret, hIx _ _ _ _ hi3 hB, hl4, hd4⟩
  | exit id =>
    obtain ⟨hk, hkp, hi3⟩ := hp
    obtain ⟨Y, hr, hK, hB, hl4, hd4⟩ := fin (some (.exit id)) Z hk hkp
    exact ⟨_, Y, hr, false, rfl, hK, .exit id, hIx _ _ _ _ hi3 hB, hl4, hd4⟩
  | goto t =>
    obtain ⟨hk, hkp, hi3⟩ := hp
    obtain ⟨Y, hr, hK, hB, hl4, hd4⟩ := fin (some (.goto t)) Z hk hkp
    exact ⟨_, Y, hr, false, rfl, hK, .goto t, hIx _ _ _ _ hi3 hB, hl4, hd4⟩
  | panic ch => exact hp.elim
  | outgrown => exact hp.elim
 ·rintro e Z ⟨⟨v, rfl⟩, (⟨hi, hl, hd⟩ | ⟨pre, hp, c, hi, hl, hd⟩)⟩
  ·have hrun := run_endLoop (P := P) hl (by rw [hR]; simp)
   rw [show (R .ready none).pending = none by rw [hR]] at hrun
   exact ⟨none, _, hrun, hdone s _ (Nat.le_refl _) (hI _ _ _ hi (below_putObj Z _ (by omega))) ((World.putObj_heap_other (by omega)).trans hd)⟩
  ·have hrun := run_endLoop (P := P) hl (by rw [hR]; simp)
   rw [show (R .done (some c)).pending = some c by rw [hR]] at hrun
   exact ⟨some c, _, hrun, hstop s c pre _ (Nat.le_refl _) hp (hIx c _ _ _ hi (below_putObj Z _ (by omega))) ((World.putObj_heap_other (by omega)).trans hd)⟩
end Go.Proofs.YtongeeggaigepaaGreatDoor
