/- ArenaCopies: what lies by between its calls; a range over places that is left, or not; no condition. -/
import Derived.Test.YtncgjlhmgdgokaaBN
import Derived.Test.YtncgjlhmgdgokaaBF
namespace Go.Proofs.Ytncgjlhmgdgokaa
open Go.RowKit Go.Sort ArenaMath Go.Maps

theorem Marks.put {B b : Nat} {X : World} (v : Value) : ∀ {l : List Nat}, Marks B l X → (∀ D ∈ l, D ≠ b) → Marks B l (X.setCell ⟨b, 0, none⟩ v)
  | [], _, _ => trivial
  | D :: _, ⟨h1, h2, h3, h4⟩, hs => ⟨h1, (Below.heap_setCell _ _ _ _ (hs D (by simp))).trans h2, h3, h4.put v (fun E hE => hs E (by simp [hE]))⟩
/-- What a turn leaves alone: all that lay ahead of the turns, the turn's number, what is deferred. -/
def RoE (m : World) (bT : Nat) (t : Int) (DS : List Nat) (W : World) : Prop := Below m.heap.size m W ∧ Row W bT [.int .i64 t] ∧ Marks m.heap.size DS W
section
variable {m X Y : World} {bT : Nat} {t : Int} {DS : List Nat}
theorem RoE.under {s : Nat} (h : RoE m bT t DS X) (h1 : m.heap.size ≤ s) (h2 : bT < s) (h3 : ∀ D ∈ DS, D < s) (hb : Below s X Y) : RoE m bT t DS Y := by
  obtain ⟨a1, a2, a3⟩ := h
  exact ⟨a1.trans (hb.mono h1), a2.below hb h2, a3.below h3 hb⟩
theorem RoE.after (h : RoE m bT t DS X) (hb : Below X.heap.size X Y) : RoE m bT t DS Y := h.under h.1.size h.2.1.1 h.2.2.lt hb
theorem RoE.put (h : RoE m bT t DS X) {b : Nat} (h1 : m.heap.size ≤ b) (h2 : bT ≠ b) (h3 : ∀ D ∈ DS, D ≠ b) (v : Value) : RoE m bT t DS (X.setCell ⟨b, 0, none⟩ v) := by
  obtain ⟨a1, a2, a3⟩ := h
  exact ⟨below_put1 a1 h1 _ _, a2.other (p := ⟨b, 0, none⟩) (Ne.symm h2) _, a3.put v h3⟩
end
/-- Between the rounds of a turn. -/
def RoJ (E : World → Prop) (many : Int) (bN : Nat) (t : Int) (pre : List Int) (W : World) : Prop :=
  E W ∧ Row W bN [.int .i64 (pre.length : Nat)] ∧ (t = 0 → pre = [] ∨ (pre.length : Int) < many)
/-- A turn that is left, since there are enough. -/
def RoX (E : World → Prop) (many : Int) (bN : Nat) (t : Int) (c : Code) (pre : List Int) (W : World) : Prop :=
  c = .exit 4 ∧ t = 0 ∧ (∃ p x, pre = p ++ [x] ∧ (p = [] ∨ (p.length : Int) < many)) ∧ many ≤ (pre.length : Nat) ∧ E W ∧ Row W bN [.int .i64 (pre.length : Nat)]
theorem ro_done {n : Nat} {many : Int} {T : List Int} (hn : T.length = n) (h : T = [] ∨ (T.length : Int) < many) : ((T.length : Nat) : Int) = min ((n : Nat) : Int) (max 1 many) := by
  rcases h with h | h
  · subst h; simp at hn; subst hn; simp; omega
  · omega
theorem RoX.left {E : World → Prop} {W : World} {many t : Int} {T pre : List Int} {bN n : Nat} {c : Code} (h : RoX E many bN t c pre W) (hn : T.length = n) (hp : pre <+: T) :
    c = .exit 4 ∧ t = 0 ∧ ∃ N : Nat, (N : Int) = min ((n : Nat) : Int) (max 1 many) ∧ E W ∧ Row W bN [.int .i64 (N : Nat)] := by
  obtain ⟨rfl, h0, ⟨p, x, rfl, hpm⟩, hpl, hE, hN⟩ := h
  refine ⟨rfl, h0, _, ?_, hE, hN⟩
  have hl := hp.length_le
  simp only [List.length_append, List.length_cons, List.length_nil] at hl hpl ⊢
  rcases hpm with h | h
  · subst h; simp at hl hpl ⊢; omega
  · omega
theorem wr_next1 (k : Nat) (h : k < 1000000) : IntKind.i64.wrap ((k : Int) + 1) = (k : Int) + 1 := by
  simp [IntKind.wrap, IntKind.signed, IntKind.bits]
  omega
/-- A range over a function whose rounds all begin at the same frame, but for the element. -/
theorem wpIn_range_T {α : Type} {F : Fence} {n : Nat} {P : Program} {g : Operand} {ps : Array Tmp} {assign body : Code} {Q : Exit → Act → World → Prop} {a : Act} {w : World}
    (hro : F.round = none) (h1 : 1 ≤ n) {gf : Nat} {lb : Array Value} (hg : a.eval g = .func (.func gf) #[] lb) (hFg : F.fn gf) (eg : ∀ args w, (callFunc gf args).run P w = .ok (.enter gf args) w)
    {encs : α → Array Value} {Kp : Nat → World → World → Prop} {L : List α} {w0 : World} (hseq : SeqU F (n - 1) P gf lb encs Kp L w0)
    (hKt : ∀ {B : Nat} {X Y Z : World}, Kp B X Y → Kp B Y Z → Kp B X Z) (hKo : ∀ (B l : Nat) (W : World) (o o' : Obj), w.heap.size ≤ l → l < B → W.heap[l]? = some o → o.isCells = false → Kp B W (W.putObj l o'))
    (hKb : ∀ (B : Nat) (X Y : World), Below X.heap.size X Y → Kp B X Y)
    (hb0 : Below w0.heap.size w0 w) (hps : ∀ x, (encs x).size = ps.size)
    (I : List α → World → Prop) (Ix : Code → List α → World → Prop) (hI : Under w.heap.size I) (hIx : ∀ c, Under w.heap.size (Ix c)) (h0 : I [] w)
    (T : α → Array Value)
    (hassign : ∀ (l : Nat) (pre : List α) (x : α) (W : World) (K : Act → World → Prop), I pre W → w.heap.size + 2 ≤ W.heap.size → (∀ W', Below W.heap.size W W' → K { tmps := T x, defers := [] } W') →
      assign.wpIn (F.inRound l) (n - 1 - 1) P (Exit.then K (fun _ _ _ => False)) { tmps := (ps.zip (encs x)).foldl (fun t (p, v) => t.setIfInBounds p v) a.tmps, defers := [] } W)
    (hbody : ∀ (l : Nat) (pre : List α) (x : α) (W : World), I pre W → w.heap.size + 2 ≤ W.heap.size → (pre ++ [x]) <+: L → body.wpIn (F.inRound l) (n - 1 - 1) P (uPost w.heap.size Kp I Ix (pre ++ [x]) W) { tmps := T x, defers := [] } W)
    (hdone : ∀ (D : Nat) (W : World), w.heap.size ≤ D → I L W → W.heap[D]? = some (.deferred (some [])) → Q .normal { a with defers := { target := .collected D, args := #[] } :: a.defers } W)
    (hstop : ∀ (D : Nat) (c : Code) (pre : List α) (W : World), w.heap.size ≤ D → pre <+: L → Ix c pre W → W.heap[D]? = some (.deferred (some [])) → c.wpIn F n P Q { a with defers := { target := .collected D, args := #[] } :: a.defers } W) :
    (Code.rangeFunc g ps assign body).wpIn F n P Q a w :=
  wpIn_range_u hro h1 hg hFg eg hseq hKt hKo hKb hb0 hps I Ix hI hIx h0 (fun x a' _ => a' = { tmps := T x, defers := [] }) (fun _ _ _ _ _ _ _ e => e)
    (fun l pre x W K h h2 hK => hassign l pre x W K h h2 (fun W' hb => hK _ W' hb rfl)) (fun l pre x a' W h h2 hp e => by subst e; exact hbody l pre x W h h2 hp) hdone hstop
/-- What lies by: the sequence's box and places, the document's value and its box, the boxes of the law's arguments and answer. -/
structure CpK (N E kw kb : Nat) (AL A2 : Option Addr) (L : List Int) (c6 n2 c2 : Nat) (x1 y1 x2 y2 many : Int) (W : World) : Prop where
  seq : Row W E [.slice AL L.length c6]
  seqc : CellsS W AL (intCs L)
  want : Row W kw [.int .i64 (N : Nat), .slice A2 n2 c2]
  wantc : CellsS W A2 (intCs L)
  bx : Row W kb [.int .i64 x1, .int .i64 y1]
  bz : Row W (kb + 1) [.int .i64 x2, .int .i64 y2]
  bm : Row W (kb + 2) [.int .i64 many]
  br : Row W (kb + 3) [.bool false]
/-- A block that is none of these. -/
def CpF (E kw kb : Nat) (AL A2 : Option Addr) (L : List Int) (k : Nat) : Prop := k ≠ E ∧ k ≠ kw ∧ (k < kb ∨ kb + 3 < k) ∧ (0 < L.length → ∀ a, AL = some a → a.block ≠ k) ∧ (∀ a, A2 = some a → a.block ≠ k)
section
variable {N E kw kb c6 n2 c2 : Nat} {AL A2 : Option Addr} {L : List Int} {x1 y1 x2 y2 many : Int} {W W' : World}
theorem CpK.only (h : CpK N E kw kb AL A2 L c6 n2 c2 x1 y1 x2 y2 many W) {G : Nat → Prop} (ho : Only G W W') (hG : ∀ k, G k → CpF E kw kb AL A2 L k) : CpK N E kw kb AL A2 L c6 n2 c2 x1 y1 x2 y2 many W' :=
  ⟨h.seq.only ho (fun g => (hG _ g).1 rfl), h.seqc.only ho (fun h0 a e g => (hG _ g).2.2.2.1 (by rw [intCs_len] at h0; omega) a e rfl), h.want.only ho (fun g => (hG _ g).2.1 rfl), h.wantc.only ho (fun _ a e g => (hG _ g).2.2.2.2 a e rfl),
    h.bx.only ho (fun g => by have := (hG _ g).2.2.1; omega), h.bz.only ho (fun g => by have := (hG _ g).2.2.1; omega), h.bm.only ho (fun g => by have := (hG _ g).2.2.1; omega), h.br.only ho (fun g => by have := (hG _ g).2.2.1; omega)⟩
theorem CpK.after (h : CpK N E kw kb AL A2 L c6 n2 c2 x1 y1 x2 y2 many W) (hb : Below W.heap.size W W') : CpK N E kw kb AL A2 L c6 n2 c2 x1 y1 x2 y2 many W' :=
  h.only (G := fun _ => False) (Only.of hb) (fun _ g => g.elim)
end
theorem foot_lt {w : World} {base b many m : Nat} {L : List Int} {A : Option Addr} (h : ArS w base b many L m A) : ∀ k, foot b m A k → k < w.heap.size := fun k hk => by
  have hlt := h.lt
  rcases hk with hk | hk | hk
  · omega
  · omega
  · exact hlt.2.2 k hk
/-- What of two arenas is asked, of an arena and its copy that went on. -/
theorem copies_eq (N : Nat) (L M : List Int) : decide (N = N ∧ L = M) = decide (L = M) := by simp
theorem copies_eqI (N : Nat) (L M : List Int) : decide (((N : Nat) : Int) = ((N : Nat) : Int) ∧ L = M) = decide (L = M) := by simp
set_option maxRecDepth 100000 in
theorem copies_long (A : Option Addr) (n c : Nat) (x1 y1 x2 y2 many : Int) (w : World) (hn : (30 : Int) < n) :
    Calls Try.prog 4 #[.slice A n c, .agg #[.int .i64 x1, .int .i64 y1], .agg #[.int .i64 x2, .int .i64 y2], .int .i64 many] w fun e w' => e = .returned (.bool true) ∧ Below w.heap.size w w' := by
  go_enter Try.func4, Try.ntmps4
  go_wp2_with fail
  generalize hW : World.alloc _ _ = W0
  have hR4 : Row W0 (w.heap.size + 3) [.bool false] := by rw [← hW]; exact Row.at (by simp) [_] _
  have hB0 : Below w.heap.size w W0 := by rw [← hW]; exact ((((Below.refl _ _).alloc (Nat.le_refl _) _).alloc (by simp) _).alloc (by simp; omega) _).alloc (by simp; omega) _
  clear hW
  refine (works_any _).mono ?_
  rintro e w1 ⟨rfl, hb⟩
  have r4 := hR4.after hb
  have x4 := r4.c 0 rfl
  have f4 := r4.f 0 rfl
  have r5 := (r4.set 0 (by simp) (.bool true)).c 0 rfl
  have hB1 : Below w.heap.size w (w1.setCell ⟨w.heap.size + 3, 0, none⟩ (.bool true)) := below_put1 (hB0.trans (hb.mono hB0.size)) (by omega) 0 _
  clear hb r4
  go_wp2_with fail
  exact bodyPost_ret (v := .bool true) (by simp [results, Try.results4, go_sem, r5]) rfl ⟨rfl, hB1⟩
end Go.Proofs.Ytncgjlhmgdgokaa
