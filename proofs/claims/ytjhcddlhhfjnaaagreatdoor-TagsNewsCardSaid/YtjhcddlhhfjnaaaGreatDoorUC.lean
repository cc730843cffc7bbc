/- Contracts of read and Parse: a text taken apart. -/
import Derived.Test.YtjhcddlhhfjnaaaGreatDoorUB
import Derived.Test.YtjhcddlhhfjnaaaGreatDoorTM
namespace Go.Proofs.YtjhcddlhhfjnaaaGreatDoor
open Go.RowKit Go.Sort Go.Shelf
attribute [local go_sem] Oper.semAt_some

/-- A slice of cells beside a block that is written. -/
theorem CellsS.grown {X Y : World} {A : Option Addr} {xs : List Value} {r : Option Nat} (h : CellsS X A xs) (hg : X.grownBy Y r) (hr : ∀ a, A = some a → some a.block ≠ r) : CellsS Y A xs := fun h0 => by
  obtain ⟨b, o, hA, hl⟩ := h h0
  exact ⟨b, o, hA, Nat.lt_of_lt_of_le hl.1 hg.size, fun j v hv => by rw [← hl.2 j v hv]; exact World.cell?_of_block (hg.block b hl.1 (hr _ hA))⟩
theorem CellsS.turn {X : World} {A : Option Addr} {xs : List Value} {l : Nat} {o : Obj} (o' : Obj) (h : CellsS X A xs) (hl : X.heap[l]? = some o) (ho : o.isCells = false) : CellsS (X.putObj l o') A xs := fun h0 => by
  obtain ⟨b, i, hA, hc⟩ := h h0
  obtain ⟨x, hx⟩ : ∃ x, xs[0]? = some x := ⟨_, List.getElem?_eq_getElem h0⟩
  have hb : b ≠ l := fun e => by
    subst e
    have := hc.2 0 x hx
    simp only [World.cell?, hl] at this
    cases o with
    | cells => cases ho
    | _ => simp at this
  exact ⟨b, i, hA, by have := hc.1; simpa [World.putObj] using this, fun j v hv => by
    rw [← hc.2 j v hv]
    have e : (X.putObj l o').heap[b]? = X.heap[b]? := World.putObj_heap_other hb
    simp only [World.cell?, e]⟩
theorem CellsS.same {X Y : World} {A : Option Addr} {xs : List Value} (h : CellsS X A xs) (hs : SameC X Y) : CellsS Y A xs := fun h0 => by
  obtain ⟨b, i, hA, hc⟩ := h h0
  obtain ⟨x, hx⟩ : ∃ x, xs[0]? = some x := ⟨_, List.getElem?_eq_getElem h0⟩
  have hl := hc.1
  have hb : X.heap[b]? = some X.heap[b] := Array.getElem?_eq_getElem hl
  have hk : X.heap[b].isCells = true := by
    have := hc.2 0 x hx
    simp only [World.cell?, hb] at this
    generalize X.heap[b] = o at this
    cases o with
    | cells => rfl
    | _ => simp at this
  have hy := hs b _ hb hk
  exact ⟨b, i, hA, (Array.getElem?_eq_some_iff.1 hy).1, fun j v hv => by
    rw [← hc.2 j v hv]
    simp only [World.cell?, hb, hy]⟩
/-- What stands behind some words: the least number, the counts, the error. -/
abbrev RdT := Int × List (Int × Int) × Int
def rdStep (st : RdT) (x : ByteArray) : Option RdT :=
  match goodWord x.data.toList st.1 with
  | none => none
  | some v => if st.2.2 = 0 then some (v, moreL st.2.1 v, moreE st.2.1 v) else some (v, st.2.1, st.2.2)
def rdAll : RdT → List ByteArray → Option RdT
  | st, [] => some st
  | st, x :: r => match rdStep st x with
    | none => none
    | some st2 => rdAll st2 r
theorem rdAll_snoc (x : ByteArray) : ∀ (l : List ByteArray) (st : RdT), rdAll st (l ++ [x]) = match rdAll st l with
    | none => none
    | some s => rdStep s x
  | [], st => by
    show (match rdStep st x with | none => none | some st2 => rdAll st2 []) = rdStep st x
    cases rdStep st x <;> rfl
  | y :: r, st => by
    show (match rdStep st y with | none => none | some st2 => rdAll st2 (r ++ [x])) = match (match rdStep st y with | none => none | some st2 => rdAll st2 r) with | none => none | some s => rdStep s x
    cases rdStep st y with
    | none => rfl
    | some st2 => exact rdAll_snoc x r st2
theorem rdAll_pre : ∀ {l m : List ByteArray} {st : RdT}, rdAll st l = none → l <+: m → rdAll st m = none
  | [], _, _, h, _ => by cases h
  | x :: r, m, st, h, hp => by
    obtain ⟨t, rfl⟩ := hp
    show (match rdStep st x with | none => none | some st2 => rdAll st2 (r ++ t)) = none
    have h' : (match rdStep st x with | none => none | some st2 => rdAll st2 r) = none := h
    cases hs : rdStep st x with
    | none => rfl
    | some st2 =>
      rw [hs] at h'
      exact rdAll_pre (l := r) h' ⟨t, rfl⟩
theorem split_le : ∀ (l : List UInt8), ∀ u ∈ splitB l, u.length ≤ l.length
  | [], u, h => by simp [splitB] at h; simp [h]
  | c :: r, u, h => by
    rw [splitB] at h
    split at h
    · rcases List.mem_cons.1 h with rfl | h
      · simp
      · have := split_le r u h; simp; omega
    · split at h
      · simp at h; simp [h]
      · rename_i y ys hy
        rcases List.mem_cons.1 h with rfl | h
        · have := split_le r y (by rw [hy]; simp); simp; omega
        · have := split_le r u (by rw [hy]; simp [h]); simp; omega
theorem words_le {s x : ByteArray} (h : x ∈ wordsB s) : x.size ≤ s.size := by
  unfold wordsB at h
  obtain ⟨u, hu, rfl⟩ := List.mem_map.1 h
  have := split_le _ u hu
  show u.toArray.size ≤ s.size
  simpa using this
/-- What a text's words come to. -/
def readE (l : List ByteArray) : Int := match rdAll (1, [], 0) l with
  | none => 200
  | some st => st.2.2
def readL (l : List ByteArray) : List (Int × Int) := match rdAll (1, [], 0) l with
  | none => []
  | some st => if st.2.2 = 0 then st.2.1 else []
/-- What stands while a text is read. -/
structure RdS (w : World) (bS : Nat) (pre : List ByteArray) (least : Int) (cs : List (Int × Int)) (err : Int) (A : Option Addr) (N c : Nat) (W : World) : Prop where
  st : rdAll (1, [], 0) pre = some (least, cs, err)
  res : Row W w.heap.size [.slice none 0 0]
  box : Row W (w.heap.size + 1) [.slice A N c]
  lon : Row W (w.heap.size + 1 + 1) [.int .i64 err]
  lea : Row W (w.heap.size + 1 + 1 + 1) [.int .i64 least]
  len : N = cs.length
  cells : CellsS W A (cntCs cs)
  cap : N ≤ c
  far : ∀ a, A = some a → w.heap.size + 4 ≤ a.block ∧ a.block ≠ bS
  good : Good cs
  below : Below w.heap.size w W
section
variable {w W W1 : World} {bS : Nat} {pre : List ByteArray} {least : Int} {cs : List (Int × Int)} {err : Int} {A : Option Addr} {N c : Nat}
theorem RdS.grown (h : RdS w bS pre least cs err A N c W) (hS : w.heap.size + 4 ≤ bS) (hg : W.grownBy W1 (some bS)) : RdS w bS pre least cs err A N c W1 :=
  ⟨h.st, h.res.grown hg (by simp; omega), h.box.grown hg (by simp; omega), h.lon.grown hg (by simp; omega), h.lea.grown hg (by simp; omega), h.len, h.cells.grown hg (fun a ha e => (h.far a ha).2 (Option.some.inj e)), h.cap, h.far, h.good, h.below.grown hg h.below.size (fun k hk => by cases hk; omega)⟩
theorem RdS.turn {l : Nat} {o : Obj} (o' : Obj) (h : RdS w bS pre least cs err A N c W) (hl : W.heap[l]? = some o) (ho : o.isCells = false) (hb : w.heap.size + 4 ≤ l) : RdS w bS pre least cs err A N c (W.putObj l o') :=
  ⟨h.st, h.res.turn (by omega) o', h.box.turn (by omega) o', h.lon.turn (by omega) o', h.lea.turn (by omega) o', h.len, h.cells.turn o' hl ho, h.cap, h.far, h.good, h.below.trans (below_putObj W o' (by omega))⟩
end
theorem wpAt_block {P : Program} {f0 : FuncId} {Q : Exit → Act → World → Prop} {a : Act} {w : World} {id : Nat} {c : Code} (h : wpAt P f0 c (Exit.inBlock id Q) a w) : wpAt P f0 (Code.block id c) Q a w := by
  intro b k cs hro hb
  have h0 := fun x => fenced_wide P x
  obtain ⟨e, a₁, w₁, hq, harr⟩ := h b (.inBlock id :: k) cs hro hb
  cases e with
  | normal => exact ⟨.normal, a₁, w₁, hq, .head (h0 _) stepR_block (StepsIn.trans harr (.one (h0 _) stepR_inBlock))⟩
  | exit id' =>
    by_cases hid : id' = id
    · simp only [Exit.inBlock, hid, if_true] at hq
      exact ⟨.normal, a₁, w₁, hq, .head (h0 _) stepR_block (harr.1 k (by simp [exitTo, hid]))⟩
    · simp only [Exit.inBlock, hid, if_false] at hq
      have this : (id == id') = false := by simp; exact fun h => hid h.symm
      have hx : exitTo id' (.inBlock id :: k) = exitTo id' k := by simp [exitTo, this]
      exact ⟨.exit id', a₁, w₁, hq, fun k' hk => .head (h0 _) stepR_block (harr.1 k' (by rw [hx]; exact hk)),
        fun hr' hk => let ⟨k₁, h1, h2⟩ := harr.2 hr' (by rw [hx]; exact hk); ⟨k₁, h1, .head (h0 _) stepR_block h2⟩⟩
  | goto l =>
    have hx : gotoIn l (.inBlock id :: k) = gotoIn l k := by simp [gotoIn]
    exact ⟨_, a₁, w₁, hq, fun k' hk => .head (h0 _) stepR_block (harr.1 k' (by rw [hx]; exact hk)),
      fun hr' hk => let ⟨k₁, h1, h2⟩ := harr.2 hr' (by rw [hx]; exact hk); ⟨k₁, h1, .head (h0 _) stepR_block h2⟩⟩
  | ret => exact ⟨_, a₁, w₁, hq, .of_steps (.one (h0 _) stepR_block) harr⟩
  | panic ch => exact ⟨_, a₁, w₁, hq, .of_steps (.one (h0 _) stepR_block) harr⟩
  | outgrown => exact ⟨_, a₁, w₁, hq, .of_steps (.one (h0 _) stepR_block) harr⟩
theorem leaves_gave {F : Fence} {n : Nat} {P : Program} {B : Nat} {fn : Func} {tmps : Array Value} {R : Ending → World → Prop} {u : FrameMode} (hu : u ≠ .run) : ∀ (l : List Nat) (W : World), Marks B l W →
    (∀ V, Below B W V → LeavesIn F n P fn tmps R [] u V) → LeavesInM F n P fn tmps R (markL l) u W
  | [], W, _, h => h W (Below.refl _ _)
  | D :: r, W, ⟨h1, h2, h3, h4⟩, h => by
    have hb : Below D W (W.putObj D (.deferred none)) := below_putObj W _ (Nat.le_refl _)
    exact ⟨hu, .inl ⟨D, _, rfl, run_takeDeferred h2, leaves_gave hu r _ (h4.below h3 hb) (fun V hV => h V ((hb.mono h1).trans hV))⟩⟩
set_option maxRecDepth 100000 in
set_option maxHeartbeats 6400000 in
theorem read_any (s : ByteArray) (w : World) (hs : s.size ≤ 1000000) (hv : VarS w) :
    Calls Tryz.prog 41 #[.string s] w (WorkPost w (readE (wordsB s)) (readL (wordsB s))) := by
  have HV := Lib.hid hv; clear hv
  refine callsAt_of_marks (n := 9) Tryz.func41 rfl ?_
  simp only [Tryz.ntmps41, List.size_toArray, List.length_cons, List.length_nil, Nat.reduceAdd, Nat.reduceSub, Array.replicate_succ, Array.replicate_zero, List.push_toArray, List.append_toArray, List.nil_append, List.cons_append]
  refine wpAt_seq_of ?_
  go_wp2_with fail
  refine wpAt_seq_of ?_
  go_wp2_with fail
  refine wpAt_seq_of ?_
  go_wp2_with fail
  refine wpAt_seq_of ?_
  go_wp2_with fail
  generalize hW : World.alloc _ _ = W0
  have hR2 : Row W0 w.heap.size [.slice none 0 0] := by rw [← hW]; exact (((Row.at rfl [_] _).alloc _).alloc _).alloc _
  have hR3 : Row W0 (w.heap.size + 1) [.slice none 0 0] := by rw [← hW]; exact ((Row.at (by simp) [_] _).alloc _).alloc _
  have hR4 : Row W0 (w.heap.size + 1 + 1) [.int .i64 0] := by rw [← hW]; exact (Row.at (by simp) [_] _).alloc _
  have hR5 : Row W0 (w.heap.size + 1 + 1 + 1) [.int .i64 1] := by rw [← hW]; exact Row.at (by simp) [_] _
  have hB : Below w.heap.size w W0 := by rw [← hW]; exact ((((Below.refl _ _).alloc (Nat.le_refl _) _).alloc (by simp) _).alloc (by simp; omega) _).alloc (by simp; omega) _
  have hsz : W0.heap.size = w.heap.size + 4 := by rw [← hW]; simp
  clear hW
  refine wpAt_seq ?_
  refine wpAt_seq_of ?_
  go_wp2_with fail
  refine (split_any s _).mono ?_
  rintro e W1 ⟨bS, rfl, hbS, hr1, hr2, hr3, hb⟩
  have hS0 : RdS w bS [] 1 [] 0 none 0 0 W1 := ⟨rfl, hR2.after hb, hR3.after hb, hR4.after hb, hR5.after hb, rfl, CellsS.nil _ _, Nat.le_refl _, (fun a ha => by cases ha), Good.nil, hB.trans (hb.mono hB.size)⟩
  have hz1 := hb.size
  clear hR2 hR3 hR4 hR5 hB hb
  go_wp2_with fail
  refine wpAt_block ?_
  refine wpAt_range_w (α := ByteArray) (n := 9) ⟨_, Tryz.func41⟩ (gf := 76) (lb := #[.pointer (some ⟨bS + 1, 0, none⟩), .pointer (some ⟨bS, 0, none⟩), .pointer (some ⟨bS + 2, 0, none⟩)]) rfl (enters_of Tryz.func76 (by kernel_rfl) rfl)
    (split1_w 7 bS s W1 hs hr1 hr2 hr3) (fun b h => by cases h; exact hr1.1) KeepsT.trans (fun l W o o' h _ _ => KeepsT.turn W o' (by have := hr3.1; omega)) (fun _ _ h => KeepsT.below h) (Below.refl _ _) (fun _ => rfl)
    (fun pre W => ∃ least cs err A N c, RdS w bS pre least cs err A N c W) (fun _ _ _ => False)
    (fun ch W => ch = [{ v := .iface 27 (.int .i64 200), recovered := false }] ∧ Below w.heap.size w W ∧ rdAll (1, [], 0) (wordsB s) = none)
    (fun pre X Y h hg => by obtain ⟨_, _, _, _, _, _, h⟩ := h; exact ⟨_, _, _, _, _, _, h.grown (by omega) hg⟩) (fun _ _ X Y h _ => h.elim)
    (fun pre W l o o' hl h1 h2 h => by obtain ⟨_, _, _, _, _, _, h⟩ := h; exact ⟨_, _, _, _, _, _, h.turn o' h1 h2 (by omega)⟩) (fun _ _ _ _ _ _ _ _ _ h => h.elim) ⟨_, _, _, _, _, _, hS0⟩
    (fun x a' _ => a' = { tmps := #[.string s, undef, .pointer (some ⟨w.heap.size, 0, none⟩), .pointer (some ⟨w.heap.size + 1, 0, none⟩), .pointer (some ⟨w.heap.size + 1 + 1, 0, none⟩), .pointer (some ⟨w.heap.size + 1 + 1 + 1, 0, none⟩), .string x, .string s,
      .func (.func 76) #[] #[.pointer (some ⟨bS + 1, 0, none⟩), .pointer (some ⟨bS, 0, none⟩), .pointer (some ⟨bS + 2, 0, none⟩)], .string x, undef, undef, undef, undef, undef, undef, undef, undef, undef, undef, undef, undef, undef, undef], defers := [] })
    (fun x a' W lo o h1 h2 e => e) ?assign ?body ?done ?stop ?gave
  case stop => exact fun _ _ _ _ _ _ h => h.elim
  case assign =>
    intro l' pre x W K hI hW hK
    clear hI hS0
    unfold encS
    gi_wp2
    exact hK _ _ (Below.refl _ _) rfl
  case gave =>
    rintro D ch W hD ⟨rfl, hBW, hn⟩ hK
    have hM : Marks W1.heap.size [D] W := ⟨hD, hK, by simp, trivial⟩
    refine leaves_gave (by simp) [D] W hM fun V hV => ?_
    refine ⟨hBW.trans (hV.mono ?_), .inr ⟨?_, ?_, ?_⟩⟩
    · omega
    · unfold readE; rw [hn]; decide
    · unfold readL; rw [hn]
    · unfold readE; rw [hn]; rfl
  case done =>
    rintro D V hD ⟨least, cs, err, A, N, c, HI⟩ hK
    show wpAt _ _ _ _ _ _
    refine wpAt_of ?_
    have hD1 : D < V.heap.size := (Array.getElem?_eq_some_iff.1 hK).1
    have x3 := HI.box.c 0 rfl
    have x4 := HI.lon.c 0 rfl
    have HS := Lib.hid (And.intro HI hK)
    have hfar : ∀ a, A = some a → w.heap.size + 4 ≤ a.block := fun a ha => (HI.far a ha).1
    clear HI hK hS0 hr1 hr2 hr3
    by_cases he : err = 0
    · subst he
      have HE : Hid (readE (wordsB s) = 0 ∧ readL (wordsB s) = cs) := Lib.hid (by unfold readE readL; rw [HS.out.1.st]; exact ⟨rfl, rfl⟩)
      go_wp2_with fail
      refine (must_ok A N c _).mono ?_
      rintro e W2 ⟨rfl, hb2⟩
      have r2 := HS.out.1.res.after hb2
      have y2 := r2.c 0 rfl
      have g2 := r2.f 0 rfl
      have hBW : Below w.heap.size w (W2.setCell ⟨w.heap.size, 0, none⟩ (.slice A N c)) := below_put1 (HS.out.1.below.trans (hb2.mono HS.out.1.below.size)) (Nat.le_refl _) 0 _
      have hcc : CellsS (W2.setCell ⟨w.heap.size, 0, none⟩ (.slice A N c)) A (cntCs cs) := (HS.out.1.cells.after hb2).put (fun _ a ha => by have := hfar a ha; show a.block ≠ w.heap.size; omega)
      have r3 : Row (W2.setCell ⟨w.heap.size, 0, none⟩ (.slice A N c)) w.heap.size [.slice A N c] := r2.set 0 (by simp) _
      have hM : Marks W1.heap.size [D] (W2.setCell ⟨w.heap.size, 0, none⟩ (.slice A N c)) := ⟨hD, (Below.heap_setCell _ _ _ _ (by show D ≠ w.heap.size; omega)).trans ((hb2.block D hD1).trans HS.out.2), by simp, trivial⟩
      have HH := Lib.hid (And.intro hBW (And.intro hcc (And.intro r3 hM)))
      clear hBW hcc r3 hM hb2 r2 x3 x4
      go_wp2_with fail
      refine leaves_marksC [D] _ HH.out.2.2.2 fun V5 hV hSa => ?_
      have c1 := (HH.out.2.2.1.below hV (by omega)).c 0 rfl
      exact ⟨.agg #[.slice A N c], by simp [results, Tryz.results41, go_sem, asAddr, c1], HH.out.1.trans (hV.mono (by omega)), .inl ⟨HE.out.1, A, N, c, rfl, by rw [HE.out.2]; exact HS.out.1.len, by rw [HE.out.2]; exact HH.out.2.1.same hSa, HS.out.1.cap, fun a ha => by have := hfar a ha; omega⟩⟩
    · have HE : Hid (readE (wordsB s) = err ∧ readL (wordsB s) = []) := Lib.hid (by unfold readE readL; rw [HS.out.1.st]; exact ⟨rfl, if_neg he⟩)
      have HM := Lib.hid (fun W => must_gave (.slice A N c) err he W)
      have HE2 := Lib.hid he
      clear he
      go_wp2_with fail
      refine (HM.out _).mono ?_
      rintro e W2 ⟨rfl, hb2⟩
      have hBW : Below w.heap.size w W2 := HS.out.1.below.trans (hb2.mono HS.out.1.below.size)
      have hM : Marks W1.heap.size [D] W2 := ⟨hD, (hb2.block D hD1).trans HS.out.2, by simp, trivial⟩
      have HH := Lib.hid (And.intro hBW hM)
      clear hBW hM hb2 x3 x4
      unfold gaveE
      go_wp2_with fail
      refine leaves_gave (by simp) [D] _ HH.out.2 fun V5 hV => ?_
      refine ⟨HH.out.1.trans (hV.mono (by omega)), .inr ⟨by rw [HE.out.1]; exact HE2.out, HE.out.2, by rw [HE.out.1]; rfl⟩⟩
  case body =>
    intro l' pre x hp
    cases hq : rdAll (1, [], 0) pre with
    | none => exact .inl (fun a' W hI _ _ => by obtain ⟨_, _, _, _, _, _, h⟩ := hI; have := h.st; rw [hq] at this; cases this)
    | some st =>
      obtain ⟨least, cs, err⟩ := st
      have hxs : x.size ≤ 1000000 := Nat.le_trans (words_le (hp.subset (by simp))) hs
      have hS1 := hr1.1
      clear hS0 hr1 hr2 hr3
      cases hg : goodWord x.data.toList least with
      | none =>
        have HNo : Hid (rdAll (1, [], 0) (wordsB s) = none) := Lib.hid (rdAll_pre (l := pre ++ [x]) (by rw [rdAll_snoc, hq]; simp only [rdStep, hg]) hp)
        refine .inr ?_
        rintro a' W ⟨least', cs', err', A, N, c, HI⟩ hW rfl
        have hst := HI.st
        rw [hq] at hst
        cases hst
        have HN := Lib.hid (number_any x least W hxs (HV.out.after HI.below))
        have x5 := HI.lea.c 0 rfl
        have HS := Lib.hid HI
        clear HI
        gi_wp2_with fail
        refine ⟨trivial, CallsIn.inRound _ (callsIn_wide.2 (HN.out.mono ?_))⟩
        rintro e W2 ⟨hb2, ⟨v, hv, _⟩ | ⟨_, rfl⟩⟩
        · rw [hg] at hv; cases hv
        have HR := Lib.hid (And.intro ((keeps_below hb2).from W1.heap.size) (HS.out.below.trans (hb2.mono HS.out.below.size)))
        clear hb2 x5
        unfold gaveE
        gi_wp2_with fail
        exact ⟨rfl, _, rfl, HR.out.1, rfl, HR.out.2, HNo.out⟩
      | some v =>
        refine .inl ?_
        rintro a' W ⟨least', cs', err', A, N, c, HI⟩ hW rfl
        have hst := HI.st
        rw [hq] at hst
        cases hst
        have HN := Lib.hid (number_any x least W hxs (HV.out.after HI.below))
        have x5 := HI.lea.c 0 rfl
        have HS := Lib.hid HI
        clear HI
        gi_wp2_with fail
        refine ⟨trivial, CallsIn.inRound _ (callsIn_wide.2 (HN.out.mono ?_))⟩
        rintro e W2 ⟨hb2, hr⟩
        obtain rfl : e = .returned (.int .i64 v) := by
          rcases hr with ⟨v', hv, he⟩ | ⟨hv, _⟩
          · rw [hg] at hv; cases hv; exact he
          · rw [hg] at hv; cases hv
        clear hr
        have r5 := HS.out.lea.after hb2
        have y5 := r5.c 0 rfl
        have g5 := r5.f 0 rfl
        have q5 : Row (W2.setCell ⟨w.heap.size + 1 + 1 + 1, 0, none⟩ (.int .i64 v)) (w.heap.size + 1 + 1 + 1) [.int .i64 v] := r5.set 0 (by simp) _
        have q4 : Row (W2.setCell ⟨w.heap.size + 1 + 1 + 1, 0, none⟩ (.int .i64 v)) (w.heap.size + 1 + 1) [.int .i64 err] := (HS.out.lon.after hb2).other (by simp <;> omega) _
        have q3 : Row (W2.setCell ⟨w.heap.size + 1 + 1 + 1, 0, none⟩ (.int .i64 v)) (w.heap.size + 1) [.slice A N c] := (HS.out.box.after hb2).other (by simp <;> omega) _
        have q2 : Row (W2.setCell ⟨w.heap.size + 1 + 1 + 1, 0, none⟩ (.int .i64 v)) w.heap.size [.slice none 0 0] := (HS.out.res.after hb2).other (by simp <;> omega) _
        have qc : CellsS (W2.setCell ⟨w.heap.size + 1 + 1 + 1, 0, none⟩ (.int .i64 v)) A (cntCs cs) := (HS.out.cells.after hb2).put (fun _ a ha => by have := (HS.out.far a ha).1; show a.block ≠ w.heap.size + 1 + 1 + 1; omega)
        have qB : Below w.heap.size w (W2.setCell ⟨w.heap.size + 1 + 1 + 1, 0, none⟩ (.int .i64 v)) := below_put1 (HS.out.below.trans (hb2.mono HS.out.below.size)) (by omega) 0 _
        have qK : KeepsOthers W (W2.setCell ⟨w.heap.size + 1 + 1 + 1, 0, none⟩ (.int .i64 v)) := (keeps_below hb2).trans (KeepsOthers.setCell _ _ _)
        have qT : KeepsT bS W (W2.setCell ⟨w.heap.size + 1 + 1 + 1, 0, none⟩ (.int .i64 v)) := (KeepsT.below hb2).put (by omega) 0 _
        have qz : W.heap.size ≤ (W2.setCell ⟨w.heap.size + 1 + 1 + 1, 0, none⟩ (.int .i64 v)).heap.size := by simpa [World.setCell] using hb2.size
        have HQ := Lib.hid (And.intro q2 (And.intro q3 (And.intro q4 (And.intro q5 (And.intro qc (And.intro qB (And.intro qK (And.intro qT qz))))))))
        have z5 := q5.c 0 rfl
        have z4 := q4.c 0 rfl
        have z3 := q3.c 0 rfl
        have HSt : Hid (∀ st, rdStep (least, cs, err) x = some st → rdAll (1, [], 0) (pre ++ [x]) = some st) := Lib.hid (fun st h => by rw [rdAll_snoc, hq]; exact h)
        have HG := Lib.hid hg
        clear q2 q3 q4 q5 qc qB qK qT qz hb2 r5 hq hg
        by_cases he : err = 0
        · subst he
          have HM := Lib.hid (fun W3 (hC : CellsS W3 A (cntCs cs)) => more_any cs A N c v W3 HS.out.len (by have := HS.out.good.len; have := HS.out.len; omega) HS.out.cap hC HS.out.good.work)
          gi_wp2_with fail
          refine ⟨trivial, CallsIn.inRound _ (callsIn_wide.2 ((HM.out _ HQ.out.2.2.2.2.1).mono ?_))⟩
          rintro e W4 ⟨A2, N2, c2, rfl, hN2, hC2, hc2, hf2, hb4⟩
          obtain ⟨q2, q3, q4, q5, qc, qB, qK, qT, qz⟩ := HQ.out
          have hsz3 := qB.size
          have r3 := q3.after hb4
          have r4 := q4.after hb4
          have y3 := r3.c 0 rfl
          have g3 := r3.f 0 rfl
          have k4 : Row (W4.setCell ⟨w.heap.size + 1, 0, none⟩ (.slice A2 N2 c2)) (w.heap.size + 1 + 1) [.int .i64 0] := r4.other (by simp <;> omega) _
          have y4 := k4.c 0 rfl
          have g4 := k4.f 0 rfl
          have hlt5 := q5.1
          have hne : ∀ a, A2 = some a → w.heap.size + 4 ≤ a.block ∧ a.block ≠ bS := fun a ha => by
            have h1 := hf2 a ha
            have h3 : bS < W.heap.size := by omega
            exact ⟨by omega, by omega⟩
          have HI2 : Hid (RdS w bS (pre ++ [x]) v (moreL cs v) (moreE cs v) A2 N2 c2 ((W4.setCell ⟨w.heap.size + 1, 0, none⟩ (.slice A2 N2 c2)).setCell ⟨w.heap.size + 1 + 1, 0, none⟩ (.int .i64 (moreE cs v)))) := Lib.hid ⟨HSt.out _ (by unfold rdStep; rw [HG.out]; rfl),
            ((q2.after hb4).other (by simp <;> omega) _).other (by simp <;> omega) _, (r3.set 0 (by simp) _).other (by simp <;> omega) _, k4.set 0 (by simp) _, ((q5.after hb4).other (by simp <;> omega) _).other (by simp <;> omega) _, hN2,
            (hC2.put (fun _ a ha => by have := (hne a ha).1; show a.block ≠ w.heap.size + 1; omega)).put (fun _ a ha => by have := (hne a ha).1; show a.block ≠ w.heap.size + 1 + 1; omega), hc2, hne, good_more HS.out.good,
            below_put1 (below_put1 (qB.trans (hb4.mono qB.size)) (by omega) 0 _) (by omega) 0 _⟩
          have HK2 := Lib.hid (qK.trans ((keeps_below hb4).trans ((KeepsOthers.setCell W4 ⟨w.heap.size + 1, 0, none⟩ (.slice A2 N2 c2)).trans (KeepsOthers.setCell _ ⟨w.heap.size + 1 + 1, 0, none⟩ (.int .i64 (moreE cs v))))))
          have HT2 : Hid (KeepsT bS W ((W4.setCell ⟨w.heap.size + 1, 0, none⟩ (.slice A2 N2 c2)).setCell ⟨w.heap.size + 1 + 1, 0, none⟩ (.int .i64 (moreE cs v)))) := Lib.hid (((qT.trans (KeepsT.below hb4)).put (by omega) 0 _).put (by omega) 0 _)
          clear q2 q3 q4 q5 qc qB qK qT qz r3 r4 k4 hN2 hC2 hc2 hf2 hb4 hne HQ HSt HG HM HS y5 g5 z5 z4 z3 hlt5 hsz3
          gi_wp2
          exact ⟨HK2.out.from _, HT2.out, _, _, _, _, _, _, HI2.out⟩
        · have HI2 : Hid (RdS w bS (pre ++ [x]) v cs err A N c (W2.setCell ⟨w.heap.size + 1 + 1 + 1, 0, none⟩ (.int .i64 v))) := Lib.hid ⟨HSt.out _ (by unfold rdStep; rw [HG.out]; exact if_neg he), HQ.out.1, HQ.out.2.1, HQ.out.2.2.1, HQ.out.2.2.2.1, HS.out.len, HQ.out.2.2.2.2.1, HS.out.cap, HS.out.far, HS.out.good, HQ.out.2.2.2.2.2.1⟩
          have he' : (err == 0) = false := by simpa using he
          clear he
          gi_wp2
          exact ⟨HQ.out.2.2.2.2.2.2.1.from _, HQ.out.2.2.2.2.2.2.2.1, _, _, _, _, _, _, HI2.out⟩
end Go.Proofs.YtjhcddlhhfjnaaaGreatDoor
