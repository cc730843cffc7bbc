/- Contract of Tags.Odd; All as a sequence over which one may gather. -/
import Derived.Test.YtjhcddlhhfjnaaaGreatDoorTM
import Derived.Test.YtjhcddlhhfjnaaaGreatDoorPV
import Derived.OwnWalkIn
namespace Go.Proofs.YtjhcddlhhfjnaaaGreatDoor
open Go.RowKit Go.Sort Go.Shelf
attribute [local go_sem] Oper.semAt_some

set_option maxRecDepth 100000 in
set_option maxHeartbeats 3200000 in
/-- All goes over the counts. -/
theorem all1_v (n E : Nat) (cs : List (Int × Int)) (A : Option Addr) (N c : Nat) (w : World) (hN : N = cs.length) (hb : N ≤ 3000) (hE : Row w E [.slice A N c]) (hA : CellsS w A (cntCs cs)) :
    SeqV Fence.wide (n + 1) Tryz.prog 49 #[.pointer (some ⟨E, 0, none⟩)] encC none (KeepsO N A) cs w := by
  intro l J Jx W hW hJ hJx hY h0
  have HY := Lib.hid hY; clear hY
  have HJ := Lib.hid hJ; clear hJ
  have HN := Lib.hid hN; clear hN
  have hR := hE.after hW
  have HA := Lib.hid (hA.after hW)
  clear hE hW hA
  have c0 := hR.c 0 rfl
  clear hR
  refine callsIn_of_wp Tryz.func49 rfl trivial ?_ rfl
  simp only [Tryz.ntmps49, List.size_toArray, List.length_cons, List.length_nil, Nat.reduceAdd, Nat.reduceSub, Array.replicate_succ, Array.replicate_zero, List.push_toArray, List.append_toArray, List.nil_append, List.cons_append]
  gi_wp2
  clear c0
  gi_loopw [8] (fun i wr => ∃ (j : Nat), j ≤ N ∧ i = .int .i64 j ∧ J (cs.take j) wr ∧ W.heap.size ≤ wr.heap.size ∧ Hid (CellsS wr A (cntCs cs))) (fun i _ => N - (intOf i).toNat)
  case atStart => exact ⟨0, Nat.zero_le _, rfl, h0, Nat.le_refl _, HA⟩
  case round =>
    obtain ⟨j, hj, rfl, hJr, hs, HS⟩ := hrel
    clear HA h0
    by_cases hjn : j < N
    · have hj1 : (j : Int) < N := by omega
      obtain ⟨p, hp⟩ : ∃ p, cs[j]? = some p := ⟨_, List.getElem?_eq_getElem (by rw [← HN.out]; exact hjn)⟩
      obtain ⟨b, o, rfl, hl⟩ := HS.out (by rw [cntCs_len, ← HN.out]; omega)
      have g := cntCs_get cs j p hp
      have c0 : wr.cell? ⟨b, o + j * 2, none⟩ = some (.int .i64 p.1) := hl.2 _ _ g.1
      have c1 : wr.cell? ⟨b, o + j * 2 + 1, none⟩ = some (.int .i64 p.2) := hl.2 _ _ g.2
      have HT : Hid (cs.take (j + 1) = cs.take j ++ [p]) := Lib.hid (by rw [List.take_add_one, hp]; rfl)
      have hB2 : Below wr.heap.size wr (wr.alloc (.cells #[.int .i64 p.1, .int .i64 p.2] 69)) := (Below.refl _ _).alloc (Nat.le_refl _) _
      obtain ⟨fn, tmps, assign, body, hy, hr⟩ := HY.out (cs.take j) p _ (HJ.out _ _ _ hJr (grown_of _ hB2)) (Nat.le_trans hs hB2.size) (HT.out ▸ List.take_prefix _ _)
      have HR := Lib.hid hr
      have HB2 := Lib.hid hB2
      unfold encC at hy
      clear hr g hl hp hB2
      gi_wp2
      refine HR.out.mono ?_
      rintro e W2 ⟨bb, rfl, hk, hb⟩
      clear hy HR c0 c1
      cases bb with
      | true =>
        rw [if_pos rfl, ← HT.out] at hb
        have HS2 : Hid (CellsS W2 (some ⟨b, o, none⟩) (cntCs cs)) := Lib.hid (hk.cells (HS.out.after HB2.out) (fun _ => by omega))
        have hs2 : W.heap.size ≤ W2.heap.size := Nat.le_trans (Nat.le_trans hs HB2.out.size) hk.1
        clear hk
        gi_wp2
        go_roundw
        case rel => exact ⟨j + 1, by omega, by go_num, hb, hs2, HS2⟩
        case measure => simp [intOf]; omega
      | false =>
        have hb' : Jx (cs.take j ++ [p]) W2 := hb
        have HP : Hid (cs.take j ++ [p] <+: cs) := Lib.hid (by rw [← HT.out]; exact List.take_prefix _ _)
        clear hb hk
        gi_wp2
        first | go_end0 | refine bodyPost_ret (results_none rfl _ _ _) rfl ?_
        exact ⟨⟨_, rfl⟩, .inr ⟨_, HP.out, hb'⟩⟩
    · obtain rfl : j = N := by omega
      have hJt : J cs wr := by rw [List.take_of_length_le (by rw [← HN.out]; exact Nat.le_refl _)] at hJr; exact hJr
      clear hJr
      gi_wp2
      first | go_end0 | refine bodyPost_ret (results_none rfl _ _ _) rfl ?_
      exact ⟨⟨_, rfl⟩, .inl hJt⟩

/-- Blocks of cells lie as they lay. -/
def SameC (W V : World) : Prop := ∀ (k : Nat) (o : Obj), W.heap[k]? = some o → o.isCells = true → V.heap[k]? = some o
theorem leaves_marksC {F : Fence} {n : Nat} {P : Program} {B : Nat} {fn : Func} {tmps : Array Value} {R : Ending → World → Prop} : ∀ (l : List Nat) (W : World), Marks B l W →
    (∀ V, Below B W V → SameC W V → LeavesIn F n P fn tmps R [] .returning V) → LeavesInM F n P fn tmps R (markL l) .returning W
  | [], W, _, h => h W (Below.refl _ _) (fun _ _ h _ => h)
  | D :: r, W, ⟨h1, h2, h3, h4⟩, h => by
    have hb : Below D W (W.putObj D (.deferred none)) := below_putObj W _ (Nat.le_refl _)
    have hs : SameC W (W.putObj D (.deferred none)) := fun k o hk ho => (World.putObj_heap_other (fun e => by subst e; rw [h2] at hk; cases hk; cases ho)).trans hk
    exact ⟨by simp, .inl ⟨D, _, rfl, run_takeDeferred h2, leaves_marksC r _ (h4.below h3 hb) (fun V hV hV2 => h V ((hb.mono h1).trans hV) (fun k o hk ho => hV2 k o (hs k o hk ho) ho))⟩⟩
theorem Own.same {e : TypeId} {k : Nat} {w w1 : World} {base N cap : Nat} {A : Option Addr} {xs : List Value} (h : Own e k w base A N cap xs) (hs : SameC w w1) : Own e k w1 base A N cap xs := by
  obtain ⟨h1, h2⟩ := h
  refine ⟨h1, ?_⟩
  rcases h2 with h2 | ⟨g, cap', cur, hv, hb, hh, q⟩
  · exact Or.inl h2
  · exact Or.inr ⟨g, cap', cur, hv, hb, hs g _ hh rfl, q⟩
/-- append at a plain region's list, inside a fence. -/
theorem wpListIn_app {F : Fence} {f : Nat} {P : Program} {w : World} {ops : Array Oper} {rest : List Oper} {o : Oper} {a : Act} {Q : Exit → Act → World → Prop} (hg : o.guard = none) (s x : Operand) {T e : TypeId} {k bytes : Nat}
    (hE : ElemTy P T e k bytes) (ho : o.op = Op.call { callee := Callee.builtin Builtin.append, args := #[s, x], argTypes := #[T, T] }) (base : Nat) (A : Option Addr) (N cap : Nat) (xs : List Value) (E : Option Addr) (m c : Nat) (ys : List Value)
    (hs : a.eval s = .slice A N cap) (hx : a.eval x = .slice E m c) (hown : Own e k w base A N cap xs) (hr : CellsS w E ys) (hys : ys.length = m * k) (hone : ∀ u ∈ ys, u.oneCell' = true) (hN : N + m ≤ 1000000000) (hb : base ≤ w.heap.size)
    (hK : ∀ (A' : Option Addr) (cap' : Nat) (w' : World), Own e k w' base A' (N + m) cap' (xs ++ ys) → w.grownBy w' (ownB A) → Below base w w' → wpListIn F f P ops Q rest (a.put o.dst (.slice A' (N + m) cap')) w') :
    wpListIn F f P ops Q (o :: rest) a w := by
  refine wpListIn_plain hg fun K hK' => ?_
  obtain ⟨A', cap', w', hrun, r1, r2, r3⟩ := run_app hE o.type base A N cap xs E m c ys hown hr hys hone hN hb
  unfold Oper.wpIn
  refine ⟨?_, ?_⟩
  · simp [Oper.about, ho, resolve, Target.leads, Sem.run_pure]
  · rw [Oper.semAt_plain F _ _ (by rw [ho]; intro c hc'; cases hc')]
    simp [execOp, ho, resolve, invoke, builtin, hs, hx, hrun, Result.andThen]
    exact hK' _ _ (hK A' cap' w' r1 r2 r3)
/-- The numbers that are there an odd number of times. -/
def oddL (cs : List (Int × Int)) : List Int := (cs.filter fun p => p.2 % 2 == 1).map (·.1)
theorem oddL_snoc (l : List (Int × Int)) (p : Int × Int) : oddL (l ++ [p]) = oddL l ++ (if (p.2 % 2 == 1) = true then [p.1] else []) := by
  unfold oddL
  rw [List.filter_append, List.map_append]
  by_cases h : (p.2 % 2 == 1) = true <;> simp [h]
/-- A slice of whole numbers as an answer. -/
def IntPost (w : World) (l : List Int) (e : Ending) (w' : World) : Prop :=
  ∃ A N cap, e = .returned (.slice A N cap) ∧ N = l.length ∧ CellsS w' A (intCs l) ∧ N ≤ cap ∧ (∀ a, A = some a → w.heap.size ≤ a.block) ∧ Below w.heap.size w w'
/-- A block of cells that grows, beside a row of another block. -/
theorem Row.grown {X Y : World} {b : Nat} {vs : List Value} {r : Option Nat} (h : Row X b vs) (hg : X.grownBy Y r) (hr : some b ≠ r) : Row Y b vs :=
  ⟨Nat.lt_of_lt_of_le h.1 hg.size, fun i v hv => ⟨by rw [← h.c i hv]; exact World.cell?_of_block (hg.block b h.1 hr), by rw [← h.f i hv]; exact World.frozen?_of_block (hg.block b h.1 hr)⟩⟩
theorem Own.grown {e : TypeId} {k : Nat} {w w1 : World} {base N cap : Nat} {A : Option Addr} {xs : List Value} {r : Option Nat} (h : Own e k w base A N cap xs) (hg : w.grownBy w1 r) (hr : ∀ g, ownB A = some g → some g ≠ r) : Own e k w1 base A N cap xs := by
  obtain ⟨h1, h2⟩ := h
  refine ⟨h1, ?_⟩
  rcases h2 with h2 | ⟨g, cap', cur, hv, hb, hh, q⟩
  · exact Or.inl h2
  · cases hv
    exact Or.inr ⟨g, cap, cur, rfl, hb, (hg.block g (Array.getElem?_eq_some_iff.mp hh).1 (hr g rfl)).trans hh, q⟩
theorem Own.turn {e : TypeId} {k : Nat} {w : World} {base N cap : Nat} {A : Option Addr} {xs : List Value} {l : Nat} {o o' : Obj} (h : Own e k w base A N cap xs) (hl : w.heap[l]? = some o) (ho : o.isCells = false) : Own e k (w.putObj l o') base A N cap xs := by
  obtain ⟨h1, h2⟩ := h
  refine ⟨h1, ?_⟩
  rcases h2 with h2 | ⟨g, cap', cur, hv, hb, hh, q⟩
  · exact Or.inl h2
  · cases hv
    refine Or.inr ⟨g, cap, cur, rfl, hb, (World.putObj_heap_other (fun e' => ?_)).trans hh, q⟩
    subst e'
    rw [hl] at hh; cases hh; cases ho
/-- The row of a slice that owns it is of cells. -/
theorem Own.kind {e : TypeId} {k : Nat} {w : World} {base N cap : Nat} {A : Option Addr} {xs : List Value} (h : Own e k w base A N cap xs) {g : Nat} (hg : ownB A = some g) : ∃ cur, w.heap[g]? = some (.cells cur e (0, 0)) := by
  obtain ⟨_, h2⟩ := h
  rcases h2 with ⟨h2, _⟩ | ⟨g', cap', cur, hv, hb, hh, q⟩
  · cases h2; cases hg
  · cases hv; cases hg; exact ⟨cur, hh⟩
/-- What stands while a list is gathered. -/
def GatS (e : TypeId) (w : World) (b : Nat) (xs : List Value) (W : World) : Prop :=
  Below w.heap.size w W ∧ b + 1 ≤ W.heap.size ∧ w.heap.size ≤ b ∧ ∃ A N cap, Row W b [.slice A N cap] ∧ Own e 1 W (b + 1) A N cap xs
section
variable {e : TypeId} {w W W1 : World} {b : Nat} {xs : List Value}
theorem GatS.steady (h : GatS e w b xs W) (hg : W.grownBy W1 none) : GatS e w b xs W1 := by
  obtain ⟨h1, h2, h3, A, N, cap, h4, h5⟩ := h
  exact ⟨h1.grown hg h1.size (fun k hk => by cases hk), Nat.le_trans h2 hg.size, h3, A, N, cap, h4.grown hg (by simp), h5.grown hg (fun _ _ => by simp)⟩
theorem GatS.turn {l : Nat} {o o' : Obj} (h : GatS e w b xs W) (hl : W.heap[l]? = some o) (ho : o.isCells = false) (hb : b < l) : GatS e w b xs (W.putObj l o') := by
  obtain ⟨h1, h2, h3, A, N, cap, h4, h5⟩ := h
  exact ⟨h1.trans (below_putObj W o' (by omega)), by simpa [World.putObj] using h2, h3, A, N, cap, h4.turn (by omega) o', h5.turn hl ho⟩
end
section
variable {e : TypeId} {w W X W2 : World} {b B k N1 cap1 N2 cap2 : Nat} {xs ys : List Value} {A A1 A2 : Option Addr}
/-- Behind an append to what is gathered: the box may be read. -/
theorem gat_box (h4 : Row W b [.slice A1 N1 cap1]) (h5 : Own e 1 W (b + 1) A1 N1 cap1 xs) (hX : Below W.heap.size W X) (hg : X.grownBy W2 (ownB A1)) : Row W2 b [.slice A1 N1 cap1] :=
  (h4.after hX).grown hg (fun he => by
    rcases h5.form with ⟨e1, _⟩ | ⟨g, e1, h, _⟩
    · rw [e1] at he; cases he
    · rw [e1] at he; injection he with he; have he : b = g := he; omega)
theorem gat_step (h1 : Below w.heap.size w W) (h3 : w.heap.size ≤ b) (h4 : Row W b [.slice A1 N1 cap1]) (h5 : Own e 1 W (b + 1) A1 N1 cap1 xs) (hX : Below W.heap.size W X) (hg : X.grownBy W2 (ownB A1)) (hO : Own e 1 W2 (b + 1) A2 N2 cap2 ys)
    (hB : b < B) (hA : 0 < k → ∀ a, A = some a → a.block < w.heap.size) :
    KeepsFrom B W (W2.setCell ⟨b, 0, none⟩ (.slice A2 N2 cap2)) ∧ KeepsO k A W (W2.setCell ⟨b, 0, none⟩ (.slice A2 N2 cap2)) ∧ GatS e w b ys (W2.setCell ⟨b, 0, none⟩ (.slice A2 N2 cap2)) := by
  have hr := gat_box h4 h5 hX hg
  have hown : ∀ g, ownB A1 = some g → b + 1 ≤ g ∧ ∃ cur, X.heap[g]? = some (.cells cur e (0, 0)) := fun g hg' => by
    obtain ⟨cur, hc⟩ := h5.kind hg'
    rcases h5.form with ⟨e1, _⟩ | ⟨g', e1, h, h'⟩
    · rw [e1] at hg'; cases hg'
    · rw [e1] at hg'; injection hg' with hg'; have hg' : g' = g := hg'; subst hg'
      exact ⟨h, cur, (hX.block _ h').trans hc⟩
  have hsz : W.heap.size ≤ W2.heap.size := Nat.le_trans hX.size hg.size
  have hold : ∀ j, j < W.heap.size → (∀ g, ownB A1 = some g → g ≠ j) → j ≠ b → (W2.setCell ⟨b, 0, none⟩ (.slice A2 N2 cap2)).heap[j]? = W.heap[j]? := fun j hj hn hb => by
    rw [Below.heap_setCell _ _ _ _ (by show j ≠ b; exact hb), hg.block j (Nat.lt_of_lt_of_le hj hX.size) (fun he => hn j he.symm rfl), hX.block j hj]
  refine ⟨⟨by simpa [World.setCell] using hsz, fun j o hj ho hc => ?_⟩, ⟨by simpa [World.setCell] using hsz, fun h0 a ha => ⟨by simpa [World.setCell] using hsz, fun hl => ?_⟩⟩, ?_⟩
  · rw [hold j (Array.getElem?_eq_some_iff.1 ho).1 (fun g hg' he => by
      subst he
      obtain ⟨_, cur, hcur⟩ := hown g hg'
      rw [hX.block g (Array.getElem?_eq_some_iff.1 ho).1, ho] at hcur
      cases hcur; cases hc) (by omega)]
    exact ho
  · have := hA h0 a ha
    exact hold _ hl (fun g hg' => by have := (hown g hg').1; omega) (by omega)
  · refine ⟨below_put1 ((h1.trans (hX.mono h1.size)).grown hg (Nat.le_trans h1.size hX.size) (fun j hj => by have := (hown j hj).1; omega)) h3 0 _, by have := hr.1; simp [World.setCell]; omega, h3, A2, N2, cap2, hr.set 0 (by simp) _, hO.put (fun g hg' => ?_) _⟩
    rcases hO.form with ⟨e1, _⟩ | ⟨g', e1, h, _⟩
    · rw [e1] at hg'; cases hg'
    · rw [e1] at hg'; injection hg' with hg'; have hg' : g' = g := hg'; show g ≠ b; omega
end
set_option maxRecDepth 100000 in
set_option maxHeartbeats 4000000 in
theorem odd_any (cs : List (Int × Int)) (A : Option Addr) (N c : Nat) (w : World) (hN : N = cs.length) (hb : N ≤ 3000) (hA : CellsS w A (cntCs cs)) (hp : ∀ p ∈ cs, 0 ≤ p.2) :
    Calls Tryz.prog 25 #[.agg #[.slice A N c]] w (IntPost w (oddL cs)) := by
  have HU := Lib.hid (fun E W (hE : Row W E [.slice A N c]) (hA : CellsS W A (cntCs cs)) => all1_v 7 E cs A N c W hN hb hE hA)
  have HA := Lib.hid hA
  have HN := Lib.hid hN
  have HPs := Lib.hid hp
  clear hA hN hp
  refine (callsIn_wide (n := 9)).1 ?_
  refine callsIn_of_wp_marks Tryz.func25 rfl trivial ?_ rfl
  simp only [Tryz.ntmps25, List.size_toArray, List.length_cons, List.length_nil, Nat.reduceAdd, Nat.reduceSub, Array.replicate_succ, Array.replicate_zero, List.push_toArray, List.append_toArray, List.nil_append, List.cons_append]
  refine wpIn_wide.2 ?_
  go_wp2_with fail
  generalize hW : World.alloc _ _ = W0
  have hR1 : Row W0 w.heap.size [.slice A N c] := by rw [← hW]; exact (Row.at rfl [_] _).alloc _
  have hR3 : Row W0 (w.heap.size + 1) [.slice none 0 0] := by rw [← hW]; exact Row.at (by simp) _ _
  have hB : Below w.heap.size w W0 := by rw [← hW]; exact ((Below.refl _ _).alloc (Nat.le_refl _) _).alloc (by simp) _
  clear hW
  have x0 := hR1.c 0 rfl
  go_wp2_with fail
  refine (all_any A N c _).mono ?_
  rintro e W1 ⟨E, rfl, hEs, hRE, hb⟩
  replace hR3 := hR3.after hb
  replace hB := hB.trans (hb.mono hB.size)
  have hG : GatS 2 w (w.heap.size + 1) (intCs (oddL [])) W1 := ⟨hB, hR3.1, Nat.le_succ _, none, 0, 0, hR3, Own.nil _ _ _ _⟩
  clear hb x0 hR1
  go_wp2_with fail
  refine (wpIn_wide (n := 9)).1 ?_
  refine wpIn_range_v (α := Int × Int) rfl (by omega) (gf := 49) (lb := #[.pointer (some ⟨E, 0, none⟩)]) rfl trivial (enters_of Tryz.func49 (by kernel_rfl) rfl)
    (HU.out E W1 hRE (HA.out.after hB)) (fun b h => by cases h) KeepsO.trans (fun l W o o' h _ _ => KeepsO.turn W o' (fun h0 a ha => CellsS.far (HA.out.after hB) h (by rw [cntCs_len, ← HN.out]; omega) a ha)) (fun _ _ h => KeepsO.below h) (Below.refl _ _) (fun _ => rfl)
    (fun pre W => GatS 2 w (w.heap.size + 1) (intCs (oddL pre)) W) (fun _ _ _ => False)
    (fun _ X Y h hg => h.steady hg) (fun _ _ X Y h _ => h.elim) (fun pre W l o o' hl h1 h2 h => h.turn h1 h2 (by have := hR3.1; omega)) (fun _ _ _ _ _ _ _ _ _ h => h.elim) hG
    (fun x a' _ => a' = { tmps := #[.agg #[.slice A N c], .pointer (some ⟨w.heap.size, 0, none⟩), .slice none 0 0, .pointer (some ⟨w.heap.size + 1, 0, none⟩), .int .i64 x.1, .int .i64 x.2, .agg #[.slice A N c], .func (.func 49) #[] #[.pointer (some ⟨E, 0, none⟩)], .int .i64 x.1, .int .i64 x.2, undef, undef, undef, undef, undef, undef, undef, undef], defers := [] })
    (fun x a' W lo o h1 h2 e => e) ?assign ?body ?done ?stop
  case assign =>
    intro l' pre x W K hI hW hK
    clear hI
    unfold encC
    gi_wp2
    exact hK _ _ (Below.refl _ _) rfl
  case body =>
    rintro l' pre x a' W hI hW hp rfl
    have hx0 := HPs.out x (hp.subset (by simp))
    obtain ⟨h1, h2, h3, A1, N1, cap1, h4, h5⟩ := hI
    have hlen : N1 ≤ 3000 := by
      have e1 := h5.len
      rw [intCs_len] at e1
      have e2 : (oddL pre).length ≤ pre.length := by unfold oddL; rw [List.length_map]; exact List.length_filter_le _ _
      have e3 := hp.length_le
      have e4 := HN.out
      simp at e3; omega
    have hr3 := hR3.1
    have y0 := h4.c 0 rfl
    have f0 := h4.f 0 rfl
    have HI := Lib.hid (And.intro h1 (And.intro h4 h5))
    have hm : x.2.tmod 2 = x.2 % 2 := Int.tmod_eq_emod_of_nonneg hx0
    have hsz : w.heap.size + 1 < W.heap.size := h4.1
    clear h1 h2 h3 h4 h5
    by_cases ho : x.2 % 2 = 1
    · have HO : Hid (oddL (pre ++ [x]) = oddL pre ++ [x.1]) := Lib.hid (by rw [oddL_snoc, if_pos (by simpa using ho)])
      gi_wp2_with (gi_at_builtin; refine wpListIn_app rfl (.tmp 13) (.tmp 15) elemI64 rfl (w.heap.size + 1 + 1) A1 N1 cap1 (intCs (oddL pre)) (some ⟨_, 0, none⟩) 1 1 [.int .i64 x.1] rfl rfl (HI.out.2.2.alloc _) (cells_row (Row.at rfl [.int .i64 x.1] _)) rfl (intCs_one [x.1]) (by omega) (by simp; omega) ?_)
      intro A2 cap2 W2 hO2 hg2 hb2
      have hX : Below W.heap.size W (W.alloc (.cells #[.int .i64 x.1] 2)) := (Below.refl _ _).alloc (Nat.le_refl _) _
      have hrow := gat_box HI.out.2.1 HI.out.2.2 hX hg2
      have hst := gat_step (k := N) (A := A) (B := W1.heap.size) (b := w.heap.size + 1) HI.out.1 (Nat.le_succ _) HI.out.2.1 HI.out.2.2 hX hg2 hO2 (by omega) (fun h0 a ha => by
        obtain ⟨b', o', e', hl'⟩ := HA.out (by rw [cntCs_len, ← HN.out]; omega)
        rw [ha] at e'; cases e'; exact hl'.1)
      have z0 := hrow.c 0 rfl
      have g0 := hrow.f 0 rfl
      have HST := Lib.hid hst
      clear hX hrow hst hO2 hg2 hb2 y0 f0
      gi_wp2
      refine ⟨HST.out.1, HST.out.2.1, ?_⟩
      have h := HST.out.2.2
      show GatS 2 w (w.heap.size + 1) (intCs (oddL (pre ++ [x]))) _
      rw [HO.out, intCs_append]
      exact h
    · have HO : Hid (oddL (pre ++ [x]) = oddL pre) := Lib.hid (by rw [oddL_snoc, if_neg (by simpa using ho)]; simp)
      have ho' : (x.2 % 2 == 1) = false := by simpa using ho
      clear ho
      gi_wp2
      exact ⟨(keeps_below (Below.refl _ _)).from _, KeepsO.below (Below.refl _ _), by show GatS 2 w (w.heap.size + 1) (intCs (oddL (pre ++ [x]))) _; rw [HO.out]; exact ⟨HI.out.1, hsz, Nat.le_succ _, A1, N1, cap1, HI.out.2.1, HI.out.2.2⟩⟩
  case stop => exact fun _ _ _ _ _ _ h => h.elim
  case done =>
    rintro D V hD ⟨h1, h2, h3, A1, N1, cap1, h4, h5⟩ hK
    have hr3 := hR3.1
    have y0 := h4.c 0 rfl
    have HI := Lib.hid (And.intro h1 (And.intro h4 h5))
    have hD1 : D < V.heap.size := (Array.getElem?_eq_some_iff.1 hK).1
    have hM : Marks W1.heap.size [D] V := ⟨hD, hK, by simp, trivial⟩
    have HM := Lib.hid hM
    clear h1 h2 h3 h4 h5 hK hM hR3 hRE
    go_wp2_with fail
    refine leaves_marksC [D] V HM.out fun V5 hV hS => ?_
    have h5 := HI.out.2.2.same hS
    refine ⟨.slice A1 N1 cap1, by simp [results, Tryz.results25, go_sem], A1, N1, cap1, rfl, ?_, h5.cells, h5.le_cap, fun a ha => Nat.le_trans (by omega) (h5.fresh a ha), HI.out.1.trans (hV.mono (by omega))⟩
    have := h5.len
    rw [intCs_len] at this
    omega
end Go.Proofs.YtjhcddlhhfjnaaaGreatDoor
