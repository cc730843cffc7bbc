/- Contract of the document's Sort of at most 20 ways. -/
import Derived.Test.YtfdofajknnocfaaNG
import Derived.Test.YtfdofajknnocfaaNU
import Derived.Maps.AppendAt
namespace Go.Proofs.Ytfdofajknnocfaa
open Go.RowKit Go.Sort

/-- The cells of ways. -/
def wayCs : List (Int × Int) → List Value
  | [] => []
  | p :: r => .int .i64 p.1 :: .int .i64 p.2 :: wayCs r
theorem wayCs_len : ∀ l, (wayCs l).length = l.length * 2
  | [] => rfl
  | _ :: r => by rw [wayCs, List.length_cons, List.length_cons, wayCs_len r, List.length_cons]; omega
theorem wayCs_append : ∀ l m, wayCs (l ++ m) = wayCs l ++ wayCs m
  | [], _ => rfl
  | p :: r, m => by rw [List.cons_append, wayCs, wayCs, wayCs_append r m]; rfl
theorem wayCs_get : ∀ (l : List (Int × Int)) (i : Nat) (p : Int × Int), l[i]? = some p → (wayCs l)[i * 2]? = some (.int .i64 p.1) ∧ (wayCs l)[i * 2 + 1]? = some (.int .i64 p.2)
  | [], i, p, h => by simp at h
  | q :: r, 0, p, h => by
    obtain rfl := Option.some.inj h
    exact ⟨rfl, rfl⟩
  | q :: r, i + 1, p, h => by
    have := wayCs_get r i p (by simpa using h)
    rw [wayCs, show (i + 1) * 2 = i * 2 + 1 + 1 by omega, show i * 2 + 1 + 1 + 1 = (i * 2 + 1) + 1 + 1 by omega]
    simpa using this
/-- Ways in memory, as a list. -/
def WaysL (w : World) (b o : Nat) (ws : List (Int × Int)) : Prop :=
  b < w.heap.size ∧ ∀ i p, ws[i]? = some p → w.cell? ⟨b, o + i * 2, none⟩ = some (.int .i64 p.1) ∧ w.cell? ⟨b, o + i * 2 + 1, none⟩ = some (.int .i64 p.2)
theorem WaysL.below {w w1 : World} {b o : Nat} {ws : List (Int × Int)} (h : WaysL w b o ws) (hb : Below w.heap.size w w1) : WaysL w1 b o ws := by
  refine ⟨Nat.lt_of_lt_of_le h.1 hb.size, fun i p hi => ?_⟩
  have hc := (bcell hb).1
  rw [hc b _ h.1, hc b _ h.1]
  exact h.2 i p hi
theorem ownsRow_below {w w' : World} {base : Nat} {e : TypeId} {size : Nat} {v : Value} {n : Nat} {xs : List Value} (h : w.ownsRow base e size v n xs) (hb : Below w.heap.size w w') : w'.ownsRow base e size v n xs := by
  obtain ⟨h1, h2⟩ := h
  refine ⟨h1, ?_⟩
  rcases h2 with h2 | ⟨g, cap, cur, hv, hg, hh, r⟩
  · exact Or.inl h2
  · exact Or.inr ⟨g, cap, cur, hv, hg, (hb.block g (Array.getElem?_eq_some_iff.mp hh).1).trans hh, r⟩
/-- A slice that owns a row of ways. -/
def OwnW (w : World) (base : Nat) (A : Option Addr) (ws : List (Int × Int)) (N cap : Nat) : Prop := w.ownsRow base 23 2 (.slice A N cap) N (wayCs ws) ∧ N = ws.length
theorem OwnW.start (w : World) (base : Nat) : OwnW w base none [] 0 0 := ⟨⟨rfl, Or.inl ⟨rfl, rfl⟩⟩, rfl⟩
theorem OwnW.at {w : World} {base : Nat} {A : Option Addr} {ws : List (Int × Int)} {N cap : Nat} (h : OwnW w base A ws N cap) (hn : 0 < N) : ∃ g, A = some ⟨g, 0, none⟩ ∧ base ≤ g ∧ WaysL w g 0 ws := by
  obtain ⟨hh, rfl⟩ := h
  have h := hh
  obtain ⟨_, h' | ⟨g, cap', cur, hv, hb, hg, _⟩⟩ := h
  · omega
  · cases hv
    refine ⟨g, rfl, hb, (Array.getElem?_eq_some_iff.1 hg).1, fun i p hi => ?_⟩
    have hlt := (List.getElem?_eq_some_iff.1 hi).1
    have hg := wayCs_get ws i p hi
    rw [Nat.zero_add, World.ownsRow.cellAt hh _ (by omega), World.ownsRow.cellAt hh _ (by omega)]
    exact hg
theorem OwnW.below {w w1 : World} {base : Nat} {A : Option Addr} {ws : List (Int × Int)} {N cap : Nat} (h : OwnW w base A ws N cap) (hb : Below w.heap.size w w1) : OwnW w1 base A ws N cap := ⟨ownsRow_below h.1 hb, h.2⟩
theorem OwnW.base {w : World} {base base' : Nat} {A : Option Addr} {ws : List (Int × Int)} {N cap : Nat} (h : OwnW w base A ws N cap) (hb : base' ≤ base) : OwnW w base' A ws N cap := by
  obtain ⟨⟨h1, h2⟩, h3⟩ := h
  refine ⟨⟨h1, ?_⟩, h3⟩
  rcases h2 with h2 | ⟨g, cap', cur, hv, hg, hh, r⟩
  · exact Or.inl h2
  · exact Or.inr ⟨g, cap', cur, hv, Nat.le_trans hb hg, hh, r⟩
theorem ownsRow_slice {w : World} {base : Nat} {e : TypeId} {size : Nat} {v : Value} {n : Nat} {xs : List Value} (h : w.ownsRow base e size v n xs) : ∃ A cap, v = .slice A n cap ∧ ∀ b, v.ownBlock = some b → base ≤ b := by
  obtain ⟨_, ⟨rfl, rfl⟩ | ⟨g, cap', cur, rfl, hb, _⟩⟩ := h
  · exact ⟨none, 0, rfl, fun b hb => by cases hb⟩
  · exact ⟨_, _, rfl, fun b hb' => by cases hb'; exact hb⟩
/-- append of one way to a slice that owns its row. -/
theorem wpList_push {w : World} {ops : Array Oper} {rest : List Oper} {o : Oper} {a : Act} {Q : Exit → Act → World → Prop} (hg : o.guard = none) (s x : Operand)
    (ho : o.op = Op.call { callee := Callee.builtin Builtin.append, args := #[s, x], argTypes := #[39, 39] }) (base : Nat) (A : Option Addr) (ws : List (Int × Int)) (N cap q : Nat) (p : Int × Int)
    (hs : a.eval s = .slice A N cap) (hx : a.eval x = .slice (some ⟨q, 0, none⟩) 1 1) (hown : OwnW w base A ws N cap) (hr : Row w q (wayL p.1 p.2)) (hN : N ≤ 1000) (hb : base ≤ w.heap.size)
    (hK : ∀ (A' : Option Addr) (N' cap' : Nat) (w' : World), OwnW w' base A' (ws ++ [p]) N' cap' → N' = N + 1 → Below base w w' → wpList Try.prog ops Q rest (a.put o.dst (.slice A' N' cap')) w') :
    wpList Try.prog ops Q (o :: rest) a w := by
  obtain ⟨i0, hi, hz, hz1, hz2⟩ := info_parts infoWay
  obtain ⟨hw, rfl⟩ := hown
  refine wpList_append_own w hg s x 39 ho base 23 i0 (wayV 0 0) 2 16 Try.underlying39 hi hz hz1 hz2 rfl (by decide) _ ws.length (wayCs ws) hs hw ⟨q, 0, none⟩ 1 1 (wayL p.1 p.2) hx rfl (fun j u hj => ?_) (fun u hu => by simp at hu; rcases hu with rfl | rfl <;> rfl) (by unfold maxLen; omega) (by omega) hb ?_
  · have e : (⟨q, 0, none⟩ : Addr).add j = ⟨q, j, none⟩ := by simp [Addr.add]; intro h; rw [h]
    rw [e]; exact hr.c j hj
  · intro v' w' hown' hgr _
    obtain ⟨A', cap', rfl, _⟩ := ownsRow_slice hown'
    obtain ⟨_, _, _, hbb⟩ := ownsRow_slice hw
    refine hK A' (ws.length + 1) cap' w' ⟨by rw [wayCs_append]; exact hown', by simp⟩ rfl ((Below.refl base w).grown hgr hb (fun j hj => hbb j hj))
def ltR (p q : Int × Int) : Bool := decide (refC p.1 p.2 q.1 q.2 < 0)
/-- What Sort has in the midst of one that is put. -/
def midI (x : Int × Int) (O : List (Int × Int)) (put : Bool) : List (Int × Int) := if put then Ins.ins ltR x O else O
def SortPost (w : World) (ws : List (Int × Int)) (e : Ending) (w' : World) : Prop :=
  ∃ A N cap, e = .returned (.slice A N cap) ∧ OwnW w' w.heap.size A ws N cap ∧ Below w.heap.size w w'
set_option maxHeartbeats 6400000 in
set_option maxRecDepth 100000 in
theorem refsort_any (ws : List (Int × Int)) (b o c : Nat) (w : World) (hn : ws.length ≤ 20) (hx : WaysL w b o ws) :
    Calls Try.prog 22 #[.slice (some ⟨b, o, none⟩) ws.length c] w (SortPost w (Ins.srt ltR ws)) := by
  have Hx := Lib.hid hx; clear hx
  generalize hN : ws.length = n at hn
  have HN := Lib.hid hN; clear hN
  go_enter Try.func22, Try.ntmps22
  go_wp2
  go_loopw [3, 4] (fun so i wr => ∃ (k N cap : Nat) (A : Option Addr), k ≤ n ∧ i = .int .i64 k ∧ so = .slice A N cap ∧ N ≤ 20 ∧ Hid (OwnW wr w.heap.size A (Ins.srt ltR (ws.take k)) N cap) ∧ Hid (N = k) ∧ Below w.heap.size w wr) (fun _ i _ => n - (intOf i).toNat)
  case atStart => exact ⟨0, 0, 0, none, Nat.zero_le _, rfl, rfl, Nat.zero_le _, Lib.hid (OwnW.start _ _), Lib.hid rfl, Below.refl _ _⟩
  case round =>
    obtain ⟨k, N, cap, A, hk, rfl, rfl, hN20, HO, HL, hB⟩ := hrel
    by_cases hkn : k < n
    · have hk1 : (k : Int) < n := by omega
      obtain ⟨x, hxk⟩ : ∃ x, ws[k]? = some x := ⟨_, List.getElem?_eq_getElem (by rw [HN.out]; exact hkn)⟩
      have HX := Lib.hid hxk
      have HXc := Lib.hid (fun W (hb : Below wr.heap.size wr W) => ((Hx.out.below hB).below hb).2 k x hxk)
      have HT : Hid (Ins.srt ltR (ws.take (k + 1)) = Ins.ins ltR x (Ins.srt ltR (ws.take k))) := Lib.hid (by
        rw [List.take_add_one, hxk]; exact Ins.srt_snoc _ _)
      clear hxk
      generalize Ins.srt ltR (ws.take k) = O at HO HT
      go_wp2_with fail
      obtain ⟨w0, hw0⟩ : ∃ w0 : World, w0 = wr := ⟨_, rfl⟩
      have Hw0 := Lib.hid hw0
      rw [← hw0] at HXc HO hB
      go_loopw [5, 6, 7] (fun m p i wi => ∃ (j M capm : Nat) (Am : Option Addr) (put : Bool), j ≤ N ∧ i = .int .i64 j ∧ p = .bool put ∧ m = .slice Am M capm ∧ M ≤ 30 ∧ Hid (OwnW wi w0.heap.size Am (midI x (O.take j) put) M capm) ∧ Hid (if put then ∃ z, z ∈ O.take j ∧ ltR x z = true else ∀ z, z ∈ O.take j → ltR x z = false) ∧ Hid (M = j + if put then 1 else 0) ∧ Below w0.heap.size w0 wi) (fun _ _ i _ => N - (intOf i).toNat)
      case atStart => exact ⟨0, 0, 0, none, false, Nat.zero_le _, rfl, rfl, rfl, Nat.zero_le _, Lib.hid (OwnW.start _ _), Lib.hid (fun z hz => by cases hz), Lib.hid rfl, by rw [hw0]; exact Below.refl _ _⟩
      case round =>
        obtain ⟨j, M, capm, Am, put, hj, rfl, rfl, rfl, hM, HM, HP, HMj, hBi⟩ := hrel
        clear hw0
        by_cases hjN : j < N
        · have hj1 : (j : Int) < N := by omega
          obtain ⟨y, hyj⟩ : ∃ y, O[j]? = some y := ⟨_, List.getElem?_eq_getElem (by rw [← HO.out.2]; exact hjN)⟩
          obtain ⟨g, rfl, hg, hW⟩ := HO.out.at (by omega)
          obtain ⟨c0, c1⟩ := HXc.out wr hBi
          obtain ⟨d0, d1⟩ := (hW.below hBi).2 j y hyj
          rw [Nat.zero_add] at d0 d1
          have hk1' : (k : Int) < n := by omega
          have HTj : Hid (O.take (j + 1) = O.take j ++ [y]) := Lib.hid (by rw [List.take_add_one, hyj]; rfl)
          cases put
          · have hnone := HP.out
            rw [if_neg (by decide)] at hnone
            by_cases hlt : refC x.1 x.2 y.1 y.2 < 0
            · have hl : decide (refC x.1 x.2 y.1 y.2 < 0) = true := decide_eq_true hlt
              have HLt : Hid (ltR x y = true) := Lib.hid hl
              have HC := Lib.hid (fun W => refcmp_any x.1 x.2 y.1 y.2 W)
              have Hn := Lib.hid hnone
              have HY := Lib.hid hyj
              clear hnone
              generalize refC x.1 x.2 y.1 y.2 = r at HC hl hlt
              have C1 := Lib.hid (fun d os => Calls.regrown_of (HC.out (grow (redrawn wr d) os)))
              have f0 := cell_regrown c0
              have f1 := cell_regrown c1
              have f2 := cell_regrown d0
              have f3 := cell_regrown d1
              clear c0 c1 d0 d1
              go_wp2_with fail
              refine wp_region_quiet_below (by kernel_rfl) (by kernel_rfl) ?_
              repeat (first | go_big_quiet_step (with_reducible exact C1.out _ _) | quiet_step (with_reducible exact C1.out _ _))
              refine wpQuiet_nil ?_
              intro _ hw'
              obtain ⟨⟨dq, osq⟩, hw''⟩ := hw'
              subst hw''
              have hq := below_regrown wr dq osq
              have HM1 := Lib.hid (HM.out.below hq)
              have hB1 := hBi.trans (hq.mono hBi.size)
              have HW1 := Lib.hid (hW.below (hBi.trans (hq.mono hBi.size)))
              clear f0 f1 f2 f3 C1 HC hBi HM hq
              generalize grow (redrawn wr dq) osq = W1 at HM1 hB1 HW1 ⊢
              have hyj := HY.out
              obtain ⟨z0, z1⟩ := HXc.out W1 hB1
              go_wp2_with (at_builtin; refine wpList_push rfl _ _ rfl w0.heap.size _ _ _ _ W1.heap.size x rfl rfl (OwnW.below HM1.out ((Below.refl _ _).alloc (Nat.le_refl _) _)) (Row.at rfl _ _) (by omega) (by have := hB1.size; simp; omega) ?_)
              rintro Aw3 Mw3 capw3 w3 hmw3 ew3 hbw3
              have HM3 := Lib.hid hmw3
              have hB3 : Below w0.heap.size w0 w3 := (hB1.alloc hB1.size _).trans hbw3
              have Ew3 := Lib.hid ew3
              clear hmw3 hbw3
              have HW3 := Lib.hid (hW.below hB3)
              obtain ⟨z0, z1⟩ := (HW3.out).2 j y hyj
              rw [Nat.zero_add] at z0 z1
              go_wp2_with (at_builtin; refine wpList_push rfl _ _ rfl w0.heap.size _ _ _ _ w3.heap.size y rfl rfl (OwnW.below HM3.out ((Below.refl _ _).alloc (Nat.le_refl _) _)) (Row.at rfl _ _) (by omega) (by have := hB3.size; simp; omega) ?_)
              rintro Aw4 Mw4 capw4 w4 hmw4 ew4 hbw4
              have HM4 := Lib.hid hmw4
              have hB4 : Below w0.heap.size w0 w4 := (hB3.alloc hB3.size _).trans hbw4
              have Ew4 := Lib.hid ew4
              clear hmw4 hbw4
              clear hW HW1 HW3 HM1 HM3
              have h3 := Ew3.out
              have h4 := Ew4.out
              have hMj := HMj.out
              simp only [Bool.false_eq_true, if_false] at hMj
              have HR : Hid (midI x (O.take (j + 1)) true = midI x (O.take j) false ++ [x] ++ [y]) := Lib.hid (by
                rw [HTj.out, midI, midI, if_pos rfl, if_neg (by decide), Ins.ins_skip Hn.out, Ins.ins, if_pos HLt.out]; simp)
              have HP' : Hid (if true = true then ∃ z, z ∈ O.take (j + 1) ∧ ltR x z = true else ∀ z, z ∈ O.take (j + 1) → ltR x z = false) := Lib.hid (by rw [if_pos rfl, HTj.out]; exact ⟨y, by simp, HLt.out⟩)
              have HM5 : Hid (OwnW w4 w0.heap.size Aw4 (midI x (O.take (j + 1)) true) Mw4 capw4) := Lib.hid (by
                rw [HR.out]
                have h := HM4.out
                simp only [List.append_assoc, List.cons_append, List.nil_append] at h ⊢
                exact h)
              clear HR HLt Hn hyj HY HM4 Ew3 Ew4
              go_wp2
              go_roundw
              case rel => exact ⟨j + 1, Mw4, capw4, Aw4, true, by omega, by go_num, rfl, rfl, by omega, HM5, HP', Lib.hid (by rw [if_pos rfl]; omega), hB4⟩
              case measure => simp [intOf]; omega
            · have hl : decide (refC x.1 x.2 y.1 y.2 < 0) = false := decide_eq_false hlt
              have HLt : Hid (ltR x y = false) := Lib.hid hl
              have HC := Lib.hid (fun W => refcmp_any x.1 x.2 y.1 y.2 W)
              have Hn := Lib.hid hnone
              have HY := Lib.hid hyj
              clear hnone
              generalize refC x.1 x.2 y.1 y.2 = r at HC hl hlt
              have C1 := Lib.hid (fun d os => Calls.regrown_of (HC.out (grow (redrawn wr d) os)))
              have f0 := cell_regrown c0
              have f1 := cell_regrown c1
              have f2 := cell_regrown d0
              have f3 := cell_regrown d1
              clear c0 c1 d0 d1
              go_wp2_with fail
              refine wp_region_quiet_below (by kernel_rfl) (by kernel_rfl) ?_
              repeat (first | go_big_quiet_step (with_reducible exact C1.out _ _) | quiet_step (with_reducible exact C1.out _ _))
              refine wpQuiet_nil ?_
              intro _ hw'
              obtain ⟨⟨dq, osq⟩, hw''⟩ := hw'
              subst hw''
              have hq := below_regrown wr dq osq
              have HM1 := Lib.hid (HM.out.below hq)
              have hB1 := hBi.trans (hq.mono hBi.size)
              have HW1 := Lib.hid (hW.below (hBi.trans (hq.mono hBi.size)))
              clear f0 f1 f2 f3 C1 HC hBi HM hq
              generalize grow (redrawn wr dq) osq = W1 at HM1 hB1 HW1 ⊢
              have hyj := HY.out
              obtain ⟨z0, z1⟩ := (HW1.out).2 j y hyj
              rw [Nat.zero_add] at z0 z1
              go_wp2_with (at_builtin; refine wpList_push rfl _ _ rfl w0.heap.size _ _ _ _ W1.heap.size y rfl rfl (OwnW.below HM1.out ((Below.refl _ _).alloc (Nat.le_refl _) _)) (Row.at rfl _ _) (by omega) (by have := hB1.size; simp; omega) ?_)
              rintro Aw4 Mw4 capw4 w4 hmw4 ew4 hbw4
              have HM4 := Lib.hid hmw4
              have hB4 : Below w0.heap.size w0 w4 := (hB1.alloc hB1.size _).trans hbw4
              have Ew4 := Lib.hid ew4
              clear hmw4 hbw4
              clear hW HW1 HM1
              have h4 := Ew4.out
              have hMj := HMj.out
              simp only [Bool.false_eq_true, if_false] at hMj
              have HP' : Hid (if false = true then ∃ z, z ∈ O.take (j + 1) ∧ ltR x z = true else ∀ z, z ∈ O.take (j + 1) → ltR x z = false) := Lib.hid (by
                rw [if_neg (by decide), HTj.out]
                intro z hz
                rcases List.mem_append.1 hz with hz | hz
                · exact Hn.out z hz
                · obtain rfl := List.mem_singleton.1 hz
                  exact HLt.out)
              have HM5 : Hid (OwnW w4 w0.heap.size Aw4 (midI x (O.take (j + 1)) false) Mw4 capw4) := Lib.hid (by
                rw [HTj.out]; exact HM4.out)
              clear HLt Hn hyj HY HM4 Ew4
              go_wp2
              go_roundw
              case rel => exact ⟨j + 1, Mw4, capw4, Aw4, false, by omega, by go_num, rfl, rfl, by omega, HM5, HP', Lib.hid (by simp only [Bool.false_eq_true, if_false]; omega), hB4⟩
              case measure => simp [intOf]; omega
          · have hsome := HP.out
            rw [if_pos rfl] at hsome
            have Hn := Lib.hid hsome
            have HY := Lib.hid hyj
            clear hsome c0 c1 d0 d1
            go_wp2_with fail
            refine wp_region_quiet_below (by kernel_rfl) (by kernel_rfl) ?_
            repeat (first | go_big_quiet_step (fail) | quiet_step (fail))
            refine wpQuiet_nil ?_
            intro _ hw'
            obtain ⟨⟨dq, osq⟩, hw''⟩ := hw'
            subst hw''
            have hq := below_regrown wr dq osq
            have HM1 := Lib.hid (HM.out.below hq)
            have hB1 := hBi.trans (hq.mono hBi.size)
            have HW1 := Lib.hid (hW.below (hBi.trans (hq.mono hBi.size)))
            clear hBi HM hq
            generalize grow (redrawn wr dq) osq = W1 at HM1 hB1 HW1 ⊢
            have hyj := HY.out
            obtain ⟨z0, z1⟩ := (HW1.out).2 j y hyj
            rw [Nat.zero_add] at z0 z1
            go_wp2_with (at_builtin; refine wpList_push rfl _ _ rfl w0.heap.size _ _ _ _ W1.heap.size y rfl rfl (OwnW.below HM1.out ((Below.refl _ _).alloc (Nat.le_refl _) _)) (Row.at rfl _ _) (by omega) (by have := hB1.size; simp; omega) ?_)
            rintro Aw4 Mw4 capw4 w4 hmw4 ew4 hbw4
            have HM4 := Lib.hid hmw4
            have hB4 : Below w0.heap.size w0 w4 := (hB1.alloc hB1.size _).trans hbw4
            have Ew4 := Lib.hid ew4
            clear hmw4 hbw4
            clear hW HW1 HM1
            have h4 := Ew4.out
            have hMj := HMj.out
            simp only [if_true] at hMj
            have hsome := Hn.out
            have HP' : Hid (if true = true then ∃ z, z ∈ O.take (j + 1) ∧ ltR x z = true else ∀ z, z ∈ O.take (j + 1) → ltR x z = false) := Lib.hid (by
              rw [if_pos rfl, HTj.out]
              obtain ⟨z, hz, hl⟩ := hsome
              exact ⟨z, List.mem_append_left _ hz, hl⟩)
            have HM5 : Hid (OwnW w4 w0.heap.size Aw4 (midI x (O.take (j + 1)) true) Mw4 capw4) := Lib.hid (by
              rw [HTj.out, midI, if_pos rfl, Ins.ins_hit hsome]; exact HM4.out)
            clear Hn hsome hyj HY HM4 Ew4
            go_wp2
            go_roundw
            case rel => exact ⟨j + 1, Mw4, capw4, Aw4, true, by omega, by go_num, rfl, rfl, by omega, HM5, HP', Lib.hid (by rw [if_pos rfl]; omega), hB4⟩
            case measure => simp [intOf]; omega
        · obtain rfl : j = N := by omega
          have HOl := Lib.hid (show O.length = j from HO.out.2.symm)
          have HE : Hid (O.take j = O) := Lib.hid (List.take_of_length_le (by rw [HOl.out]; exact Nat.le_refl _))
          rw [HE.out] at HM HP
          cases put
          · have HI : Hid (Ins.ins ltR x O = midI x O false ++ [x]) := Lib.hid (by
              have h := HP.out
              rw [if_neg (by decide)] at h
              have e := Ins.ins_skip (T := []) h
              rw [List.append_nil] at e
              rw [e]; rfl)
            have hBo := hB.trans (hBi.mono hB.size)
            obtain ⟨z0, z1⟩ := HXc.out wr hBi
            clear HOl HE HP
            go_wp2_with (at_builtin; refine wpList_push rfl _ _ rfl w0.heap.size _ _ _ _ wr.heap.size x rfl rfl (OwnW.below HM.out ((Below.refl _ _).alloc (Nat.le_refl _) _)) (Row.at rfl _ _) (by omega) (by have := hBi.size; simp; omega) ?_)
            rintro A4 M4 cap4 w4 hm4 e4 hb4
            have HM5 : Hid (OwnW w4 w.heap.size A4 (Ins.srt ltR (ws.take (k + 1))) M4 cap4) := Lib.hid (by rw [HT.out, HI.out]; exact OwnW.base hm4 hB.size)
            have hB5 : Below w.heap.size w w4 := hB.trans (((hBi.alloc hBi.size _).trans hb4).mono hB.size)
            have hMj := HMj.out
            have hL := HL.out
            simp only [Bool.false_eq_true, if_false] at hMj
            clear hm4 hb4 HI HM z0 z1 hBi hBo
            go_wp2
            go_roundw
            case rel => exact ⟨k + 1, M4, cap4, A4, by omega, by go_num, rfl, by omega, HM5, Lib.hid (by omega), hB5⟩
            case measure => simp [intOf]; omega
          · have hs := HP.out
            rw [if_pos rfl] at hs
            have hMj := HMj.out
            have hL := HL.out
            simp only [if_true] at hMj
            have HM5 : Hid (OwnW wr w.heap.size Am (Ins.srt ltR (ws.take (k + 1))) M capm) := Lib.hid (by rw [HT.out]; exact OwnW.base HM.out hB.size)
            have hB5 : Below w.heap.size w wr := hB.trans (hBi.mono hB.size)
            clear HM hBi HOl HE HP hs
            go_wp2
            go_roundw
            case rel => exact ⟨k + 1, M, capm, Am, by omega, by go_num, rfl, by omega, HM5, Lib.hid (by omega), hB5⟩
            case measure => simp [intOf]; omega
    · have hkn' : k = n := by omega
      have HE : Hid (OwnW wr w.heap.size A (Ins.srt ltR ws) N cap) := Lib.hid (by
        have := HO.out
        rw [hkn', ← HN.out, List.take_length] at this
        exact this)
      clear HO HL hkn'
      go_wp2
      go_ret
      exact ⟨A, N, cap, rfl, HE.out, hB⟩
end Go.Proofs.Ytfdofajknnocfaa
