/- The sequence that Round hands back: the ways, sorted, each with the one behind it. -/
import Derived.Test.YtfdofajknnocfaaPB
namespace Go.Proofs.Ytfdofajknnocfaa
open Go.RowKit Go.Shelf
attribute [local go_sem] Oper.semAt_some

/-- Marks of loops that have ended, the newest first. -/
def Marks (B : Nat) : List Nat → World → Prop
  | [], _ => True
  | D :: r, W => B ≤ D ∧ W.heap[D]? = some (.deferred (some [])) ∧ (∀ E ∈ r, E < D) ∧ Marks B r W
def markL (l : List Nat) : List Deferred := l.map fun D => { target := .collected D, args := #[] }
theorem Marks.below {B S : Nat} {X Y : World} : ∀ {l : List Nat}, Marks B l X → (∀ D ∈ l, D < S) → Below S X Y → Marks B l Y
  | [], _, _, _ => trivial
  | D :: _, ⟨h1, h2, h3, h4⟩, hs, hb => ⟨h1, (hb.block D (hs D (by simp))).trans h2, h3, h4.below (fun E hE => hs E (by simp [hE])) hb⟩
theorem Marks.keep {m B : Nat} {X Y : World} (hk : KpF m B X Y) : ∀ {l : List Nat}, Marks B l X → Marks B l Y
  | [], _ => trivial
  | D :: _, ⟨h1, h2, h3, h4⟩ => ⟨h1, hk.2 D _ h2 (.inr h1), h3, h4.keep hk⟩
theorem Marks.lt {B : Nat} {X : World} : ∀ {l : List Nat}, Marks B l X → ∀ D ∈ l, D < X.heap.size
  | [], _, D, hD => by cases hD
  | E :: _, ⟨_, h2, _, h4⟩, D, hD => by
    rcases List.mem_cons.1 hD with rfl | h
    · exact (Array.getElem?_eq_some_iff.1 h2).1
    · exact h4.lt D h
theorem leaves_marks {F : Fence} {n : Nat} {P : Program} {B : Nat} {fn : Func} {tmps : Array Value} {R : Ending → World → Prop} : ∀ (l : List Nat) (W : World), Marks B l W →
    (∀ V, Below B W V → LeavesIn F n P fn tmps R [] .returning V) → LeavesInM F n P fn tmps R (markL l) .returning W
  | [], W, _, h => h W (Below.refl _ _)
  | D :: r, W, ⟨h1, h2, h3, h4⟩, h => by
    have hb : Below D W (W.putObj D (.deferred none)) := below_putObj W _ (Nat.le_refl _)
    exact ⟨by simp, .inl ⟨D, _, rfl, run_takeDeferred h2, leaves_marks r _ (h4.below h3 hb) (fun V hV => h V ((hb.mono h1).trans hV))⟩⟩

/-- A pair's values, as the caller gets them. -/
def encW (x : (Int × Int) × (Int × Int)) : Array Value := #[.agg #[.int .i64 x.1.1, .int .i64 x.1.2], .agg #[.int .i64 x.2.1, .int .i64 x.2.2]]
theorem roundIn_any {a b : Nat} {P : Program} {l k : Nat} {f : FuncId} {tmps : Array Value} {assign body : Code} {w : World} {R : Ending → World → Prop} (h : RoundIn Fence.wide a P l f tmps assign body w R) : RoundIn (Fence.wide.inRound k) b P l f tmps assign body w R :=
  ⟨h.1, fun c cs _ => h.2 c cs (room_wide _)⟩
/-- What stands while Round's sequence goes over the quarters. -/
def RdS (m B C l : Nat) (A : Nat → Option Addr) (N cap : Nat → Nat) (L : Nat → List (Int × Int)) (W : World) : Prop :=
  Row W C [.slice (A 0) (N 0) (cap 0), .slice (A 1) (N 1) (cap 1), .slice (A 2) (N 2) (cap 2), .slice (A 3) (N 3) (cap 3)] ∧ (∀ q, q < 4 → QRead W (A q) (N q) (cap q) (L q)) ∧
    Row W B [.func (.yield l) #[] #[]] ∧ (∀ q, q < 4 → 0 < N q → ∀ p, A q = some p → p.block < m) ∧ C < m ∧ m ≤ B
section
variable {m B C l S : Nat} {A : Nat → Option Addr} {N cap : Nat → Nat} {L : Nat → List (Int × Int)} {X Y : World}
theorem RdS.under (h : RdS m B C l A N cap L X) (hS : B < S) (hb : Below S X Y) : RdS m B C l A N cap L Y := by
  obtain ⟨h1, h2, h3, h4, h5, h6⟩ := h
  exact ⟨h1.below hb (by omega), fun q hq => (h2 q hq).under hb (fun h0 p hp => by have := h4 q hq h0 p hp; omega), h3.below hb (by omega), h4, h5, h6⟩
theorem RdS.keep (h : RdS m B C l A N cap L X) (hk : KpF m B X Y) : RdS m B C l A N cap L Y := by
  obtain ⟨h1, h2, h3, h4, h5, h6⟩ := h
  exact ⟨h1.keepP hk.pairs (.inl h5), fun q hq => (h2 q hq).keepP hk.pairs (h4 q hq), h3.keepP hk.pairs (.inr (Nat.le_refl _)), h4, h5, h6⟩
theorem RdS.lt (h : RdS m B C l A N cap L X) : B < X.heap.size := h.2.2.1.1
end

set_option maxRecDepth 100000 in
set_option maxHeartbeats 4000000 in
theorem round1_u (n C : Nat) (A : Nat → Option Addr) (N cap : Nat → Nat) (L : Nat → List (Int × Int)) (d : Int × Int) (w : World)
    (hC : Row w C [.slice (A 0) (N 0) (cap 0), .slice (A 1) (N 1) (cap 1), .slice (A 2) (N 2) (cap 2), .slice (A 3) (N 3) (cap 3)]) (hQ : ∀ q, q < 4 → QRead w (A q) (N q) (cap q) (L q)) (h20 : ∀ q, q < 4 → N q ≤ 20) :
    SeqU Fence.wide (n + 1) Try.prog 54 #[.pointer (some ⟨C, 0, none⟩)] encW (KpF w.heap.size) (prs ((wholeL L).headD d) (wholeL L)) w := by
  intro l J Jx W hW hJ hJx hY h0
  have HY := Lib.hid hY; clear hY
  have HJ := Lib.hid hJ; clear hJ
  have HX := Lib.hid hJx; clear hJx
  have HN := Lib.hid (fun q hq h => nextF_at L N (fun q hq => (hQ q hq).1.symm) d q hq h)
  have HW := Lib.hid (accP_whole L ((wholeL L).headD d))
  have HPre := Lib.hid (accP_pre L ((wholeL L).headD d))
  generalize (wholeL L).headD d = f at *
  generalize prs f (wholeL L) = T at *
  have H20 := Lib.hid h20; clear h20
  have hC0 := hC.lt
  have hL0 : ∀ q, q < 4 → 0 < N q → ∀ p, A q = some p → p.block < w.heap.size := fun q hq => (hQ q hq).lies
  have hCW := hC.after hW
  have hQW : ∀ q, q < 4 → QRead W (A q) (N q) (cap q) (L q) := fun q hq => (hQ q hq).after hW
  have hsz := hW.size
  generalize hm : w.heap.size = m at *
  clear hC hQ hW hm
  have c0 := hCW.c 0 rfl
  have c1 := hCW.c 1 rfl
  have c2 := hCW.c 2 rfl
  have c3 := hCW.c 3 rfl
  have lC := hCW.lt
  refine callsIn_of_wp_marks Try.func54 rfl trivial ?_ rfl
  simp only [Try.ntmps54, List.size_toArray, List.length_cons, List.length_nil, Nat.reduceAdd, Nat.reduceSub, Array.replicate_succ, Array.replicate_zero, List.push_toArray, List.append_toArray, List.nil_append, List.cons_append]
  refine wpIn_wide.2 ?_
  clear c0 c1 c2 c3
  go_wp2_with fail
  go_step3
  go_wp2_with fail
  generalize hV : World.alloc _ _ = V0
  have hS : RdS m W.heap.size C l A N cap L V0 := by
    rw [← hV]
    exact ⟨hCW.alloc _, fun q hq => (hQW q hq).after ((Below.refl _ _).alloc (Nat.le_refl _) _), Row.new _ _ _, hL0, hC0, hsz⟩
  have hJ0 : J (accP L f 0) V0 := HJ.out _ _ _ h0 (by rw [← hV]; exact (Below.refl _ _).alloc (Nat.le_refl _) _)
  have hM0 : Marks W.heap.size [] V0 := trivial
  clear hV hCW hQW h0 lC hL0
  generalize hB : W.heap.size = B at *
  clear hB W hsz hC0
  go_step3
  go_wp2_with fail
  refine wp_loop_rounds 5 ?_
  have HMM := Lib.hid hM0
  have HSS := Lib.hid hS
  have HJ0 := Lib.hid hJ0
  clear hM0 hS hJ0
  rw [rounds_succ]
  have c0 := HSS.out.1.c 0 rfl
  have c1 := HSS.out.1.c 1 rfl
  have c2 := HSS.out.1.c 2 rfl
  have c3 := HSS.out.1.c 3 rfl
  go_wp2_with fail
  refine (pairs_any A N cap 0 _).mono ?_
  rintro e V1 ⟨Cq, Qq, rfl, hRC, hRQ, hne, hgC, hgQ, hb1⟩
  clear c0 c1 c2 c3 hne
  have hlt := HSS.out.lt
  have hJ1 := HJ.out _ _ _ HJ0.out (hb1.mono (Nat.le_of_lt hlt))
  have hM1 := HMM.out.below HMM.out.lt hb1
  have hS1 := HSS.out.under hlt hb1
  have hz1 := hb1.size
  clear HSS HMM HJ0 hb1
  go_wp2_with fail
  refine (wpIn_wide (n := 9)).1 ?_
  have hP : PairS Cq Qq 0 A N cap L V1 := ⟨hRC, hRQ, hS1.2.1⟩
  clear hRC hRQ
  refine wpIn_range_u (α := (Int × Int) × (Int × Int)) rfl (by omega) (gf := 59) (lb := #[.pointer (some ⟨Cq, 0, none⟩), .pointer (some ⟨Qq, 0, none⟩)]) rfl trivial (enters_of Try.func59 (by kernel_rfl) rfl)
    (pairs_u 7 m B Cq Qq 0 (by omega) A N cap L (nextF L f 0) (H20.out 0 (by omega)) (HN.out 0 (by omega)) (by omega) (by omega) hS1.2.2.2.1 V1 hP)
    KpP.trans (fun _ _ W o o' _ _ h hc => KpP.turn W o o' h hc) (fun _ _ _ h => KpP.below h) (Below.refl _ _) (fun _ => rfl)
    (fun pre W => J (accP L f 0 ++ pre) W ∧ RdS m B C l A N cap L W ∧ Marks B [] W) (fun c pre W => c = .exit 0 ∧ Jx (accP L f 0 ++ pre) W ∧ Marks B [] W)
    (fun pre X Y h hb => ⟨HJ.out _ _ _ h.1 (hb.mono (by omega)), h.2.1.under (by omega) hb, h.2.2.below hM1.lt hb⟩) (fun c pre X Y h hb => ⟨h.1, HX.out _ _ _ h.2.1 (hb.mono (by omega)), h.2.2.below hM1.lt hb⟩)
    ⟨by rw [List.append_nil]; exact hJ1, hS1, hM1⟩
    (fun x a' W => ∃ Ba Bb, V1.heap.size + 2 ≤ Ba ∧ V1.heap.size + 2 ≤ Bb ∧ Row W Ba [.int .i64 x.1.1, .int .i64 x.1.2, .int .i64 (quart x.1.1 x.1.2)] ∧ Row W Bb [.int .i64 x.2.1, .int .i64 x.2.2, .int .i64 (quart x.2.1 x.2.2)] ∧
      a' = { tmps := #[.func (.yield l) #[] #[], .pointer (some ⟨C, 0, none⟩), .pointer (some ⟨B, 0, none⟩), .int .i64 0, .pointer (some ⟨Ba, 0, none⟩), .pointer (some ⟨Bb, 0, none⟩), .int .i64 0, .bool true, .int .i64 0, circV A N cap, .int .i64 0, .func (.func 59) #[] #[.pointer (some ⟨Cq, 0, none⟩), .pointer (some ⟨Qq, 0, none⟩)], armP x.1, armP x.2, undef, undef, undef, undef, undef, undef, undef, undef], defers := [] })
    (fun x a' W lo o h1 h2 ⟨Ba, Bb, ha, hb, r1, r2, e⟩ => ⟨Ba, Bb, ha, hb, r1.turn (by omega) o, r2.turn (by omega) o, e⟩) ?assign0 ?body0 ?done0 ?stop0
  case assign0 =>
    intro l' pre x W K hI hW hK
    clear hI hP hS1 hM1 hJ1
    unfold encArm armP
    gi_wp2
    refine hK _ _ ?_ ⟨W.heap.size, W.heap.size + 1, hW, by omega, ?_, ?_, rfl⟩
    · exact ((Below.refl _ _).alloc (Nat.le_refl _) _).alloc (by simp) _
    · exact (Row.new _ _ _).alloc _
    · exact Row.at (by simp) _ _
  case body0 =>
    rintro l' pre x a' W ⟨hJ2, hS2, hM2⟩ hW hp ⟨Ba, Bb, hBa, hBb, r1, r2, rfl⟩
    clear hP hS1 hM1 hJ1
    obtain ⟨fn, tmps, assign, body, hy, hR⟩ := HY.out _ x W hJ2 (by omega) (by rw [List.append_assoc]; exact HPre.out 0 (by omega) _ hp)
    unfold encW at hy
    have b0 := hS2.2.2.1.c 0 rfl
    have a0 := r1.c 0 rfl
    have a1 := r1.c 1 rfl
    have d0 := r2.c 0 rfl
    have d1 := r2.c 1 rfl
    have HS2 := Lib.hid hS2
    have HM2 := Lib.hid hM2
    have HR := Lib.hid hR
    clear hS2 hM2 hR hp hJ2
    gi_wp2
    refine (roundIn_any HR.out).mono ?_
    rintro e W3 ⟨b, rfl, hk, hb⟩
    clear HR hy b0 a0 a1 d0 d1
    cases b with
    | true =>
      gi_wp2
      exact ⟨hk.from (by omega), hk.pairs, by rw [← List.append_assoc]; exact hb, HS2.out.keep hk, HM2.out.keep hk⟩
    | false =>
      gi_wp2
      exact ⟨hk.from (by omega), hk.pairs, rfl, by rw [← List.append_assoc]; exact hb, HM2.out.keep hk⟩
  case stop0 =>
    rintro D c pre V2 hD hp ⟨rfl, hx, hM2⟩ hK
    have hM3 : Marks B (D :: []) V2 := ⟨by omega, hK, fun E hE => by have := hM1.lt E hE; omega, hM2⟩
    clear hK hM2 hP hS1 hJ1
    refine wpIn_wide.2 ?_
    go_wp2_with fail
    refine leaves_marks (B := B) (D :: []) V2 hM3 fun V hV => ?_
    exact ⟨_, results_none rfl _ _ _, ⟨_, rfl⟩, .inr ⟨_, HPre.out 0 (by omega) _ hp, HX.out _ _ _ hx hV⟩⟩
  case done0 =>
    rintro D0 V2 hD ⟨hJ2, hS2, hM2⟩ hK
    have HMM : Hid (Marks B [D0] V2) := Lib.hid ⟨by omega, hK, fun E hE => by have := hM1.lt E hE; omega, hM2⟩
    have HSS := Lib.hid hS2
    have HJ0 : Hid (J (accP L f (0 + 1)) V2) := Lib.hid hJ2
    clear hK hM2 hP hS1 hJ1 hS2 hJ2 hM1 hlt hgC hgQ hz1
    go_wp2_with fail
    rw [rounds_succ]
    have c0 := HSS.out.1.c 0 rfl
    have c1 := HSS.out.1.c 1 rfl
    have c2 := HSS.out.1.c 2 rfl
    have c3 := HSS.out.1.c 3 rfl
    go_wp2_with fail
    refine (pairs_any A N cap 1 _).mono ?_
    rintro e V1 ⟨Cq, Qq, rfl, hRC, hRQ, hne, hgC, hgQ, hb1⟩
    clear c0 c1 c2 c3 hne
    have hlt := HSS.out.lt
    have hJ1 := HJ.out _ _ _ HJ0.out (hb1.mono (Nat.le_of_lt hlt))
    have hM1 := HMM.out.below HMM.out.lt hb1
    have hS1 := HSS.out.under hlt hb1
    have hz1 := hb1.size
    clear HSS HMM HJ0 hb1
    go_wp2_with fail
    refine (wpIn_wide (n := 9)).1 ?_
    have hP : PairS Cq Qq 1 A N cap L V1 := ⟨hRC, hRQ, hS1.2.1⟩
    clear hRC hRQ
    refine wpIn_range_u (α := (Int × Int) × (Int × Int)) rfl (by omega) (gf := 59) (lb := #[.pointer (some ⟨Cq, 0, none⟩), .pointer (some ⟨Qq, 0, none⟩)]) rfl trivial (enters_of Try.func59 (by kernel_rfl) rfl)
      (pairs_u 7 m B Cq Qq 1 (by omega) A N cap L (nextF L f 1) (H20.out 1 (by omega)) (HN.out 1 (by omega)) (by omega) (by omega) hS1.2.2.2.1 V1 hP)
      KpP.trans (fun _ _ W o o' _ _ h hc => KpP.turn W o o' h hc) (fun _ _ _ h => KpP.below h) (Below.refl _ _) (fun _ => rfl)
      (fun pre W => J (accP L f 1 ++ pre) W ∧ RdS m B C l A N cap L W ∧ Marks B [D0] W) (fun c pre W => c = .exit 0 ∧ Jx (accP L f 1 ++ pre) W ∧ Marks B [D0] W)
      (fun pre X Y h hb => ⟨HJ.out _ _ _ h.1 (hb.mono (by omega)), h.2.1.under (by omega) hb, h.2.2.below hM1.lt hb⟩) (fun c pre X Y h hb => ⟨h.1, HX.out _ _ _ h.2.1 (hb.mono (by omega)), h.2.2.below hM1.lt hb⟩)
      ⟨by rw [List.append_nil]; exact hJ1, hS1, hM1⟩
      (fun x a' W => ∃ Ba Bb, V1.heap.size + 2 ≤ Ba ∧ V1.heap.size + 2 ≤ Bb ∧ Row W Ba [.int .i64 x.1.1, .int .i64 x.1.2, .int .i64 (quart x.1.1 x.1.2)] ∧ Row W Bb [.int .i64 x.2.1, .int .i64 x.2.2, .int .i64 (quart x.2.1 x.2.2)] ∧
        a' = { tmps := #[.func (.yield l) #[] #[], .pointer (some ⟨C, 0, none⟩), .pointer (some ⟨B, 0, none⟩), .int .i64 1, .pointer (some ⟨Ba, 0, none⟩), .pointer (some ⟨Bb, 0, none⟩), .int .i64 1, .bool true, .int .i64 1, circV A N cap, .int .i64 1, .func (.func 59) #[] #[.pointer (some ⟨Cq, 0, none⟩), .pointer (some ⟨Qq, 0, none⟩)], armP x.1, armP x.2, undef, undef, undef, undef, undef, undef, undef, .int .i64 1], defers := [] })
      (fun x a' W lo o h1 h2 ⟨Ba, Bb, ha, hb, r1, r2, e⟩ => ⟨Ba, Bb, ha, hb, r1.turn (by omega) o, r2.turn (by omega) o, e⟩) ?assign1 ?body1 ?done1 ?stop1
    case assign1 =>
      intro l' pre x W K hI hW hK
      clear hI hP hS1 hM1 hJ1
      unfold encArm armP
      gi_wp2
      refine hK _ _ ?_ ⟨W.heap.size, W.heap.size + 1, hW, by omega, ?_, ?_, rfl⟩
      · exact ((Below.refl _ _).alloc (Nat.le_refl _) _).alloc (by simp) _
      · exact (Row.new _ _ _).alloc _
      · exact Row.at (by simp) _ _
    case body1 =>
      rintro l' pre x a' W ⟨hJ2, hS2, hM2⟩ hW hp ⟨Ba, Bb, hBa, hBb, r1, r2, rfl⟩
      clear hP hS1 hM1 hJ1
      obtain ⟨fn, tmps, assign, body, hy, hR⟩ := HY.out _ x W hJ2 (by omega) (by rw [List.append_assoc]; exact HPre.out 1 (by omega) _ hp)
      unfold encW at hy
      have b0 := hS2.2.2.1.c 0 rfl
      have a0 := r1.c 0 rfl
      have a1 := r1.c 1 rfl
      have d0 := r2.c 0 rfl
      have d1 := r2.c 1 rfl
      have HS2 := Lib.hid hS2
      have HM2 := Lib.hid hM2
      have HR := Lib.hid hR
      clear hS2 hM2 hR hp hJ2
      gi_wp2
      refine (roundIn_any HR.out).mono ?_
      rintro e W3 ⟨b, rfl, hk, hb⟩
      clear HR hy b0 a0 a1 d0 d1
      cases b with
      | true =>
        gi_wp2
        exact ⟨hk.from (by omega), hk.pairs, by rw [← List.append_assoc]; exact hb, HS2.out.keep hk, HM2.out.keep hk⟩
      | false =>
        gi_wp2
        exact ⟨hk.from (by omega), hk.pairs, rfl, by rw [← List.append_assoc]; exact hb, HM2.out.keep hk⟩
    case stop1 =>
      rintro D c pre V2 hD hp ⟨rfl, hx, hM2⟩ hK
      have hM3 : Marks B (D :: [D0]) V2 := ⟨by omega, hK, fun E hE => by have := hM1.lt E hE; omega, hM2⟩
      clear hK hM2 hP hS1 hJ1
      refine wpIn_wide.2 ?_
      go_wp2_with fail
      refine leaves_marks (B := B) (D :: [D0]) V2 hM3 fun V hV => ?_
      exact ⟨_, results_none rfl _ _ _, ⟨_, rfl⟩, .inr ⟨_, HPre.out 1 (by omega) _ hp, HX.out _ _ _ hx hV⟩⟩
    case done1 =>
      rintro D1 V2 hD ⟨hJ2, hS2, hM2⟩ hK
      have HMM : Hid (Marks B [D1, D0] V2) := Lib.hid ⟨by omega, hK, fun E hE => by have := hM1.lt E hE; omega, hM2⟩
      have HSS := Lib.hid hS2
      have HJ0 : Hid (J (accP L f (1 + 1)) V2) := Lib.hid hJ2
      clear hK hM2 hP hS1 hJ1 hS2 hJ2 hM1 hlt hgC hgQ hz1
      go_wp2_with fail
      rw [rounds_succ]
      have c0 := HSS.out.1.c 0 rfl
      have c1 := HSS.out.1.c 1 rfl
      have c2 := HSS.out.1.c 2 rfl
      have c3 := HSS.out.1.c 3 rfl
      go_wp2_with fail
      refine (pairs_any A N cap 2 _).mono ?_
      rintro e V1 ⟨Cq, Qq, rfl, hRC, hRQ, hne, hgC, hgQ, hb1⟩
      clear c0 c1 c2 c3 hne
      have hlt := HSS.out.lt
      have hJ1 := HJ.out _ _ _ HJ0.out (hb1.mono (Nat.le_of_lt hlt))
      have hM1 := HMM.out.below HMM.out.lt hb1
      have hS1 := HSS.out.under hlt hb1
      have hz1 := hb1.size
      clear HSS HMM HJ0 hb1
      go_wp2_with fail
      refine (wpIn_wide (n := 9)).1 ?_
      have hP : PairS Cq Qq 2 A N cap L V1 := ⟨hRC, hRQ, hS1.2.1⟩
      clear hRC hRQ
      refine wpIn_range_u (α := (Int × Int) × (Int × Int)) rfl (by omega) (gf := 59) (lb := #[.pointer (some ⟨Cq, 0, none⟩), .pointer (some ⟨Qq, 0, none⟩)]) rfl trivial (enters_of Try.func59 (by kernel_rfl) rfl)
        (pairs_u 7 m B Cq Qq 2 (by omega) A N cap L (nextF L f 2) (H20.out 2 (by omega)) (HN.out 2 (by omega)) (by omega) (by omega) hS1.2.2.2.1 V1 hP)
        KpP.trans (fun _ _ W o o' _ _ h hc => KpP.turn W o o' h hc) (fun _ _ _ h => KpP.below h) (Below.refl _ _) (fun _ => rfl)
        (fun pre W => J (accP L f 2 ++ pre) W ∧ RdS m B C l A N cap L W ∧ Marks B [D1, D0] W) (fun c pre W => c = .exit 0 ∧ Jx (accP L f 2 ++ pre) W ∧ Marks B [D1, D0] W)
        (fun pre X Y h hb => ⟨HJ.out _ _ _ h.1 (hb.mono (by omega)), h.2.1.under (by omega) hb, h.2.2.below hM1.lt hb⟩) (fun c pre X Y h hb => ⟨h.1, HX.out _ _ _ h.2.1 (hb.mono (by omega)), h.2.2.below hM1.lt hb⟩)
        ⟨by rw [List.append_nil]; exact hJ1, hS1, hM1⟩
        (fun x a' W => ∃ Ba Bb, V1.heap.size + 2 ≤ Ba ∧ V1.heap.size + 2 ≤ Bb ∧ Row W Ba [.int .i64 x.1.1, .int .i64 x.1.2, .int .i64 (quart x.1.1 x.1.2)] ∧ Row W Bb [.int .i64 x.2.1, .int .i64 x.2.2, .int .i64 (quart x.2.1 x.2.2)] ∧
          a' = { tmps := #[.func (.yield l) #[] #[], .pointer (some ⟨C, 0, none⟩), .pointer (some ⟨B, 0, none⟩), .int .i64 2, .pointer (some ⟨Ba, 0, none⟩), .pointer (some ⟨Bb, 0, none⟩), .int .i64 2, .bool true, .int .i64 2, circV A N cap, .int .i64 2, .func (.func 59) #[] #[.pointer (some ⟨Cq, 0, none⟩), .pointer (some ⟨Qq, 0, none⟩)], armP x.1, armP x.2, undef, undef, undef, undef, undef, undef, undef, .int .i64 2], defers := [] })
        (fun x a' W lo o h1 h2 ⟨Ba, Bb, ha, hb, r1, r2, e⟩ => ⟨Ba, Bb, ha, hb, r1.turn (by omega) o, r2.turn (by omega) o, e⟩) ?assign2 ?body2 ?done2 ?stop2
      case assign2 =>
        intro l' pre x W K hI hW hK
        clear hI hP hS1 hM1 hJ1
        unfold encArm armP
        gi_wp2
        refine hK _ _ ?_ ⟨W.heap.size, W.heap.size + 1, hW, by omega, ?_, ?_, rfl⟩
        · exact ((Below.refl _ _).alloc (Nat.le_refl _) _).alloc (by simp) _
        · exact (Row.new _ _ _).alloc _
        · exact Row.at (by simp) _ _
      case body2 =>
        rintro l' pre x a' W ⟨hJ2, hS2, hM2⟩ hW hp ⟨Ba, Bb, hBa, hBb, r1, r2, rfl⟩
        clear hP hS1 hM1 hJ1
        obtain ⟨fn, tmps, assign, body, hy, hR⟩ := HY.out _ x W hJ2 (by omega) (by rw [List.append_assoc]; exact HPre.out 2 (by omega) _ hp)
        unfold encW at hy
        have b0 := hS2.2.2.1.c 0 rfl
        have a0 := r1.c 0 rfl
        have a1 := r1.c 1 rfl
        have d0 := r2.c 0 rfl
        have d1 := r2.c 1 rfl
        have HS2 := Lib.hid hS2
        have HM2 := Lib.hid hM2
        have HR := Lib.hid hR
        clear hS2 hM2 hR hp hJ2
        gi_wp2
        refine (roundIn_any HR.out).mono ?_
        rintro e W3 ⟨b, rfl, hk, hb⟩
        clear HR hy b0 a0 a1 d0 d1
        cases b with
        | true =>
          gi_wp2
          exact ⟨hk.from (by omega), hk.pairs, by rw [← List.append_assoc]; exact hb, HS2.out.keep hk, HM2.out.keep hk⟩
        | false =>
          gi_wp2
          exact ⟨hk.from (by omega), hk.pairs, rfl, by rw [← List.append_assoc]; exact hb, HM2.out.keep hk⟩
      case stop2 =>
        rintro D c pre V2 hD hp ⟨rfl, hx, hM2⟩ hK
        have hM3 : Marks B (D :: [D1, D0]) V2 := ⟨by omega, hK, fun E hE => by have := hM1.lt E hE; omega, hM2⟩
        clear hK hM2 hP hS1 hJ1
        refine wpIn_wide.2 ?_
        go_wp2_with fail
        refine leaves_marks (B := B) (D :: [D1, D0]) V2 hM3 fun V hV => ?_
        exact ⟨_, results_none rfl _ _ _, ⟨_, rfl⟩, .inr ⟨_, HPre.out 2 (by omega) _ hp, HX.out _ _ _ hx hV⟩⟩
      case done2 =>
        rintro D2 V2 hD ⟨hJ2, hS2, hM2⟩ hK
        have HMM : Hid (Marks B [D2, D1, D0] V2) := Lib.hid ⟨by omega, hK, fun E hE => by have := hM1.lt E hE; omega, hM2⟩
        have HSS := Lib.hid hS2
        have HJ0 : Hid (J (accP L f (2 + 1)) V2) := Lib.hid hJ2
        clear hK hM2 hP hS1 hJ1 hS2 hJ2 hM1 hlt hgC hgQ hz1
        go_wp2_with fail
        rw [rounds_succ]
        have c0 := HSS.out.1.c 0 rfl
        have c1 := HSS.out.1.c 1 rfl
        have c2 := HSS.out.1.c 2 rfl
        have c3 := HSS.out.1.c 3 rfl
        go_wp2_with fail
        refine (pairs_any A N cap 3 _).mono ?_
        rintro e V1 ⟨Cq, Qq, rfl, hRC, hRQ, hne, hgC, hgQ, hb1⟩
        clear c0 c1 c2 c3 hne
        have hlt := HSS.out.lt
        have hJ1 := HJ.out _ _ _ HJ0.out (hb1.mono (Nat.le_of_lt hlt))
        have hM1 := HMM.out.below HMM.out.lt hb1
        have hS1 := HSS.out.under hlt hb1
        have hz1 := hb1.size
        clear HSS HMM HJ0 hb1
        go_wp2_with fail
        refine (wpIn_wide (n := 9)).1 ?_
        have hP : PairS Cq Qq 3 A N cap L V1 := ⟨hRC, hRQ, hS1.2.1⟩
        clear hRC hRQ
        refine wpIn_range_u (α := (Int × Int) × (Int × Int)) rfl (by omega) (gf := 59) (lb := #[.pointer (some ⟨Cq, 0, none⟩), .pointer (some ⟨Qq, 0, none⟩)]) rfl trivial (enters_of Try.func59 (by kernel_rfl) rfl)
          (pairs_u 7 m B Cq Qq 3 (by omega) A N cap L (nextF L f 3) (H20.out 3 (by omega)) (HN.out 3 (by omega)) (by omega) (by omega) hS1.2.2.2.1 V1 hP)
          KpP.trans (fun _ _ W o o' _ _ h hc => KpP.turn W o o' h hc) (fun _ _ _ h => KpP.below h) (Below.refl _ _) (fun _ => rfl)
          (fun pre W => J (accP L f 3 ++ pre) W ∧ RdS m B C l A N cap L W ∧ Marks B [D2, D1, D0] W) (fun c pre W => c = .exit 0 ∧ Jx (accP L f 3 ++ pre) W ∧ Marks B [D2, D1, D0] W)
          (fun pre X Y h hb => ⟨HJ.out _ _ _ h.1 (hb.mono (by omega)), h.2.1.under (by omega) hb, h.2.2.below hM1.lt hb⟩) (fun c pre X Y h hb => ⟨h.1, HX.out _ _ _ h.2.1 (hb.mono (by omega)), h.2.2.below hM1.lt hb⟩)
          ⟨by rw [List.append_nil]; exact hJ1, hS1, hM1⟩
          (fun x a' W => ∃ Ba Bb, V1.heap.size + 2 ≤ Ba ∧ V1.heap.size + 2 ≤ Bb ∧ Row W Ba [.int .i64 x.1.1, .int .i64 x.1.2, .int .i64 (quart x.1.1 x.1.2)] ∧ Row W Bb [.int .i64 x.2.1, .int .i64 x.2.2, .int .i64 (quart x.2.1 x.2.2)] ∧
            a' = { tmps := #[.func (.yield l) #[] #[], .pointer (some ⟨C, 0, none⟩), .pointer (some ⟨B, 0, none⟩), .int .i64 3, .pointer (some ⟨Ba, 0, none⟩), .pointer (some ⟨Bb, 0, none⟩), .int .i64 3, .bool true, .int .i64 3, circV A N cap, .int .i64 3, .func (.func 59) #[] #[.pointer (some ⟨Cq, 0, none⟩), .pointer (some ⟨Qq, 0, none⟩)], armP x.1, armP x.2, undef, undef, undef, undef, undef, undef, undef, .int .i64 3], defers := [] })
          (fun x a' W lo o h1 h2 ⟨Ba, Bb, ha, hb, r1, r2, e⟩ => ⟨Ba, Bb, ha, hb, r1.turn (by omega) o, r2.turn (by omega) o, e⟩) ?assign3 ?body3 ?done3 ?stop3
        case assign3 =>
          intro l' pre x W K hI hW hK
          clear hI hP hS1 hM1 hJ1
          unfold encArm armP
          gi_wp2
          refine hK _ _ ?_ ⟨W.heap.size, W.heap.size + 1, hW, by omega, ?_, ?_, rfl⟩
          · exact ((Below.refl _ _).alloc (Nat.le_refl _) _).alloc (by simp) _
          · exact (Row.new _ _ _).alloc _
          · exact Row.at (by simp) _ _
        case body3 =>
          rintro l' pre x a' W ⟨hJ2, hS2, hM2⟩ hW hp ⟨Ba, Bb, hBa, hBb, r1, r2, rfl⟩
          clear hP hS1 hM1 hJ1
          obtain ⟨fn, tmps, assign, body, hy, hR⟩ := HY.out _ x W hJ2 (by omega) (by rw [List.append_assoc]; exact HPre.out 3 (by omega) _ hp)
          unfold encW at hy
          have b0 := hS2.2.2.1.c 0 rfl
          have a0 := r1.c 0 rfl
          have a1 := r1.c 1 rfl
          have d0 := r2.c 0 rfl
          have d1 := r2.c 1 rfl
          have HS2 := Lib.hid hS2
          have HM2 := Lib.hid hM2
          have HR := Lib.hid hR
          clear hS2 hM2 hR hp hJ2
          gi_wp2
          refine (roundIn_any HR.out).mono ?_
          rintro e W3 ⟨b, rfl, hk, hb⟩
          clear HR hy b0 a0 a1 d0 d1
          cases b with
          | true =>
            gi_wp2
            exact ⟨hk.from (by omega), hk.pairs, by rw [← List.append_assoc]; exact hb, HS2.out.keep hk, HM2.out.keep hk⟩
          | false =>
            gi_wp2
            exact ⟨hk.from (by omega), hk.pairs, rfl, by rw [← List.append_assoc]; exact hb, HM2.out.keep hk⟩
        case stop3 =>
          rintro D c pre V2 hD hp ⟨rfl, hx, hM2⟩ hK
          have hM3 : Marks B (D :: [D2, D1, D0]) V2 := ⟨by omega, hK, fun E hE => by have := hM1.lt E hE; omega, hM2⟩
          clear hK hM2 hP hS1 hJ1
          refine wpIn_wide.2 ?_
          go_wp2_with fail
          refine leaves_marks (B := B) (D :: [D2, D1, D0]) V2 hM3 fun V hV => ?_
          exact ⟨_, results_none rfl _ _ _, ⟨_, rfl⟩, .inr ⟨_, HPre.out 3 (by omega) _ hp, HX.out _ _ _ hx hV⟩⟩
        case done3 =>
          rintro D3 V2 hD ⟨hJ2, hS2, hM2⟩ hK
          have HMM : Hid (Marks B [D3, D2, D1, D0] V2) := Lib.hid ⟨by omega, hK, fun E hE => by have := hM1.lt E hE; omega, hM2⟩
          have HSS := Lib.hid hS2
          have HJ0 : Hid (J (accP L f (3 + 1)) V2) := Lib.hid hJ2
          clear hK hM2 hP hS1 hJ1 hS2 hJ2 hM1 hlt hgC hgQ hz1
          go_wp2_with fail
          rw [rounds_succ]
          go_wp2_with fail
          refine leaves_marks (B := B) [D3, D2, D1, D0] V2 HMM.out fun V hV => ?_
          exact ⟨_, results_none rfl _ _ _, ⟨_, rfl⟩, .inl (by rw [← HW.out]; exact HJ.out _ _ _ HJ0.out hV)⟩
end Go.Proofs.Ytfdofajknnocfaa
