/- seg.Nodes' iterator as a sequence. -/
import Derived.Test.YtdfmmkidknginaaGreatDoorZKkZG
import Derived.Test.YtdfmmkidknginaaGreatDoorNkRH
namespace Go.Proofs.YtdfmmkidknginaaGreatDoor
open Go.RowKit Go.Sort CrossMath
attribute [local go_sem] Oper.semAt_some

/-- What lies from B on, and the blocks S, lie as they lay. -/
def Kq (S : Nat → Prop) (B : Nat) (X Y : World) : Prop := X.heap.size ≤ Y.heap.size ∧ ∀ k, (B ≤ k ∨ S k) → k < X.heap.size → Y.heap[k]? = X.heap[k]?
section
variable {S : Nat → Prop} {B : Nat} {X Y Z : World}
theorem Kq.trans (h : Kq S B X Y) (g : Kq S B Y Z) : Kq S B X Z := ⟨Nat.le_trans h.1 g.1, fun k hk hl => (g.2 k hk (Nat.lt_of_lt_of_le hl h.1)).trans (h.2 k hk hl)⟩
theorem Kq.below (h : Below X.heap.size X Y) : Kq S B X Y := ⟨h.size, fun k _ hl => h.block k hl⟩
theorem Kq.turn {l : Nat} (W : World) (o' : Obj) (hl : l < B) (hs : ¬ S l) : Kq S B W (W.putObj l o') := ⟨by simp [World.putObj], fun k hk _ => World.putObj_heap_other (by
  rcases hk with h | h
  · omega
  · exact fun e => hs (e ▸ h))⟩
theorem Kq.from (h : Kq S B X Y) {C : Nat} (hc : B ≤ C) : KeepsFrom C X Y := ⟨h.1, fun k o hk ho _ => (h.2 k (.inl (by omega)) (Array.getElem?_eq_some_iff.1 ho).1).trans ho⟩
theorem Kq.keeps (h : Kq S B X Y) {E : Nat} (he : B ≤ E ∨ S E) : KeepsB E X Y := ⟨h.1, fun hl => h.2 E he hl⟩
theorem Kq.row (h : Kq S B X Y) {E : Nat} (he : B ≤ E ∨ S E) {vs : List Value} (r : Row X E vs) : Row Y E vs := (h.keeps he).row r
theorem Kq.marks (h : Kq S B X Y) : ∀ {l : List Nat}, Marks B l X → Marks B l Y
  | [], _ => trivial
  | D :: _, ⟨h1, h2, h3, h4⟩ => ⟨h1, (h.2 D (.inl h1) (Array.getElem?_eq_some_iff.1 h2).1).trans h2, h3, h.marks h4⟩
theorem Kq.marks' {C : Nat} (h : Kq S B X Y) (hc : B ≤ C) : ∀ {l : List Nat}, Marks C l X → Marks C l Y
  | [], _ => trivial
  | D :: _, ⟨h1, h2, h3, h4⟩ => ⟨h1, (h.2 D (.inl (Nat.le_trans hc h1)) (Array.getElem?_eq_some_iff.1 h2).1).trans h2, h3, h.marks' hc h4⟩
end
theorem roundIn_any4 {a b : Nat} {P : Program} {l k : Nat} {f : FuncId} {tmps : Array Value} {assign body : Code} {w : World} {R : Ending → World → Prop} (h : RoundIn Fence.wide a P l f tmps assign body w R) : RoundIn (Fence.wide.inRound k) b P l f tmps assign body w R :=
  ⟨h.1, fun c cs _ => h.2 c cs (room_wide _)⟩
/-- A list of segments lies at A. -/
def SegsAt (A : Option Addr) (L : List Sg) (W : World) : Prop := 0 < L.length → ∃ b o, A = some ⟨b, o, none⟩ ∧ b < W.heap.size ∧ ∀ j s, L[j]? = some s → W.cell? ⟨b, o + j * 4, none⟩ = some (.int .i64 s.ax) ∧ W.cell? ⟨b, o + j * 4 + 1, none⟩ = some (.int .i64 s.ay) ∧ W.cell? ⟨b, o + j * 4 + 2, none⟩ = some (.int .i64 s.bx) ∧ W.cell? ⟨b, o + j * 4 + 3, none⟩ = some (.int .i64 s.bY)
def kpS (A : Option Addr) (N : Nat) (k : Nat) : Prop := 0 < N ∧ ∃ a, A = some a ∧ a.block = k
theorem SegsAt.keep {A : Option Addr} {L : List Sg} {X Y : World} (h : SegsAt A L X) (hk : ∀ k, kpS A L.length k → k < X.heap.size → Y.heap[k]? = X.heap[k]?) (hs : X.heap.size ≤ Y.heap.size) : SegsAt A L Y := fun h0 => by
  obtain ⟨b, o, rfl, hl, hc⟩ := h h0
  have e : Y.heap[b]? = X.heap[b]? := hk b ⟨h0, _, rfl, rfl⟩ hl
  exact ⟨b, o, rfl, Nat.lt_of_lt_of_le hl hs, fun j s hj => by simp only [World.cell?, e]; exact hc j s hj⟩
theorem SegsAt.after {A : Option Addr} {L : List Sg} {X Y : World} (h : SegsAt A L X) (hb : Below X.heap.size X Y) : SegsAt A L Y := h.keep (fun k _ hl => hb.block k hl) hb.size
/-- The ends of segments. -/
def nodesL (L : List Sg) : List (Int × Int) := L.flatMap fun s => [(s.ax, s.ay), (s.bx, s.bY)]
theorem nodesL_next {L : List Sg} {j : Nat} {s : Sg} (h : L[j]? = some s) : nodesL (L.take (j + 1)) = nodesL (L.take j) ++ [(s.ax, s.ay), (s.bx, s.bY)] := by
  unfold nodesL
  rw [List.take_add_one, h, List.flatMap_append]; rfl
theorem nodesL_pre (L : List Sg) (j : Nat) : nodesL (L.take j) <+: nodesL L := by
  refine ⟨nodesL (L.drop j), ?_⟩
  unfold nodesL
  rw [← List.flatMap_append, List.take_append_drop]
theorem SegsAt.under {A : Option Addr} {L : List Sg} {X Y : World} {B : Nat} (h : SegsAt A L X) (hl : ∀ k, kpS A L.length k → k < B) (hb : Below B X Y) : SegsAt A L Y := h.keep (fun k hk _ => hb.block k (hl k hk)) hb.size
theorem SegsAt.lt {A : Option Addr} {L : List Sg} {X : World} (h : SegsAt A L X) : ∀ k, kpS A L.length k → k < X.heap.size := fun k hk => by
  obtain ⟨h0, a, rfl, rfl⟩ := hk
  obtain ⟨b, o, e, hl, _⟩ := h h0
  cases e
  exact hl
set_option maxRecDepth 100000 in
set_option maxHeartbeats 4000000 in
theorem nodes_u (n E : Nat) (L : List Sg) (A : Option Addr) (N c : Nat) (w : World) (hN : N = L.length) (hc : N ≤ c) (hb : N ≤ 20) (hE : Row w E [.slice A N c]) (hA : SegsAt A L w) :
    SeqU Fence.wide (n + 1) Tryz.prog 70 #[.pointer (some ⟨E, 0, none⟩)] encN (Kq (kpS A N)) (nodesL L) w := by
  intro l J Jx W hW hJ hJx hY h0
  have HY := Lib.hid hY; clear hY
  have HJ := Lib.hid hJ; clear hJ
  have HX := Lib.hid hJx; clear hJx
  have HN := Lib.hid hN; clear hN
  have hR := hE.after hW
  have hAW := hA.after hW
  clear hE hW hA
  have lE := hR.lt
  refine callsIn_of_wp_marks Tryz.func70 rfl trivial ?_ rfl
  simp only [Tryz.ntmps70, List.size_toArray, List.length_cons, List.length_nil, Nat.reduceAdd, Nat.reduceSub, Array.replicate_succ, Array.replicate_zero, List.push_toArray, List.append_toArray, List.nil_append, List.cons_append]
  refine wpIn_wide.2 ?_
  go_wp2_with fail
  refine wp_scope_straight ?_
  generalize hW1 : World.alloc _ _ = W1
  have rY : Row W1 W.heap.size [.func (.yield l) #[] #[]] := by rw [← hW1]; exact Row.at rfl _ _
  have hb1 : Below W.heap.size W W1 := by rw [← hW1]; exact (Below.refl _ _).alloc (Nat.le_refl _) _
  clear hW1
  replace hAW := hAW.after hb1
  have c0 := (hR.after hb1).c 0 rfl
  have h01 := HJ.out _ _ _ h0 hb1
  clear h0 hR
  have HA := Lib.hid hAW
  clear hAW
  refine wp_seq (wp_label ?_)
  go_wp2_with fail
  have HM0 : Hid (∀ k, kpS A L.length k → k < W1.heap.size) := Lib.hid HA.out.lt
  refine wp_loop (fun a wr => ∃ (j : Nat) (ds : List Nat) (u3 u4 u5 u9 u10 u11 u12 u13 u14 u15 u16 u17 u18 u19 : Value), j ≤ N ∧ a = { tmps := #[.func (.yield l) #[] #[], .pointer (some ⟨E, 0, none⟩), .pointer (some ⟨W.heap.size, 0, none⟩), u3, u4, u5, .slice A N c, .int .i64 (N : Nat), .int .i64 (j : Nat), u9, u10, u11, u12, u13, u14, u15, u16, u17, u18, u19], defers := markL ds } ∧ J (nodesL (L.take j)) wr ∧ Row wr W.heap.size [.func (.yield l) #[] #[]] ∧ SegsAt A L wr ∧ Marks (W.heap.size + 1) ds wr ∧ W1.heap.size ≤ wr.heap.size) (fun a _ => N - (intOf (a.tmps[8]?.getD undef)).toNat) ?h0 ?round
  case h0 => exact ⟨0, [], _, _, _, _, _, _, _, _, _, _, _, _, _, _, Nat.zero_le _, rfl, h01, rY, HA.out, trivial, Nat.le_refl _⟩
  case round =>
    rintro a wr ⟨j, ds, u3, u4, u5, u9, u10, u11, u12, u13, u14, u15, u16, u17, u18, u19, hj, rfl, hJr, hrY, hS, hM, hsz⟩
    clear h01 c0 HA
    have y0 := hrY.c 0 rfl
    by_cases hjn : j < N
    case pos =>
      have hj1 : (j : Int) < (N : Int) := by omega
      obtain ⟨s, hs⟩ : ∃ s, L[j]? = some s := ⟨_, List.getElem?_eq_getElem (by rw [← HN.out]; exact hjn)⟩
      obtain ⟨b, o, rfl, hbl, hcs⟩ := hS (by rw [← HN.out]; omega)
      obtain ⟨x0, x1, x2, x3⟩ := hcs j s hs
      have HS := Lib.hid hS
      have HL := Lib.hid hs
      have HM := Lib.hid (And.intro hM hrY)
      clear hS hs hcs hM hrY
      go_upto_region 4 with fail
      generalize hW2 : World.alloc _ _ = W2
      have rS : Row W2 wr.heap.size [.int .i64 s.ax, .int .i64 s.ay, .int .i64 s.bx, .int .i64 s.bY] := by rw [← hW2]; exact Row.at rfl _ _
      have hb2 : Below wr.heap.size wr W2 := by rw [← hW2]; exact (Below.refl _ _).alloc (Nat.le_refl _) _
      clear hW2 x0 x1 x2 x3 y0
      have z0 := rS.c 0 rfl
      have z1 := rS.c 1 rfl
      have z2 := rS.c 2 rfl
      have z3 := rS.c 3 rfl
      go_wp2_with fail
      refine (ends_any s.ax s.ay s.bx s.bY _).mono ?_
      rintro e W3 ⟨E2, rfl, hE2, hRE, hb3⟩
      clear z0 z1 z2 z3
      have hbw : Below wr.heap.size wr W3 := hb2.trans (hb3.mono hb2.size)
      have hJ3 := HJ.out _ _ _ hJr (hbw.mono (by have := HM.out.2.lt; omega))
      have hM3 := HM.out.1.below HM.out.1.lt hbw
      have hY3 := HM.out.2.after hbw
      have hS3 := HS.out.after hbw
      have hsz3 : W1.heap.size ≤ W3.heap.size := Nat.le_trans hsz hbw.size
      have hwr : W.heap.size < wr.heap.size := HM.out.2.lt
      have hszr : wr.heap.size ≤ W3.heap.size := hbw.size
      have hsz2 : wr.heap.size ≤ W2.heap.size := hb2.size
      clear hbw hb3 hb2 rS HM HS hJr
      go_wp2_with fail
      refine (wpIn_wide (n := 9)).1 ?_
      have hA3 : ∀ k, kpS (some ⟨b, o, none⟩) L.length k → k < W3.heap.size := hS3.lt
      have hPre : nodesL (L.take j) ++ [(s.ax, s.ay), (s.bx, s.bY)] <+: nodesL L := by rw [← nodesL_next HL.out]; exact nodesL_pre L _
      have HP := Lib.hid hPre
      clear hPre
      refine wpIn_range_u (α := Int × Int) rfl (by omega) (gf := 76) (lb := #[.pointer (some ⟨E2, 0, none⟩)]) rfl trivial (enters_of Tryz.func76 (by kernel_rfl) rfl)
        (ends_u 7 E2 s.ax s.ay s.bx s.bY W3 hRE) KeepsB.trans (fun _ l' V _ o' h _ _ _ => KeepsB.turn V o' (by have := hRE.1; omega)) (fun _ _ _ h => KeepsB.below h) (Below.refl _ _) (fun _ => rfl)
        (fun pre V => J (nodesL (L.take j) ++ pre) V ∧ Row V W.heap.size [.func (.yield l) #[] #[]] ∧ SegsAt (some ⟨b, o, none⟩) L V ∧ Marks (W.heap.size + 1) ds V ∧ W3.heap.size ≤ V.heap.size)
        (fun c pre V => c = .exit 0 ∧ Jx (nodesL (L.take j) ++ pre) V ∧ Marks (W.heap.size + 1) ds V)
        (fun pre X Y h hb => ⟨HJ.out _ _ _ h.1 (hb.mono (by omega)), h.2.1.below hb hY3.lt, h.2.2.1.under hA3 hb, h.2.2.2.1.below hM3.lt hb, Nat.le_trans h.2.2.2.2 hb.size⟩)
        (fun c pre X Y h hb => ⟨h.1, HX.out _ _ _ h.2.1 (hb.mono (by omega)), h.2.2.below hM3.lt hb⟩)
        ⟨by rw [List.append_nil]; exact hJ3, hY3, hS3, hM3, Nat.le_refl _⟩
        (fun x a' V => ∃ Ba, W3.heap.size + 2 ≤ Ba ∧ Row V Ba [.int .i64 x.1, .int .i64 x.2] ∧ a' = { tmps := #[.func (.yield l) #[] #[], .pointer (some ⟨E, 0, none⟩), .pointer (some ⟨W.heap.size, 0, none⟩), u3, .pointer (some ⟨wr.heap.size, 0, none⟩), .pointer (some ⟨Ba, 0, none⟩), .slice (some ⟨b, o, none⟩) N c, .int .i64 (N : Nat), .int .i64 (j : Nat), .bool true, .pointer (some ⟨b, o + j * 4, none⟩), .agg #[.int .i64 s.ax, .int .i64 s.ay, .int .i64 s.bx, .int .i64 s.bY], .agg #[.int .i64 s.ax, .int .i64 s.ay, .int .i64 s.bx, .int .i64 s.bY], .func (.func 76) #[] #[.pointer (some ⟨E2, 0, none⟩)], .agg #[.int .i64 x.1, .int .i64 x.2], u15, u16, u17, u18, u19], defers := [] })
        (fun x a' V lo ob h1 h2 ⟨Ba, ha, r1, e⟩ => ⟨Ba, ha, r1.turn (by omega) ob, e⟩) ?assign ?body ?done ?stop
      case assign =>
        intro l' pre x V K hI hV hK
        clear hI
        unfold encN
        gi_wp2
        exact hK _ _ ((Below.refl _ _).alloc (Nat.le_refl _) _) ⟨V.heap.size, hV, Row.at rfl _ _, rfl⟩
      case body =>
        rintro l' pre x a' V ⟨hJ4, hY4, hS4, hM4, hs4⟩ hV hp ⟨Ba, hBa, r1, rfl⟩
        have hpp : nodesL (L.take j) ++ pre ++ [x] <+: nodesL L := by
          rw [List.append_assoc]
          refine List.IsPrefix.trans ?_ HP.out
          obtain ⟨r, hr⟩ := hp
          exact ⟨r, by rw [List.append_assoc, hr]⟩
        obtain ⟨fn, tmps, assign, body, hy, hR⟩ := HY.out _ x V hJ4 (by omega) hpp
        unfold encN at hy
        have b0 := hY4.c 0 rfl
        have a0 := r1.c 0 rfl
        have a1 := r1.c 1 rfl
        have HS4 := Lib.hid hS4
        have HM4 := Lib.hid (And.intro hM4 hY4)
        have HR := Lib.hid hR
        clear hS4 hM4 hR hp hpp hJ4 hY4 r1
        gi_wp2
        refine (roundIn_any4 HR.out).mono ?_
        rintro e V3 ⟨bb, rfl, hk, hb⟩
        clear HR hy b0 a0 a1
        cases bb with
        | true =>
          gi_wp2
          exact ⟨hk.from (by omega), hk.keeps (.inl (by omega)), by rw [← List.append_assoc]; exact hb, hk.row (.inl (Nat.le_refl _)) HM4.out.2, HS4.out.keep (fun k hk' hl => hk.2 k (.inr (by rw [HN.out]; exact hk')) hl) hk.1, hk.marks' (by omega) HM4.out.1, Nat.le_trans hs4 hk.1⟩
        | false =>
          gi_wp2
          exact ⟨hk.from (by omega), hk.keeps (.inl (by omega)), rfl, by rw [← List.append_assoc]; exact hb, hk.marks' (by omega) HM4.out.1⟩
      case stop =>
        rintro D c' pre V hD hp ⟨rfl, hx, hM4⟩ hK
        have hM5 : Marks (W.heap.size + 1) (D :: ds) V := ⟨by omega, hK, fun D' hD' => by have := hM3.lt D' hD'; omega, hM4⟩
        clear hK hM4
        refine wpIn_wide.2 ?_
        go_wp2_with fail
        (try simp only [Exit.noGoto])
        refine leaves_marks (D :: ds) V hM5 fun V5 hV => ?_
        refine ⟨_, results_none rfl _ _ _, ⟨_, rfl⟩, .inr ⟨_, ?_, HX.out _ _ _ hx (hV.mono (by omega))⟩⟩
        obtain ⟨r, hr⟩ := hp
        refine List.IsPrefix.trans ?_ HP.out
        exact ⟨r, by rw [List.append_assoc, hr]⟩
      case done =>
        rintro D V hD ⟨hJ4, hY4, hS4, hM4, hs4⟩ hK
        have hM5 : Marks (W.heap.size + 1) (D :: ds) V := ⟨by omega, hK, fun D' hD' => by have := hM3.lt D' hD'; omega, hM4⟩
        rw [← nodesL_next HL.out] at hJ4
        have HI := Lib.hid (And.intro hJ4 (And.intro hY4 (And.intro hS4 hM5)))
        clear hK hM4 hJ4 hY4 hS4 hM5 hJ3 hM3 hY3 hS3 hA3
        go_wp2_with fail
        have e1 : ((j : Int) + 1) = ((j + 1 : Nat) : Int) := by omega
        rw [e1]
        refine ⟨⟨j + 1, D :: ds, _, _, _, _, _, _, _, _, _, _, _, _, _, _, by omega, rfl, HI.out.1, HI.out.2.1, HI.out.2.2.1, HI.out.2.2.2, by omega⟩, ?_⟩
        simp [intOf]
        omega
    case neg =>
      obtain rfl : j = N := by omega
      have hj1 : ¬ ((j : Int) < (j : Int)) := by omega
      have HJ5 := Lib.hid hJr
      have HM := Lib.hid hM
      clear hJr hM hrY hS
      go_wp2_with fail
      (try simp only [Exit.noGoto])
      refine leaves_marks ds wr HM.out fun V5 hV => ?_
      refine ⟨_, results_none rfl _ _ _, ⟨_, rfl⟩, .inl ?_⟩
      have := HJ.out _ _ _ HJ5.out (hV.mono (by omega))
      rw [HN.out, List.take_length] at this
      exact this
end Go.Proofs.YtdfmmkidknginaaGreatDoor
