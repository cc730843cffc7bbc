/- Contract of merged, of together. -/
import Derived.Test.YtjhcddlhhfjnaaaGreatDoorTD
import Derived.Deep.RegionLaw
import Derived.Deep.RegionWith
import Derived.Deep.CutBlock
import Derived.Deep.CutRange
namespace Go.Proofs.YtjhcddlhhfjnaaaGreatDoor
open Go.RowKit Go.Sort

def slLen : Value → Nat
  | .slice _ n _ => n
  | _ => 0
/-- How often may it be there, in one step of the work? -/
def Times (l : List (Int × Int)) : Prop := ∀ p ∈ l, -1000 ≤ p.2 ∧ p.2 ≤ 1000
/-- A slice of counts xs an answer. -/
def CntPost (w : World) (cs : List (Int × Int)) (e : Ending) (w' : World) : Prop :=
  ∃ A N cap, e = .returned (.slice A N cap) ∧ N = cs.length ∧ CellsS w' A (cntCs cs) ∧ N ≤ cap ∧ (∀ a, A = some a → w.heap.size ≤ a.block) ∧ Below w.heap.size w w'
theorem mg_made {w1 w2 : World} (hb : Below w1.drew.heap.size w1.drew w2) (x y : Value) (t : TypeId) : Hid (Row (w2.alloc (.cells #[x, y] t)) w2.heap.size [x, y] ∧ Below w1.heap.size w1 (w2.alloc (.cells #[x, y] t))) :=
  Lib.hid ⟨Row.at rfl [x, y] _, ((Below.refl w1.heap.size w1).drew.trans hb).alloc hb.size _⟩
theorem mg_put {w1 w2 : World} {a b : Value} {t : TypeId} (hb : Below (w1.alloc (.cells #[a, b] t)).drew.heap.size (w1.alloc (.cells #[a, b] t)).drew w2) (x y : Value) :
    Hid (Row ((w2.setCell ⟨w1.heap.size, 0, none⟩ x).setCell ⟨w1.heap.size, 1, none⟩ y) w1.heap.size [x, y] ∧ Below w1.heap.size w1 ((w2.setCell ⟨w1.heap.size, 0, none⟩ x).setCell ⟨w1.heap.size, 1, none⟩ y)) := by
  have r0 : Row (w1.alloc (.cells #[a, b] t)).drew w1.heap.size [a, b] := (Row.at rfl [a, b] _).drew
  have hB : Below w1.heap.size w1 w2 := (((Below.refl w1.heap.size w1).alloc (Nat.le_refl _) _).drew).trans (hb.mono (by simp))
  have r1 := ((r0.after hb).set 0 (by simp) x).set 1 (by simp) y
  exact Lib.hid ⟨r1, below_put1 (below_put1 hB (Nat.le_refl _) 0 x) (Nat.le_refl _) 1 y⟩
set_option maxHeartbeats 6400000 in
set_option maxRecDepth 100000 in
theorem merged_any (xs ys : List (Int × Int)) (A B : Option Addr) (na nb ca cb : Nat) (w : World) (hna : na = xs.length) (hnb : nb = ys.length) (ha : na ≤ 1000) (hb : nb ≤ 1000) (hca : na ≤ ca) (hcb : nb ≤ cb)
    (hA : CellsS w A (cntCs xs)) (hB : CellsS w B (cntCs ys)) (ta : Times xs) (tb : Times ys) :
    Calls Tryz.prog 52 #[.slice A na ca, .slice B nb cb, .func (.func 53) #[] #[], .func (.func 54) #[] #[]] w (CntPost w (mrg xs ys)) := by
  obtain ⟨i0, z0, hi, hz0, hz1, hz2, _⟩ := (elemCnt).info
  have HA := Lib.hid hA; clear hA
  have HB := Lib.hid hB; clear hB
  have HT := Lib.hid (And.intro ta tb); clear ta tb
  have HN := Lib.hid (And.intro hna hnb); clear hna hnb
  go_enter Tryz.func52, Tryz.ntmps52
  go_wp2_with (first
    | (at_make; refine wpList_make_own _ rfl _ _ 24 rfl w.heap.size 69 i0 z0 2 Tryz.underlying24 hi hz0 hz1 .i64 .i64 _ (na + nb) rfl rfl (by omega) (by rw [hz2]; omega) (by unfold maxLen; omega) (Nat.le_refl _) ?_)
    | (fail))
  intro w1 hown1 hg1
  have hb1 := (Below.refl w.heap.size w).grown hg1 (Nat.le_refl _) (fun j hj => by cases hj)
  have HO : Hid (Own 69 2 w1 w.heap.size (some ⟨w.heap.size, 0, none⟩) 0 (na + nb) (cntCs [])) := Lib.hid hown1
  clear hown1 hg1 hi hz0 hz1 hz2
  go_wp2_with fail
  go_loopw [0, 1, 9] (fun a b l wr => ∃ (xs' ys' ds : List (Int × Int)) (A' B' L : Option Addr) (na' ca' nb' cb' nl cl : Nat), a = .slice A' na' ca' ∧ b = .slice B' nb' cb' ∧ l = .slice L nl cl ∧ na' ≤ ca' ∧ nb' ≤ cb' ∧ nl + na' + nb' ≤ 2000 ∧
    Hid (na' = xs'.length ∧ nb' = ys'.length ∧ nl = ds.length ∧ CellsS w A' (cntCs xs') ∧ CellsS w B' (cntCs ys') ∧ Times xs' ∧ Times ys' ∧ Own 69 2 wr w.heap.size L nl cl (cntCs ds) ∧ ds ++ mrg xs' ys' = mrg xs ys) ∧ Below w.heap.size w wr) (fun a b _ _ => slLen a + slLen b)
  case atStart => exact ⟨xs, ys, [], A, B, _, na, ca, nb, cb, 0, _, rfl, rfl, rfl, hca, hcb, by omega, Lib.hid ⟨HN.out.1, HN.out.2, rfl, HA.out, HB.out, HT.out.1, HT.out.2, HO.out, rfl⟩, hb1⟩
  case round =>
    obtain ⟨xs', ys', ds, A', B', L, na', ca', nb', cb', nl, cl, rfl, rfl, rfl, hca', hcb', hlen, HR, hBl⟩ := hrel
    clear HO hb1
    by_cases h1 : 0 < na'
    · by_cases h2 : 0 < nb'
      · obtain ⟨n1, rfl⟩ : ∃ n1, na' = n1 + 1 := ⟨na' - 1, by omega⟩
        obtain ⟨m1, rfl⟩ : ∃ m1, nb' = m1 + 1 := ⟨nb' - 1, by omega⟩
        obtain ⟨p, x2, ex⟩ : ∃ p x2, xs' = p :: x2 := by
          cases xs' with
          | nil => have := HR.out.1; simp at this
          | cons p r => exact ⟨p, r, rfl⟩
        obtain ⟨q, y2, ey⟩ : ∃ q y2, ys' = q :: y2 := by
          cases ys' with
          | nil => have := HR.out.2.1; simp at this
          | cons p r => exact ⟨p, r, rfl⟩
        subst ex ey
        obtain ⟨a1, o1, rfl, l1⟩ := HR.out.2.2.2.1 (by simp [cntCs])
        obtain ⟨a2, o2, rfl, l2⟩ := HR.out.2.2.2.2.1 (by simp [cntCs])
        have c0 : wr.cell? ⟨a1, o1, none⟩ = some (.int .i64 p.1) := (l1.after hBl).2 0 _ rfl
        have c1 : wr.cell? ⟨a1, o1 + 1, none⟩ = some (.int .i64 p.2) := (l1.after hBl).2 1 _ rfl
        have d0 : wr.cell? ⟨a2, o2, none⟩ = some (.int .i64 q.1) := (l2.after hBl).2 0 _ rfl
        have d1 : wr.cell? ⟨a2, o2 + 1, none⟩ = some (.int .i64 q.2) := (l2.after hBl).2 1 _ rfl
        have c0 := cell_regrown c0
        have c1 := cell_regrown c1
        have d0 := cell_regrown d0
        have d1 := cell_regrown d1
        have L1 := Lib.hid (And.intro l1 l2)
        clear l1 l2
        have hn1 : (0 : Int) < ((n1 + 1 : Nat) : Int) := by omega
        have hm1 : (0 : Int) < ((m1 + 1 : Nat) : Int) := by omega
        by_cases hlt : p.1 < q.1
        · have HC := Lib.hid (fun W => order_any p.1 p.2 q.1 q.2 W)
          rw [show cmpI p.1 q.1 = -1 by simp [cmpI, hlt]] at HC
          have C1 := Lib.hid (fun d os => Calls.regrown_of (HC.out (grow (redrawn wr d) os)))
          have HL := Lib.hid hlt
          clear hlt HC
          go_wp2_with fail
          refine wp_region_quiet_below (by kernel_rfl) (by kernel_rfl) ?_
          repeat (first | go_big_quiet_step (with_reducible exact C1.out _ _) | quiet_step (with_reducible exact C1.out _ _))
          refine wpQuiet_nil ?_
          intro _ hw'
          obtain ⟨⟨dq, osq⟩, hw''⟩ := hw'
          subst hw''
          have hq := below_regrown wr dq osq
          have hO : Own 69 2 (grow (redrawn wr dq) osq) w.heap.size L nl cl (cntCs ds) := HR.out.2.2.2.2.2.2.2.1.after hq
          have hB1 := hBl.trans (hq.mono hBl.size)
          have c0 := c0 dq osq
          have c1 := c1 dq osq
          clear d0 d1 hq C1
          generalize grow (redrawn wr dq) osq = W1 at *
          go_wp2_with fail
          obtain ⟨A1, hA1, eA1⟩ := run_tail (some ⟨a1, o1, none⟩) n1 ca'
          have HA1 := Lib.hid eA1
          have HO := Lib.hid hO
          clear eA1 hO
          go_region_law (refine step_app rfl (.tmp 58) (.tmp 62) elemCnt rfl w.heap.size L nl cl (cntCs ds) (some ⟨W1.heap.size, 0, none⟩) 1 1 [.int .i64 p.1, .int .i64 p.2] rfl rfl (HO.out.drew.alloc _) (cells_row (Row.at rfl [.int .i64 p.1, .int .i64 p.2] _)) rfl (cntCs_one [p]) (by omega) (by have := hB1.size; simp; omega) ?_; intro A2 cap2 W2 hO2 hg2 hb2)
          have hB2 : Below w.heap.size w W2 := by
            refine Below.trans ?_ hb2
            exact (hB1.drew.alloc (by have := hB1.size; simp; omega) _)
          clear hg2 hb2 hB1 c0 c1
          have HR2 : Hid (n1 = x2.length ∧ m1 + 1 = (q :: y2).length ∧ nl + 1 = (ds ++ [p]).length ∧ CellsS w A1 (cntCs x2) ∧ CellsS w (some ⟨a2, o2, none⟩) (cntCs (q :: y2)) ∧ Times x2 ∧ Times (q :: y2) ∧ Own 69 2 W2 w.heap.size A2 (nl + 1) cap2 (cntCs (ds ++ [p])) ∧ (ds ++ [p]) ++ mrg x2 (q :: y2) = mrg xs ys) := by
            obtain ⟨r1, r2, r3, r4, r5, r6, r7, r8, r9⟩ := HR.out
            refine Lib.hid ⟨by simpa using r1, r2, by simp [r3], ?_, r5, fun z hz => r6 z (List.mem_cons_of_mem _ hz), r7, by rw [cntCs_append]; exact hO2, ?_⟩
            · rw [HA1.out]
              rw [cntCs_cons] at r4
              exact r4.tail rfl (fun h => by have : x2 = [] := List.eq_nil_of_length_eq_zero (by simp at r1; omega); rw [this]; rfl)
            · rw [← r9, mrg_lt HL.out]; simp
          clear hO2 HO HR hA1
          go_simp
          go_roundw
          case rel => first | exact ⟨x2, q :: y2, ds ++ [p], A1, some ⟨a2, o2, none⟩, A2, n1, ca' - 1, m1 + 1, cb', nl + 1, cap2, rfl, rfl, rfl, by omega, hcb', by omega, HR2, hB2⟩ | ((repeat apply Exists.intro); exact ⟨⟨x2, q :: y2, ds ++ [p], A1, some ⟨a2, o2, none⟩, A2, n1, ca' - 1, m1 + 1, cb', nl + 1, cap2, rfl, rfl, rfl, by omega, hcb', by omega, HR2, hB2⟩, rfl⟩)
          case measure => simp [slLen]
        · by_cases hgt : q.1 < p.1
          · have HC := Lib.hid (fun W => order_any p.1 p.2 q.1 q.2 W)
            rw [show cmpI p.1 q.1 = 1 by simp [cmpI, hlt, hgt]] at HC
            have C1 := Lib.hid (fun d os => Calls.regrown_of (HC.out (grow (redrawn wr d) os)))
            have HL := Lib.hid hgt
            clear hlt hgt HC
            go_wp2_with fail
            refine wp_region_quiet_below (by kernel_rfl) (by kernel_rfl) ?_
            repeat (first | go_big_quiet_step (with_reducible exact C1.out _ _) | quiet_step (with_reducible exact C1.out _ _))
            refine wpQuiet_nil ?_
            intro _ hw'
            obtain ⟨⟨dq, osq⟩, hw''⟩ := hw'
            subst hw''
            have hq := below_regrown wr dq osq
            have hO : Own 69 2 (grow (redrawn wr dq) osq) w.heap.size L nl cl (cntCs ds) := HR.out.2.2.2.2.2.2.2.1.after hq
            have hB1 := hBl.trans (hq.mono hBl.size)
            have d0 := d0 dq osq
            have d1 := d1 dq osq
            clear c0 c1 hq C1
            generalize grow (redrawn wr dq) osq = W1 at *
            go_wp2_with fail
            obtain ⟨A1, hA1, eA1⟩ := run_tail (some ⟨a2, o2, none⟩) m1 cb'
            have HA1 := Lib.hid eA1
            have HO := Lib.hid hO
            clear eA1 hO
            go_region_law (refine step_app rfl (.tmp 69) (.tmp 73) elemCnt rfl w.heap.size L nl cl (cntCs ds) (some ⟨W1.heap.size, 0, none⟩) 1 1 [.int .i64 q.1, .int .i64 q.2] rfl rfl (HO.out.drew.alloc _) (cells_row (Row.at rfl [.int .i64 q.1, .int .i64 q.2] _)) rfl (cntCs_one [q]) (by omega) (by have := hB1.size; simp; omega) ?_; intro A2 cap2 W2 hO2 hg2 hb2)
            have hB2 : Below w.heap.size w W2 := by
              refine Below.trans ?_ hb2
              exact (hB1.drew.alloc (by have := hB1.size; simp; omega) _)
            clear hg2 hb2 hB1 d0 d1
            have HR2 : Hid (n1 + 1 = (p :: x2).length ∧ m1 = y2.length ∧ nl + 1 = (ds ++ [q]).length ∧ CellsS w (some ⟨a1, o1, none⟩) (cntCs (p :: x2)) ∧ CellsS w A1 (cntCs y2) ∧ Times (p :: x2) ∧ Times y2 ∧ Own 69 2 W2 w.heap.size A2 (nl + 1) cap2 (cntCs (ds ++ [q])) ∧ (ds ++ [q]) ++ mrg (p :: x2) y2 = mrg xs ys) := by
              obtain ⟨r1, r2, r3, r4, r5, r6, r7, r8, r9⟩ := HR.out
              refine Lib.hid ⟨r1, by simpa using r2, by simp [r3], r4, ?_, r6, fun z hz => r7 z (List.mem_cons_of_mem _ hz), by rw [cntCs_append]; exact hO2, ?_⟩
              · rw [HA1.out]
                rw [cntCs_cons] at r5
                exact r5.tail rfl (fun h => by have : y2 = [] := List.eq_nil_of_length_eq_zero (by simp at r2; omega); rw [this]; rfl)
              · rw [← r9, mrg_gt HL.out]; simp
            clear hO2 HO HR hA1
            go_simp
            go_roundw
            case rel => first | exact ⟨p :: x2, y2, ds ++ [q], some ⟨a1, o1, none⟩, A1, A2, n1 + 1, ca', m1, cb' - 1, nl + 1, cap2, rfl, rfl, rfl, hca', by omega, by omega, HR2, hB2⟩ | ((repeat apply Exists.intro); exact ⟨⟨p :: x2, y2, ds ++ [q], some ⟨a1, o1, none⟩, A1, A2, n1 + 1, ca', m1, cb' - 1, nl + 1, cap2, rfl, rfl, rfl, hca', by omega, by omega, HR2, hB2⟩, rfl⟩)
            case measure => simp [slLen]
          · have HC := Lib.hid (fun W => order_any p.1 p.2 q.1 q.2 W)
            rw [show cmpI p.1 q.1 = 0 by simp [cmpI, hlt, hgt]] at HC
            have C1 := Lib.hid (fun d os => Calls.regrown_of (HC.out (grow (redrawn wr d) os)))
            have HL : Hid (p.1 = q.1) := Lib.hid (by omega)
            have htp := HR.out.2.2.2.2.2.1 p (by simp)
            have htq := HR.out.2.2.2.2.2.2.1 q (by simp)
            have HBo := Lib.hid (fun W => both_any p.1 p.2 q.1 q.2 W htp.1 htp.2 htq.1 htq.2)
            clear hlt hgt HC htp htq
            go_wp2_with fail
            refine wp_region_quiet_below (by kernel_rfl) (by kernel_rfl) ?_
            repeat (first | go_big_quiet_step (with_reducible exact C1.out _ _) | quiet_step (with_reducible exact C1.out _ _))
            refine wpQuiet_nil ?_
            intro _ hw'
            obtain ⟨⟨dq, osq⟩, hw''⟩ := hw'
            subst hw''
            have hq := below_regrown wr dq osq
            have hO : Own 69 2 (grow (redrawn wr dq) osq) w.heap.size L nl cl (cntCs ds) := HR.out.2.2.2.2.2.2.2.1.after hq
            have hB1 := hBl.trans (hq.mono hBl.size)
            have hw1 : a1 < w.heap.size ∧ a2 < w.heap.size := ⟨L1.out.1.1, L1.out.2.1⟩
            clear c0 c1 d0 d1 hq C1
            generalize grow (redrawn wr dq) osq = W1 at *
            have c0 : W1.cell? ⟨a1, o1, none⟩ = some (.int .i64 p.1) := (L1.out.1.after hB1).2 0 _ rfl
            have c1 : W1.cell? ⟨a1, o1 + 1, none⟩ = some (.int .i64 p.2) := (L1.out.1.after hB1).2 1 _ rfl
            have d0 : W1.cell? ⟨a2, o2, none⟩ = some (.int .i64 q.1) := (L1.out.2.after hB1).2 0 _ rfl
            have d1 : W1.cell? ⟨a2, o2 + 1, none⟩ = some (.int .i64 q.2) := (L1.out.2.after hB1).2 1 _ rfl
            have HO := Lib.hid hO
            clear hO
            go_wp2_with fail
            have la1 : a1 < W1.heap.size := Nat.lt_of_lt_of_le hw1.1 hB1.size
            have la2 : a2 < W1.heap.size := Nat.lt_of_lt_of_le hw1.2 hB1.size
            have HB1 := Lib.hid hB1
            clear hB1
            go_cut [11, 12] from 19 to 76 (fun b i wx => ∃ Bx, b = .pointer (some ⟨Bx, 0, none⟩) ∧ i = .bool (posB (p.2 + q.2)) ∧ Hid (Row wx Bx [.int .i64 p.1, .int .i64 (p.2 + q.2)] ∧ Below W1.heap.size W1 wx))
            case first =>
              go_region_with (first
                | (go_at_call 54; (with_reducible refine (HBo.out _).mono ?_); rintro e w2 ⟨rfl, hb⟩; have hbc := (bcell hb).1; have hbf := (bcell hb).2; have hbs := hb.size))
              all_goals
                go_wp2_with fail
                go_meet
                first
                  | (with_reducible exact ⟨_, rfl, rfl, mg_made (w1 := W1) hb _ _ _⟩)
                  | (with_reducible exact ⟨_, rfl, rfl, mg_put (w1 := W1) hb _ _⟩)
            case rest =>
              obtain ⟨Bx, rfl, rfl, HX⟩ := hcut
              have hB3 := HB1.out.trans (HX.out.2.mono HB1.out.size)
              have HO3 := Lib.hid (HO.out.after HX.out.2)
              have x0 := HX.out.1.c 0 rfl
              have x1 := HX.out.1.c 1 rfl
              obtain ⟨A1, hA1, eA1⟩ := run_tail (some ⟨a1, o1, none⟩) n1 ca'
              have HA1 := Lib.hid eA1
              obtain ⟨A2, hA2, eA2⟩ := run_tail (some ⟨a2, o2, none⟩) m1 cb'
              have HA2 := Lib.hid eA2
              clear eA1 eA2 la1 la2 c0 c1 d0 d1
              cases hz : posB (p.2 + q.2) with
              | true =>
                have H0 : Hid (0 < p.2 + q.2) := Lib.hid (of_decide_eq_true hz)
                clear hz
                go_wp2_with (at_builtin; refine wpList_app rfl (.tmp 47) (.tmp 49) elemCnt rfl w.heap.size L nl cl (cntCs ds) (some ⟨_, 0, none⟩) 1 1 [.int .i64 p.1, .int .i64 (p.2 + q.2)] rfl rfl (HO3.out.alloc _) (cells_row (Row.at rfl [.int .i64 p.1, .int .i64 (p.2 + q.2)] _)) rfl (cntCs_one [(p.1, p.2 + q.2)]) (by omega) (by have := hB3.size; simp; omega) ?_)
                intro A3 cap2 W2 hO2 hg2 hb2
                have hB2 : Below w.heap.size w W2 := (hB3.alloc (by have := hB3.size; omega) _).trans hb2
                clear hg2 hb2 hB3 x0 x1
                go_wp2_with fail
                go_region
                have HR2 : Hid (n1 = x2.length ∧ m1 = y2.length ∧ nl + 1 = (ds ++ [(p.1, p.2 + q.2)]).length ∧ CellsS w A1 (cntCs x2) ∧ CellsS w A2 (cntCs y2) ∧ Times x2 ∧ Times y2 ∧ Own 69 2 W2.drew w.heap.size A3 (nl + 1) cap2 (cntCs (ds ++ [(p.1, p.2 + q.2)])) ∧ (ds ++ [(p.1, p.2 + q.2)]) ++ mrg x2 y2 = mrg xs ys) := by
                  obtain ⟨r1, r2, r3, r4, r5, r6, r7, r8, r9⟩ := HR.out
                  refine Lib.hid ⟨by simpa using r1, by simpa using r2, by simp [r3], ?_, ?_, fun z hz => r6 z (List.mem_cons_of_mem _ hz), fun z hz => r7 z (List.mem_cons_of_mem _ hz), by rw [cntCs_append]; exact hO2.drew, ?_⟩
                  · rw [HA1.out]
                    rw [cntCs_cons] at r4
                    exact r4.tail rfl (fun h => by have : x2 = [] := List.eq_nil_of_length_eq_zero (by simp at r1; omega); rw [this]; rfl)
                  · rw [HA2.out]
                    rw [cntCs_cons] at r5
                    exact r5.tail rfl (fun h => by have : y2 = [] := List.eq_nil_of_length_eq_zero (by simp at r2; omega); rw [this]; rfl)
                  · rw [← r9, mrg_put HL.out H0.out]; simp
                have hB4 := hB2.drew
                clear hO2 HO HR hA1 hA2 hB2
                go_wp2_with fail
                go_roundw
                case rel => first | exact ⟨x2, y2, ds ++ [(p.1, p.2 + q.2)], A1, A2, A3, n1, ca' - 1, m1, cb' - 1, nl + 1, cap2, rfl, rfl, rfl, by omega, by omega, by omega, HR2, hB4⟩ | ((repeat apply Exists.intro); exact ⟨⟨x2, y2, ds ++ [(p.1, p.2 + q.2)], A1, A2, A3, n1, ca' - 1, m1, cb' - 1, nl + 1, cap2, rfl, rfl, rfl, by omega, by omega, by omega, HR2, hB4⟩, rfl⟩)
                case measure => simp [slLen]; omega
              | false =>
                have H0 : Hid (¬ 0 < p.2 + q.2) := Lib.hid (of_decide_eq_false hz)
                clear hz
                go_wp2_with fail
                go_region
                have HR2 : Hid (n1 = x2.length ∧ m1 = y2.length ∧ nl = ds.length ∧ CellsS w A1 (cntCs x2) ∧ CellsS w A2 (cntCs y2) ∧ Times x2 ∧ Times y2 ∧ Own 69 2 wc.drew w.heap.size L nl cl (cntCs ds) ∧ ds ++ mrg x2 y2 = mrg xs ys) := by
                  obtain ⟨r1, r2, r3, r4, r5, r6, r7, r8, r9⟩ := HR.out
                  refine Lib.hid ⟨by simpa using r1, by simpa using r2, r3, ?_, ?_, fun z hz => r6 z (List.mem_cons_of_mem _ hz), fun z hz => r7 z (List.mem_cons_of_mem _ hz), HO3.out.drew, ?_⟩
                  · rw [HA1.out]
                    rw [cntCs_cons] at r4
                    exact r4.tail rfl (fun h => by have : x2 = [] := List.eq_nil_of_length_eq_zero (by simp at r1; omega); rw [this]; rfl)
                  · rw [HA2.out]
                    rw [cntCs_cons] at r5
                    exact r5.tail rfl (fun h => by have : y2 = [] := List.eq_nil_of_length_eq_zero (by simp at r2; omega); rw [this]; rfl)
                  · rw [← r9, mrg_drop HL.out (by have := H0.out; omega)]
                have hB4 := hB3.drew
                clear HO HO3 HR hA1 hA2 hB3 x0 x1
                go_wp2_with fail
                go_roundw
                case rel => first | exact ⟨x2, y2, ds, A1, A2, L, n1, ca' - 1, m1, cb' - 1, nl, cl, rfl, rfl, rfl, by omega, by omega, by omega, HR2, hB4⟩ | ((repeat apply Exists.intro); exact ⟨⟨x2, y2, ds, A1, A2, L, n1, ca' - 1, m1, cb' - 1, nl, cl, rfl, rfl, rfl, by omega, by omega, by omega, HR2, hB4⟩, rfl⟩)
                case measure => simp [slLen]; omega
      · have e : ys' = [] := List.eq_nil_of_length_eq_zero (by have := HR.out.2.1; omega)
        have HE : Hid (mrg xs ys = ds ++ xs' ++ ys') := Lib.hid (by rw [← HR.out.2.2.2.2.2.2.2.2, mrg_end (.inr e), List.append_assoc])
        obtain rfl : nb' = 0 := by omega
        have HO := Lib.hid (HR.out.2.2.2.2.2.2.2.1)
        have h1' : (0 : Int) < (na' : Int) := by omega
        clear e
        go_wp2_with (at_builtin; refine wpList_app rfl (.tmp 77) (.tmp 78) elemCnt rfl w.heap.size L nl cl (cntCs ds) A' na' ca' (cntCs xs') rfl rfl HO.out (fun h => (HR.out.2.2.2.1.after hBl) h) (by rw [cntCs_len, ← HR.out.1]) (cntCs_one _) (by omega) hBl.size ?_)
        intro A1 cap1 W1 hO1 hg1 hb1
        have hB1 := hBl.trans hb1
        have HO1 := Lib.hid hO1
        clear hg1 hb1 hO1 HO
        go_wp2_with (at_builtin; refine wpList_app rfl (.tmp 79) (.tmp 80) elemCnt rfl w.heap.size A1 (nl + na') cap1 (cntCs ds ++ cntCs xs') B' 0 cb' (cntCs ys') rfl rfl HO1.out (fun h => (HR.out.2.2.2.2.1.after hB1) h) (by rw [cntCs_len, ← HR.out.2.1]) (cntCs_one _) (by omega) hB1.size ?_)
        intro A2 cap2 W2 hO2 hg2 hb2
        have hB2 := hB1.trans hb2
        have HP : Hid (CntPost w (mrg xs ys) (.returned (.slice A2 (nl + na' + 0) cap2)) W2) := by
          refine Lib.hid ⟨A2, _, cap2, rfl, ?_, ?_, hO2.le_cap, hO2.fresh, hB2⟩
          · rw [HE.out, List.length_append, List.length_append, ← HR.out.1, ← HR.out.2.1, ← HR.out.2.2.1]
          · rw [HE.out, cntCs_append, cntCs_append, List.append_assoc]; exact hO2.cells
        clear hO2 hg2 hb2 hB2 hB1 HO1
        go_wp2_with fail
        go_ret
        exact HP.out
    · have e : xs' = [] := List.eq_nil_of_length_eq_zero (by have := HR.out.1; omega)
      have HE : Hid (mrg xs ys = ds ++ xs' ++ ys') := Lib.hid (by rw [← HR.out.2.2.2.2.2.2.2.2, mrg_end (.inl e), List.append_assoc])
      obtain rfl : na' = 0 := by omega
      have HO := Lib.hid (HR.out.2.2.2.2.2.2.2.1)
      clear e
      go_wp2_with (at_builtin; refine wpList_app rfl (.tmp 77) (.tmp 78) elemCnt rfl w.heap.size L nl cl (cntCs ds) A' 0 ca' (cntCs xs') rfl rfl HO.out (fun h => (HR.out.2.2.2.1.after hBl) h) (by rw [cntCs_len, ← HR.out.1]) (cntCs_one _) (by omega) hBl.size ?_)
      intro A1 cap1 W1 hO1 hg1 hb1
      have hB1 := hBl.trans hb1
      have HO1 := Lib.hid hO1
      clear hg1 hb1 hO1 HO
      go_wp2_with (at_builtin; refine wpList_app rfl (.tmp 79) (.tmp 80) elemCnt rfl w.heap.size A1 (nl + 0) cap1 (cntCs ds ++ cntCs xs') B' nb' cb' (cntCs ys') rfl rfl HO1.out (fun h => (HR.out.2.2.2.2.1.after hB1) h) (by rw [cntCs_len, ← HR.out.2.1]) (cntCs_one _) (by omega) hB1.size ?_)
      intro A2 cap2 W2 hO2 hg2 hb2
      have hB2 := hB1.trans hb2
      have HP : Hid (CntPost w (mrg xs ys) (.returned (.slice A2 (nl + 0 + nb') cap2)) W2) := by
        refine Lib.hid ⟨A2, _, cap2, rfl, ?_, ?_, hO2.le_cap, hO2.fresh, hB2⟩
        · rw [HE.out, List.length_append, List.length_append, ← HR.out.1, ← HR.out.2.1, ← HR.out.2.2.1]
        · rw [HE.out, cntCs_append, cntCs_append, List.append_assoc]; exact hO2.cells
      clear hO2 hg2 hb2 hB2 hB1 HO1
      go_wp2_with fail
      go_ret
      exact HP.out
end Go.Proofs.YtjhcddlhhfjnaaaGreatDoor
