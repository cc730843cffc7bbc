/- The law's own comparison. -/
import Derived.Test.YtjhcddlhhfjnaaaGreatDoorVM
import Derived.Test.YtjhcddlhhfjnaaaGreatDoorRI
namespace Go.Proofs.YtjhcddlhhfjnaaaGreatDoor
open Go.RowKit Go.Sort Go.Shelf
attribute [local go_sem] Oper.semAt_some

theorem many_mem : ∀ {cs : List (Int × Int)}, Rise cs → ∀ p ∈ cs, manyI cs p.1 = p.2
  | [], _, p, h => (List.not_mem_nil h).elim
  | q :: r, hr, p, h => by
    obtain ⟨h1, h2⟩ := rise_tail hr
    rcases List.mem_cons.1 h with rfl | h
    · exact many_at rfl
    · rw [many_lt (h1 p h)]; exact many_mem h2 p h
theorem CellsS.below {w w1 : World} {A : Option Addr} {xs : List Value} {B : Nat} (h : CellsS w A xs) (hb : Below B w w1) (hB : 0 < xs.length → ∀ a, A = some a → a.block < B) : CellsS w1 A xs := fun h0 => by
  obtain ⟨b, o, e, hl⟩ := h h0
  exact ⟨b, o, e, hl.below hb (hB h0 _ e)⟩
theorem CellsS.lt {w : World} {A : Option Addr} {xs : List Value} (h : CellsS w A xs) : 0 < xs.length → ∀ a, A = some a → a.block < w.heap.size := fun h0 a ha => by
  obtain ⟨b, o, e, hl⟩ := h h0
  rw [ha] at e; cases e
  exact hl.1
theorem new_same (l : List Int) : rnew l = ((newA l).1, expand (newA l).2) := by
  have h : l.any badN = anyOff l := by
    unfold anyOff
    congr 1
    funext n
    exact bad_may n
  unfold rnew newA
  rw [h]
  cases anyOff l with
  | true => rfl
  | false =>
    show raddAll [] l = ((addAll [] l).1, expand (addAll [] l).2)
    exact add_all (cs := []) Good.nil
theorem wr_next (k : Nat) (h : k < 1000000) : IntKind.i64.wrap ((k : Int) + 1) = ((k + 1 : Nat) : Int) := by
  simp [IntKind.wrap, IntKind.signed, IntKind.bits]
  omega
/-- The numbers of counts. -/
def keysL (cs : List (Int × Int)) : List Int := cs.map (·.1)
/-- What stands while the law compares. -/
structure IsS (w : World) (m : Nat) (ks : List Int) (A : Option Addr) (N c : Nat) (A' : Option Addr) (N' c' : Nat) (b : Nat) (Ak : Option Addr) (ck k : Nat) (W : World) : Prop where
  t : Row W w.heap.size [.slice A N c]
  u : Row W (w.heap.size + 1) [.slice A' N' c']
  r : Row W (w.heap.size + 1 + 1) [.bool false]
  kk : Row W b [.slice Ak m ck]
  n : Row W (b + 1) [.int .i64 k]
  nk : m = ks.length
  ck : CellsS W Ak (intCs ks)
  far : 0 < m → ∀ a, Ak = some a → a.block < b
  lo : w.heap.size + 3 ≤ b
  bel : Below w.heap.size w W
section
variable {w : World} {m : Nat} {ks : List Int} {A : Option Addr} {N c : Nat} {A' : Option Addr} {N' c' : Nat} {b : Nat} {Ak : Option Addr} {ck k : Nat} {W W1 : World}
theorem IsS.under {B : Nat} (h : IsS w m ks A N c A' N' c' b Ak ck k W) (hb : Below B W W1) (hB : b + 2 ≤ B) : IsS w m ks A N c A' N' c' b Ak ck k W1 := by
  have h1 := h.lo
  exact ⟨h.t.below hb (by omega), h.u.below hb (by omega), h.r.below hb (by omega), h.kk.below hb (by omega), h.n.below hb (by omega), h.nk,
    h.ck.below hb (fun h0 a ha => by have := h.far (by rw [intCs_len, ← h.nk] at h0; omega) a ha; omega), h.far, h.lo, h.bel.trans (hb.mono (by omega))⟩
theorem IsS.after (h : IsS w m ks A N c A' N' c' b Ak ck k W) (hb : Below W.heap.size W W1) : IsS w m ks A N c A' N' c' b Ak ck k W1 := h.under hb h.n.1
theorem IsS.step (h : IsS w m ks A N c A' N' c' b Ak ck k W) : IsS w m ks A N c A' N' c' b Ak ck (k + 1) (W.setCell ⟨b + 1, 0, none⟩ (.int .i64 ((k + 1 : Nat) : Int))) := by
  have h1 := h.lo
  exact ⟨h.t.other (by simp; omega) _, h.u.other (by simp; omega) _, h.r.other (by simp; omega) _, h.kk.other (by simp) _, h.n.set 0 (by simp) _, h.nk,
    h.ck.put (fun h0 a ha => by have := h.far (by rw [intCs_len, ← h.nk] at h0; omega) a ha; show a.block ≠ b + 1; omega), h.far, h.lo, below_put1 h.bel (by omega) 0 _⟩
end
/-- A slot that holds a list of numbers. -/
def intFct (idx slot : Nat) (ys : List Int) : Fct := ⟨idx, slot, fun v W => ∃ R m c, v = .slice R m c ∧ m = ys.length ∧ CellsS W R (intCs ys), fun v X Y h hb => by
  obtain ⟨R, m, c, h1, h2, h3⟩ := h
  exact ⟨R, m, c, h1, h2, h3.after hb⟩⟩
set_option maxRecDepth 100000 in
set_option maxHeartbeats 6400000 in
theorem is_any (cs : List (Int × Int)) (A : Option Addr) (N c : Nat) (A' : Option Addr) (N' c' : Nat) (w : World) (hN : N = cs.length) (hA : CellsS w A (cntCs cs)) (hN' : N' = (expand cs).length) (hA' : CellsS w A' (intCs (expand cs))) (hg : Good cs) (hv : VarS w) :
    Calls Tryz.prog 11 #[.agg #[.slice A N c], .agg #[.slice A' N' c']] w fun e w' => e = .returned (.bool true) ∧ Below w.heap.size w w' := by
  have hen := expand_bound hg
  have hlen := hg.len
  have HKi : Hid (∀ W, Below w.heap.size w W → Calls Tryz.prog 30 #[.agg #[.slice A' N' c']] W (IntPost W (cs.map (·.1)))) := Lib.hid (fun W hW => by
    rw [← kinds_expand hg.rise hg.pos]
    exact rkinds_any (expand cs) A' N' c' W hN' (by omega) (hA'.after hW))
  have HMa : Hid (∀ W x, x ∈ cs → Below w.heap.size w W → Calls Tryz.prog 24 #[.agg #[.slice A N c], .int .i64 x.1] W fun e w' => e = .returned (.int .i64 x.2) ∧ Below W.heap.size W w') := Lib.hid (fun W x hx hW => by
    rw [← many_mem hg.rise x hx]
    exact many_any cs A N c x.1 W hN (by omega) (hA.after hW))
  have HRm : Hid (∀ W x, x ∈ cs → Below w.heap.size w W → Calls Tryz.prog 32 #[.agg #[.slice A' N' c'], .int .i64 x.1] W fun e w' => e = .returned (.int .i64 x.2) ∧ Below W.heap.size W w') := Lib.hid (fun W x hx hW => by
    have h := rmany_any (expand cs) x.1 A' N' c' W hN' (by omega) (hA'.after hW)
    rw [count_expand hg.rise hg.pos, many_mem hg.rise x hx] at h
    exact h)
  have HTx0 := fun W (hW : Below w.heap.size w W) => text_any cs A N c W hN (hA.after hW) hg (hv.after hW)
  have HRt0 := fun W (hW : Below w.heap.size w W) => rtext_any (expand cs) A' N' c' W hN' (by omega) (hA'.after hW) hen.2 (hv.after hW)
  have HOd := Lib.hid (fun W (hW : Below w.heap.size w W) => odd_any cs A N c W hN (by omega) (hA.after hW) (fun p hp => by have := hg.times p hp; omega))
  have HRo : Hid (∀ W, Below w.heap.size w W → Calls Tryz.prog 34 #[.agg #[.slice A' N' c']] W (IntPost W (oddL cs))) := Lib.hid (fun W hW => by
    rw [← odd_same hg]
    exact rodd_any (expand cs) A' N' c' W hN' (by omega) (hA'.after hW))
  have HM0 : Hid (∀ W k, k < 1 → Below w.heap.size w W → Calls Tryz.prog 24 #[.agg #[.slice A N c], .int .i64 k] W fun e w' => e = .returned (.int .i64 0) ∧ Below W.heap.size W w') := Lib.hid (fun W k hk hW => by
    have h := many_any cs A N c k W hN (by omega) (hA.after hW)
    rw [many_lo (fun p hp => by have := hg.num p hp; omega)] at h
    exact h)
  have HOl : Hid ((oddL cs).length ≤ 64) := Lib.hid (by
    unfold oddL
    rw [List.length_map]
    exact Nat.le_trans (List.length_filter_le _ _) hlen)
  have HTx := Lib.hid HTx0
  have HRt := Lib.hid HRt0
  clear HTx0 HRt0
  generalize textB (expand cs) = tx at HTx HRt
  have HU := Lib.hid (fun E W (hE : Row W E [.slice A N c]) (hA : CellsS W A (cntCs cs)) => all1_u 7 E cs A N c W hN (by omega) hE hA)
  have HA := Lib.hid hA
  have HN := Lib.hid hN
  clear hA hN hen hA' hN'
  refine (callsIn_wide (n := 9)).1 ?_
  refine callsIn_of_wp_marks Tryz.func11 rfl trivial ?_ rfl
  simp only [Tryz.ntmps11, List.size_toArray, List.length_cons, List.length_nil, Nat.reduceAdd, Nat.reduceSub, Array.replicate_succ, Array.replicate_zero, List.push_toArray, List.append_toArray, List.nil_append, List.cons_append]
  refine wpIn_wide.2 ?_
  go_wp2_with fail
  generalize hW : World.alloc _ _ = W0
  have hR1 : Row W0 w.heap.size [.slice A N c] := by rw [← hW]; exact ((Row.at rfl [_] _).alloc _).alloc _
  have hR2 : Row W0 (w.heap.size + 1) [.slice A' N' c'] := by rw [← hW]; exact (Row.at (by simp) [_] _).alloc _
  have hR3 : Row W0 (w.heap.size + 1 + 1) [.bool false] := by rw [← hW]; exact Row.at (by simp) _ _
  have hB : Below w.heap.size w W0 := by rw [← hW]; exact (((Below.refl _ _).alloc (Nat.le_refl _) _).alloc (by simp) _).alloc (by simp; omega) _
  clear hW
  have x1 := hR2.c 0 rfl
  go_wp2_with fail
  refine (HKi.out _ hB).mono ?_
  rintro e W1 ⟨Ak, Nk, ck, rfl, hNk, hCk, hck, hfk, hb⟩
  replace hR1 := hR1.after hb
  replace hR2 := hR2.after hb
  replace hR3 := hR3.after hb
  replace hB := hB.trans (hb.mono hB.size)
  rw [List.length_map] at hNk
  obtain rfl : N = Nk := by rw [HN.out, hNk]
  have hlt := CellsS.lt hCk
  have h3 := hR3.1
  have hIS : ∀ o1 o2, o1 = Obj.cells #[.slice Ak N ck] 22 → o2 = Obj.cells #[.int .i64 0] 3 → IsS w N (keysL cs) A N c A' N' c' W1.heap.size Ak ck 0 ((W1.alloc o1).alloc o2) := fun o1 o2 e1 e2 => by
    subst e1 e2
    exact ⟨(hR1.alloc _).alloc _, (hR2.alloc _).alloc _, (hR3.alloc _).alloc _, (Row.at rfl [_] _).alloc _, Row.at (by simp) [_] _, by rw [keysL, List.length_map]; exact HN.out, (hCk.after ((Below.refl _ _).alloc (Nat.le_refl _) _)).after ((Below.refl _ _).alloc (Nat.le_refl _) _),
      fun h0 a ha => hlt (by rw [intCs_len, List.length_map, ← HN.out]; omega) a ha, by omega, (hB.alloc (by omega) _).alloc (by simp; omega) _⟩
  have HIS := Lib.hid hIS
  clear hb x1 hfk hNk hR1 hR2 hR3 hB hCk hlt hck hIS
  go_upto_region 3 with fail
  generalize hW : World.alloc _ _ = W2
  have HI : Hid (IsS w N (keysL cs) A N c A' N' c' W1.heap.size Ak ck 0 W2) := Lib.hid (by rw [← hW]; exact HIS.out _ _ rfl rfl)
  clear hW HIS
  generalize W1.heap.size = b at *
  have x0 := HI.out.t.c 0 rfl
  go_wp2_with fail
  refine (all_any A N c _).mono ?_
  rintro e W3 ⟨E0, rfl, hE0, hRE0, hb⟩
  replace HI := Lib.hid (HI.out.after hb)
  clear hb x0 hRE0 hE0
  have x0 := HI.out.t.c 0 rfl
  have hnil : ∀ W : World, (binOp .eql 59 (.func (.func 49) #[] #[.pointer (some ⟨E0, 0, none⟩)]) .nilFunc).run Tryz.prog W = .ok (.bool false) W := fun W => by kernel_rfl
  go_wp2_with fail
  clear hnil
  refine (all_any A N c _).mono ?_
  rintro e W4 ⟨E, rfl, hE4, hRE, hb⟩
  replace HI := Lib.hid (HI.out.after hb)
  clear hb x0
  go_wp2_with fail
  refine (wpIn_wide (n := 9)).1 ?_
  refine wpIn_range_u (α := Int × Int) rfl (by omega) (gf := 49) (lb := #[.pointer (some ⟨E, 0, none⟩)]) rfl trivial (enters_of Tryz.func49 (by kernel_rfl) rfl)
    (HU.out E W4 hRE (HA.out.after HI.out.bel)) KeepsO.trans (fun _ l W _ o' h _ _ _ => KeepsO.turn W o' (fun h0 a ha => CellsS.far (HA.out.after HI.out.bel) h (by rw [cntCs_len, ← HN.out]; omega) a ha)) (fun _ _ _ h => KeepsO.below h) (Below.refl _ _) (fun _ => rfl)
    (fun pre W => Hid (IsS w N (keysL cs) A N c A' N' c' b Ak ck pre.length W)) (fun _ _ _ => False)
    (fun _ X Y h hb => Lib.hid (h.out.under hb (by have := HI.out.n.1; omega))) (fun _ _ X Y h _ => h.elim) HI
    (fun x a' _ => a' = { tmps := #[.agg #[.slice A N c], .agg #[.slice A' N' c'], .pointer (some ⟨w.heap.size, 0, none⟩), .pointer (some ⟨w.heap.size + 1, 0, none⟩), .pointer (some ⟨w.heap.size + 1 + 1, 0, none⟩), .pointer (some ⟨b, 0, none⟩), .pointer (some ⟨b + 1, 0, none⟩), .int .i64 x.1, .int .i64 x.2, .agg #[.slice A' N' c'], .slice Ak N ck, .agg #[.slice A N c], .func (.func 49) #[] #[.pointer (some ⟨E0, 0, none⟩)], .bool false, .agg #[.slice A N c], .func (.func 49) #[] #[.pointer (some ⟨E, 0, none⟩)], .int .i64 x.1, .int .i64 x.2, undef, undef, undef, undef, undef, undef, undef, undef, undef, undef, undef, undef, undef, undef, undef, undef, undef, undef, undef, undef, undef, undef, undef, undef, undef, undef, undef, undef, undef, undef, undef, undef, undef, undef, undef, undef, undef, undef, undef, undef, undef, undef, undef, undef, undef, undef, undef, undef, undef, undef, undef, undef, undef, undef, undef, undef, undef, undef, undef, undef, undef, undef], defers := [] })
    (fun x a' W lo o h1 h2 e => e) ?assign ?body ?done ?stop
  case stop => exact fun _ _ _ _ _ _ h => h.elim
  case assign =>
    intro l' pre x W K hI hW hK
    clear hI
    unfold encC
    gi_wp2
    exact hK _ _ (Below.refl _ _) rfl
  case body =>
    rintro l' pre x a' W HI2 hW hp rfl
    have hx : x ∈ cs := hp.subset (by simp)
    have hk : pre.length < N := by have h1 := hp.length_le; have h2 := HN.out; simp at h1; omega
    have hget : (keysL cs)[pre.length]? = some x.1 := by
      obtain ⟨t, rfl⟩ := hp
      simp [keysL]
    obtain ⟨bk, ok, rfl, hl⟩ := HI2.out.ck (by rw [intCs_len, keysL, List.length_map, ← HN.out]; omega)
    have c0 : W.cell? ⟨bk, ok + pre.length, none⟩ = some (.int .i64 x.1) := hl.2 _ _ (intCs_get hget)
    have x5 := HI2.out.kk.c 0 rfl
    have x6 := HI2.out.n.c 0 rfl
    have f6 := HI2.out.n.f 0 rfl
    have x3 := HI2.out.u.c 0 rfl
    have hk1 : (pre.length : Int) < N := by omega
    have HRx := Lib.hid (HRm.out W x hx HI2.out.bel)
    have HMx := Lib.hid (fun V hV => HMa.out V x hx hV)
    have HPx := Lib.hid (And.intro hp hget)
    clear hl hp hget hx
    generalize hkl : pre.length = k at *
    have HK := Lib.hid hkl
    clear hkl
    gi_wp2_with (fail)
    refine ⟨trivial, CallsIn.inRound _ (callsIn_wide.2 (HRx.out.mono ?_))⟩
    rintro e V ⟨rfl, hb⟩
    have HI3 := Lib.hid (HI2.out.after hb)
    have HB3 := Lib.hid hb
    clear hb x5 x6 f6 x3 c0
    have x2 := HI3.out.t.c 0 rfl
    gi_wp2_with (fail)
    refine ⟨trivial, CallsIn.inRound _ (callsIn_wide.2 ((HMx.out _ HI3.out.bel).mono ?_))⟩
    rintro e V2 ⟨rfl, hb⟩
    have HI4 := Lib.hid (HI3.out.after hb)
    have HB4 := Lib.hid (HB3.out.trans (hb.mono HB3.out.size))
    clear hb x2
    have x6 := HI4.out.n.c 0 rfl
    have f6 := HI4.out.n.f 0 rfl
    have hwr : IntKind.i64.wrap ((k : Int) + 1) = ((k + 1 : Nat) : Int) := wr_next k (by have := HN.out; omega)
    have hb1 := HI4.out.n.1
    have hb4 := HI.out.n.1
    have hlo := HI.out.lo
    have HR : Hid (KeepsFrom W4.heap.size W (V2.setCell ⟨b + 1, 0, none⟩ (.int .i64 ((k + 1 : Nat) : Int))) ∧ KeepsO N A W (V2.setCell ⟨b + 1, 0, none⟩ (.int .i64 ((k + 1 : Nat) : Int)))) := Lib.hid
      ⟨KeepsFrom.put ((keeps_below HB4.out).from _) hb4 _, (KeepsO.below HB4.out).put (fun h0 a ha => CellsS.far HA.out (by omega) (by rw [cntCs_len, ← HN.out]; omega) a ha) _ _⟩
    have HS := Lib.hid HI4.out.step
    have HL : Hid ((pre ++ [x]).length = k + 1) := Lib.hid (by rw [List.length_append, HK.out]; rfl)
    clear hb1 hb4 hlo HI4 HB4 HI3 HB3 HI2
    gi_wp2_with (fail)
    exact ⟨HR.out.1, HR.out.2, Lib.hid (by rw [HL.out]; exact HS.out)⟩
  case done =>
    rintro D V hD HI2 hK
    have HM := Lib.hid hK
    rw [← HN.out] at HI2
    clear hK hRE hE4 HMa HRm HKi HU
    go_upto_region 11 with fail
    refine wp_region_fct (by kernel_rfl) [4, 10, 17, 24, 29] (fun i => match i with
      | 0 => some (Value.int .i64 (N : Nat))
      | 1 => some (Value.slice Ak N ck)
      | 2 => some (Value.int .i64 (N : Nat))
      | 3 => some (Value.bool true)
      | 4 => some (Value.bool true)
      | 5 => some (Value.agg #[.slice A N c])
      | 6 => some (Value.int .i64 (N : Nat))
      | 7 => some (Value.int .i64 (N : Nat))
      | 8 => some (Value.bool true)
      | 9 => some (Value.bool true)
      | 10 => some (Value.bool true)
      | 11 => some (Value.agg #[.slice A N c])
      | 12 => some (Value.string tx)
      | 13 => some (Value.agg #[.slice A' N' c'])
      | 14 => some (Value.string tx)
      | 15 => some (Value.bool true)
      | 16 => some (Value.bool true)
      | 17 => some (Value.bool true)
      | 18 => some (Value.agg #[.slice A N c])
      | 20 => some (Value.agg #[.slice A' N' c'])
      | 22 => some (Value.bool true)
      | 23 => some (Value.bool true)
      | 24 => some (Value.bool true)
      | 25 => some (Value.agg #[.slice A N c])
      | 26 => some (Value.int .i64 0)
      | 27 => some (Value.bool true)
      | 28 => some (Value.bool true)
      | 29 => some (Value.bool true)
      | 30 => some (Value.agg #[.slice A N c])
      | 31 => some (Value.int .i64 0)
      | 32 => some (Value.bool true)
      | 33 => some (Value.bool true)
      | _ => none) (by intro j hj; simp only [List.mem_cons, List.not_mem_nil, or_false] at hj; rcases hj with rfl | rfl | rfl | rfl | rfl <;> rfl) 34 [intFct 19 65 (oddL cs), intFct 21 67 (oddL cs)] (fun W => ∃ X, Below V.heap.size V X ∧ W = X.setCell ⟨w.heap.size + 1 + 1, 0, none⟩ (.bool true)) (by kernel_rfl) (by kernel_rfl) (by rfl) ?_ ?_
    · intro listed a W i o hI ho hdep hB hF K hK hKf
      have hi : i < 35 := (Array.getElem?_eq_some_iff.1 ho).1
      have hcase : i = 0 ∨ i = 1 ∨ i = 2 ∨ i = 3 ∨ i = 4 ∨ i = 5 ∨ i = 6 ∨ i = 7 ∨ i = 8 ∨ i = 9 ∨ i = 10 ∨ i = 11 ∨ i = 12 ∨ i = 13 ∨ i = 14 ∨ i = 15 ∨ i = 16 ∨ i = 17 ∨ i = 18 ∨ i = 19 ∨ i = 20 ∨ i = 21 ∨ i = 22 ∨ i = 23 ∨ i = 24 ∨ i = 25 ∨ i = 26 ∨ i = 27 ∨ i = 28 ∨ i = 29 ∨ i = 30 ∨ i = 31 ∨ i = 32 ∨ i = 33 ∨ i = 34 := by omega
      clear hi
      rcases hcase with rfl | rfl | rfl | rfl | rfl | rfl | rfl | rfl | rfl | rfl | rfl | rfl | rfl | rfl | rfl | rfl | rfl | rfl | rfl | rfl | rfl | rfl | rfl | rfl | rfl | rfl | rfl | rfl | rfl | rfl | rfl | rfl | rfl | rfl | rfl
      · obtain rfl := Option.some.inj (show some _ = some o from ho)
        have q6 : a.tmps[6]?.getD undef = .pointer (some ⟨b + 1, 0, none⟩) := hI.old 6 (noDst_spec (by kernel_rfl))
        have x := (HI2.out.n.after hB).c 0 rfl
        clear hdep hI ho hF
        go_simp
        exact hK (by decide) (Value.int .i64 (N : Nat)) _ (fun u hu => Option.some.inj (show some _ = some u from hu)) (Below.refl _ _) (fct_none rfl)
      · obtain rfl := Option.some.inj (show some _ = some o from ho)
        have q5 : a.tmps[5]?.getD undef = .pointer (some ⟨b, 0, none⟩) := hI.old 5 (noDst_spec (by kernel_rfl))
        have x := (HI2.out.kk.after hB).c 0 rfl
        clear hdep hI ho hF
        go_simp
        exact hK (by decide) (Value.slice Ak N ck) _ (fun u hu => Option.some.inj (show some _ = some u from hu)) (Below.refl _ _) (fct_none rfl)
      · obtain rfl := Option.some.inj (show some _ = some o from ho)
        have d1 : listed.getD 1 false = true := hdep ⟨1, .data⟩ (by simp) rfl
        have q47 : a.tmps[47]?.getD undef = Value.slice Ak N ck := hI.val 1 _ 47 _ rfl rfl rfl d1
        clear hdep hI ho hF
        go_simp
        exact hK (by decide) (Value.int .i64 (N : Nat)) _ (fun u hu => Option.some.inj (show some _ = some u from hu)) (Below.refl _ _) (fct_none rfl)
      · obtain rfl := Option.some.inj (show some _ = some o from ho)
        have d0 : listed.getD 0 false = true := hdep ⟨0, .data⟩ (by simp) rfl
        have q46 : a.tmps[46]?.getD undef = Value.int .i64 (N : Nat) := hI.val 0 _ 46 _ rfl rfl rfl d0
        have d2 : listed.getD 2 false = true := hdep ⟨2, .data⟩ (by simp) rfl
        have q48 : a.tmps[48]?.getD undef = Value.int .i64 (N : Nat) := hI.val 2 _ 48 _ rfl rfl rfl d2
        clear hdep hI ho hF
        go_simp
        exact hK (by decide) (Value.bool true) _ (fun u hu => Option.some.inj (show some _ = some u from hu)) (Below.refl _ _) (fct_none rfl)
      · obtain rfl := Option.some.inj (show some _ = some o from ho)
        have d3 : listed.getD 3 false = true := hdep ⟨3, .data⟩ (by simp) rfl
        have q49 : a.tmps[49]?.getD undef = Value.bool true := hI.val 3 _ 49 _ rfl rfl rfl d3
        clear hdep hI ho hF
        go_simp
        exact hK (by decide) (Value.bool true) _ (fun u hu => Option.some.inj (show some _ = some u from hu)) (Below.refl _ _) (fct_none rfl)
      · obtain rfl := Option.some.inj (show some _ = some o from ho)
        have q2 : a.tmps[2]?.getD undef = .pointer (some ⟨w.heap.size, 0, none⟩) := hI.old 2 (noDst_spec (by kernel_rfl))
        have x := (HI2.out.t.after hB).c 0 rfl
        clear hdep hI ho hF
        go_simp
        exact hK (by decide) (Value.agg #[.slice A N c]) _ (fun u hu => Option.some.inj (show some _ = some u from hu)) (Below.refl _ _) (fct_none rfl)
      · obtain rfl := Option.some.inj (show some _ = some o from ho)
        have d5 : listed.getD 5 false = true := hdep ⟨5, .data⟩ (by simp) rfl
        have q51 : a.tmps[51]?.getD undef = Value.agg #[.slice A N c] := hI.val 5 _ 51 _ rfl rfl rfl d5
        have hBw := HI2.out.bel.trans (hB.mono HI2.out.bel.size)
        clear hdep hI ho hF
        go_simp
        refine (len_any A N c _).mono ?_
        rintro e W2 ⟨rfl, hb⟩
        exact hK (by decide) (Value.int .i64 (N : Nat)) _ (fun u hu => Option.some.inj (show some _ = some u from hu)) hb (fct_none rfl)
      · obtain rfl := Option.some.inj (show some _ = some o from ho)
        have q6 : a.tmps[6]?.getD undef = .pointer (some ⟨b + 1, 0, none⟩) := hI.old 6 (noDst_spec (by kernel_rfl))
        have x := (HI2.out.n.after hB).c 0 rfl
        clear hdep hI ho hF
        go_simp
        exact hK (by decide) (Value.int .i64 (N : Nat)) _ (fun u hu => Option.some.inj (show some _ = some u from hu)) (Below.refl _ _) (fct_none rfl)
      · obtain rfl := Option.some.inj (show some _ = some o from ho)
        have d6 : listed.getD 6 false = true := hdep ⟨6, .data⟩ (by simp) rfl
        have q52 : a.tmps[52]?.getD undef = Value.int .i64 (N : Nat) := hI.val 6 _ 52 _ rfl rfl rfl d6
        have d7 : listed.getD 7 false = true := hdep ⟨7, .data⟩ (by simp) rfl
        have q53 : a.tmps[53]?.getD undef = Value.int .i64 (N : Nat) := hI.val 7 _ 53 _ rfl rfl rfl d7
        clear hdep hI ho hF
        go_simp
        exact hK (by decide) (Value.bool true) _ (fun u hu => Option.some.inj (show some _ = some u from hu)) (Below.refl _ _) (fct_none rfl)
      · obtain rfl := Option.some.inj (show some _ = some o from ho)
        have d4 : listed.getD 4 false = true := hdep ⟨4, .data⟩ (by simp) rfl
        have q50 : a.tmps[50]?.getD undef = Value.bool true := hI.val 4 _ 50 _ rfl rfl rfl d4
        have d8 : listed.getD 8 false = true := hdep ⟨8, .data⟩ (by simp) rfl
        have q54 : a.tmps[54]?.getD undef = Value.bool true := hI.val 8 _ 54 _ rfl rfl rfl d8
        clear hdep hI ho hF
        go_simp
        exact hK (by decide) (Value.bool true) _ (fun u hu => Option.some.inj (show some _ = some u from hu)) (Below.refl _ _) (fct_none rfl)
      · obtain rfl := Option.some.inj (show some _ = some o from ho)
        have d9 : listed.getD 9 false = true := hdep ⟨9, .data⟩ (by simp) rfl
        have q55 : a.tmps[55]?.getD undef = Value.bool true := hI.val 9 _ 55 _ rfl rfl rfl d9
        clear hdep hI ho hF
        go_simp
        exact hK (by decide) (Value.bool true) _ (fun u hu => Option.some.inj (show some _ = some u from hu)) (Below.refl _ _) (fct_none rfl)
      · obtain rfl := Option.some.inj (show some _ = some o from ho)
        have q2 : a.tmps[2]?.getD undef = .pointer (some ⟨w.heap.size, 0, none⟩) := hI.old 2 (noDst_spec (by kernel_rfl))
        have x := (HI2.out.t.after hB).c 0 rfl
        clear hdep hI ho hF
        go_simp
        exact hK (by decide) (Value.agg #[.slice A N c]) _ (fun u hu => Option.some.inj (show some _ = some u from hu)) (Below.refl _ _) (fct_none rfl)
      · obtain rfl := Option.some.inj (show some _ = some o from ho)
        have d11 : listed.getD 11 false = true := hdep ⟨11, .data⟩ (by simp) rfl
        have q57 : a.tmps[57]?.getD undef = Value.agg #[.slice A N c] := hI.val 11 _ 57 _ rfl rfl rfl d11
        have hBw := HI2.out.bel.trans (hB.mono HI2.out.bel.size)
        clear hdep hI ho hF
        go_simp
        refine (HTx.out _ hBw).mono ?_
        rintro e W2 ⟨rfl, hb⟩
        exact hK (by decide) (Value.string tx) _ (fun u hu => Option.some.inj (show some _ = some u from hu)) hb (fct_none rfl)
      · obtain rfl := Option.some.inj (show some _ = some o from ho)
        have q3 : a.tmps[3]?.getD undef = .pointer (some ⟨w.heap.size + 1, 0, none⟩) := hI.old 3 (noDst_spec (by kernel_rfl))
        have x := (HI2.out.u.after hB).c 0 rfl
        clear hdep hI ho hF
        go_simp
        exact hK (by decide) (Value.agg #[.slice A' N' c']) _ (fun u hu => Option.some.inj (show some _ = some u from hu)) (Below.refl _ _) (fct_none rfl)
      · obtain rfl := Option.some.inj (show some _ = some o from ho)
        have d13 : listed.getD 13 false = true := hdep ⟨13, .data⟩ (by simp) rfl
        have q59 : a.tmps[59]?.getD undef = Value.agg #[.slice A' N' c'] := hI.val 13 _ 59 _ rfl rfl rfl d13
        have hBw := HI2.out.bel.trans (hB.mono HI2.out.bel.size)
        clear hdep hI ho hF
        go_simp
        refine (HRt.out _ hBw).mono ?_
        rintro e W2 ⟨rfl, hb⟩
        exact hK (by decide) (Value.string tx) _ (fun u hu => Option.some.inj (show some _ = some u from hu)) hb (fct_none rfl)
      · obtain rfl := Option.some.inj (show some _ = some o from ho)
        have d12 : listed.getD 12 false = true := hdep ⟨12, .data⟩ (by simp) rfl
        have q58 : a.tmps[58]?.getD undef = Value.string tx := hI.val 12 _ 58 _ rfl rfl rfl d12
        have d14 : listed.getD 14 false = true := hdep ⟨14, .data⟩ (by simp) rfl
        have q60 : a.tmps[60]?.getD undef = Value.string tx := hI.val 14 _ 60 _ rfl rfl rfl d14
        clear hdep hI ho hF
        go_simp
        exact hK (by decide) (Value.bool true) _ (fun u hu => Option.some.inj (show some _ = some u from hu)) (Below.refl _ _) (fct_none rfl)
      · obtain rfl := Option.some.inj (show some _ = some o from ho)
        have d10 : listed.getD 10 false = true := hdep ⟨10, .data⟩ (by simp) rfl
        have q56 : a.tmps[56]?.getD undef = Value.bool true := hI.val 10 _ 56 _ rfl rfl rfl d10
        have d15 : listed.getD 15 false = true := hdep ⟨15, .data⟩ (by simp) rfl
        have q61 : a.tmps[61]?.getD undef = Value.bool true := hI.val 15 _ 61 _ rfl rfl rfl d15
        clear hdep hI ho hF
        go_simp
        exact hK (by decide) (Value.bool true) _ (fun u hu => Option.some.inj (show some _ = some u from hu)) (Below.refl _ _) (fct_none rfl)
      · obtain rfl := Option.some.inj (show some _ = some o from ho)
        have d16 : listed.getD 16 false = true := hdep ⟨16, .data⟩ (by simp) rfl
        have q62 : a.tmps[62]?.getD undef = Value.bool true := hI.val 16 _ 62 _ rfl rfl rfl d16
        clear hdep hI ho hF
        go_simp
        exact hK (by decide) (Value.bool true) _ (fun u hu => Option.some.inj (show some _ = some u from hu)) (Below.refl _ _) (fct_none rfl)
      · obtain rfl := Option.some.inj (show some _ = some o from ho)
        have q2 : a.tmps[2]?.getD undef = .pointer (some ⟨w.heap.size, 0, none⟩) := hI.old 2 (noDst_spec (by kernel_rfl))
        have x := (HI2.out.t.after hB).c 0 rfl
        clear hdep hI ho hF
        go_simp
        exact hK (by decide) (Value.agg #[.slice A N c]) _ (fun u hu => Option.some.inj (show some _ = some u from hu)) (Below.refl _ _) (fct_none rfl)
      · obtain rfl := Option.some.inj (show some _ = some o from ho)
        have d18 : listed.getD 18 false = true := hdep ⟨18, .data⟩ (by simp) rfl
        have q64 : a.tmps[64]?.getD undef = Value.agg #[.slice A N c] := hI.val 18 _ 64 _ rfl rfl rfl d18
        have hBw := HI2.out.bel.trans (hB.mono HI2.out.bel.size)
        clear hdep hI ho hF
        go_simp
        refine (HOd.out _ hBw).mono ?_
        rintro e W2 ⟨R, m, cc, rfl, hm, hC, _, _, hb⟩
        exact hK (by decide) (.slice R m cc) _ (fun u hu => absurd (show (none : Option Value) = some u from hu) (by simp)) hb (fun p hp e => by
          simp only [List.mem_cons, List.not_mem_nil, or_false] at hp
          rcases hp with rfl | rfl
          · exact ⟨R, m, cc, rfl, hm, hC⟩
          · exact absurd e (fct_ne (i := 21) rfl))
      · obtain rfl := Option.some.inj (show some _ = some o from ho)
        have q3 : a.tmps[3]?.getD undef = .pointer (some ⟨w.heap.size + 1, 0, none⟩) := hI.old 3 (noDst_spec (by kernel_rfl))
        have x := (HI2.out.u.after hB).c 0 rfl
        clear hdep hI ho hF
        go_simp
        exact hK (by decide) (Value.agg #[.slice A' N' c']) _ (fun u hu => Option.some.inj (show some _ = some u from hu)) (Below.refl _ _) (fct_none rfl)
      · obtain rfl := Option.some.inj (show some _ = some o from ho)
        have d20 : listed.getD 20 false = true := hdep ⟨20, .data⟩ (by simp) rfl
        have q66 : a.tmps[66]?.getD undef = Value.agg #[.slice A' N' c'] := hI.val 20 _ 66 _ rfl rfl rfl d20
        have hBw := HI2.out.bel.trans (hB.mono HI2.out.bel.size)
        clear hdep hI ho hF
        go_simp
        refine (HRo.out _ hBw).mono ?_
        rintro e W2 ⟨R, m, cc, rfl, hm, hC, _, _, hb⟩
        exact hK (by decide) (.slice R m cc) _ (fun u hu => absurd (show (none : Option Value) = some u from hu) (by simp)) hb (fun p hp e => by
          simp only [List.mem_cons, List.not_mem_nil, or_false] at hp
          rcases hp with rfl | rfl
          · exact absurd e (fct_ne (i := 19) rfl)
          · exact ⟨R, m, cc, rfl, hm, hC⟩)
      · obtain rfl := Option.some.inj (show some _ = some o from ho)
        have d19 : listed.getD 19 false = true := hdep ⟨19, .data⟩ (by simp) rfl
        have d21 : listed.getD 21 false = true := hdep ⟨21, .data⟩ (by simp) rfl
        obtain ⟨R1, m1, c1, hq1, hm1, hC1⟩ := hF (intFct 19 65 (oddL cs)) (by simp) d19
        obtain ⟨R2, m2, c2, hq2, hm2, hC2⟩ := hF (intFct 21 67 (oddL cs)) (by simp) d21
        have q65 : a.tmps[65]?.getD undef = .slice R1 m1 c1 := hq1
        have q67 : a.tmps[67]?.getD undef = .slice R2 m2 c2 := hq2
        have HSm := Lib.hid (rsame_any (oddL cs) (oddL cs) R1 R2 m1 m2 c1 c2 W hm1 hm2 (by have := HOl.out; omega) hC1 hC2)
        rw [decide_eq_true rfl] at HSm
        clear hdep hI ho hF hm1 hm2 hC1 hC2 hq1 hq2
        go_simp
        refine HSm.out.mono ?_
        rintro e W2 ⟨rfl, hb⟩
        exact hK (by decide) (Value.bool true) _ (fun u hu => Option.some.inj (show some _ = some u from hu)) hb (fct_none rfl)
      · obtain rfl := Option.some.inj (show some _ = some o from ho)
        have d17 : listed.getD 17 false = true := hdep ⟨17, .data⟩ (by simp) rfl
        have q63 : a.tmps[63]?.getD undef = Value.bool true := hI.val 17 _ 63 _ rfl rfl rfl d17
        have d22 : listed.getD 22 false = true := hdep ⟨22, .data⟩ (by simp) rfl
        have q68 : a.tmps[68]?.getD undef = Value.bool true := hI.val 22 _ 68 _ rfl rfl rfl d22
        clear hdep hI ho hF
        go_simp
        exact hK (by decide) (Value.bool true) _ (fun u hu => Option.some.inj (show some _ = some u from hu)) (Below.refl _ _) (fct_none rfl)
      · obtain rfl := Option.some.inj (show some _ = some o from ho)
        have d23 : listed.getD 23 false = true := hdep ⟨23, .data⟩ (by simp) rfl
        have q69 : a.tmps[69]?.getD undef = Value.bool true := hI.val 23 _ 69 _ rfl rfl rfl d23
        clear hdep hI ho hF
        go_simp
        exact hK (by decide) (Value.bool true) _ (fun u hu => Option.some.inj (show some _ = some u from hu)) (Below.refl _ _) (fct_none rfl)
      · obtain rfl := Option.some.inj (show some _ = some o from ho)
        have q2 : a.tmps[2]?.getD undef = .pointer (some ⟨w.heap.size, 0, none⟩) := hI.old 2 (noDst_spec (by kernel_rfl))
        have x := (HI2.out.t.after hB).c 0 rfl
        clear hdep hI ho hF
        go_simp
        exact hK (by decide) (Value.agg #[.slice A N c]) _ (fun u hu => Option.some.inj (show some _ = some u from hu)) (Below.refl _ _) (fct_none rfl)
      · obtain rfl := Option.some.inj (show some _ = some o from ho)
        have d25 : listed.getD 25 false = true := hdep ⟨25, .data⟩ (by simp) rfl
        have q71 : a.tmps[71]?.getD undef = Value.agg #[.slice A N c] := hI.val 25 _ 71 _ rfl rfl rfl d25
        have hBw := HI2.out.bel.trans (hB.mono HI2.out.bel.size)
        clear hdep hI ho hF
        go_simp
        refine (HM0.out _ 0 (by omega) hBw).mono ?_
        rintro e W2 ⟨rfl, hb⟩
        exact hK (by decide) (Value.int .i64 0) _ (fun u hu => Option.some.inj (show some _ = some u from hu)) hb (fct_none rfl)
      · obtain rfl := Option.some.inj (show some _ = some o from ho)
        have d26 : listed.getD 26 false = true := hdep ⟨26, .data⟩ (by simp) rfl
        have q72 : a.tmps[72]?.getD undef = Value.int .i64 0 := hI.val 26 _ 72 _ rfl rfl rfl d26
        clear hdep hI ho hF
        go_simp
        exact hK (by decide) (Value.bool true) _ (fun u hu => Option.some.inj (show some _ = some u from hu)) (Below.refl _ _) (fct_none rfl)
      · obtain rfl := Option.some.inj (show some _ = some o from ho)
        have d24 : listed.getD 24 false = true := hdep ⟨24, .data⟩ (by simp) rfl
        have q70 : a.tmps[70]?.getD undef = Value.bool true := hI.val 24 _ 70 _ rfl rfl rfl d24
        have d27 : listed.getD 27 false = true := hdep ⟨27, .data⟩ (by simp) rfl
        have q73 : a.tmps[73]?.getD undef = Value.bool true := hI.val 27 _ 73 _ rfl rfl rfl d27
        clear hdep hI ho hF
        go_simp
        exact hK (by decide) (Value.bool true) _ (fun u hu => Option.some.inj (show some _ = some u from hu)) (Below.refl _ _) (fct_none rfl)
      · obtain rfl := Option.some.inj (show some _ = some o from ho)
        have d28 : listed.getD 28 false = true := hdep ⟨28, .data⟩ (by simp) rfl
        have q74 : a.tmps[74]?.getD undef = Value.bool true := hI.val 28 _ 74 _ rfl rfl rfl d28
        clear hdep hI ho hF
        go_simp
        exact hK (by decide) (Value.bool true) _ (fun u hu => Option.some.inj (show some _ = some u from hu)) (Below.refl _ _) (fct_none rfl)
      · obtain rfl := Option.some.inj (show some _ = some o from ho)
        have q2 : a.tmps[2]?.getD undef = .pointer (some ⟨w.heap.size, 0, none⟩) := hI.old 2 (noDst_spec (by kernel_rfl))
        have x := (HI2.out.t.after hB).c 0 rfl
        clear hdep hI ho hF
        go_simp
        exact hK (by decide) (Value.agg #[.slice A N c]) _ (fun u hu => Option.some.inj (show some _ = some u from hu)) (Below.refl _ _) (fct_none rfl)
      · obtain rfl := Option.some.inj (show some _ = some o from ho)
        have d30 : listed.getD 30 false = true := hdep ⟨30, .data⟩ (by simp) rfl
        have q76 : a.tmps[76]?.getD undef = Value.agg #[.slice A N c] := hI.val 30 _ 76 _ rfl rfl rfl d30
        have hBw := HI2.out.bel.trans (hB.mono HI2.out.bel.size)
        clear hdep hI ho hF
        go_simp
        refine (HM0.out _ (-1) (by omega) hBw).mono ?_
        rintro e W2 ⟨rfl, hb⟩
        exact hK (by decide) (Value.int .i64 0) _ (fun u hu => Option.some.inj (show some _ = some u from hu)) hb (fct_none rfl)
      · obtain rfl := Option.some.inj (show some _ = some o from ho)
        have d31 : listed.getD 31 false = true := hdep ⟨31, .data⟩ (by simp) rfl
        have q77 : a.tmps[77]?.getD undef = Value.int .i64 0 := hI.val 31 _ 77 _ rfl rfl rfl d31
        clear hdep hI ho hF
        go_simp
        exact hK (by decide) (Value.bool true) _ (fun u hu => Option.some.inj (show some _ = some u from hu)) (Below.refl _ _) (fct_none rfl)
      · obtain rfl := Option.some.inj (show some _ = some o from ho)
        have d29 : listed.getD 29 false = true := hdep ⟨29, .data⟩ (by simp) rfl
        have q75 : a.tmps[75]?.getD undef = Value.bool true := hI.val 29 _ 75 _ rfl rfl rfl d29
        have d32 : listed.getD 32 false = true := hdep ⟨32, .data⟩ (by simp) rfl
        have q78 : a.tmps[78]?.getD undef = Value.bool true := hI.val 32 _ 78 _ rfl rfl rfl d32
        clear hdep hI ho hF
        go_simp
        exact hK (by decide) (Value.bool true) _ (fun u hu => Option.some.inj (show some _ = some u from hu)) (Below.refl _ _) (fct_none rfl)
      · obtain rfl := Option.some.inj (show some _ = some o from ho)
        have d33 : listed.getD 33 false = true := hdep ⟨33, .data⟩ (by simp) rfl
        have q79 : a.tmps[79]?.getD undef = Value.bool true := hI.val 33 _ 79 _ rfl rfl rfl d33
        have q4 : a.tmps[4]?.getD undef = .pointer (some ⟨w.heap.size + 1 + 1, 0, none⟩) := hI.old 4 (noDst_spec (by kernel_rfl))
        have x := (HI2.out.r.after hB).c 0 rfl
        have f := (HI2.out.r.after hB).f 0 rfl
        clear hdep hI ho hF
        go_simp
        exact hKf rfl undef _ (fun u hu => absurd (show (none : Option Value) = some u from hu) (by simp)) ⟨W, hB, rfl⟩
    · intro listed a W hI hall hfin hend
      obtain ⟨X, hX, rfl⟩ := hfin (by decide)
      have q4 : a.tmps[4]?.getD undef = .pointer (some ⟨w.heap.size + 1 + 1, 0, none⟩) := hI.old 4 (noDst_spec (by kernel_rfl))
      have hdf : a.defers = [{ target := .collected D, args := #[] }] := hI.defers
      have hrow : Row (X.setCell ⟨w.heap.size + 1 + 1, 0, none⟩ (.bool true)) (w.heap.size + 1 + 1) [.bool true] := (HI2.out.r.after hX).set 0 (by simp) _
      have hD1 : D < V.heap.size := (Array.getElem?_eq_some_iff.1 HM.out).1
      have hlo := HI2.out.lo
      have hnb := HI.out.n.1
      have hMk : Marks W4.heap.size [D] (X.setCell ⟨w.heap.size + 1 + 1, 0, none⟩ (.bool true)) := ⟨hD, (Below.heap_setCell _ _ _ _ (by show D ≠ w.heap.size + 1 + 1; omega)).trans ((hX.block D hD1).trans HM.out), by simp, trivial⟩
      have hBX : Below w.heap.size w (X.setCell ⟨w.heap.size + 1 + 1, 0, none⟩ (.bool true)) := below_put1 (HI2.out.bel.trans (hX.mono HI2.out.bel.size)) (by omega) 0 _
      have HE := Lib.hid (And.intro hrow (And.intro hMk hBX))
      clear hrow hMk hBX hX hfin hend hall hI hD1
      generalize X.setCell ⟨w.heap.size + 1 + 1, 0, none⟩ (.bool true) = V4 at HE ⊢
      obtain ⟨tm, df⟩ := a
      simp only at hdf q4
      subst hdf
      go_wp2_with fail
      refine leaves_marks [D] V4 HE.out.2.1 fun V5 hV => ?_
      have c1 := (HE.out.1.below hV (by omega)).c 0 rfl
      exact ⟨.bool true, by simp [results, Tryz.results11, go_sem, q4, c1], rfl, HE.out.2.2.trans (hV.mono (by omega))⟩

end Go.Proofs.YtjhcddlhhfjnaaaGreatDoor
