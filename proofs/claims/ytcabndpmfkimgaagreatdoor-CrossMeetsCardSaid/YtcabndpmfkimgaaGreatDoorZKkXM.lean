import Derived.Test.YtcabndpmfkimgaaGreatDoorZKkSM
import Derived.Test.YtcabndpmfkimgaaGreatDoorZKkXJ
import Derived.Test.YtcabndpmfkimgaaGreatDoorZKkWK
namespace Go.Proofs.YtcabndpmfkimgaaGreatDoor
open Go.RowKit CrossMath

def PtD (p : Pt) (A B E G : Option Addr) (W : World) : Prop := DS W p.xn.natAbs A ∧ DS W p.xd.natAbs B ∧ DS W p.yn.natAbs E ∧ DS W p.yd.natAbs G
def MeSome (w : World) (m : Mt) (e : Ending) (w' : World) : Prop := m.k ≠ 0 ∧ ∃ A a B b E f G g A2 a2 B2 b2 E2 f2 G2 g2, e = .returned (.agg #[.int .i64 m.k, .bool (decide (m.p.xn < 0)), .slice A (L16 m.p.xn.natAbs) a, .bool false, .slice B (L16 m.p.xd.natAbs) b, .bool (decide (m.p.yn < 0)), .slice E (L16 m.p.yn.natAbs) f, .bool false, .slice G (L16 m.p.yd.natAbs) g, .bool (decide (m.q.xn < 0)), .slice A2 (L16 m.q.xn.natAbs) a2, .bool false, .slice B2 (L16 m.q.xd.natAbs) b2, .bool (decide (m.q.yn < 0)), .slice E2 (L16 m.q.yn.natAbs) f2, .bool false, .slice G2 (L16 m.q.yd.natAbs) g2]) ∧ PtD m.p A B E G w' ∧ PtD m.q A2 B2 E2 G2 w' ∧ Below w.heap.size w w'
def MeNone (w : World) (e : Ending) (w' : World) : Prop := e = .returned (.agg #[.int .i64 0, .bool false, .slice none 0 0, .bool false, .slice none 0 0, .bool false, .slice none 0 0, .bool false, .slice none 0 0, .bool false, .slice none 0 0, .bool false, .slice none 0 0, .bool false, .slice none 0 0, .bool false, .slice none 0 0]) ∧ Below w.heap.size w w'
def MePost (w : World) (m : Mt) (e : Ending) (w' : World) : Prop := (m = noneM ∧ MeNone w e w') ∨ MeSome w m e w'

theorem wy_wrap {x : Int} (h : Wy x) : IntKind.i64.wrap x = x := by unfold Wy at h; exact wrapI_in (by omega) (by omega)
theorem wy_abs {x : Int} (h : Wy x) : x.natAbs ≤ 134217728 := by unfold Wy at h; omega
theorem ofD_bd {a b c d : Int} (ha : Wy a) (hb : Wy b) (hc : Wy c) (hd : Wy d) : (ofD a b c d).natAbs ≤ 36028797018963968 := by
 have h1 := ha.mul hd
 have h2 := hb.mul hc
 unfold ofD
 omega
theorem mul_le2 {a b : Int} {x y : Nat} (ha : a.natAbs ≤ x) (hb : b.natAbs ≤ y) : (a * b).natAbs ≤ x * y := by
 rw [Int.natAbs_mul]; exact Nat.mul_le_mul ha hb
theorem fr_le {n d : Int} : (frN n d).natAbs ≤ n.natAbs ∧ (frD n d).natAbs ≤ d.natAbs := by
 unfold frN frD
 have es : ∀ z : Int, (z * (if d < 0 then -1 else 1)).natAbs = z.natAbs := fun z => by split <;> simp
 rw [es, Int.natAbs_tdiv, Int.natAbs_tdiv, Int.natAbs_natCast, Int.natAbs_natCast]
 exact ⟨Nat.div_le_self _ _, Nat.div_le_self _ _⟩
theorem num_bg (z : Int) (h : z.natAbs ≤ 36028797018963968) (W : World) : Calls Tryz.prog 34 #[.int .i64 z] W (BgPost W (decide (z < 0)) z.natAbs (L16 z.natAbs)) :=
 (num_z z W (by omega) (by omega)).mono fun _ _ h => bg_of rfl h
theorem le_T {m x : Nat} (h : m ≤ x) (hx : x < T256) : m < T256 := Nat.lt_of_le_of_lt h hx
def ptc (x y a b : Int) : Int := if cmpI (x * 1) (a * 1) = 0 then cmpI (y * 1) (b * 1) else cmpI (x * 1) (a * 1)
theorem cmpI_lt {a b : Int} (h : a < b) : cmpI a b = -1 := by unfold cmpI; rw [if_pos h]
theorem cmpI_gt {a b : Int} (h : b < a) : cmpI a b = 1 := by unfold cmpI; rw [if_neg (by omega), if_pos h]
theorem cmpI_eq (a : Int) : cmpI a a = 0 := by unfold cmpI; rw [if_neg (by omega), if_neg (by omega)]
theorem ptc_is (x y a b : Int) : (ptc x y a b = 1 ∧ CrossMath.aheadB a b x y = true ∧ CrossMath.aheadB x y a b = false ∧ ¬ (x = a ∧ y = b)) ∨ (ptc x y a b = 0 ∧ CrossMath.aheadB a b x y = false ∧ CrossMath.aheadB x y a b = false ∧ (x = a ∧ y = b)) ∨ (ptc x y a b = -1 ∧ CrossMath.aheadB a b x y = false ∧ CrossMath.aheadB x y a b = true ∧ ¬ (x = a ∧ y = b)) := by
 unfold ptc CrossMath.aheadB
 rw [Int.mul_one, Int.mul_one, Int.mul_one, Int.mul_one]
 rcases (show x < a ∨ x = a ∨ a < x by omega) with h | h | h
 ·rw [cmpI_lt h]; simp; omega
 ·subst h
  rw [cmpI_eq]
  rcases (show y < b ∨ y = b ∨ b < y by omega) with h' | h' | h'
  ·rw [cmpI_lt h']; simp; omega
  ·subst h'; rw [cmpI_eq]; simp
  ·rw [cmpI_gt h']; simp; omega
 ·rw [cmpI_gt h]; simp; omega
theorem ptc_pos (x y a b : Int) : decide (0 < ptc x y a b) = CrossMath.aheadB a b x y := by
 rcases ptc_is x y a b with ⟨h, h', _⟩ | ⟨h, h', _⟩ | ⟨h, h', _⟩ <;> rw [h, h'] <;> rfl
theorem ptc_neg (x y a b : Int) : decide (ptc x y a b < 0) = CrossMath.aheadB x y a b := by
 rcases ptc_is x y a b with ⟨h, _, h', _⟩ | ⟨h, _, h', _⟩ | ⟨h, _, h', _⟩ <;> rw [h, h'] <;> rfl
theorem pcmp_int (x y a b : Int) (A1 B1 E1 G1 A2 B2 E2 G2 : Option Addr) (c1 d1 f1 g1 c2 d2 f2 g2 : Nat) (w : World) (hx : Bd x) (hy : Bd y) (ha : Bd a) (hb : Bd b) (D1 : DS w x.natAbs A1 ∧ DS w 1 B1 ∧ DS w y.natAbs E1 ∧ DS w 1 G1) (D2 : DS w a.natAbs A2 ∧ DS w 1 B2 ∧ DS w b.natAbs E2 ∧ DS w 1 G2) :
 Calls Tryz.prog 13 #[.agg #[.bool (decide (x < 0)), .slice A1 (L16 x.natAbs) c1, .bool false, .slice B1 (L16 1) d1, .bool (decide (y < 0)), .slice E1 (L16 y.natAbs) f1, .bool false, .slice G1 (L16 1) g1], .agg #[.bool (decide (a < 0)), .slice A2 (L16 a.natAbs) c2, .bool false, .slice B2 (L16 1) d2, .bool (decide (b < 0)), .slice E2 (L16 b.natAbs) f2, .bool false, .slice G2 (L16 1) g2]] w fun e w' => e = .returned (.int .i64 (ptc x y a b)) ∧ Below w.heap.size w w' := by
 have t : ∀ {z : Int}, Bd z → z.natAbs < T256 ∧ (z * 1).natAbs < T256 := fun {z} h => by
  have h1 : z.natAbs ≤ 67108864 := by unfold Bd at h; omega
  rw [Int.mul_one]
  exact ⟨le_T h1 (by decide), le_T h1 (by decide)⟩
 exact pcmp_core _ _ _ _ _ _ _ _ _ _ _ _ _ _ _ _ (cmpI (x * 1) (a * 1)) (cmpI (y * 1) (b * 1)) w
  (fun W hW => rcmp_any x 1 a 1 A1 B1 A2 B2 c1 d1 c2 d2 W (by decide) (by decide) (t hx).1 (by decide) (t ha).1 (by decide) (t hx).2 (t ha).2 (D1.1.below hW) (D1.2.1.below hW) (D2.1.below hW) (D2.2.1.below hW))
  (fun W hW => rcmp_any y 1 b 1 E1 G1 E2 G2 f1 g1 f2 g2 W (by decide) (by decide) (t hy).1 (by decide) (t hb).1 (by decide) (t hy).2 (t hb).2 (D1.2.2.1.below hW) (D1.2.2.2.below hW) (D2.2.2.1.below hW) (D2.2.2.2.below hW))
theorem sh_post {w : World} {lx ly ex ey : Int} {e : Ending} {w' : World} (h : ShPost w (ptc lx ly ex ey == -1) (ptc lx ly ex ey == 0) (decide (lx < 0)) (decide (ly < 0)) lx.natAbs ly.natAbs (L16 lx.natAbs) (L16 ly.natAbs) (decide (ex < 0)) (decide (ey < 0)) ex.natAbs ey.natAbs (L16 ex.natAbs) (L16 ey.natAbs) (L16 1) e w') : MePost w (pieceM (lx, ly) (ex, ey)) e w' := by
 obtain ⟨A1, a1, B1, b1, E1, f1, G1, g1, A2, a2, B2, b2, E2, f2, G2, g2, rfl, D1, D2, hb⟩ := h
 unfold pieceM
 rcases ptc_is lx ly ex ey with ⟨h0, h1, h2, h3⟩ | ⟨h0, h1, h2, h3⟩ | ⟨h0, h1, h2, h3⟩
 ·rw [h0, if_neg (fun q => h3 ⟨congrArg Prod.fst q, congrArg Prod.snd q⟩), if_neg (show ¬ CrossMath.aheadB (lx, ly).1 (lx, ly).2 (ex, ey).1 (ex, ey).2 = true by show ¬ CrossMath.aheadB lx ly ex ey = true; rw [h2]; decide)]
  exact .inl ⟨rfl, rfl, hb⟩
 ·obtain ⟨rfl, rfl⟩ := h3
  rw [h0, if_pos rfl]
  exact .inr ⟨by show (1 : Int) ≠ 0; decide, A1, a1, B1, b1, E1, f1, G1, g1, A1, a1, B1, b1, E1, f1, G1, g1, rfl, D1, D1, hb⟩
 ·rw [h0, if_neg (fun q => h3 ⟨congrArg Prod.fst q, congrArg Prod.snd q⟩), if_pos (show CrossMath.aheadB (lx, ly).1 (lx, ly).2 (ex, ey).1 (ex, ey).2 = true from h2)]
  exact .inr ⟨by show (2 : Int) ≠ 0; decide, A1, a1, B1, b1, E1, f1, G1, g1, A2, a2, B2, b2, E2, f2, G2, g2, rfl, D1, D2, hb⟩
theorem of_line (s t : Sg) (w : World) (hs : BdS s) (ht : BdS t) (hd : ofD (s.bx - s.ax) (s.bY - s.ay) (t.bx - t.ax) (t.bY - t.ay) = 0) (hq : ofD (t.ax - s.ax) (t.ay - s.ay) (s.bx - s.ax) (s.bY - s.ay) = 0) :
 Calls Tryz.prog 12 #[.agg (sgA s), .agg (sgA t)] w (MePost w (sharedM (laidS s) (laidS t))) := by
 have wux := Bd.sub hs.2.2.1 hs.1
 have wuy := Bd.sub hs.2.2.2 hs.2.1
 have wvx := Bd.sub ht.2.2.1 ht.1
 have wvy := Bd.sub ht.2.2.2 ht.2.1
 have wzx := Bd.sub ht.1 hs.1
 have wzy := Bd.sub ht.2.1 hs.2.1
 have hL := laid_bd hs
 have hM := laid_bd ht
 have l1 := fun W => relaid_any s W
 have l2 := fun W => relaid_any t W
 generalize laidS s = L at *
 generalize laidS t = M at *
 obtain ⟨c1, hc1⟩ : ∃ c, CrossMath.aheadB L.ax L.ay M.ax M.ay = c := ⟨_, rfl⟩
 obtain ⟨c2, hc2⟩ : ∃ c, CrossMath.aheadB M.bx M.bY L.bx L.bY = c := ⟨_, rfl⟩
 have key := of_shared s.ax s.ay s.bx s.bY t.ax t.ay t.bx t.bY (s.bx - s.ax) (s.bY - s.ay) (t.bx - t.ax) (t.bY - t.ay) (t.ax - s.ax) (t.ay - s.ay) 0 0 L.ax L.ay L.bx L.bY M.ax M.ay M.bx M.bY (ptc M.ax M.ay L.ax L.ay) (ptc M.bx M.bY L.bx L.bY) (ptc (cond c1 M.ax L.ax) (cond c1 M.ay L.ay) (cond c2 M.bx L.bx) (cond c2 M.bY L.bY))
  c1 c2 _ _ rfl rfl ((ptc_pos _ _ _ _).trans hc1) ((ptc_neg _ _ _ _).trans hc2) (decide (L.ax < 0)) (decide (L.ay < 0)) (decide (L.bx < 0)) (decide (L.bY < 0)) (decide (M.ax < 0)) (decide (M.ay < 0)) (decide (M.bx < 0)) (decide (M.bY < 0))
  L.ax.natAbs L.ay.natAbs (L16 L.ax.natAbs) (L16 L.ay.natAbs) L.bx.natAbs L.bY.natAbs (L16 L.bx.natAbs) (L16 L.bY.natAbs) M.ax.natAbs M.ay.natAbs (L16 M.ax.natAbs) (L16 M.ay.natAbs) M.bx.natAbs M.bY.natAbs (L16 M.bx.natAbs) (L16 M.bY.natAbs) (L16 1) w
  (wy_wrap wux) (wy_wrap wuy) (wy_wrap wvx) (wy_wrap wvy) (wy_wrap wzx) (wy_wrap wzy) rfl rfl
  (fun W _ => by rw [← hd]; exact refof_any _ _ _ _ W wux wuy wvx wvy) (fun W _ => by rw [← hq]; exact refof_any _ _ _ _ W wzx wzy wux wuy) l1 l2
  (fun W => ptof_any _ _ W hL.1 hL.2.1) (fun W => ptof_any _ _ W hL.2.2.1 hL.2.2.2) (fun W => ptof_any _ _ W hM.1 hM.2.1) (fun W => ptof_any _ _ W hM.2.2.1 hM.2.2.2)
  (fun A3 a3 B3 b3 E3 f3 G3 g3 A1 a1 B1 b1 E1 f1 G1 g1 W _ D3 D1 => pcmp_int _ _ _ _ A3 B3 E3 G3 A1 B1 E1 G1 a3 b3 f3 g3 a1 b1 f1 g1 W hM.1 hM.2.1 hL.1 hL.2.1 D3 D1)
  (fun A4 a4 B4 b4 E4 f4 G4 g4 A2 a2 B2 b2 E2 f2 G2 g2 W _ D4 D2 => pcmp_int _ _ _ _ A4 B4 E4 G4 A2 B2 E2 G2 a4 b4 f4 g4 a2 b2 f2 g2 W hM.2.2.1 hM.2.2.2 hL.2.2.1 hL.2.2.2 D4 D2)
  (fun e1 e2 A1 a1 B1 b1 E1 f1 G1 g1 A2 a2 B2 b2 E2 f2 G2 g2 W _ D1 D2 => by rw [e1, e2]; exact pcmp_int _ _ _ _ A1 B1 E1 G1 A2 B2 E2 G2 a1 b1 f1 g1 a2 b2 f2 g2 W hL.1 hL.2.1 hL.2.2.1 hL.2.2.2 D1 D2)
  (fun e1 e2 A1 a1 B1 b1 E1 f1 G1 g1 A2 a2 B2 b2 E2 f2 G2 g2 W _ D1 D2 => by rw [e1, e2]; exact pcmp_int _ _ _ _ A1 B1 E1 G1 A2 B2 E2 G2 a1 b1 f1 g1 a2 b2 f2 g2 W hM.1 hM.2.1 hL.2.2.1 hL.2.2.2 D1 D2)
  (fun e1 e2 A1 a1 B1 b1 E1 f1 G1 g1 A2 a2 B2 b2 E2 f2 G2 g2 W _ D1 D2 => by rw [e1, e2]; exact pcmp_int _ _ _ _ A1 B1 E1 G1 A2 B2 E2 G2 a1 b1 f1 g1 a2 b2 f2 g2 W hL.1 hL.2.1 hM.2.2.1 hM.2.2.2 D1 D2)
  (fun e1 e2 A1 a1 B1 b1 E1 f1 G1 g1 A2 a2 B2 b2 E2 f2 G2 g2 W _ D1 D2 => by rw [e1, e2]; exact pcmp_int _ _ _ _ A1 B1 E1 G1 A2 B2 E2 G2 a1 b1 f1 g1 a2 b2 f2 g2 W hM.1 hM.2.1 hM.2.2.1 hM.2.2.2 D1 D2)
 refine key.mono fun e w' h => ?_
 unfold sharedM laterX earlierX
 rw [hc1, hc2]
 clear key l1 l2 hc1 hc2
 cases c1 <;> cases c2 <;> exact sh_post h
theorem meetof_any (s t : Sg) (w : World) (hs : BdS s) (ht : BdS t) : Calls Tryz.prog 12 #[.agg (sgA s), .agg (sgA t)] w (MePost w (ofM s t)) := by
 have hline := of_line s t w hs ht
 have wux := Bd.sub hs.2.2.1 hs.1
 have wuy := Bd.sub hs.2.2.2 hs.2.1
 have wvx := Bd.sub ht.2.2.1 ht.1
 have wvy := Bd.sub ht.2.2.2 ht.2.1
 have wzx := Bd.sub ht.1 hs.1
 have wzy := Bd.sub ht.2.1 hs.2.1
 have c1 : ∀ W, Below w.heap.size w W → Calls Tryz.prog 32 #[.int .i64 (s.bx - s.ax), .int .i64 (s.bY - s.ay), .int .i64 (t.bx - t.ax), .int .i64 (t.bY - t.ay)] W fun e' w' => e' = .returned (.int .i64 (ofD (s.bx - s.ax) (s.bY - s.ay) (t.bx - t.ax) (t.bY - t.ay))) ∧ Below W.heap.size W w' := fun W _ => refof_any _ _ _ _ W wux wuy wvx wvy
 have c2 : ∀ W, Below w.heap.size w W → Calls Tryz.prog 32 #[.int .i64 (t.ax - s.ax), .int .i64 (t.ay - s.ay), .int .i64 (t.bx - t.ax), .int .i64 (t.bY - t.ay)] W fun e' w' => e' = .returned (.int .i64 (ofD (t.ax - s.ax) (t.ay - s.ay) (t.bx - t.ax) (t.bY - t.ay))) ∧ Below W.heap.size W w' := fun W _ => refof_any _ _ _ _ W wzx wzy wvx wvy
 have c6 : ∀ W, Below w.heap.size w W → Calls Tryz.prog 32 #[.int .i64 (t.ax - s.ax), .int .i64 (t.ay - s.ay), .int .i64 (s.bx - s.ax), .int .i64 (s.bY - s.ay)] W fun e' w' => e' = .returned (.int .i64 (ofD (t.ax - s.ax) (t.ay - s.ay) (s.bx - s.ax) (s.bY - s.ay))) ∧ Below W.heap.size W w' := fun W _ => refof_any _ _ _ _ W wzx wzy wux wuy
 have md := ofD_bd wux wuy wvx wvy
 have mp := ofD_bd wzx wzy wvx wvy
 have mq := ofD_bd wzx wzy wux wuy
 unfold ofM
 generalize ofD (s.bx - s.ax) (s.bY - s.ay) (t.bx - t.ax) (t.bY - t.ay) = d at *
 generalize ofD (t.ax - s.ax) (t.ay - s.ay) (t.bx - t.ax) (t.bY - t.ay) = p at *
 generalize ofD (t.ax - s.ax) (t.ay - s.ay) (s.bx - s.ax) (s.bY - s.ay) = q at *
 by_cases hd : d = 0
 ·rw [if_neg (fun h => h hd)]
  by_cases hq : q = 0
  ·rw [if_neg (fun h => h hq)]
   exact hline hd hq
  ·rw [if_pos hq]
   refine (of_apart s.ax s.ay s.bx s.bY t.ax t.ay t.bx t.bY _ _ _ _ _ _ d q w (wy_wrap wux) (wy_wrap wuy) (wy_wrap wvx) (wy_wrap wvy) (wy_wrap wzx) (wy_wrap wzy) (by rw [hd]; rfl) (by simpa using hq) c1 c6).mono fun e w' h => .inl ⟨rfl, h⟩
 ·rw [if_pos hd]
  have hd' : (d == 0) = false := by simpa using hd
  have T55 : 36028797018963968 < T256 := by decide
  have tp := le_T mp T55
  have td := le_T md T55
  have tq := le_T mq T55
  have f1 := @fr_le p d
  have f2 := @fr_le q d
  have g1 : 0 < frD p d := frD_pos hd
  have g2 : 0 < frD q d := frD_pos hd
  have n1 := Nat.le_trans f1.1 mp
  have n2 := Nat.le_trans f1.2 md
  have n3 := Nat.le_trans f2.1 mq
  have n4 := Nat.le_trans f2.2 md
  have H5 : ∀ X x Y y W, DS W p.natAbs X → DS W d.natAbs Y → L16 p.natAbs ≤ x → L16 d.natAbs ≤ y → Calls Tryz.prog 33 #[.agg #[.bool (decide (p < 0)), .slice X (L16 p.natAbs) x], .agg #[.bool (decide (d < 0)), .slice Y (L16 d.natAbs) y]] W (RqPost W (decide (frN p d < 0)) false (frN p d).natAbs (frD p d).natAbs (L16 (frN p d).natAbs) (L16 (frD p d).natAbs)) :=
   fun X x Y y W hX hY hx hy => rmake_z p d X Y x y W hd tp td hX hY hx hy
  have H8 : ∀ X x Y y W, DS W q.natAbs X → DS W d.natAbs Y → L16 q.natAbs ≤ x → L16 d.natAbs ≤ y → Calls Tryz.prog 33 #[.agg #[.bool (decide (q < 0)), .slice X (L16 q.natAbs) x], .agg #[.bool (decide (d < 0)), .slice Y (L16 d.natAbs) y]] W (RqPost W (decide (frN q d < 0)) false (frN q d).natAbs (frD q d).natAbs (L16 (frN q d).natAbs) (L16 (frD q d).natAbs)) :=
   fun X x Y y W hX hY hx hy => rmake_z q d X Y x y W hd tq td hX hY hx hy
  have H9 : ∀ A1 c1 D1 d1 W, Below w.heap.size w W → DS W (frN p d).natAbs A1 → DS W (frD p d).natAbs D1 → Calls Tryz.prog 35 #[.agg #[.bool (decide (frN p d < 0)), .slice A1 (L16 (frN p d).natAbs) c1, .bool false, .slice D1 (L16 (frD p d).natAbs) d1]] W fun e' w' => e' = .returned (.bool (inR (mkR p d))) ∧ Below W.heap.size W w' :=
   fun A1 c1 D1 d1 W _ hA hD => within_any (frN p d) (frD p d) A1 D1 c1 d1 W g1 (le_T n1 T55) (le_T n2 T55) hA hD
  have H10 : ∀ A1 c1 D1 d1 W, Below w.heap.size w W → DS W (frN q d).natAbs A1 → DS W (frD q d).natAbs D1 → Calls Tryz.prog 35 #[.agg #[.bool (decide (frN q d < 0)), .slice A1 (L16 (frN q d).natAbs) c1, .bool false, .slice D1 (L16 (frD q d).natAbs) d1]] W fun e' w' => e' = .returned (.bool (inR (mkR q d))) ∧ Below W.heap.size W w' :=
   fun A1 c1 D1 d1 W _ hA hD => within_any (frN q d) (frD q d) A1 D1 c1 d1 W g2 (le_T n3 T55) (le_T n4 T55) hA hD
  by_cases hin : inR (mkR p d) = true ∧ inR (mkR q d) = true
  ·rw [if_pos hin]
   rw [hin.1] at H9
   rw [hin.2] at H10
   obtain ⟨a, ha⟩ : ∃ a, a = mkR p d := ⟨_, rfl⟩
   have a1 : a.1 = frN p d := by rw [ha]; rfl
   have a2 : a.2 = frD p d := by rw [ha]; rfl
   rw [← ha]
   rw [← a1, ← a2] at H9 H5
   rw [← a1] at n1
   rw [← a2] at n2 g1
   clear ha a1 a2 hin f1 f2 hline
   -- one of the two numbers: x + a * u
   have T26 : 67108864 < T256 := by decide
   have T27 : 134217728 < T256 := by decide
   have T82 : 36028797018963968 * 134217728 < T256 := by decide
   have hmul : ∀ {u : Int}, Wy u → ∀ A c D e E f G g W, Below w.heap.size w W → DS W a.1.natAbs A → DS W a.2.natAbs D → DS W u.natAbs E → DS W 1 G → Calls Tryz.prog 38 #[.agg #[.bool (decide (a.1 < 0)), .slice A (L16 a.1.natAbs) c, .bool false, .slice D (L16 a.2.natAbs) e], .agg #[.bool (decide (u < 0)), .slice E (L16 u.natAbs) f, .bool false, .slice G (L16 1) g]] W (RqPost W (decide ((mulR a (u, 1)).1 < 0)) false (mulR a (u, 1)).1.natAbs (mulR a (u, 1)).2.natAbs (L16 (mulR a (u, 1)).1.natAbs) (L16 (mulR a (u, 1)).2.natAbs)) :=
    fun {u} hu A c D e E f G g W _ dA dD dE dG => rmul_any a.1 a.2 u 1 A D E G c e f g W g1 (by decide) (le_T n1 T55) (le_T n2 T55) (le_T (wy_abs hu) T27) (by decide) (le_T (mul_le2 n1 (wy_abs hu)) T82) (by rw [Int.mul_one]; exact le_T n2 T55) dA dD dE dG
   have hadd : ∀ {x u : Int}, Bd x → Wy u → ∀ A c D e E f G g W, Below w.heap.size w W → DS W x.natAbs A → DS W 1 D → DS W (mulR a (u, 1)).1.natAbs E → DS W (mulR a (u, 1)).2.natAbs G → Calls Tryz.prog 36 #[.agg #[.bool (decide (x < 0)), .slice A (L16 x.natAbs) c, .bool false, .slice D (L16 1) e], .agg #[.bool (decide ((mulR a (u, 1)).1 < 0)), .slice E (L16 (mulR a (u, 1)).1.natAbs) f, .bool false, .slice G (L16 (mulR a (u, 1)).2.natAbs) g]] W (RqPost W (decide ((addR (x, 1) (mulR a (u, 1))).1 < 0)) false (addR (x, 1) (mulR a (u, 1))).1.natAbs (addR (x, 1) (mulR a (u, 1))).2.natAbs (L16 (addR (x, 1) (mulR a (u, 1))).1.natAbs) (L16 (addR (x, 1) (mulR a (u, 1))).2.natAbs)) :=
    fun {x u} hx hu A c D e E f G g W _ dA dD dE dG => by
     have hx' : x.natAbs ≤ 67108864 := by unfold Bd at hx; omega
     have q1 : (mulR a (u, 1)).1.natAbs ≤ 36028797018963968 * 134217728 := Nat.le_trans fr_le.1 (mul_le2 n1 (wy_abs hu))
     have q2 : (mulR a (u, 1)).2.natAbs ≤ 36028797018963968 := Nat.le_trans fr_le.2 (by show (a.2 * 1).natAbs ≤ _; rw [Int.mul_one]; exact n2)
     have q3 : 0 < (mulR a (u, 1)).2 := frD_pos (by show a.2 * 1 ≠ 0; rw [Int.mul_one]; omega)
     generalize mulR a (u, 1) = m at *
     have q4 : (x * m.2).natAbs ≤ 67108864 * 36028797018963968 := mul_le2 hx' q2
     exact radd_any x 1 m.1 m.2 A D E G c e f g W (by decide) q3 (le_T hx' T26) (by decide) (le_T q1 T82) (le_T q2 T55) (le_T q4 (by decide)) (by rw [Int.mul_one]; exact le_T q1 T82)
      (by rw [Int.mul_one]; exact le_T (Nat.le_trans (Int.natAbs_add_le _ _) (Nat.add_le_add q4 q1)) (by decide)) (by rw [Int.one_mul]; exact le_T q2 T55) dA dD dE dG
   refine (of_touch s.ax s.ay s.bx s.bY t.ax t.ay t.bx t.bY _ _ _ _ _ _ d p q (decide (p < 0)) (decide (q < 0)) (decide (d < 0)) (decide (a.1 < 0)) (decide (frN q d < 0)) p.natAbs q.natAbs d.natAbs (L16 p.natAbs) (L16 q.natAbs) (L16 d.natAbs) a.1.natAbs a.2.natAbs (L16 a.1.natAbs) (L16 a.2.natAbs) (frN q d).natAbs (frD q d).natAbs (L16 (frN q d).natAbs) (L16 (frD q d).natAbs)
    _ _ _ _ _ _ _ _ _ _ _ _ _ _ _ _ _ _ _ _ _ _ _ _ _ _ _ _ _ _ _ _ _ w (wy_wrap wux) (wy_wrap wuy) (wy_wrap wvx) (wy_wrap wvy) (wy_wrap wzx) (wy_wrap wzy) hd' c1 c2 (num_bg p mp) (num_bg d md) H5 c6 (num_bg q mq) H8 H9 H10
    (fun W => rnum_any s.ax W (in_i64 hs.1).1 (in_i64 hs.1).2) (fun W => rnum_any (s.bx - s.ax) W (by unfold Wy at wux; omega) (by unfold Wy at wux; omega)) (fun W => rnum_any s.ay W (in_i64 hs.2.1).1 (in_i64 hs.2.1).2) (fun W => rnum_any (s.bY - s.ay) W (by unfold Wy at wuy; omega) (by unfold Wy at wuy; omega))
    (hmul wux) (hadd hs.1 wux) (hmul wuy) (hadd hs.2.1 wuy)).mono ?_
   rintro e w' ⟨A, c, D, c', E, f, G, g, rfl, hD, hb⟩
   exact .inr ⟨by show (1 : Int) ≠ 0; decide, A, c, D, c', E, f, G, g, A, c, D, c', E, f, G, g, rfl, hD, hD, hb⟩
  ·rw [if_neg hin]
   refine (of_out s.ax s.ay s.bx s.bY t.ax t.ay t.bx t.bY _ _ _ _ _ _ d p q (decide (p < 0)) (decide (q < 0)) (decide (d < 0)) (decide (frN p d < 0)) (decide (frN q d < 0)) p.natAbs q.natAbs d.natAbs (L16 p.natAbs) (L16 q.natAbs) (L16 d.natAbs) (frN p d).natAbs (frD p d).natAbs (L16 (frN p d).natAbs) (L16 (frD p d).natAbs) (frN q d).natAbs (frD q d).natAbs (L16 (frN q d).natAbs) (L16 (frD q d).natAbs)
    (inR (mkR p d)) (inR (mkR q d)) ?_ w (wy_wrap wux) (wy_wrap wuy) (wy_wrap wvx) (wy_wrap wvy) (wy_wrap wzx) (wy_wrap wzy) hd' c1 c2 (num_bg p mp) (num_bg d md) H5 c6 (num_bg q mq) H8 H9 H10).mono fun e w' h => .inl ⟨rfl, h⟩
   revert hin
   cases inR (mkR p d) <;> cases inR (mkR q d) <;> simp
theorem ptout_good (p : Pt) (A B E G : Option Addr) (a b f g : Nat) (W : World) (hp : GoodP p) (hD : PtD p A B E G W) :
 Calls Tryz.prog 41 #[.agg #[.bool (decide (p.xn < 0)), .slice A (L16 p.xn.natAbs) a, .bool false, .slice B (L16 p.xd.natAbs) b, .bool (decide (p.yn < 0)), .slice E (L16 p.yn.natAbs) f, .bool false, .slice G (L16 p.yd.natAbs) g]] W fun e w' => e = .returned (.tuple #[.agg (ptA p), .int .i64 0]) ∧ Below W.heap.size W w' := by
 obtain ⟨h1, h2⟩ := hp
 obtain ⟨dA, dB, dE, dG⟩ := hD
 have l1 := good_L h1
 have l2 := good_L h2
 exact ptout_core _ _ _ _ A B E G _ a _ b _ f _ g (ratA p.xn p.xd) (ratA p.yn p.yd) rfl rfl (ratA_one _ _) (ratA_one _ _) W
  (fun W hW => rout_good _ _ A B a b W h1.1 (good_T h1).1 (good_T h1).2 (dA.below hW) (dB.below hW)) (fun W hW => rout_good _ _ E G f g W h2.1 (good_T h2).1 (good_T h2).2 (dE.below hW) (dG.below hW))
  (fun W => fits_any _ _ A B _ a _ b W l1.1 l1.2) (fun W => fits_any _ _ E G _ f _ g W l2.1 l2.2)
end Go.Proofs.YtcabndpmfkimgaaGreatDoor

namespace Go.Proofs.YtcabndpmfkimgaaGreatDoor
open Go.RowKit Go.Sort CrossMath

def allNe (r : Nat → Int) : Nat → Bool
 | 0 => true
 | k + 1 => allNe r k && (r k != 0)
theorem agg_nodes : AggTy Tryz.prog 55 8 := .of _ Tryz.underlying55 rfl (by kernel_rfl)
abbrev z17 : List Value := [.int .i64 0, .bool false, .slice none 0 0, .bool false, .slice none 0 0, .bool false, .slice none 0 0, .bool false, .slice none 0 0, .bool false, .slice none 0 0, .bool false, .slice none 0 0, .bool false, .slice none 0 0, .bool false, .slice none 0 0]
abbrev z8 : List Value := [.int .i64 0, .int .i64 0, .int .i64 0, .int .i64 0, .int .i64 0, .int .i64 0, .int .i64 0, .int .i64 0]
theorem allNe_more {r : Nat → Int} {n : Nat} (h : allNe r n = false) : ∀ d, allNe r (n + d) = false
 | 0 => h
 | d + 1 => by show (allNe r (n + d) && (r (n + d) != 0)) = false; rw [allNe_more h d]; rfl
theorem allNe_stop {r : Nat → Int} {c0 : Bool} {n : Nat} (hn : n ≤ 4) (h : false = (c0 && allNe r n)) : (c0 && allNe r 4) = false := by
 cases c0 with
 | false => rfl
 | true => have := allNe_more (r := r) (n := n) (by simpa using h.symm) (4 - n); rwa [show n + (4 - n) = 4 by omega] at this
def KWx (W0 W : World) : Prop := Below W0.heap.size W0 W
theorem KWx.drew {W0 W : World} (h : KWx W0 W) : KWx W0 W.drew := Below.drew h
theorem KWx.after {W0 W W1 : World} (h : KWx W0 W) (hb : Below W.heap.size W W1) : KWx W0 W1 := Below.trans h (hb.mono h.size)
set_option maxRecDepth 100000 in
set_option maxHeartbeats 12800000 in
theorem meets_core (ax ay bx bY cx cy dx dY k : Int) (z : Array Value) (cr c0 : Bool) (r : Nat → Int) (G : Array Value → World → Prop) (D : Nat → Array Value → World → Prop) (w : World) (hc0 : (k == 1) = c0) (hcr : cr = (c0 && allNe r 4)) (sz : z.size = 41) (oz : OneC z) (ez : ∀ W, (binOp .eql 36 (.agg z) (.agg z)).run Tryz.prog W = .ok (.bool true) W)
 (hM : ∀ W, Below w.heap.size w W → Calls Tryz.prog 7 #[.agg (segA ax ay bx bY), .agg (segA cx cy dx dY)] W fun e w' => e = .returned (.tuple #[.agg z, .int .i64 0]) ∧ Below W.heap.size W w')
 (hC : ∀ W, Calls Tryz.prog 8 #[.agg (segA ax ay bx bY), .agg (segA cx cy dx dY)] W fun e w' => e = .returned (.tuple #[.bool cr, .int .i64 0]) ∧ Below W.heap.size W w')
 (hR1 : ∀ W, Calls Tryz.prog 9 #[.agg (segA ax ay bx bY)] W fun e w' => e = .returned (.bool true) ∧ Below W.heap.size W w')
 (hR2 : ∀ W, Calls Tryz.prog 9 #[.agg (segA cx cy dx dY)] W fun e w' => e = .returned (.bool true) ∧ Below W.heap.size W w')
 (hO : ∀ W, Calls Tryz.prog 12 #[.agg (segA ax ay bx bY), .agg (segA cx cy dx dY)] W fun e w' => ∃ p0 p1 p2 p3 p4 p5 p6 p7 p8 p9 p10 p11 p12 p13 p14 p15, e = .returned (.agg #[.int .i64 k, p0, p1, p2, p3, p4, p5, p6, p7, p8, p9, p10, p11, p12, p13, p14, p15]) ∧ OneC #[.int .i64 k, p0, p1, p2, p3, p4, p5, p6, p7, p8, p9, p10, p11, p12, p13, p14, p15] ∧ G #[.int .i64 k, p0, p1, p2, p3, p4, p5, p6, p7, p8, p9, p10, p11, p12, p13, p14, p15] w' ∧ Below W.heap.size W w')
 (hG : ∀ v W W', G v W → Below W.heap.size W W' → G v W')
 (hF0 : ∀ W, Calls Tryz.prog 14 #[.agg #[.int .i64 ax, .int .i64 ay]] W fun e w' => ∃ u, e = .returned (.agg u) ∧ D 0 u w' ∧ Below W.heap.size W w')
 (hP0 : c0 = true → ∀ u p0 p1 p2 p3 p4 p5 p6 p7 p8 p9 p10 p11 p12 p13 p14 p15 W, D 0 u W → G #[.int .i64 k, p0, p1, p2, p3, p4, p5, p6, p7, p8, p9, p10, p11, p12, p13, p14, p15] W → Calls Tryz.prog 13 #[.agg u, .agg #[p0, p1, p2, p3, p4, p5, p6, p7]] W fun e w' => e = .returned (.int .i64 (r 0)) ∧ Below W.heap.size W w')
 (hF1 : ∀ W, Calls Tryz.prog 14 #[.agg #[.int .i64 bx, .int .i64 bY]] W fun e w' => ∃ u, e = .returned (.agg u) ∧ D 1 u w' ∧ Below W.heap.size W w')
 (hP1 : c0 = true → ∀ u p0 p1 p2 p3 p4 p5 p6 p7 p8 p9 p10 p11 p12 p13 p14 p15 W, D 1 u W → G #[.int .i64 k, p0, p1, p2, p3, p4, p5, p6, p7, p8, p9, p10, p11, p12, p13, p14, p15] W → Calls Tryz.prog 13 #[.agg u, .agg #[p0, p1, p2, p3, p4, p5, p6, p7]] W fun e w' => e = .returned (.int .i64 (r 1)) ∧ Below W.heap.size W w')
 (hF2 : ∀ W, Calls Tryz.prog 14 #[.agg #[.int .i64 cx, .int .i64 cy]] W fun e w' => ∃ u, e = .returned (.agg u) ∧ D 2 u w' ∧ Below W.heap.size W w')
 (hP2 : c0 = true → ∀ u p0 p1 p2 p3 p4 p5 p6 p7 p8 p9 p10 p11 p12 p13 p14 p15 W, D 2 u W → G #[.int .i64 k, p0, p1, p2, p3, p4, p5, p6, p7, p8, p9, p10, p11, p12, p13, p14, p15] W → Calls Tryz.prog 13 #[.agg u, .agg #[p0, p1, p2, p3, p4, p5, p6, p7]] W fun e w' => e = .returned (.int .i64 (r 2)) ∧ Below W.heap.size W w')
 (hF3 : ∀ W, Calls Tryz.prog 14 #[.agg #[.int .i64 dx, .int .i64 dY]] W fun e w' => ∃ u, e = .returned (.agg u) ∧ D 3 u w' ∧ Below W.heap.size W w')
 (hP3 : c0 = true → ∀ u p0 p1 p2 p3 p4 p5 p6 p7 p8 p9 p10 p11 p12 p13 p14 p15 W, D 3 u W → G #[.int .i64 k, p0, p1, p2, p3, p4, p5, p6, p7, p8, p9, p10, p11, p12, p13, p14, p15] W → Calls Tryz.prog 13 #[.agg u, .agg #[p0, p1, p2, p3, p4, p5, p6, p7]] W fun e w' => e = .returned (.int .i64 (r 3)) ∧ Below W.heap.size W w')
 (hT : ∀ p0 p1 p2 p3 p4 p5 p6 p7 p8 p9 p10 p11 p12 p13 p14 p15 W, G #[.int .i64 k, p0, p1, p2, p3, p4, p5, p6, p7, p8, p9, p10, p11, p12, p13, p14, p15] W → Calls Tryz.prog 15 #[.agg #[.int .i64 k, p0, p1, p2, p3, p4, p5, p6, p7, p8, p9, p10, p11, p12, p13, p14, p15]] W fun e w' => e = .returned (.agg z) ∧ Below W.heap.size W w')
 (hN : ∀ W, Calls Tryz.prog 10 #[.int .i64 0] W fun e w' => e = .returned (.int .i64 0) ∧ Below W.heap.size W w')
 (hW : ∀ W, Below w.heap.size w W → Calls Tryz.prog 11 #[] W fun e w' => e = .returned (.bool true) ∧ Below W.heap.size W w') :
 Calls Tryz.prog 3 #[.agg (segA ax ay bx bY), .agg (segA cx cy dx dY)] w fun e w' => e = .returned (.bool true) ∧ Below w.heap.size w w' := by
 have H_M := Lib.hid hM; clear hM
 have H_C := Lib.hid hC; clear hC
 have H_R1 := Lib.hid hR1; clear hR1
 have H_R2 := Lib.hid hR2; clear hR2
 have H_O := Lib.hid hO; clear hO
 have H_G := Lib.hid hG; clear hG
 have H_T := Lib.hid hT; clear hT
 have H_N := Lib.hid hN; clear hN
 have H_W := Lib.hid hW; clear hW
 have H_F0 := Lib.hid hF0; clear hF0
 have H_F1 := Lib.hid hF1; clear hF1
 have H_F2 := Lib.hid hF2; clear hF2
 have H_F3 := Lib.hid hF3; clear hF3
 have H_P0 := Lib.hid hP0; clear hP0
 have H_P1 := Lib.hid hP1; clear hP1
 have H_P2 := Lib.hid hP2; clear hP2
 have H_P3 := Lib.hid hP3; clear hP3
 have HC0 := Lib.hid hc0; clear hc0
 have HCR := Lib.hid hcr; clear hcr
 have H_sz := Lib.hid sz
 have H_oz := Lib.hid oz; clear oz
 have H_ez := Lib.hid ez; clear ez
 have H_tz := Lib.hid (show AggTy Tryz.prog 36 z.size by rw [sz]; exact agg_meet)
 clear sz
 go_enter Tryz.func3, Tryz.ntmps3
 go_upto_region 1 with fail
 generalize hW0 : World.alloc _ _ = W0
 have hK : KS w ([] ++ [(w.heap.size, segA ax ay bx bY)] ++ [(w.heap.size + 1, segA cx cy dx dY)]) W0 := by rw [← hW0]; exact ((KS.nil w).boxed rfl _ _).boxed (by simp) _ _
 clear hW0
 generalize hL : [] ++ [(w.heap.size, segA ax ay bx bY)] ++ [(w.heap.size + 1, segA cx cy dx dY)] = L at hK
 have HL := Lib.hid hL; clear hL
 have x0 := hK.c 0 (b := w.heap.size) (cs := segA ax ay bx bY) (by rw [← HL.out]; rfl) 0 rfl
 have x1 := hK.c 0 (b := w.heap.size) (cs := segA ax ay bx bY) (by rw [← HL.out]; rfl) 1 rfl
 have x2 := hK.c 0 (b := w.heap.size) (cs := segA ax ay bx bY) (by rw [← HL.out]; rfl) 2 rfl
 have x3 := hK.c 0 (b := w.heap.size) (cs := segA ax ay bx bY) (by rw [← HL.out]; rfl) 3 rfl
 have z0 := hK.c 1 (b := w.heap.size + 1) (cs := segA cx cy dx dY) (by rw [← HL.out]; rfl) 0 rfl
 have z1 := hK.c 1 (b := w.heap.size + 1) (cs := segA cx cy dx dY) (by rw [← HL.out]; rfl) 1 rfl
 have z2 := hK.c 1 (b := w.heap.size + 1) (cs := segA cx cy dx dY) (by rw [← HL.out]; rfl) 2 rfl
 have z3 := hK.c 1 (b := w.heap.size + 1) (cs := segA cx cy dx dY) (by rw [← HL.out]; rfl) 3 rfl
 go_wp2_with fail
 refine (H_M.out _ hK.2).mono ?_
 rintro e w1 ⟨rfl, hb⟩
 replace hK := hK.after hb
 clear hb
 clear x0 x1 x2 x3 z0 z1 z2 z3
 go_upto_region 2 with (refine wpList_store_R rfl _ _ _ rfl _ z rfl rfl _ (Row.at rfl zero_meet.toList _) (by rw [H_sz.out]; rfl) H_tz.out H_oz.out ?_; intro w2 r2 o2)
 replace hK := hK.wroteB o2 r2
 clear r2 o2
 generalize w1.heap.size = bm at *
 rw [← HL.out] at hK
 clear HL
 generalize hL : [] ++ [(w.heap.size, segA ax ay bx bY)] ++ [(w.heap.size + 1, segA cx cy dx dY)] ++ [(bm, z)] = L at hK
 have HL := Lib.hid hL; clear hL
 have x0 := hK.c 0 (b := w.heap.size) (cs := segA ax ay bx bY) (by rw [← HL.out]; rfl) 0 rfl
 have x1 := hK.c 0 (b := w.heap.size) (cs := segA ax ay bx bY) (by rw [← HL.out]; rfl) 1 rfl
 have x2 := hK.c 0 (b := w.heap.size) (cs := segA ax ay bx bY) (by rw [← HL.out]; rfl) 2 rfl
 have x3 := hK.c 0 (b := w.heap.size) (cs := segA ax ay bx bY) (by rw [← HL.out]; rfl) 3 rfl
 have z0 := hK.c 1 (b := w.heap.size + 1) (cs := segA cx cy dx dY) (by rw [← HL.out]; rfl) 0 rfl
 have z1 := hK.c 1 (b := w.heap.size + 1) (cs := segA cx cy dx dY) (by rw [← HL.out]; rfl) 1 rfl
 have z2 := hK.c 1 (b := w.heap.size + 1) (cs := segA cx cy dx dY) (by rw [← HL.out]; rfl) 2 rfl
 have z3 := hK.c 1 (b := w.heap.size + 1) (cs := segA cx cy dx dY) (by rw [← HL.out]; rfl) 3 rfl
 go_wp2_with fail
 refine (H_C.out _).mono ?_
 rintro e w1 ⟨rfl, hb⟩
 replace hK := hK.after hb
 clear hb
 clear x0 x1 x2 x3 z0 z1 z2 z3
 have x0 := hK.c 0 (b := w.heap.size) (cs := segA ax ay bx bY) (by rw [← HL.out]; rfl) 0 rfl
 have x1 := hK.c 0 (b := w.heap.size) (cs := segA ax ay bx bY) (by rw [← HL.out]; rfl) 1 rfl
 have x2 := hK.c 0 (b := w.heap.size) (cs := segA ax ay bx bY) (by rw [← HL.out]; rfl) 2 rfl
 have x3 := hK.c 0 (b := w.heap.size) (cs := segA ax ay bx bY) (by rw [← HL.out]; rfl) 3 rfl
 go_wp2_with fail
 refine (H_R1.out _).mono ?_
 rintro e w1 ⟨rfl, hb⟩
 replace hK := hK.after hb
 clear hb
 clear x0 x1 x2 x3
 have z0 := hK.c 1 (b := w.heap.size + 1) (cs := segA cx cy dx dY) (by rw [← HL.out]; rfl) 0 rfl
 have z1 := hK.c 1 (b := w.heap.size + 1) (cs := segA cx cy dx dY) (by rw [← HL.out]; rfl) 1 rfl
 have z2 := hK.c 1 (b := w.heap.size + 1) (cs := segA cx cy dx dY) (by rw [← HL.out]; rfl) 2 rfl
 have z3 := hK.c 1 (b := w.heap.size + 1) (cs := segA cx cy dx dY) (by rw [← HL.out]; rfl) 3 rfl
 go_wp2_with fail
 refine (H_R2.out _).mono ?_
 rintro e w1 ⟨rfl, hb⟩
 replace hK := hK.after hb
 clear hb
 clear z0 z1 z2 z3
 have x0 := hK.c 0 (b := w.heap.size) (cs := segA ax ay bx bY) (by rw [← HL.out]; rfl) 0 rfl
 have x1 := hK.c 0 (b := w.heap.size) (cs := segA ax ay bx bY) (by rw [← HL.out]; rfl) 1 rfl
 have x2 := hK.c 0 (b := w.heap.size) (cs := segA ax ay bx bY) (by rw [← HL.out]; rfl) 2 rfl
 have x3 := hK.c 0 (b := w.heap.size) (cs := segA ax ay bx bY) (by rw [← HL.out]; rfl) 3 rfl
 have z0 := hK.c 1 (b := w.heap.size + 1) (cs := segA cx cy dx dY) (by rw [← HL.out]; rfl) 0 rfl
 have z1 := hK.c 1 (b := w.heap.size + 1) (cs := segA cx cy dx dY) (by rw [← HL.out]; rfl) 1 rfl
 have z2 := hK.c 1 (b := w.heap.size + 1) (cs := segA cx cy dx dY) (by rw [← HL.out]; rfl) 2 rfl
 have z3 := hK.c 1 (b := w.heap.size + 1) (cs := segA cx cy dx dY) (by rw [← HL.out]; rfl) 3 rfl
 go_wp2_with fail
 refine (H_O.out _).mono ?_
 rintro e w1 ⟨p0, p1, p2, p3, p4, p5, p6, p7, p8, p9, p10, p11, p12, p13, p14, p15, rfl, hone, hg, hb⟩
 replace hK := hK.after hb
 clear hb
 clear x0 x1 x2 x3 z0 z1 z2 z3
 have H_one := Lib.hid hone; clear hone
 go_upto_region 6 with (refine wpList_store_R rfl _ _ _ rfl _ #[.int .i64 k, p0, p1, p2, p3, p4, p5, p6, p7, p8, p9, p10, p11, p12, p13, p14, p15] rfl rfl _ (Row.at rfl z17 _) (by rfl) agg_rmeet H_one.out ?_; intro w2 r2 o2)
 have hg2 := H_G.out _ _ _ hg (below_on ((Below.refl _ _).alloc (Nat.le_refl _) _) o2 (Nat.le_refl _))
 replace hK := hK.wroteB o2 r2
 have HG := Lib.hid hg2; clear hg hg2
 clear r2 o2
 generalize w1.heap.size = bo at *
 rw [← HL.out] at hK
 clear HL
 generalize hL : [] ++ [(w.heap.size, segA ax ay bx bY)] ++ [(w.heap.size + 1, segA cx cy dx dY)] ++ [(bm, z)] ++ [(bo, #[.int .i64 k, p0, p1, p2, p3, p4, p5, p6, p7, p8, p9, p10, p11, p12, p13, p14, p15])] = L at hK
 have HL := Lib.hid hL; clear hL
 have e0 := HC0.out
 have x0 := hK.c 0 (b := w.heap.size) (cs := segA ax ay bx bY) (by rw [← HL.out]; rfl) 0 rfl
 have x1 := hK.c 0 (b := w.heap.size) (cs := segA ax ay bx bY) (by rw [← HL.out]; rfl) 1 rfl
 have x2 := hK.c 0 (b := w.heap.size) (cs := segA ax ay bx bY) (by rw [← HL.out]; rfl) 2 rfl
 have x3 := hK.c 0 (b := w.heap.size) (cs := segA ax ay bx bY) (by rw [← HL.out]; rfl) 3 rfl
 have z0 := hK.c 1 (b := w.heap.size + 1) (cs := segA cx cy dx dY) (by rw [← HL.out]; rfl) 0 rfl
 have z1 := hK.c 1 (b := w.heap.size + 1) (cs := segA cx cy dx dY) (by rw [← HL.out]; rfl) 1 rfl
 have z2 := hK.c 1 (b := w.heap.size + 1) (cs := segA cx cy dx dY) (by rw [← HL.out]; rfl) 2 rfl
 have z3 := hK.c 1 (b := w.heap.size + 1) (cs := segA cx cy dx dY) (by rw [← HL.out]; rfl) 3 rfl
 have y0 := hK.c 3 (b := bo) (cs := #[.int .i64 k, p0, p1, p2, p3, p4, p5, p6, p7, p8, p9, p10, p11, p12, p13, p14, p15]) (by rw [← HL.out]; rfl) 0 rfl
 go_upto_region 8 with (refine wpList_store_R rfl _ _ _ rfl _ #[.int .i64 ax, .int .i64 ay, .int .i64 bx, .int .i64 bY, .int .i64 cx, .int .i64 cy, .int .i64 dx, .int .i64 dY] rfl rfl _ (Row.at rfl z8 _) (by rfl) agg_nodes (by simp [OneC, Value.oneCell']) ?_; intro w3 r3 o3)
 have hg3 := H_G.out _ _ _ HG.out (below_on ((Below.refl _ _).alloc (Nat.le_refl _) _) o3 (Nat.le_refl _))
 replace hK := hK.wroteB o3 r3
 have HG3 := Lib.hid hg3; clear hg3 HG o3 r3 y0 e0
 clear x0 x1 x2 x3 z0 z1 z2 z3
 generalize w2.heap.size = bn at *
 rw [← HL.out] at hK
 have HRz := Lib.hid (hK.row 2 (b := bm) (cs := z) rfl)
 have HRv := Lib.hid (hK.row 3 (b := bo) (cs := #[.int .i64 k, p0, p1, p2, p3, p4, p5, p6, p7, p8, p9, p10, p11, p12, p13, p14, p15]) rfl)
 have HRn := Lib.hid (hK.row 4 (b := bn) (cs := #[.int .i64 ax, .int .i64 ay, .int .i64 bx, .int .i64 bY, .int .i64 cx, .int .i64 cy, .int .i64 dx, .int .i64 dY]) rfl)
 have HB := Lib.hid hK.2
 have HGW := Lib.hid (fun W (h : Below w3.heap.size w3 W) => H_G.out _ _ W HG3.out h)
 have HT := Lib.hid (fun W (h : Below w3.heap.size w3 W) => H_T.out p0 p1 p2 p3 p4 p5 p6 p7 p8 p9 p10 p11 p12 p13 p14 p15 W (HGW.out W h))
 clear HL hK H_one
 go_wp2_with fail
 go_loopw [10, 12] (fun c i wr => ∃ (n : Nat) (b : Bool), n ≤ 4 ∧ i = .int .i64 n ∧ c = .bool b ∧ Hid (b = (c0 && allNe r n)) ∧ Hid (Below w3.heap.size w3 wr)) (fun _ i _ => 4 - (intOf i).toNat)
 case atStart => exact ⟨0, c0, by omega, rfl, rfl, Lib.hid (by simp [allNe]), Lib.hid (Below.refl _ _)⟩
 case round =>
  obtain ⟨n, b, hn, hi, rfl, hbn, HW⟩ := hrel
  by_cases h4 : n = 4
  ·subst h4
   obtain rfl : cr = b := by rw [HCR.out]; exact hbn.out.symm
   have hi4 : _ = Value.int .i64 4 := hi
   subst hi4
   clear hn hbn hi
   go_wp2_with fail
   refine wp_region_fct (by kernel_rfl) [4, 9, 17] (fun ix => match ix with
    | 0 => some (Value.agg z)
    | 1 => some (Value.agg #[.int .i64 k, p0, p1, p2, p3, p4, p5, p6, p7, p8, p9, p10, p11, p12, p13, p14, p15])
    | 2 => some (Value.agg z)
    | 3 => some (Value.bool true)
    | 4 => some (Value.bool true)
    | 5 => some (Value.bool cr)
    | 6 => some (Value.bool cr)
    | 7 => some (Value.bool true)
    | 8 => some (Value.bool true)
    | 9 => some (Value.bool true)
    | 10 => some (Value.int .i64 0)
    | 11 => some (Value.int .i64 0)
    | 12 => some (Value.int .i64 0)
    | 13 => some (Value.int .i64 0)
    | 14 => some (Value.int .i64 0)
    | 15 => some (Value.bool true)
    | 16 => some (Value.bool true)
    | 17 => some (Value.bool true)
    | 18 => some (Value.bool true)
    | 19 => some (Value.bool true)
    | 20 => some (Value.bool true)
    | _ => none) (by intro j hj; simp only [List.mem_cons, List.not_mem_nil, or_false] at hj; rcases hj with rfl | rfl | rfl <;> rfl) 21 [] (fun _ _ => False) (by kernel_rfl) (by kernel_rfl) (by rfl) ?_ ?_
   ·intro listed a W ix o hI ho hdep hB hF K hK hKf
    have hi : ix < 21 := (Array.getElem?_eq_some_iff.1 ho).1
    have hcase : ix = 0 ∨ ix = 1 ∨ ix = 2 ∨ ix = 3 ∨ ix = 4 ∨ ix = 5 ∨ ix = 6 ∨ ix = 7 ∨ ix = 8 ∨ ix = 9 ∨ ix = 10 ∨ ix = 11 ∨ ix = 12 ∨ ix = 13 ∨ ix = 14 ∨ ix = 15 ∨ ix = 16 ∨ ix = 17 ∨ ix = 18 ∨ ix = 19 ∨ ix = 20 := by omega
    clear hi
    rcases hcase with rfl | rfl | rfl | rfl | rfl | rfl | rfl | rfl | rfl | rfl | rfl | rfl | rfl | rfl | rfl | rfl | rfl | rfl | rfl | rfl | rfl
    ·obtain rfl := oI ho
     have q5 : a.tmps[5]?.getD undef = Value.pointer (some ⟨bm, 0, none⟩) := hI.old 5 (noDst_spec (by kernel_rfl))
     clear hdep hI ho hF
     refine wp_loadM _ _ rfl bm ((act_tmp a 5).trans q5) z (HRz.out.after (HW.out.trans (hB.mono HW.out.size))) H_tz.out ?_
     exact hK (by decide) (Value.agg z) _ (fun u hu => oV hu) (Below.refl _ _) (fct_none rfl)
    ·obtain rfl := oI ho
     have q9 : a.tmps[9]?.getD undef = Value.pointer (some ⟨bo, 0, none⟩) := hI.old 9 (noDst_spec (by kernel_rfl))
     clear hdep hI ho hF
     refine wp_loadM _ _ rfl bo ((act_tmp a 9).trans q9) #[.int .i64 k, p0, p1, p2, p3, p4, p5, p6, p7, p8, p9, p10, p11, p12, p13, p14, p15] (HRv.out.after (HW.out.trans (hB.mono HW.out.size))) agg_rmeet ?_
     exact hK (by decide) (Value.agg #[.int .i64 k, p0, p1, p2, p3, p4, p5, p6, p7, p8, p9, p10, p11, p12, p13, p14, p15]) _ (fun u hu => oV hu) (Below.refl _ _) (fct_none rfl)
    ·obtain rfl := oI ho
     have d1 : listed.getD 1 false = true := hdep ⟨1, .data⟩ (by simp) rfl
     have q84 : a.tmps[84]?.getD undef = Value.agg #[.int .i64 k, p0, p1, p2, p3, p4, p5, p6, p7, p8, p9, p10, p11, p12, p13, p14, p15] := hI.val 1 _ 84 _ rfl rfl rfl d1
     clear hdep hI ho hF
     go_simp
     refine (HT.out _ (HW.out.trans (hB.mono HW.out.size))).mono ?_
     rintro e W2 ⟨rfl, hb⟩
     exact hK (by decide) (Value.agg z) _ (fun u hu => oV hu) hb (fct_none rfl)
    ·obtain rfl := oI ho
     have d0 : listed.getD 0 false = true := hdep ⟨0, .data⟩ (by simp) rfl
     have d2 : listed.getD 2 false = true := hdep ⟨2, .data⟩ (by simp) rfl
     have q83 : a.tmps[83]?.getD undef = Value.agg z := hI.val 0 _ 83 _ rfl rfl rfl d0
     have q85 : a.tmps[85]?.getD undef = Value.agg z := hI.val 2 _ 85 _ rfl rfl rfl d2
     clear hdep hI ho hF
     refine wp_eqlM _ _ _ _ rfl z z true ((act_tmp a 83).trans q83) ((act_tmp a 85).trans q85) (eqg_meet _ _ _ _ _) (H_ez.out _) ?_
     exact hK (by decide) (Value.bool true) _ (fun u hu => oV hu) (Below.refl _ _) (fct_none rfl)
    ·obtain rfl := oI ho
     have d3 : listed.getD 3 false = true := hdep ⟨3, .data⟩ (by simp) rfl
     have q86 : a.tmps[86]?.getD undef = Value.bool true := hI.val 3 _ 86 _ rfl rfl rfl d3
     clear hdep hI ho hF
     go_simp
     exact hK (by decide) (Value.bool true) _ (fun u hu => oV hu) (Below.refl _ _) (fct_none rfl)
    ·obtain rfl := oI ho
     have q7 : a.tmps[7]?.getD undef = Value.bool cr := hI.old 7 (noDst_spec (by kernel_rfl))
     clear hdep hI ho hF
     go_simp
     exact hK (by decide) (Value.bool cr) _ (fun u hu => oV hu) (Below.refl _ _) (fct_none rfl)
    ·obtain rfl := oI ho
     have q10 : a.tmps[10]?.getD undef = Value.bool cr := hI.old 10 (noDst_spec (by kernel_rfl))
     clear hdep hI ho hF
     go_simp
     exact hK (by decide) (Value.bool cr) _ (fun u hu => oV hu) (Below.refl _ _) (fct_none rfl)
    ·obtain rfl := oI ho
     have d5 : listed.getD 5 false = true := hdep ⟨5, .data⟩ (by simp) rfl
     have q88 : a.tmps[88]?.getD undef = Value.bool cr := hI.val 5 _ 88 _ rfl rfl rfl d5
     have d6 : listed.getD 6 false = true := hdep ⟨6, .data⟩ (by simp) rfl
     have q89 : a.tmps[89]?.getD undef = Value.bool cr := hI.val 6 _ 89 _ rfl rfl rfl d6
     clear hdep hI ho hF
     go_simp
     exact hK (by decide) (Value.bool true) _ (fun u hu => oV hu) (Below.refl _ _) (fct_none rfl)
    ·obtain rfl := oI ho
     have d4 : listed.getD 4 false = true := hdep ⟨4, .data⟩ (by simp) rfl
     have q87 : a.tmps[87]?.getD undef = Value.bool true := hI.val 4 _ 87 _ rfl rfl rfl d4
     have d7 : listed.getD 7 false = true := hdep ⟨7, .data⟩ (by simp) rfl
     have q90 : a.tmps[90]?.getD undef = Value.bool true := hI.val 7 _ 90 _ rfl rfl rfl d7
     clear hdep hI ho hF
     go_simp
     exact hK (by decide) (Value.bool true) _ (fun u hu => oV hu) (Below.refl _ _) (fct_none rfl)
    ·obtain rfl := oI ho
     have d8 : listed.getD 8 false = true := hdep ⟨8, .data⟩ (by simp) rfl
     have q91 : a.tmps[91]?.getD undef = Value.bool true := hI.val 8 _ 91 _ rfl rfl rfl d8
     clear hdep hI ho hF
     go_simp
     exact hK (by decide) (Value.bool true) _ (fun u hu => oV hu) (Below.refl _ _) (fct_none rfl)
    ·obtain rfl := oI ho
     have q6 : a.tmps[6]?.getD undef = Value.int .i64 0 := hI.old 6 (noDst_spec (by kernel_rfl))
     clear hdep hI ho hF
     go_simp
     exact hK (by decide) (Value.int .i64 0) _ (fun u hu => oV hu) (Below.refl _ _) (fct_none rfl)
    ·obtain rfl := oI ho
     have d10 : listed.getD 10 false = true := hdep ⟨10, .data⟩ (by simp) rfl
     have q93 : a.tmps[93]?.getD undef = Value.int .i64 0 := hI.val 10 _ 93 _ rfl rfl rfl d10
     clear hdep hI ho hF
     go_simp
     refine (H_N.out _).mono ?_
     rintro e W2 ⟨rfl, hb⟩
     exact hK (by decide) (Value.int .i64 0) _ (fun u hu => oV hu) hb (fct_none rfl)
    ·obtain rfl := oI ho
     have q8 : a.tmps[8]?.getD undef = Value.int .i64 0 := hI.old 8 (noDst_spec (by kernel_rfl))
     clear hdep hI ho hF
     go_simp
     exact hK (by decide) (Value.int .i64 0) _ (fun u hu => oV hu) (Below.refl _ _) (fct_none rfl)
    ·obtain rfl := oI ho
     have d12 : listed.getD 12 false = true := hdep ⟨12, .data⟩ (by simp) rfl
     have q95 : a.tmps[95]?.getD undef = Value.int .i64 0 := hI.val 12 _ 95 _ rfl rfl rfl d12
     clear hdep hI ho hF
     go_simp
     refine (H_N.out _).mono ?_
     rintro e W2 ⟨rfl, hb⟩
     exact hK (by decide) (Value.int .i64 0) _ (fun u hu => oV hu) hb (fct_none rfl)
    ·obtain rfl := oI ho
     have d11 : listed.getD 11 false = true := hdep ⟨11, .data⟩ (by simp) rfl
     have q94 : a.tmps[94]?.getD undef = Value.int .i64 0 := hI.val 11 _ 94 _ rfl rfl rfl d11
     have d13 : listed.getD 13 false = true := hdep ⟨13, .data⟩ (by simp) rfl
     have q96 : a.tmps[96]?.getD undef = Value.int .i64 0 := hI.val 13 _ 96 _ rfl rfl rfl d13
     clear hdep hI ho hF
     go_simp
     exact hK (by decide) (Value.int .i64 0) _ (fun u hu => oV hu) (Below.refl _ _) (fct_none rfl)
    ·obtain rfl := oI ho
     have d14 : listed.getD 14 false = true := hdep ⟨14, .data⟩ (by simp) rfl
     have q97 : a.tmps[97]?.getD undef = Value.int .i64 0 := hI.val 14 _ 97 _ rfl rfl rfl d14
     clear hdep hI ho hF
     go_simp
     exact hK (by decide) (Value.bool true) _ (fun u hu => oV hu) (Below.refl _ _) (fct_none rfl)
    ·obtain rfl := oI ho
     have d9 : listed.getD 9 false = true := hdep ⟨9, .data⟩ (by simp) rfl
     have q92 : a.tmps[92]?.getD undef = Value.bool true := hI.val 9 _ 92 _ rfl rfl rfl d9
     have d15 : listed.getD 15 false = true := hdep ⟨15, .data⟩ (by simp) rfl
     have q98 : a.tmps[98]?.getD undef = Value.bool true := hI.val 15 _ 98 _ rfl rfl rfl d15
     clear hdep hI ho hF
     go_simp
     exact hK (by decide) (Value.bool true) _ (fun u hu => oV hu) (Below.refl _ _) (fct_none rfl)
    ·obtain rfl := oI ho
     have d16 : listed.getD 16 false = true := hdep ⟨16, .data⟩ (by simp) rfl
     have q99 : a.tmps[99]?.getD undef = Value.bool true := hI.val 16 _ 99 _ rfl rfl rfl d16
     clear hdep hI ho hF
     go_simp
     exact hK (by decide) (Value.bool true) _ (fun u hu => oV hu) (Below.refl _ _) (fct_none rfl)
    ·obtain rfl := oI ho
     clear hdep hI ho hF
     go_simp
     refine (H_W.out _ (HB.out.trans ((HW.out.trans (hB.mono HW.out.size)).mono HB.out.size))).mono ?_
     rintro e W2 ⟨rfl, hb⟩
     exact hK (by decide) (Value.bool true) _ (fun u hu => oV hu) hb (fct_none rfl)
    ·obtain rfl := oI ho
     have d17 : listed.getD 17 false = true := hdep ⟨17, .data⟩ (by simp) rfl
     have q100 : a.tmps[100]?.getD undef = Value.bool true := hI.val 17 _ 100 _ rfl rfl rfl d17
     have d18 : listed.getD 18 false = true := hdep ⟨18, .data⟩ (by simp) rfl
     have q101 : a.tmps[101]?.getD undef = Value.bool true := hI.val 18 _ 101 _ rfl rfl rfl d18
     clear hdep hI ho hF
     go_simp
     exact hK (by decide) (Value.bool true) _ (fun u hu => oV hu) (Below.refl _ _) (fct_none rfl)
    ·obtain rfl := oI ho
     have d19 : listed.getD 19 false = true := hdep ⟨19, .data⟩ (by simp) rfl
     have q102 : a.tmps[102]?.getD undef = Value.bool true := hI.val 19 _ 102 _ rfl rfl rfl d19
     clear hdep hI ho hF
     go_simp
     exact hK (by decide) (Value.bool true) _ (fun u hu => oV hu) (Below.refl _ _) (fct_none rfl)
   ·intro listed a W hI hall hfin hend
    obtain ⟨hBW, _⟩ := hend rfl
    have q4 : a.tmps[4]?.getD undef = Value.bool true := hI.val 20 _ 4 _ rfl rfl rfl (hall 20 (by decide))
    have hdf : a.defers = [] := hI.defers
    have HE := Lib.hid (HB.out.trans ((HW.out.trans (hBW.mono HW.out.size)).mono HB.out.size))
    clear hBW hall hfin hend hI
    obtain ⟨tm, df⟩ := a
    simp only at hdf q4
    subst hdf
    go_wp2_with fail
    exact bodyPost_ret (v := .bool true) (by simp [results, Tryz.results3, go_sem, q4]) rfl ⟨rfl, HE.out⟩

  ·have hn4 : n < 4 := by omega
   cases b
   ·obtain rfl : cr = false := by rw [HCR.out]; exact allNe_stop hn hbn.out
    obtain ⟨i, hi'⟩ : ∃ i, i = (n : Int) := ⟨_, rfl⟩
    rw [← hi'] at hi
    subst hi
    have hlt : i < 4 := by omega
    clear hi' hn hbn h4 hn4
    go_wp2_with fail
    refine wp_region_fct (by kernel_rfl) [4, 9, 17] (fun ix => match ix with
     | 0 => some (Value.agg z)
     | 1 => some (Value.agg #[.int .i64 k, p0, p1, p2, p3, p4, p5, p6, p7, p8, p9, p10, p11, p12, p13, p14, p15])
     | 2 => some (Value.agg z)
     | 3 => some (Value.bool true)
     | 4 => some (Value.bool true)
     | 5 => some (Value.bool false)
     | 6 => some (Value.bool false)
     | 7 => some (Value.bool true)
     | 8 => some (Value.bool true)
     | 9 => some (Value.bool true)
     | 10 => some (Value.int .i64 0)
     | 11 => some (Value.int .i64 0)
     | 12 => some (Value.int .i64 0)
     | 13 => some (Value.int .i64 0)
     | 14 => some (Value.int .i64 0)
     | 15 => some (Value.bool true)
     | 16 => some (Value.bool true)
     | 17 => some (Value.bool true)
     | 18 => some (Value.bool true)
     | 19 => some (Value.bool true)
     | 20 => some (Value.bool true)
     | _ => none) (by intro j hj; simp only [List.mem_cons, List.not_mem_nil, or_false] at hj; rcases hj with rfl | rfl | rfl <;> rfl) 21 [] (fun _ _ => False) (by kernel_rfl) (by kernel_rfl) (by rfl) ?_ ?_
    ·intro listed a W ix o hI ho hdep hB hF K hK hKf
     have hi : ix < 21 := (Array.getElem?_eq_some_iff.1 ho).1
     have hcase : ix = 0 ∨ ix = 1 ∨ ix = 2 ∨ ix = 3 ∨ ix = 4 ∨ ix = 5 ∨ ix = 6 ∨ ix = 7 ∨ ix = 8 ∨ ix = 9 ∨ ix = 10 ∨ ix = 11 ∨ ix = 12 ∨ ix = 13 ∨ ix = 14 ∨ ix = 15 ∨ ix = 16 ∨ ix = 17 ∨ ix = 18 ∨ ix = 19 ∨ ix = 20 := by omega
     clear hi
     rcases hcase with rfl | rfl | rfl | rfl | rfl | rfl | rfl | rfl | rfl | rfl | rfl | rfl | rfl | rfl | rfl | rfl | rfl | rfl | rfl | rfl | rfl
     ·obtain rfl := oI ho
      have q5 : a.tmps[5]?.getD undef = Value.pointer (some ⟨bm, 0, none⟩) := hI.old 5 (noDst_spec (by kernel_rfl))
      clear hdep hI ho hF
      refine wp_loadM _ _ rfl bm ((act_tmp a 5).trans q5) z (HRz.out.after (HW.out.trans (hB.mono HW.out.size))) H_tz.out ?_
      exact hK (by decide) (Value.agg z) _ (fun u hu => oV hu) (Below.refl _ _) (fct_none rfl)
     ·obtain rfl := oI ho
      have q9 : a.tmps[9]?.getD undef = Value.pointer (some ⟨bo, 0, none⟩) := hI.old 9 (noDst_spec (by kernel_rfl))
      clear hdep hI ho hF
      refine wp_loadM _ _ rfl bo ((act_tmp a 9).trans q9) #[.int .i64 k, p0, p1, p2, p3, p4, p5, p6, p7, p8, p9, p10, p11, p12, p13, p14, p15] (HRv.out.after (HW.out.trans (hB.mono HW.out.size))) agg_rmeet ?_
      exact hK (by decide) (Value.agg #[.int .i64 k, p0, p1, p2, p3, p4, p5, p6, p7, p8, p9, p10, p11, p12, p13, p14, p15]) _ (fun u hu => oV hu) (Below.refl _ _) (fct_none rfl)
     ·obtain rfl := oI ho
      have d1 : listed.getD 1 false = true := hdep ⟨1, .data⟩ (by simp) rfl
      have q84 : a.tmps[84]?.getD undef = Value.agg #[.int .i64 k, p0, p1, p2, p3, p4, p5, p6, p7, p8, p9, p10, p11, p12, p13, p14, p15] := hI.val 1 _ 84 _ rfl rfl rfl d1
      clear hdep hI ho hF
      go_simp
      refine (HT.out _ (HW.out.trans (hB.mono HW.out.size))).mono ?_
      rintro e W2 ⟨rfl, hb⟩
      exact hK (by decide) (Value.agg z) _ (fun u hu => oV hu) hb (fct_none rfl)
     ·obtain rfl := oI ho
      have d0 : listed.getD 0 false = true := hdep ⟨0, .data⟩ (by simp) rfl
      have d2 : listed.getD 2 false = true := hdep ⟨2, .data⟩ (by simp) rfl
      have q83 : a.tmps[83]?.getD undef = Value.agg z := hI.val 0 _ 83 _ rfl rfl rfl d0
      have q85 : a.tmps[85]?.getD undef = Value.agg z := hI.val 2 _ 85 _ rfl rfl rfl d2
      clear hdep hI ho hF
      refine wp_eqlM _ _ _ _ rfl z z true ((act_tmp a 83).trans q83) ((act_tmp a 85).trans q85) (eqg_meet _ _ _ _ _) (H_ez.out _) ?_
      exact hK (by decide) (Value.bool true) _ (fun u hu => oV hu) (Below.refl _ _) (fct_none rfl)
     ·obtain rfl := oI ho
      have d3 : listed.getD 3 false = true := hdep ⟨3, .data⟩ (by simp) rfl
      have q86 : a.tmps[86]?.getD undef = Value.bool true := hI.val 3 _ 86 _ rfl rfl rfl d3
      clear hdep hI ho hF
      go_simp
      exact hK (by decide) (Value.bool true) _ (fun u hu => oV hu) (Below.refl _ _) (fct_none rfl)
     ·obtain rfl := oI ho
      have q7 : a.tmps[7]?.getD undef = Value.bool false := hI.old 7 (noDst_spec (by kernel_rfl))
      clear hdep hI ho hF
      go_simp
      exact hK (by decide) (Value.bool false) _ (fun u hu => oV hu) (Below.refl _ _) (fct_none rfl)
     ·obtain rfl := oI ho
      have q10 : a.tmps[10]?.getD undef = Value.bool false := hI.old 10 (noDst_spec (by kernel_rfl))
      clear hdep hI ho hF
      go_simp
      exact hK (by decide) (Value.bool false) _ (fun u hu => oV hu) (Below.refl _ _) (fct_none rfl)
     ·obtain rfl := oI ho
      have d5 : listed.getD 5 false = true := hdep ⟨5, .data⟩ (by simp) rfl
      have q88 : a.tmps[88]?.getD undef = Value.bool false := hI.val 5 _ 88 _ rfl rfl rfl d5
      have d6 : listed.getD 6 false = true := hdep ⟨6, .data⟩ (by simp) rfl
      have q89 : a.tmps[89]?.getD undef = Value.bool false := hI.val 6 _ 89 _ rfl rfl rfl d6
      clear hdep hI ho hF
      go_simp
      exact hK (by decide) (Value.bool true) _ (fun u hu => oV hu) (Below.refl _ _) (fct_none rfl)
     ·obtain rfl := oI ho
      have d4 : listed.getD 4 false = true := hdep ⟨4, .data⟩ (by simp) rfl
      have q87 : a.tmps[87]?.getD undef = Value.bool true := hI.val 4 _ 87 _ rfl rfl rfl d4
      have d7 : listed.getD 7 false = true := hdep ⟨7, .data⟩ (by simp) rfl
      have q90 : a.tmps[90]?.getD undef = Value.bool true := hI.val 7 _ 90 _ rfl rfl rfl d7
      clear hdep hI ho hF
      go_simp
      exact hK (by decide) (Value.bool true) _ (fun u hu => oV hu) (Below.refl _ _) (fct_none rfl)
     ·obtain rfl := oI ho
      have d8 : listed.getD 8 false = true := hdep ⟨8, .data⟩ (by simp) rfl
      have q91 : a.tmps[91]?.getD undef = Value.bool true := hI.val 8 _ 91 _ rfl rfl rfl d8
      clear hdep hI ho hF
      go_simp
      exact hK (by decide) (Value.bool true) _ (fun u hu => oV hu) (Below.refl _ _) (fct_none rfl)
     ·obtain rfl := oI ho
      have q6 : a.tmps[6]?.getD undef = Value.int .i64 0 := hI.old 6 (noDst_spec (by kernel_rfl))
      clear hdep hI ho hF
      go_simp
      exact hK (by decide) (Value.int .i64 0) _ (fun u hu => oV hu) (Below.refl _ _) (fct_none rfl)
     ·obtain rfl := oI ho
      have d10 : listed.getD 10 false = true := hdep ⟨10, .data⟩ (by simp) rfl
      have q93 : a.tmps[93]?.getD undef = Value.int .i64 0 := hI.val 10 _ 93 _ rfl rfl rfl d10
      clear hdep hI ho hF
      go_simp
      refine (H_N.out _).mono ?_
      rintro e W2 ⟨rfl, hb⟩
      exact hK (by decide) (Value.int .i64 0) _ (fun u hu => oV hu) hb (fct_none rfl)
     ·obtain rfl := oI ho
      have q8 : a.tmps[8]?.getD undef = Value.int .i64 0 := hI.old 8 (noDst_spec (by kernel_rfl))
      clear hdep hI ho hF
      go_simp
      exact hK (by decide) (Value.int .i64 0) _ (fun u hu => oV hu) (Below.refl _ _) (fct_none rfl)
     ·obtain rfl := oI ho
      have d12 : listed.getD 12 false = true := hdep ⟨12, .data⟩ (by simp) rfl
      have q95 : a.tmps[95]?.getD undef = Value.int .i64 0 := hI.val 12 _ 95 _ rfl rfl rfl d12
      clear hdep hI ho hF
      go_simp
      refine (H_N.out _).mono ?_
      rintro e W2 ⟨rfl, hb⟩
      exact hK (by decide) (Value.int .i64 0) _ (fun u hu => oV hu) hb (fct_none rfl)
     ·obtain rfl := oI ho
      have d11 : listed.getD 11 false = true := hdep ⟨11, .data⟩ (by simp) rfl
      have q94 : a.tmps[94]?.getD undef = Value.int .i64 0 := hI.val 11 _ 94 _ rfl rfl rfl d11
      have d13 : listed.getD 13 false = true := hdep ⟨13, .data⟩ (by simp) rfl
      have q96 : a.tmps[96]?.getD undef = Value.int .i64 0 := hI.val 13 _ 96 _ rfl rfl rfl d13
      clear hdep hI ho hF
      go_simp
      exact hK (by decide) (Value.int .i64 0) _ (fun u hu => oV hu) (Below.refl _ _) (fct_none rfl)
     ·obtain rfl := oI ho
      have d14 : listed.getD 14 false = true := hdep ⟨14, .data⟩ (by simp) rfl
      have q97 : a.tmps[97]?.getD undef = Value.int .i64 0 := hI.val 14 _ 97 _ rfl rfl rfl d14
      clear hdep hI ho hF
      go_simp
      exact hK (by decide) (Value.bool true) _ (fun u hu => oV hu) (Below.refl _ _) (fct_none rfl)
     ·obtain rfl := oI ho
      have d9 : listed.getD 9 false = true := hdep ⟨9, .data⟩ (by simp) rfl
      have q92 : a.tmps[92]?.getD undef = Value.bool true := hI.val 9 _ 92 _ rfl rfl rfl d9
      have d15 : listed.getD 15 false = true := hdep ⟨15, .data⟩ (by simp) rfl
      have q98 : a.tmps[98]?.getD undef = Value.bool true := hI.val 15 _ 98 _ rfl rfl rfl d15
      clear hdep hI ho hF
      go_simp
      exact hK (by decide) (Value.bool true) _ (fun u hu => oV hu) (Below.refl _ _) (fct_none rfl)
     ·obtain rfl := oI ho
      have d16 : listed.getD 16 false = true := hdep ⟨16, .data⟩ (by simp) rfl
      have q99 : a.tmps[99]?.getD undef = Value.bool true := hI.val 16 _ 99 _ rfl rfl rfl d16
      clear hdep hI ho hF
      go_simp
      exact hK (by decide) (Value.bool true) _ (fun u hu => oV hu) (Below.refl _ _) (fct_none rfl)
     ·obtain rfl := oI ho
      clear hdep hI ho hF
      go_simp
      refine (H_W.out _ (HB.out.trans ((HW.out.trans (hB.mono HW.out.size)).mono HB.out.size))).mono ?_
      rintro e W2 ⟨rfl, hb⟩
      exact hK (by decide) (Value.bool true) _ (fun u hu => oV hu) hb (fct_none rfl)
     ·obtain rfl := oI ho
      have d17 : listed.getD 17 false = true := hdep ⟨17, .data⟩ (by simp) rfl
      have q100 : a.tmps[100]?.getD undef = Value.bool true := hI.val 17 _ 100 _ rfl rfl rfl d17
      have d18 : listed.getD 18 false = true := hdep ⟨18, .data⟩ (by simp) rfl
      have q101 : a.tmps[101]?.getD undef = Value.bool true := hI.val 18 _ 101 _ rfl rfl rfl d18
      clear hdep hI ho hF
      go_simp
      exact hK (by decide) (Value.bool true) _ (fun u hu => oV hu) (Below.refl _ _) (fct_none rfl)
     ·obtain rfl := oI ho
      have d19 : listed.getD 19 false = true := hdep ⟨19, .data⟩ (by simp) rfl
      have q102 : a.tmps[102]?.getD undef = Value.bool true := hI.val 19 _ 102 _ rfl rfl rfl d19
      clear hdep hI ho hF
      go_simp
      exact hK (by decide) (Value.bool true) _ (fun u hu => oV hu) (Below.refl _ _) (fct_none rfl)
    ·intro listed a W hI hall hfin hend
     obtain ⟨hBW, _⟩ := hend rfl
     have q4 : a.tmps[4]?.getD undef = Value.bool true := hI.val 20 _ 4 _ rfl rfl rfl (hall 20 (by decide))
     have hdf : a.defers = [] := hI.defers
     have HE := Lib.hid (HB.out.trans ((HW.out.trans (hBW.mono HW.out.size)).mono HB.out.size))
     clear hBW hall hfin hend hI
     obtain ⟨tm, df⟩ := a
     simp only at hdf q4
     subst hdf
     go_wp2_with fail
     exact bodyPost_ret (v := .bool true) (by simp [results, Tryz.results3, go_sem, q4]) rfl ⟨rfl, HE.out⟩

   ·have HC1 := Lib.hid (show c0 = true by have := hbn.out; revert this; cases c0 <;> simp)
    have hn' : n = 0 ∨ n = 1 ∨ n = 2 ∨ n = 3 := by omega
    clear hn h4 hn4
    rcases hn' with rfl | rfl | rfl | rfl
    ·have hij : _ = Value.int .i64 0 := hi
     subst hij
     clear hi
     have HQ := Lib.hid (fun u W (hd : D 0 u W) (h : KWx wr W) => H_P0.out HC1.out u p0 p1 p2 p3 p4 p5 p6 p7 p8 p9 p10 p11 p12 p13 p14 p15 W hd (HGW.out W (HW.out.trans (Below.mono h HW.out.size))))
     obtain ⟨c, hc⟩ : ∃ c, (r 0 == 0) = c := ⟨_, rfl⟩
     generalize hrj : r 0 = rj at HQ hc
     have HC2 := Lib.hid hc; clear hc
     have HJ := Lib.hid hrj; clear hrj
     have z0 : ∀ W, KWx wr W → W.cell? ⟨bn, 0, none⟩ = some (.int .i64 ax) := fun W h => (HRn.out.after (HW.out.trans (Below.mono h HW.out.size))).c 0 rfl
     have z1 : ∀ W, KWx wr W → W.cell? ⟨bn, 1, none⟩ = some (.int .i64 ay) := fun W h => (HRn.out.after (HW.out.trans (Below.mono h HW.out.size))).c 1 rfl
     have y0 : ∀ W, KWx wr W → W.cell? ⟨bo, 1, none⟩ = some p0 := fun W h => (HRv.out.after (HW.out.trans (Below.mono h HW.out.size))).c 1 rfl
     have y1 : ∀ W, KWx wr W → W.cell? ⟨bo, 2, none⟩ = some p1 := fun W h => (HRv.out.after (HW.out.trans (Below.mono h HW.out.size))).c 2 rfl
     have y2 : ∀ W, KWx wr W → W.cell? ⟨bo, 3, none⟩ = some p2 := fun W h => (HRv.out.after (HW.out.trans (Below.mono h HW.out.size))).c 3 rfl
     have y3 : ∀ W, KWx wr W → W.cell? ⟨bo, 4, none⟩ = some p3 := fun W h => (HRv.out.after (HW.out.trans (Below.mono h HW.out.size))).c 4 rfl
     have y4 : ∀ W, KWx wr W → W.cell? ⟨bo, 5, none⟩ = some p4 := fun W h => (HRv.out.after (HW.out.trans (Below.mono h HW.out.size))).c 5 rfl
     have y5 : ∀ W, KWx wr W → W.cell? ⟨bo, 6, none⟩ = some p5 := fun W h => (HRv.out.after (HW.out.trans (Below.mono h HW.out.size))).c 6 rfl
     have y6 : ∀ W, KWx wr W → W.cell? ⟨bo, 7, none⟩ = some p6 := fun W h => (HRv.out.after (HW.out.trans (Below.mono h HW.out.size))).c 7 rfl
     have y7 : ∀ W, KWx wr W → W.cell? ⟨bo, 8, none⟩ = some p7 := fun W h => (HRv.out.after (HW.out.trans (Below.mono h HW.out.size))).c 8 rfl
     have h00 : KWx wr wr := Below.refl _ _
     have hs : KWx wr wr.drew := KWx.drew h00
     go_wp2_with fail
     go_region_held3 (fun w' : World => KWx wr w')
      (repeat (first
        | (with_reducible assumption)
        | (with_reducible refine KWx.drew ?_)
        | (with_reducible refine KWx.after ?_ hb)))
      (first
        | (go_at_call 14; (with_reducible refine (H_F0.out _).mono ?_); rintro e w2 ⟨u, rfl, hd, hb⟩; (have h2 := KWx.after hs hb); (have HD := Lib.hid hd); clear hd)
        | (go_at_call 13; (with_reducible refine (HQ.out _ _ HD.out h2).mono ?_); rintro e w3 ⟨rfl, hb⟩))
     have hk : KWx wr w3 := by assumption
     clear z0 z1 y0 y1 y2 y3 y4 y5 y6 y7
     have hc := HC2.out
     go_wp2_with fail
     go_roundw
     case rel => exact ⟨1, rj != 0, by omega, rfl, rfl, Lib.hid (by rw [HC1.out, allNe, show allNe r 0 = true by have := hbn.out; rw [HC1.out] at this; simpa using this.symm, HJ.out]; rfl), HW.out.trans (hk.mono HW.out.size)⟩
     case measure => simp [intOf]
    ·have hij : _ = Value.int .i64 1 := hi
     subst hij
     clear hi
     have HQ := Lib.hid (fun u W (hd : D 1 u W) (h : KWx wr W) => H_P1.out HC1.out u p0 p1 p2 p3 p4 p5 p6 p7 p8 p9 p10 p11 p12 p13 p14 p15 W hd (HGW.out W (HW.out.trans (Below.mono h HW.out.size))))
     obtain ⟨c, hc⟩ : ∃ c, (r 1 == 0) = c := ⟨_, rfl⟩
     generalize hrj : r 1 = rj at HQ hc
     have HC2 := Lib.hid hc; clear hc
     have HJ := Lib.hid hrj; clear hrj
     have z0 : ∀ W, KWx wr W → W.cell? ⟨bn, 2, none⟩ = some (.int .i64 bx) := fun W h => (HRn.out.after (HW.out.trans (Below.mono h HW.out.size))).c 2 rfl
     have z1 : ∀ W, KWx wr W → W.cell? ⟨bn, 3, none⟩ = some (.int .i64 bY) := fun W h => (HRn.out.after (HW.out.trans (Below.mono h HW.out.size))).c 3 rfl
     have y0 : ∀ W, KWx wr W → W.cell? ⟨bo, 1, none⟩ = some p0 := fun W h => (HRv.out.after (HW.out.trans (Below.mono h HW.out.size))).c 1 rfl
     have y1 : ∀ W, KWx wr W → W.cell? ⟨bo, 2, none⟩ = some p1 := fun W h => (HRv.out.after (HW.out.trans (Below.mono h HW.out.size))).c 2 rfl
     have y2 : ∀ W, KWx wr W → W.cell? ⟨bo, 3, none⟩ = some p2 := fun W h => (HRv.out.after (HW.out.trans (Below.mono h HW.out.size))).c 3 rfl
     have y3 : ∀ W, KWx wr W → W.cell? ⟨bo, 4, none⟩ = some p3 := fun W h => (HRv.out.after (HW.out.trans (Below.mono h HW.out.size))).c 4 rfl
     have y4 : ∀ W, KWx wr W → W.cell? ⟨bo, 5, none⟩ = some p4 := fun W h => (HRv.out.after (HW.out.trans (Below.mono h HW.out.size))).c 5 rfl
     have y5 : ∀ W, KWx wr W → W.cell? ⟨bo, 6, none⟩ = some p5 := fun W h => (HRv.out.after (HW.out.trans (Below.mono h HW.out.size))).c 6 rfl
     have y6 : ∀ W, KWx wr W → W.cell? ⟨bo, 7, none⟩ = some p6 := fun W h => (HRv.out.after (HW.out.trans (Below.mono h HW.out.size))).c 7 rfl
     have y7 : ∀ W, KWx wr W → W.cell? ⟨bo, 8, none⟩ = some p7 := fun W h => (HRv.out.after (HW.out.trans (Below.mono h HW.out.size))).c 8 rfl
     have h00 : KWx wr wr := Below.refl _ _
     have hs : KWx wr wr.drew := KWx.drew h00
     go_wp2_with fail
     go_region_held3 (fun w' : World => KWx wr w')
      (repeat (first
        | (with_reducible assumption)
        | (with_reducible refine KWx.drew ?_)
        | (with_reducible refine KWx.after ?_ hb)))
      (first
        | (go_at_call 14; (with_reducible refine (H_F1.out _).mono ?_); rintro e w2 ⟨u, rfl, hd, hb⟩; (have h2 := KWx.after hs hb); (have HD := Lib.hid hd); clear hd)
        | (go_at_call 13; (with_reducible refine (HQ.out _ _ HD.out h2).mono ?_); rintro e w3 ⟨rfl, hb⟩))
     have hk : KWx wr w3 := by assumption
     clear z0 z1 y0 y1 y2 y3 y4 y5 y6 y7
     have hc := HC2.out
     go_wp2_with fail
     go_roundw
     case rel => exact ⟨2, rj != 0, by omega, rfl, rfl, Lib.hid (by rw [HC1.out, allNe, show allNe r 1 = true by have := hbn.out; rw [HC1.out] at this; simpa using this.symm, HJ.out]; rfl), HW.out.trans (hk.mono HW.out.size)⟩
     case measure => simp [intOf]
    ·have hij : _ = Value.int .i64 2 := hi
     subst hij
     clear hi
     have HQ := Lib.hid (fun u W (hd : D 2 u W) (h : KWx wr W) => H_P2.out HC1.out u p0 p1 p2 p3 p4 p5 p6 p7 p8 p9 p10 p11 p12 p13 p14 p15 W hd (HGW.out W (HW.out.trans (Below.mono h HW.out.size))))
     obtain ⟨c, hc⟩ : ∃ c, (r 2 == 0) = c := ⟨_, rfl⟩
     generalize hrj : r 2 = rj at HQ hc
     have HC2 := Lib.hid hc; clear hc
     have HJ := Lib.hid hrj; clear hrj
     have z0 : ∀ W, KWx wr W → W.cell? ⟨bn, 4, none⟩ = some (.int .i64 cx) := fun W h => (HRn.out.after (HW.out.trans (Below.mono h HW.out.size))).c 4 rfl
     have z1 : ∀ W, KWx wr W → W.cell? ⟨bn, 5, none⟩ = some (.int .i64 cy) := fun W h => (HRn.out.after (HW.out.trans (Below.mono h HW.out.size))).c 5 rfl
     have y0 : ∀ W, KWx wr W → W.cell? ⟨bo, 1, none⟩ = some p0 := fun W h => (HRv.out.after (HW.out.trans (Below.mono h HW.out.size))).c 1 rfl
     have y1 : ∀ W, KWx wr W → W.cell? ⟨bo, 2, none⟩ = some p1 := fun W h => (HRv.out.after (HW.out.trans (Below.mono h HW.out.size))).c 2 rfl
     have y2 : ∀ W, KWx wr W → W.cell? ⟨bo, 3, none⟩ = some p2 := fun W h => (HRv.out.after (HW.out.trans (Below.mono h HW.out.size))).c 3 rfl
     have y3 : ∀ W, KWx wr W → W.cell? ⟨bo, 4, none⟩ = some p3 := fun W h => (HRv.out.after (HW.out.trans (Below.mono h HW.out.size))).c 4 rfl
     have y4 : ∀ W, KWx wr W → W.cell? ⟨bo, 5, none⟩ = some p4 := fun W h => (HRv.out.after (HW.out.trans (Below.mono h HW.out.size))).c 5 rfl
     have y5 : ∀ W, KWx wr W → W.cell? ⟨bo, 6, none⟩ = some p5 := fun W h => (HRv.out.after (HW.out.trans (Below.mono h HW.out.size))).c 6 rfl
     have y6 : ∀ W, KWx wr W → W.cell? ⟨bo, 7, none⟩ = some p6 := fun W h => (HRv.out.after (HW.out.trans (Below.mono h HW.out.size))).c 7 rfl
     have y7 : ∀ W, KWx wr W → W.cell? ⟨bo, 8, none⟩ = some p7 := fun W h => (HRv.out.after (HW.out.trans (Below.mono h HW.out.size))).c 8 rfl
     have h00 : KWx wr wr := Below.refl _ _
     have hs : KWx wr wr.drew := KWx.drew h00
     go_wp2_with fail
     go_region_held3 (fun w' : World => KWx wr w')
      (repeat (first
        | (with_reducible assumption)
        | (with_reducible refine KWx.drew ?_)
        | (with_reducible refine KWx.after ?_ hb)))
      (first
        | (go_at_call 14; (with_reducible refine (H_F2.out _).mono ?_); rintro e w2 ⟨u, rfl, hd, hb⟩; (have h2 := KWx.after hs hb); (have HD := Lib.hid hd); clear hd)
        | (go_at_call 13; (with_reducible refine (HQ.out _ _ HD.out h2).mono ?_); rintro e w3 ⟨rfl, hb⟩))
     have hk : KWx wr w3 := by assumption
     clear z0 z1 y0 y1 y2 y3 y4 y5 y6 y7
     have hc := HC2.out
     go_wp2_with fail
     go_roundw
     case rel => exact ⟨3, rj != 0, by omega, rfl, rfl, Lib.hid (by rw [HC1.out, allNe, show allNe r 2 = true by have := hbn.out; rw [HC1.out] at this; simpa using this.symm, HJ.out]; rfl), HW.out.trans (hk.mono HW.out.size)⟩
     case measure => simp [intOf]
    ·have hij : _ = Value.int .i64 3 := hi
     subst hij
     clear hi
     have HQ := Lib.hid (fun u W (hd : D 3 u W) (h : KWx wr W) => H_P3.out HC1.out u p0 p1 p2 p3 p4 p5 p6 p7 p8 p9 p10 p11 p12 p13 p14 p15 W hd (HGW.out W (HW.out.trans (Below.mono h HW.out.size))))
     obtain ⟨c, hc⟩ : ∃ c, (r 3 == 0) = c := ⟨_, rfl⟩
     generalize hrj : r 3 = rj at HQ hc
     have HC2 := Lib.hid hc; clear hc
     have HJ := Lib.hid hrj; clear hrj
     have z0 : ∀ W, KWx wr W → W.cell? ⟨bn, 6, none⟩ = some (.int .i64 dx) := fun W h => (HRn.out.after (HW.out.trans (Below.mono h HW.out.size))).c 6 rfl
     have z1 : ∀ W, KWx wr W → W.cell? ⟨bn, 7, none⟩ = some (.int .i64 dY) := fun W h => (HRn.out.after (HW.out.trans (Below.mono h HW.out.size))).c 7 rfl
     have y0 : ∀ W, KWx wr W → W.cell? ⟨bo, 1, none⟩ = some p0 := fun W h => (HRv.out.after (HW.out.trans (Below.mono h HW.out.size))).c 1 rfl
     have y1 : ∀ W, KWx wr W → W.cell? ⟨bo, 2, none⟩ = some p1 := fun W h => (HRv.out.after (HW.out.trans (Below.mono h HW.out.size))).c 2 rfl
     have y2 : ∀ W, KWx wr W → W.cell? ⟨bo, 3, none⟩ = some p2 := fun W h => (HRv.out.after (HW.out.trans (Below.mono h HW.out.size))).c 3 rfl
     have y3 : ∀ W, KWx wr W → W.cell? ⟨bo, 4, none⟩ = some p3 := fun W h => (HRv.out.after (HW.out.trans (Below.mono h HW.out.size))).c 4 rfl
     have y4 : ∀ W, KWx wr W → W.cell? ⟨bo, 5, none⟩ = some p4 := fun W h => (HRv.out.after (HW.out.trans (Below.mono h HW.out.size))).c 5 rfl
     have y5 : ∀ W, KWx wr W → W.cell? ⟨bo, 6, none⟩ = some p5 := fun W h => (HRv.out.after (HW.out.trans (Below.mono h HW.out.size))).c 6 rfl
     have y6 : ∀ W, KWx wr W → W.cell? ⟨bo, 7, none⟩ = some p6 := fun W h => (HRv.out.after (HW.out.trans (Below.mono h HW.out.size))).c 7 rfl
     have y7 : ∀ W, KWx wr W → W.cell? ⟨bo, 8, none⟩ = some p7 := fun W h => (HRv.out.after (HW.out.trans (Below.mono h HW.out.size))).c 8 rfl
     have h00 : KWx wr wr := Below.refl _ _
     have hs : KWx wr wr.drew := KWx.drew h00
     go_wp2_with fail
     go_region_held3 (fun w' : World => KWx wr w')
      (repeat (first
        | (with_reducible assumption)
        | (with_reducible refine KWx.drew ?_)
        | (with_reducible refine KWx.after ?_ hb)))
      (first
        | (go_at_call 14; (with_reducible refine (H_F3.out _).mono ?_); rintro e w2 ⟨u, rfl, hd, hb⟩; (have h2 := KWx.after hs hb); (have HD := Lib.hid hd); clear hd)
        | (go_at_call 13; (with_reducible refine (HQ.out _ _ HD.out h2).mono ?_); rintro e w3 ⟨rfl, hb⟩))
     have hk : KWx wr w3 := by assumption
     clear z0 z1 y0 y1 y2 y3 y4 y5 y6 y7
     have hc := HC2.out
     go_wp2_with fail
     go_roundw
     case rel => exact ⟨4, rj != 0, by omega, rfl, rfl, Lib.hid (by rw [HC1.out, allNe, show allNe r 3 = true by have := hbn.out; rw [HC1.out] at this; simpa using this.symm, HJ.out]; rfl), HW.out.trans (hk.mono HW.out.size)⟩
     case measure => simp [intOf]
end Go.Proofs.YtcabndpmfkimgaaGreatDoor

namespace Go.Proofs.YtcabndpmfkimgaaGreatDoor
open Go.RowKit CrossMath

def pcf (x y : Int) (p : Pt) : Int := if cmpI (x * p.xd) (p.xn * 1) = 0 then cmpI (y * p.yd) (p.yn * 1) else cmpI (x * p.xd) (p.xn * 1)
theorem cmpI_nil (a b : Int) : cmpI a b = 0 ↔ a = b := by
 unfold cmpI
 split
 ·constructor <;> intro h <;> omega
 ·split
  ·constructor <;> intro h <;> omega
  ·constructor <;> intro h <;> omega
theorem pcf_ne (x y : Int) (p : Pt) : (pcf x y p != 0) = !isP p x y := by
 have h : pcf x y p = 0 ↔ (x * p.xd = p.xn ∧ y * p.yd = p.yn) := by
  unfold pcf
  rw [Int.mul_one, Int.mul_one]
  by_cases h1 : cmpI (x * p.xd) p.xn = 0
  ·rw [if_pos h1, cmpI_nil]
   exact ⟨fun h => ⟨(cmpI_nil _ _).1 h1, h⟩, fun h => h.2⟩
  ·rw [if_neg h1]
   exact ⟨fun h => absurd h h1, fun h => (cmpI_nil _ _).2 h.1⟩
 unfold isP
 by_cases h0 : pcf x y p = 0
 ·have := h.1 h0
  rw [h0, decide_eq_true this.1, decide_eq_true this.2]
  rfl
 ·have hn : ¬ (x * p.xd = p.xn ∧ y * p.yd = p.yn) := fun e => h0 (h.2 e)
  rw [show (decide (x * p.xd = p.xn) && decide (y * p.yd = p.yn)) = false by rw [← Bool.decide_and]; exact decide_eq_false hn]
  simpa using h0
theorem pcmp_pt (x y : Int) (p : Pt) (A1 B1 E1 G1 A B E G : Option Addr) (c1 d1 f1 g1 a b f g : Nat) (w : World) (hx : Bd x) (hy : Bd y) (hp : GoodP p) (D1 : DS w x.natAbs A1 ∧ DS w 1 B1 ∧ DS w y.natAbs E1 ∧ DS w 1 G1) (D2 : PtD p A B E G w) :
 Calls Tryz.prog 13 #[.agg #[.bool (decide (x < 0)), .slice A1 (L16 x.natAbs) c1, .bool false, .slice B1 (L16 1) d1, .bool (decide (y < 0)), .slice E1 (L16 y.natAbs) f1, .bool false, .slice G1 (L16 1) g1], .agg #[.bool (decide (p.xn < 0)), .slice A (L16 p.xn.natAbs) a, .bool false, .slice B (L16 p.xd.natAbs) b, .bool (decide (p.yn < 0)), .slice E (L16 p.yn.natAbs) f, .bool false, .slice G (L16 p.yd.natAbs) g]] w fun e w' => e = .returned (.int .i64 (pcf x y p)) ∧ Below w.heap.size w w' := by
 obtain ⟨h1, h2⟩ := hp
 have tx : ∀ {z : Int}, Bd z → z.natAbs ≤ 67108864 := fun {z} h => by unfold Bd at h; omega
 have tt : 67108864 < T256 := by decide
 have tm : 1152921504606846976 * 67108864 < T256 := by decide
 exact pcmp_core _ _ _ _ _ _ _ _ _ _ _ _ _ _ _ _ (cmpI (x * p.xd) (p.xn * 1)) (cmpI (y * p.yd) (p.yn * 1)) w
  (fun W hW => rcmp_any x 1 p.xn p.xd A1 B1 A B c1 d1 a b W (by decide) h1.1 (le_T (tx hx) tt) (by decide) (good_T h1).1 (good_T h1).2 (le_T (mulD_bd h1.2.2.2 (tx hx)) tm) (by rw [Int.mul_one]; exact (good_T h1).1) (D1.1.below hW) (D1.2.1.below hW) (D2.1.below hW) (D2.2.1.below hW))
  (fun W hW => rcmp_any y 1 p.yn p.yd E1 G1 E G f1 g1 f g W (by decide) h2.1 (le_T (tx hy) tt) (by decide) (good_T h2).1 (good_T h2).2 (le_T (mulD_bd h2.2.2.2 (tx hy)) tm) (by rw [Int.mul_one]; exact (good_T h2).1) (D1.2.2.1.below hW) (D1.2.2.2.below hW) (D2.2.2.1.below hW) (D2.2.2.2.below hW))
def MeG (m : Mt) (v : Array Value) (W : World) : Prop := ∃ A a B b E f G g A2 a2 B2 b2 E2 f2 G2 g2, v = #[.int .i64 m.k, .bool (decide (m.p.xn < 0)), .slice A (L16 m.p.xn.natAbs) a, .bool false, .slice B (L16 m.p.xd.natAbs) b, .bool (decide (m.p.yn < 0)), .slice E (L16 m.p.yn.natAbs) f, .bool false, .slice G (L16 m.p.yd.natAbs) g, .bool (decide (m.q.xn < 0)), .slice A2 (L16 m.q.xn.natAbs) a2, .bool false, .slice B2 (L16 m.q.xd.natAbs) b2, .bool (decide (m.q.yn < 0)), .slice E2 (L16 m.q.yn.natAbs) f2, .bool false, .slice G2 (L16 m.q.yd.natAbs) g2] ∧ PtD m.p A B E G W ∧ PtD m.q A2 B2 E2 G2 W
theorem PtD.below {p : Pt} {A B E G : Option Addr} {W W' : World} (h : PtD p A B E G W) (hb : Below W.heap.size W W') : PtD p A B E G W' := ⟨h.1.below hb, h.2.1.below hb, h.2.2.1.below hb, h.2.2.2.below hb⟩
def NdG (x y : Int) (u : Array Value) (W : World) : Prop := ∃ A c B d E f G g, u = #[.bool (decide (x < 0)), .slice A (L16 x.natAbs) c, .bool false, .slice B (L16 1) d, .bool (decide (y < 0)), .slice E (L16 y.natAbs) f, .bool false, .slice G (L16 1) g] ∧ DS W x.natAbs A ∧ DS W 1 B ∧ DS W y.natAbs E ∧ DS W 1 G
theorem nd_any (x y : Int) (W : World) (hx : Bd x) (hy : Bd y) : Calls Tryz.prog 14 #[.agg #[.int .i64 x, .int .i64 y]] W fun e w' => ∃ u, e = .returned (.agg u) ∧ NdG x y u w' ∧ Below W.heap.size W w' := by
 refine (ptof_any x y W hx hy).mono ?_
 rintro e w' ⟨A, c, B, d, E, f, G, g, rfl, hD, hb⟩
 exact ⟨_, rfl, ⟨A, c, B, d, E, f, G, g, rfl, hD⟩, hb⟩
theorem mt_none : mtA noneM = zero_meet := by kernel_rfl
theorem meets_true (s t : Sg) (w : World) (ht : TabTz w) (hw0 : 0 < w.heap.size) :
 Calls Tryz.prog 3 #[.agg (sgA s), .agg (sgA t)] w fun e w' => e = .returned (.bool true) ∧ Below w.heap.size w w' := by
 by_cases hr : (rightS s && rightS t) = true
 ·rw [Bool.and_eq_true] at hr
  obtain ⟨bs, n1⟩ := rightS_iff.1 hr.1
  obtain ⟨bt, n2⟩ := rightS_iff.1 hr.2
  have hW : ∀ W, Below w.heap.size w W → Calls Tryz.prog 11 #[] W fun e w' => e = .returned (.bool true) ∧ Below W.heap.size W w' :=
   fun W hW => works_true W (ht.below hw0 hW) (Nat.lt_of_lt_of_le hw0 hW.size)
  have hM : ∀ W, Below w.heap.size w W → Calls Tryz.prog 7 #[.agg (sgA s), .agg (sgA t)] W fun e w' => e = .returned (.tuple #[.agg (mtA (meetM (laidS s) (laidS t))), .int .i64 0]) ∧ Below W.heap.size W w' :=
   fun W hW => Meet_any s t W bs n1 bt n2 (ht.below hw0 hW) (Nat.lt_of_lt_of_le hw0 hW.size)
  have hC := fun W => Crosses_any s t W bs n1 bt n2
  have hO := fun W => meetof_any s t W bs bt
  have hce := cross_ends s t n1
  rw [of_meet s t n1 n2] at hO
  have hgood := meet_good (laid_bd bs) (laid_bd bt)
  have hR1 : ∀ W, Calls Tryz.prog 9 #[.agg (sgA s)] W fun e w' => e = .returned (.bool true) ∧ Below W.heap.size W w' := fun W => by have := refright_any s W; rw [hr.1] at this; exact this
  have hR2 : ∀ W, Calls Tryz.prog 9 #[.agg (sgA t)] W fun e w' => e = .returned (.bool true) ∧ Below W.heap.size W w' := fun W => by have := refright_any t W; rw [hr.2] at this; exact this
  rw [hce] at hC
  generalize meetM (laidS s) (laidS t) = m at *
  have sz : (mtA m).size = 41 := meetA_size m.k _ _ (ptA_size _) (ptA_size _)
  have oz : OneC (mtA m) := meetA_one m.k _ _ (ptA_one m.p) (ptA_one m.q)
  have ez : ∀ W, (binOp .eql 36 (.agg (mtA m)) (.agg (mtA m))).run Tryz.prog W = .ok (.bool true) W := fun W => by have := eqlMt m m W; rw [eqM_self] at this; exact this
  rcases hgood with h0 | ⟨hk, g1, g2'⟩
  ·subst h0
   refine meets_core s.ax s.ay s.bx s.bY t.ax t.ay t.bx t.bY 0 (mtA noneM) _ false (fun _ => 0) (fun v _ => v = #[.int .i64 0, .bool false, .slice none 0 0, .bool false, .slice none 0 0, .bool false, .slice none 0 0, .bool false, .slice none 0 0, .bool false, .slice none 0 0, .bool false, .slice none 0 0, .bool false, .slice none 0 0, .bool false, .slice none 0 0]) (fun _ _ _ => True) w rfl (by rfl) sz oz ez hM hC hR1 hR2 (fun W => ?_) (fun _ _ _ h _ => h)
    ?_ (fun e => absurd e (by decide)) ?_ (fun e => absurd e (by decide)) ?_ (fun e => absurd e (by decide)) ?_ (fun e => absurd e (by decide)) (fun p0 p1 p2 p3 p4 p5 p6 p7 p8 p9 p10 p11 p12 p13 p14 p15 W hv => ?_) (fun W => lawnum_any 0 W) hW
   ·refine (hO W).mono ?_
    rintro e w' (⟨-, rfl, hb⟩ | ⟨h1, _⟩)
    ·exact ⟨_, _, _, _, _, _, _, _, _, _, _, _, _, _, _, _, rfl, by simp [OneC, Value.oneCell'], rfl, hb⟩
    ·exact absurd rfl h1
   ·intro W
    refine (nd_any s.ax s.ay W bs.1 bs.2.1).mono ?_
    rintro e w' ⟨u, rfl, -, hb⟩
    exact ⟨u, rfl, trivial, hb⟩
   ·intro W
    refine (nd_any s.bx s.bY W bs.2.2.1 bs.2.2.2).mono ?_
    rintro e w' ⟨u, rfl, -, hb⟩
    exact ⟨u, rfl, trivial, hb⟩
   ·intro W
    refine (nd_any t.ax t.ay W bt.1 bt.2.1).mono ?_
    rintro e w' ⟨u, rfl, -, hb⟩
    exact ⟨u, rfl, trivial, hb⟩
   ·intro W
    refine (nd_any t.bx t.bY W bt.2.2.1 bt.2.2.2).mono ?_
    rintro e w' ⟨u, rfl, -, hb⟩
    exact ⟨u, rfl, trivial, hb⟩
   ·rw [mt_none]
    exact mout_zero p0 p1 p2 p3 p4 p5 p6 p7 p8 p9 p10 p11 p12 p13 p14 p15 W
  ·refine meets_core s.ax s.ay s.bx s.bY t.ax t.ay t.bx t.bY m.k (mtA m) _ (m.k == 1) (fun j => match j with | 0 => pcf s.ax s.ay m.p | 1 => pcf s.bx s.bY m.p | 2 => pcf t.ax t.ay m.p | _ => pcf t.bx t.bY m.p)
    (MeG m) (fun j => match j with | 0 => NdG s.ax s.ay | 1 => NdG s.bx s.bY | 2 => NdG t.ax t.ay | _ => NdG t.bx t.bY) w rfl ?_ sz oz ez hM hC hR1 hR2 (fun W => ?_) ?_
    (fun W => nd_any s.ax s.ay W bs.1 bs.2.1) (fun _ => ?_) (fun W => nd_any s.bx s.bY W bs.2.2.1 bs.2.2.2) (fun _ => ?_) (fun W => nd_any t.ax t.ay W bt.1 bt.2.1) (fun _ => ?_) (fun W => nd_any t.bx t.bY W bt.2.2.1 bt.2.2.2) (fun _ => ?_) (fun p0 p1 p2 p3 p4 p5 p6 p7 p8 p9 p10 p11 p12 p13 p14 p15 W hv => ?_) (fun W => lawnum_any 0 W) hW
   ·unfold offE allNe allNe allNe allNe allNe
    simp only [pcf_ne, Bool.true_and]
   ·refine (hO W).mono ?_
    rintro e w' (⟨h1, _⟩ | ⟨_, A, a, B, b, E, f, G, g, A2, a2, B2, b2, E2, f2, G2, g2, rfl, d1, d2, hb⟩)
    ·exact absurd (by rw [h1]; rfl) hk
    ·exact ⟨_, _, _, _, _, _, _, _, _, _, _, _, _, _, _, _, rfl, by simp [OneC, Value.oneCell'], ⟨A, a, B, b, E, f, G, g, A2, a2, B2, b2, E2, f2, G2, g2, rfl, d1, d2⟩, hb⟩
   ·rintro v W W' ⟨A, a, B, b, E, f, G, g, A2, a2, B2, b2, E2, f2, G2, g2, hv, d1, d2⟩ hb
    exact ⟨A, a, B, b, E, f, G, g, A2, a2, B2, b2, E2, f2, G2, g2, hv, d1.below hb, d2.below hb⟩
   ·rintro u p0 p1 p2 p3 p4 p5 p6 p7 p8 p9 p10 p11 p12 p13 p14 p15 W ⟨Z1, z1, Z2, z2, Z3, z3, Z4, z4, rfl, hD⟩ ⟨A, a, B, b, E, f, G, g, A2, a2, B2, b2, E2, f2, G2, g2, hv, d1, d2⟩
    cases hv
    exact pcmp_pt s.ax s.ay m.p Z1 Z2 Z3 Z4 A B E G z1 z2 z3 z4 a b f g W bs.1 bs.2.1 g1 hD d1
   ·rintro u p0 p1 p2 p3 p4 p5 p6 p7 p8 p9 p10 p11 p12 p13 p14 p15 W ⟨Z1, z1, Z2, z2, Z3, z3, Z4, z4, rfl, hD⟩ ⟨A, a, B, b, E, f, G, g, A2, a2, B2, b2, E2, f2, G2, g2, hv, d1, d2⟩
    cases hv
    exact pcmp_pt s.bx s.bY m.p Z1 Z2 Z3 Z4 A B E G z1 z2 z3 z4 a b f g W bs.2.2.1 bs.2.2.2 g1 hD d1
   ·rintro u p0 p1 p2 p3 p4 p5 p6 p7 p8 p9 p10 p11 p12 p13 p14 p15 W ⟨Z1, z1, Z2, z2, Z3, z3, Z4, z4, rfl, hD⟩ ⟨A, a, B, b, E, f, G, g, A2, a2, B2, b2, E2, f2, G2, g2, hv, d1, d2⟩
    cases hv
    exact pcmp_pt t.ax t.ay m.p Z1 Z2 Z3 Z4 A B E G z1 z2 z3 z4 a b f g W bt.1 bt.2.1 g1 hD d1
   ·rintro u p0 p1 p2 p3 p4 p5 p6 p7 p8 p9 p10 p11 p12 p13 p14 p15 W ⟨Z1, z1, Z2, z2, Z3, z3, Z4, z4, rfl, hD⟩ ⟨A, a, B, b, E, f, G, g, A2, a2, B2, b2, E2, f2, G2, g2, hv, d1, d2⟩
    cases hv
    exact pcmp_pt t.bx t.bY m.p Z1 Z2 Z3 Z4 A B E G z1 z2 z3 z4 a b f g W bt.2.2.1 bt.2.2.2 g1 hD d1
   ·obtain ⟨A, a, B, b, E, f, G, g, A2, a2, B2, b2, E2, f2, G2, g2, hv, d1, d2⟩ := hv
    cases hv
    exact mout_core m.k hk _ _ _ _ _ _ _ _ _ _ _ _ _ _ _ _ (ptA m.p) (ptA m.q) (ptA_size _) (ptA_size _) (ptA_one m.p) (ptA_one m.q) W (fun W' hW => ptout_good m.p A B E G a b f g W' g1 (d1.below hW)) (fun W' hW => ptout_good m.q A2 B2 E2 G2 a2 b2 f2 g2 W' g2' (d2.below hW))
 ·exact meets_wrong s t w (by simpa using hr) ht hw0
end Go.Proofs.YtcabndpmfkimgaaGreatDoor
