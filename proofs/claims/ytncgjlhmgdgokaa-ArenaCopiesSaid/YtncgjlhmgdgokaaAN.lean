/- The least free place; no condition. -/
import Derived.Test.YtncgjlhmgdgokaaAM
namespace Go.Proofs.Ytncgjlhmgdgokaa
open Go.RowKit Go.Sort ArenaMath Go.Maps

/-- The state of leastFree's loop. -/
structure LfS (w : World) (base b many : Nat) (mark top : Int) (A : Option Addr) (m : Nat) (L : List Int) (A1 : Option Addr) (c1 : Nat) (hs1 : List Int) (D1 : DataW Unit) (tk1 : Int → Option Bool) (wr : World) : Prop where
  mem : ArMem wr base b many mark top A1 c1 hs1 m D1 tk1
  inv : AInv many mark top hs1 tk1 L
  sz : Maps.size D1 = L.length
  only : Only (foot b m A) w wr
  loc : ∀ g, ownB A1 = some g → ownB A = some g ∨ w.heap.size ≤ g
/-- What it leaves. -/
def LfPost (w : World) (base b many : Nat) (top : Int) (A : Option Addr) (m : Nat) (L : List Int) (e : Ending) (w' : World) : Prop :=
  ∃ (x mark' : Int) (A' : Option Addr) (c' : Nat) (hs' : List Int) (D' : DataW Unit) (tk' : Int → Option Bool), e = .returned (.int .i64 x) ∧ LeastFree many L x ∧ ArMem w' base b many mark' top A' c' hs' m D' tk' ∧ InvBut many mark' top hs' tk' L x ∧ Maps.size D' = L.length ∧ Only (foot b m A) w w' ∧ ∀ g, ownB A' = some g → ownB A = some g ∨ w.heap.size ≤ g
theorem foot_turn {w : World} {b m : Nat} {A A1 : Option Addr} (hloc : ∀ g, ownB A1 = some g → ownB A = some g ∨ w.heap.size ≤ g) : ∀ k, k < w.heap.size → (k = b ∨ ownB A1 = some k) → foot b m A k := fun k hk q => by
  rcases q with q | q
  · exact .inl q
  · rcases hloc k q with e | e
    · exact .inr (.inr e)
    · omega
set_option maxRecDepth 1000000 in
set_option maxHeartbeats 16000000 in
theorem leastFree_any {w : World} {base b many c m : Nat} {mark top : Int} {A : Option Addr} {hs : List Int} {D : DataW Unit} {tk : Int → Option Bool} {L : List Int}
    (h : ArMem w base b many mark top A c hs m D tk) (hi : AInv many mark top hs tk L) (hsz : Maps.size D = L.length) (hl : L.length < many) (hm : many ≤ 65536) (hbase : base ≤ w.heap.size) :
    Calls Try.prog 26 #[.pointer (some ⟨b, 0, none⟩)] w (LfPost w base b many top A m L) := by
  have HX := Lib.hid (And.intro hl (And.intro hm hbase))
  have HS0 : Hid (LfS w base b many mark top A m L A c hs D tk w) := Lib.hid ⟨h, hi, hsz, Only.refl _ _, fun g hg => .inl hg⟩
  clear h hi hsz hl hm hbase
  go_enter Try.func26, Try.ntmps26
  go_wp2_with fail
  go_loopg [] (hs.length) (fun g wr => ∃ A1 c1 hs1 D1 tk1, hs1.length ≤ g ∧ Hid (LfS w base b many mark top A m L A1 c1 hs1 D1 tk1 wr))
  case atStart => exact ⟨A, c, hs, D, tk, Nat.le_refl _, HS0⟩
  case round =>
    obtain ⟨A1, c1, hs1, D1, tk1, hg, HS⟩ := hrel
    clear HS0
    have CE := Lib.hid (empty_any HS.out.mem.hp)
    by_cases t : hs1.length = 0
    · have hs0 : hs1 = [] := List.length_eq_zero_iff.1 t
      have t' : decide (hs1.length = 0) = true := decide_eq_true t
      rw [t'] at CE
      go_wp2_with fail
      refine CE.out.mono ?_
      rintro e w1 ⟨rfl, rfl⟩
      have y3 := HS.out.mem.hp.row.c 3 rfl
      clear CE
      go_wp2_with fail
      subst hs0
      obtain ⟨hl, hm, hbase⟩ := HX.out
      obtain ⟨hmem, hinv, hsz, honly, hloc⟩ := HS.out
      have hnl := hinv.none_left hl
      have CR := Lib.hid (reach_any (L := L) mark hmem hinv hnl.1 hm (Nat.le_trans hbase honly.size))
      have HN := Lib.hid (And.intro hmem (And.intro hinv (And.intro hsz (And.intro honly (And.intro hloc hnl.1)))))
      clear hmem hinv hsz honly hloc hnl hl hm hbase y3 t t' HS
      refine CR.out.mono ?_
      rintro e w2 ⟨rfl, A2, c2, hs2, hR⟩
      rw [show max mark (mark + 1) = mark + 1 by omega] at hR
      have hpos : 0 < hs2.length := by
        have : mark ∈ hs2 := (hR.inv.hmem mark).2 ⟨by have := HN.out.2.1.mkb; omega, by omega, by
          have hn : mark ∉ L := fun q => by have := (HN.out.2.1.rng mark q).2; omega
          intro e
          exact hn ((HN.out.2.1.mem mark).2 (by rw [e]; simp))⟩
        exact List.length_pos_of_mem this
      have CP := Lib.hid (pull_any hR.mem.hp hR.inv.heap hpos (by have := hR.inv.hlen HX.out.2.1; omega))
      have HRR := Lib.hid hR
      clear hR hpos CR
      go_wp2_with fail
      refine CP.out.mono ?_
      rintro e w3 ⟨rfl, l', hp, hh, A3, c3, hA3, ho3, hl3⟩
      go_wp2_with fail
      go_ret
      obtain ⟨hmem, hinv, hsz, honly, hloc, hmk⟩ := HN.out
      obtain ⟨hm2, hi2, hlo2, ho2, hl2⟩ := HRR.out
      have hxm : gt hs2 0 ∈ hs2 := hp.mem_iff.2 (by simp)
      have hxr := (hi2.hmem _).1 hxm
      have hxe : gt hs2 0 = mark := by
        have hno := (not_congr (hinv.hmem (gt hs2 0))).1 (by simp)
        have : ¬ gt hs2 0 < mark := fun q => hno ⟨hxr.1, q, hxr.2.2⟩
        omega
      have hf : gt hs2 0 ∉ L := fun q => by have := (hinv.rng _ q).2; omega
      have hfd := hi2.found rfl hp hh hf
      have hne := hm2.ne
      have hmap : w3.ownsMap Try.prog 3 hElem m (Maps.size D1) D1 := hm2.map.only ho3 (by rintro (e | e); exact hne.1 e.symm; exact (hne.2 m e).2 rfl)
      have hlW2 : ∀ g, ownB A2 = some g → ownB A = some g ∨ w.heap.size ≤ g := fun g hg => by
        rcases hl2 g hg with e | e
        · exact hloc g e
        · exact .inr (Nat.le_trans honly.size e)
      have hoW2 := honly.next ho2 (foot_turn hloc)
      exact ⟨gt hs2 0, mark + 1, A3, c3, l', D1, tk1, rfl, hfd.2, ⟨hA3, hmap, hm2.is, hm2.base⟩, hfd.1, hsz, hoW2.next ho3 (foot_turn hlW2), fun g hg => by
        rcases hl3 g hg with e | e
        · exact hlW2 g e
        · exact .inr (Nat.le_trans hoW2.size e)⟩
    · have t' : decide (hs1.length = 0) = false := decide_eq_false t
      rw [t'] at CE
      go_wp2_with fail
      refine CE.out.mono ?_
      rintro e w1 ⟨rfl, rfl⟩
      have CP := Lib.hid (pull_any HS.out.mem.hp HS.out.inv.heap (by omega) (by have := HS.out.inv.hlen HX.out.2.1; omega))
      clear CE
      go_wp2_with fail
      refine CP.out.mono ?_
      rintro e w2 ⟨rfl, l', hp, hh, A2, c2, hA2, ho2, hl2⟩
      obtain ⟨x, hx⟩ : ∃ x, gt hs1 0 = x := ⟨_, rfl⟩
      rw [hx] at hp ⊢
      obtain ⟨hmem, hinv, hsz, honly, hloc⟩ := HS.out
      have hxm : x ∈ hs1 := hp.mem_iff.2 (by simp)
      have hxr := (hinv.hmem x).1 hxm
      have hwf : (Lit.int .i64 x).wf = true := WalkArith.wf_i64 (by have := hinv.mkb; have := HX.out.2.1; omega)
      have hne := hmem.ne
      have hmap : w2.ownsMap Try.prog 3 hElem m (Maps.size D1) D1 := hmem.map.only ho2 (by rintro (e | e); exact hne.1 e.symm; exact (hne.2 m e).2 rfl)
      have hm2 : ArMem w2 base b many mark top A2 c2 l' m D1 tk1 := ⟨hA2, hmap, hmem.is, hmem.base⟩
      have hoW : Only (foot b m A) w w2 := honly.next ho2 (foot_turn hloc)
      have hlW : ∀ g, ownB A2 = some g → ownB A = some g ∨ w.heap.size ≤ g := fun g hg => by
        rcases hl2 g hg with e | e
        · exact hloc g e
        · exact .inr (Nat.le_trans honly.size e)
      have HN := Lib.hid (And.intro hm2 (And.intro hinv (And.intro hsz (And.intro hoW (And.intro hlW (And.intro hp (And.intro hh (And.intro hx (And.intro hxr hwf)))))))))
      have CT := Lib.hid (taken_any hm2 x hwf)
      have hlen : l'.length < hs1.length := by have := hp.length_eq; simp at this; omega
      have HL := Lib.hid hlen
      clear hlen hmem hinv hsz honly hloc hxm hxr hwf hne hmap hm2 hoW hlW hp hh hA2 ho2 hl2 hx CP HS t t'
      go_wp2_with fail
      refine CT.out.mono ?_
      rintro e w3 ⟨rfl, hb⟩
      cases ht : (tk1 x).isSome
      · go_wp2_with fail
        go_ret
        obtain ⟨hm2, hinv, hsz, hoW, hlW, hp, hh, hx, hxr, hwf⟩ := HN.out
        have hf : x ∉ L := fun q => (hinv.mem x).1 q (by simpa using ht)
        have hfd := hinv.found hx hp hh hf
        exact ⟨x, mark, A2, c2, l', D1, tk1, rfl, hfd.2, hm2.after hb, hfd.1, hsz, hoW.next (G := fun _ => False) (Only.of hb) (fun _ _ q => q.elim), hlW⟩
      · obtain ⟨hm2, hinv, hsz, hoW, hlW, hp, hh, hx, hxr, hwf⟩ := HN.out
        have hm3 := hm2.after hb
        have hoW3 : Only (foot b m A) w w3 := hoW.next (G := fun _ => False) (Only.of hb) (fun _ _ q => q.elim)
        have hxL : x ∈ L := (hinv.mem x).2 (fun e => by rw [e] at ht; simp at ht)
        have y1 := hm3.hp.row.c 1 rfl
        have hD : Maps.size D1 < 1000000000 := by have := hinv.len; have := HX.out.2.1; omega
        have H3 := Lib.hid (And.intro hm3 (And.intro hoW3 (And.intro hxL (And.intro hD (And.intro hinv (And.intro hp (And.intro hh (And.intro hwf (And.intro hsz hlW)))))))))
        clear hm2 hinv hsz hoW hlW hp hh hx hxr hwf hm3 hoW3 hxL hD hb HN
        go_wp2_with (at_mapUpdate; refine wpList_keep rfl _ _ _ rfl m _ D1 false rfl H3.out.1.map H3.out.2.2.2.1 x rfl rfl H3.out.2.2.2.2.2.2.2.1 ?_; intro w4 hown hg4)
        obtain ⟨hm3, hoW3, hxL, hD, hinv, hp, hh, hwf, hsz, hlW⟩ := H3.out
        have hne := hm3.ne
        have og : Only (fun k => k = m) w3 w4 := Only.grownBy hg4 (fun k hk => (Option.some.inj hk).symm)
        have hsz2 : Maps.size (D1.put (.int .i64 x) (.lit (.bool false))) = L.length := by
          rw [size_put (hm3.map.tidy lawK), (hm3.is x).1, ht, if_pos rfl]; exact hsz
        have HR : Hid (LfS w base b many mark top A m L A2 c2 l' (D1.put (.int .i64 x) (.lit (.bool false))) (upd tk1 x (some false)) w4) := Lib.hid
          ⟨⟨hm3.hp.only og (fun e => hne.1 e) (fun g hg e => (hne.2 g hg).2 e), ownsMap_tight hown, hm3.is.put hm3.map.isMap x false, hm3.base⟩, hinv.drop hp hh hxL, hsz2, hoW3.next og (fun k _ e => .inr (.inl e)), hlW⟩
        clear hm3 hoW3 hxL hD hinv hp hh hwf hsz hlW hne og hsz2 hown hg4 H3 y1 ht CT
        go_roundg (l'.length)
        case measure => have := HL.out; omega
        case rel => exact ⟨A2, c2, l', _, _, Nat.le_refl _, HR⟩
end Go.Proofs.Ytncgjlhmgdgokaa
