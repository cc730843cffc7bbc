/- A place is given back; no condition. -/
import Derived.Test.YtncgjlhmgdgokaaAN
namespace ArenaMath
theorem del_len {x : Int} {L : List Int} (h : Ris L) (hx : x ∈ L) : (delR x L).length + 1 = L.length := by
  have hn : x ∉ delR x L := fun q => (mem_del.1 q).2 rfl
  have e : insR x (delR x L) = L := ris_ext (ins_ris (del_ris h) hn) h (fun z => by
    rw [mem_ins, mem_del]
    constructor
    · rintro (rfl | ⟨h1, _⟩)
      · exact hx
      · exact h1
    · intro hz
      by_cases e : z = x
      · exact .inl e
      · exact .inr ⟨hz, e⟩)
  have := ins_len x (delR x L)
  rw [e] at this
  omega
end ArenaMath
namespace Go.Proofs.Ytncgjlhmgdgokaa
open Go.RowKit Go.Sort ArenaMath Go.Maps

theorem field_h (q : Bool) (W : World) : (Instr.field 64 (.agg #[.bool q]) 0).run Try.prog W = .ok (.bool q) W := by kernel_rfl
/-- The state of free's loop. -/
structure FreeS (w : World) (base b many : Nat) (mark : Int) (A : Option Addr) (m : Nat) (x : Int) (L : List Int) (t : Int) (A1 : Option Addr) (c1 : Nat) (hs1 : List Int) (D1 : DataW Unit) (tk1 : Int → Option Bool) (wr : World) : Prop where
  mem : ArMem wr base b many mark t A1 c1 hs1 m D1 tk1
  inv : InvTop many mark hs1 tk1 (delR x L)
  sz : Maps.size D1 = (delR x L).length
  only : Only (foot b m A) w wr
  loc : ∀ g, ownB A1 = some g → ownB A = some g ∨ w.heap.size ≤ g
  up : ∀ z ∈ delR x L, z < t
  up2 : 0 ≤ t ∧ t ≤ 65536
set_option maxRecDepth 1000000 in
set_option maxHeartbeats 16000000 in
theorem free_any {w : World} {base b many c m : Nat} {mark top : Int} {A : Option Addr} {hs : List Int} {D : DataW Unit} {tk : Int → Option Bool} {L : List Int} (x : Int)
    (h : ArMem w base b many mark top A c hs m D tk) (hi : AInv many mark top hs tk L) (hsz : Maps.size D = L.length) (hxL : x ∈ L) (hm : many ≤ 65536) (hbase : base ≤ w.heap.size) :
    Calls Try.prog 37 #[.pointer (some ⟨b, 0, none⟩), .int .i64 x] w fun e w' => e = .returned (.tuple #[]) ∧ ∃ A' c' hs' D', ArMem w' base b many mark (topL (delR x L)) A' c' hs' m D' (upd tk x none) ∧ AInv many mark (topL (delR x L)) hs' (upd tk x none) (delR x L) ∧ Maps.size D' = (delR x L).length ∧ Only (foot b m A) w w' ∧ ∀ g, ownB A' = some g → ownB A = some g ∨ w.heap.size ≤ g := by
  obtain ⟨q, hq⟩ : ∃ q, tk x = some q := Option.ne_none_iff_exists'.1 ((hi.mem x).1 hxL)
  have hxr := hi.rng x hxL
  have hmk := hi.mkb
  have hwf : (Lit.int .i64 x).wf = true := WalkArith.wf_i64 (by omega)
  have hisq := (h.is x).2 q hq (.lit (.bool false))
  have y1 := h.hp.row.c 1 rfl
  have htop : ∀ z ∈ L, z < top := fun z hz => by rw [hi.top]; exact top_lt hi.ris z hz
  have htp : 0 ≤ top ∧ top ≤ 65536 := by
    have h1 := top_nonneg (fun z hz => (hi.rng z hz).1)
    rw [hi.top]
    refine ⟨h1, ?_⟩
    by_cases hL : L = []
    · rw [hL]; decide
    · have := hi.rng _ (top_mem hL); omega
  have HX := Lib.hid (show (tk x).isSome = true ∧ Maps.size D = L.length ∧ (Lit.int .i64 x).wf = true ∧ Ris L ∧ x ∈ L ∧ (∀ z ∈ L, z < top) ∧ (0 ≤ top ∧ top ≤ 65536) ∧ many ≤ 65536 from ⟨by rw [hq]; rfl, hsz, hwf, hi.ris, hxL, htop, htp, hm⟩)
  have H := Lib.hid (And.intro h (And.intro hi (And.intro hq (And.intro hisq hbase))))
  clear h hi hsz hxL hm hbase hq hxr hmk hwf hisq htop htp
  have hfld := fun W => field_h q W
  cases q
  · go_enter Try.func37, Try.ntmps37
    go_wp2_with (at_lookup; refine wpList_look rfl _ _ rfl m _ D rfl H.out.1.map x rfl HX.out.2.2.1 ?_; intro q hq; rw [H.out.2.2.2.1] at hq; obtain rfl : false = q := by injection hq with hq; injection hq)
    have hlen := H.out.2.1.hlen HX.out.2.2.2.2.2.2.2
    have CP := Lib.hid (put_any (w := w) x H.out.1.hp H.out.2.1.heap (by omega) H.out.2.2.2.2)
    clear hlen y1
    go_wp2_with fail
    refine CP.out.mono ?_
    rintro e W2 ⟨rfl, hs2, hp, hh, A2, c2, hA2, ho2, hl2⟩
    have H2 : Hid (ArMem W2 base b many mark top A2 c2 hs2 m D tk ∧ InvTop many mark hs2 (upd tk x none) (delR x L) ∧ Only (foot b m A) w W2 ∧ ∀ g, ownB A2 = some g → ownB A = some g ∨ w.heap.size ≤ g) := by
      obtain ⟨h, hi, hq, _, _⟩ := H.out
      have hne := h.ne
      have hmap : W2.ownsMap Try.prog 3 hElem m (Maps.size D) D := h.map.only ho2 (by rintro (e | e); exact hne.1 e.symm; exact (hne.2 m e).2 rfl)
      exact Lib.hid ⟨⟨hA2, hmap, h.is, h.base⟩, hi.give_put hq hp hh, ho2.mono (fun k _ e => by rcases e with e | e; exact .inl e; exact .inr (.inr e)), hl2⟩
    clear hp hh hA2 ho2 hl2 CP H
    have y1 := H2.out.1.hp.row.c 1 rfl
    go_wp2_with (at_delete; refine wpList_delete_own _ rfl _ _ 35 3 rfl 64 lawK Try.underlying35 hElem m _ D rfl H2.out.1.map _ (.int .i64 x) rfl (keyOf_int_mk Try.underlying3 HX.out.2.2.1) ?_; intro w3 hown hturn)
    obtain ⟨hm2, hi2, ho2, hl2⟩ := H2.out
    have og : Only (fun k => k = m) W2 w3 := Only.grownBy hturn.grown (fun k hk => (Option.some.inj hk).symm)
    have hne := hm2.ne
    have hsz2 : Maps.size (D.del (.int .i64 x)) = (delR x L).length := by
      have e1 := size_del (k := .int .i64 x) (hm2.map.tidy lawK)
      rw [(hm2.is x).1, HX.out.1, if_pos (by rfl)] at e1
      have e2 := del_len HX.out.2.2.2.1 HX.out.2.2.2.2.1
      have e3 := HX.out.2.1
      omega
    have HS0 : Hid (FreeS w base b many mark A m x L top A2 c2 hs2 (D.del (.int .i64 x)) (upd tk x none) w3) := Lib.hid
      ⟨⟨hm2.hp.only og (fun e => hne.1 e) (fun g hg e => (hne.2 g hg).2 e), ownsMap_tight hown, hm2.is.del x, hm2.base⟩, hi2, hsz2, ho2.next og (fun k _ e => .inr (.inl e)), hl2, fun z hz => HX.out.2.2.2.2.2.1 z (mem_del.1 hz).1, HX.out.2.2.2.2.2.2.1⟩
    clear hm2 hi2 ho2 hl2 og hne hsz2 hown hturn H2 y1
    (first | go_frame | skip)
    go_loopg [] (top.toNat) (fun g wr => ∃ t, t.toNat ≤ g ∧ Hid (FreeS w base b many mark A m x L t A2 c2 hs2 (D.del (.int .i64 x)) (upd tk x none) wr))
    case atStart => exact ⟨top, Nat.le_refl _, HS0⟩
    case round =>
      obtain ⟨t, hg, HS⟩ := hrel
      clear HS0
      have y4 := HS.out.mem.hp.row.c 4 rfl
      by_cases t0 : 0 < t
      · have t0' : decide (0 < t) = true := decide_eq_true t0
        have wk : IntKind.i64.wrap (t - 1) = t - 1 := IntWalk.i64_in _ (by have := HS.out.up2; have := HX.out.2.2.2.2.2.2.2; omega)
        have hwf : (Lit.int .i64 (t - 1)).wf = true := WalkArith.wf_i64 (by have := HS.out.up2; have := HX.out.2.2.2.2.2.2.2; omega)
        have CT := Lib.hid (taken_any HS.out.mem (t - 1) hwf)
        have HT0 := Lib.hid t0
        clear t0 hwf
        go_wp2_with fail
        refine CT.out.mono ?_
        rintro e w4 ⟨rfl, hb⟩
        cases ht : (upd tk x none (t - 1)).isSome
        · have hm4 := HS.out.mem.after hb
          have y5 := hm4.hp.row.c 4 rfl
          have f5 := hm4.hp.row.f 4 rfl
          have H4 := Lib.hid (And.intro hm4 hb)
          clear hm4 hb
          go_wp2_with fail
          obtain ⟨hm4, hb⟩ := H4.out
          have hS := HS.out
          have HSN : Hid (FreeS w base b many mark A m x L (t - 1) A2 c2 hs2 (D.del (.int .i64 x)) (upd tk x none) (w4.setCell ⟨b, 4, none⟩ (.int .i64 (t - 1)))) := Lib.hid
            ⟨⟨hm4.hp.top _, ownsMap_put hm4.map (fun e => hm4.ne.1 e.symm) _, hm4.is, hm4.base⟩, hS.inv, hS.sz, (hS.only.next (G := fun _ => False) (Only.of hb) (fun _ _ q => q.elim)).put (p := ⟨b, 4, none⟩) (.inl (.inl rfl)) _, hS.loc, fun z hz => by
              have h1 := hS.up z hz
              have h2 : z ≠ t - 1 := fun e => by
                have := (hS.inv.mem z).1 hz
                rw [e] at this
                exact this (by simpa using ht)
              omega, ⟨by have := HT0.out; omega, by have := hS.up2; omega⟩⟩
          have hlt : (t - 1).toNat < t.toNat := by have := HT0.out; omega
          clear hm4 hb hS H4 y4 y5 f5 ht CT HS HT0
          go_roundg ((t - 1).toNat)
          case measure => omega
          case rel => exact ⟨t - 1, Nat.le_refl _, HSN⟩
        · go_wp2_with fail
          go_end0
          have hS := HS.out
          have hmem : t - 1 ∈ delR x L := (hS.inv.mem (t - 1)).2 (fun e => by rw [e] at ht; simp at ht)
          have htop := top_rest hS.inv.ris (fun z hz => (hS.inv.rng z hz).1) hS.up2.1 hS.up (.inr hmem)
          rw [htop]
          exact ⟨rfl, A2, c2, hs2, _, hS.mem.after hb, hS.inv.all htop.symm, hS.sz, hS.only.next (G := fun _ => False) (Only.of hb) (fun _ _ q => q.elim), hS.loc⟩
      · have t0' : decide (0 < t) = false := decide_eq_false t0
        go_wp2_with fail
        go_end0
        have hS := HS.out
        have htop := top_rest (t := t) hS.inv.ris (fun z hz => (hS.inv.rng z hz).1) hS.up2.1 hS.up (.inl (by have := hS.up2; omega))
        rw [htop]
        exact ⟨rfl, A2, c2, hs2, _, hS.mem, hS.inv.all htop.symm, hS.sz, hS.only, hS.loc⟩
  · go_enter Try.func37, Try.ntmps37
    obtain ⟨W2, hW2⟩ : ∃ W2, w = W2 := ⟨_, rfl⟩
    obtain ⟨A2, hA2⟩ : ∃ A2, A = A2 := ⟨_, rfl⟩
    obtain ⟨c2, hc2⟩ : ∃ c2, c = c2 := ⟨_, rfl⟩
    obtain ⟨hs2, hhs2⟩ : ∃ hs2, hs = hs2 := ⟨_, rfl⟩
    have H2 : Hid (ArMem w base b many mark top A2 c2 hs2 m D tk ∧ InvTop many mark hs2 (upd tk x none) (delR x L) ∧ Only (foot b m A) w w ∧ ∀ g, ownB A2 = some g → ownB A = some g ∨ w.heap.size ≤ g) := by
      subst hA2 hc2 hhs2
      exact Lib.hid ⟨H.out.1, H.out.2.1.give_waits H.out.2.2.1, Only.refl _ _, fun g hg => .inl hg⟩
    clear hW2 hA2 hc2 hhs2 W2
    go_wp2_with (first | (at_lookup; refine wpList_look rfl _ _ rfl m _ D rfl H.out.1.map x rfl HX.out.2.2.1 ?_; intro q hq; rw [H.out.2.2.2.1] at hq; obtain rfl : true = q := by injection hq with hq; injection hq) | (at_delete; refine wpList_delete_own _ rfl _ _ 35 3 rfl 64 lawK Try.underlying35 hElem m _ D rfl H2.out.1.map _ (.int .i64 x) rfl (keyOf_int_mk Try.underlying3 HX.out.2.2.1) ?_; intro w3 hown hturn))
    clear H
    obtain ⟨hm2, hi2, ho2, hl2⟩ := H2.out
    have og : Only (fun k => k = m) w w3 := Only.grownBy hturn.grown (fun k hk => (Option.some.inj hk).symm)
    have hne := hm2.ne
    have hsz2 : Maps.size (D.del (.int .i64 x)) = (delR x L).length := by
      have e1 := size_del (k := .int .i64 x) (hm2.map.tidy lawK)
      rw [(hm2.is x).1, HX.out.1, if_pos (by rfl)] at e1
      have e2 := del_len HX.out.2.2.2.1 HX.out.2.2.2.2.1
      have e3 := HX.out.2.1
      omega
    have HS0 : Hid (FreeS w base b many mark A m x L top A2 c2 hs2 (D.del (.int .i64 x)) (upd tk x none) w3) := Lib.hid
      ⟨⟨hm2.hp.only og (fun e => hne.1 e) (fun g hg e => (hne.2 g hg).2 e), ownsMap_tight hown, hm2.is.del x, hm2.base⟩, hi2, hsz2, ho2.next og (fun k _ e => .inr (.inl e)), hl2, fun z hz => HX.out.2.2.2.2.2.1 z (mem_del.1 hz).1, HX.out.2.2.2.2.2.2.1⟩
    clear hm2 hi2 ho2 hl2 og hne hsz2 hown hturn H2 y1
    (first | go_frame | skip)
    go_loopg [] (top.toNat) (fun g wr => ∃ t, t.toNat ≤ g ∧ Hid (FreeS w base b many mark A m x L t A2 c2 hs2 (D.del (.int .i64 x)) (upd tk x none) wr))
    case atStart => exact ⟨top, Nat.le_refl _, HS0⟩
    case round =>
      obtain ⟨t, hg, HS⟩ := hrel
      clear HS0
      have y4 := HS.out.mem.hp.row.c 4 rfl
      by_cases t0 : 0 < t
      · have t0' : decide (0 < t) = true := decide_eq_true t0
        have wk : IntKind.i64.wrap (t - 1) = t - 1 := IntWalk.i64_in _ (by have := HS.out.up2; have := HX.out.2.2.2.2.2.2.2; omega)
        have hwf : (Lit.int .i64 (t - 1)).wf = true := WalkArith.wf_i64 (by have := HS.out.up2; have := HX.out.2.2.2.2.2.2.2; omega)
        have CT := Lib.hid (taken_any HS.out.mem (t - 1) hwf)
        have HT0 := Lib.hid t0
        clear t0 hwf
        go_wp2_with fail
        refine CT.out.mono ?_
        rintro e w4 ⟨rfl, hb⟩
        cases ht : (upd tk x none (t - 1)).isSome
        · have hm4 := HS.out.mem.after hb
          have y5 := hm4.hp.row.c 4 rfl
          have f5 := hm4.hp.row.f 4 rfl
          have H4 := Lib.hid (And.intro hm4 hb)
          clear hm4 hb
          go_wp2_with fail
          obtain ⟨hm4, hb⟩ := H4.out
          have hS := HS.out
          have HSN : Hid (FreeS w base b many mark A m x L (t - 1) A2 c2 hs2 (D.del (.int .i64 x)) (upd tk x none) (w4.setCell ⟨b, 4, none⟩ (.int .i64 (t - 1)))) := Lib.hid
            ⟨⟨hm4.hp.top _, ownsMap_put hm4.map (fun e => hm4.ne.1 e.symm) _, hm4.is, hm4.base⟩, hS.inv, hS.sz, (hS.only.next (G := fun _ => False) (Only.of hb) (fun _ _ q => q.elim)).put (p := ⟨b, 4, none⟩) (.inl (.inl rfl)) _, hS.loc, fun z hz => by
              have h1 := hS.up z hz
              have h2 : z ≠ t - 1 := fun e => by
                have := (hS.inv.mem z).1 hz
                rw [e] at this
                exact this (by simpa using ht)
              omega, ⟨by have := HT0.out; omega, by have := hS.up2; omega⟩⟩
          have hlt : (t - 1).toNat < t.toNat := by have := HT0.out; omega
          clear hm4 hb hS H4 y4 y5 f5 ht CT HS HT0
          go_roundg ((t - 1).toNat)
          case measure => omega
          case rel => exact ⟨t - 1, Nat.le_refl _, HSN⟩
        · go_wp2_with fail
          go_end0
          have hS := HS.out
          have hmem : t - 1 ∈ delR x L := (hS.inv.mem (t - 1)).2 (fun e => by rw [e] at ht; simp at ht)
          have htop := top_rest hS.inv.ris (fun z hz => (hS.inv.rng z hz).1) hS.up2.1 hS.up (.inr hmem)
          rw [htop]
          exact ⟨rfl, A2, c2, hs2, _, hS.mem.after hb, hS.inv.all htop.symm, hS.sz, hS.only.next (G := fun _ => False) (Only.of hb) (fun _ _ q => q.elim), hS.loc⟩
      · have t0' : decide (0 < t) = false := decide_eq_false t0
        go_wp2_with fail
        go_end0
        have hS := HS.out
        have htop := top_rest (t := t) hS.inv.ris (fun z hz => (hS.inv.rng z hz).1) hS.up2.1 hS.up (.inl (by have := hS.up2; omega))
        rw [htop]
        exact ⟨rfl, A2, c2, hs2, _, hS.mem, hS.inv.all htop.symm, hS.sz, hS.only, hS.loc⟩
end Go.Proofs.Ytncgjlhmgdgokaa
