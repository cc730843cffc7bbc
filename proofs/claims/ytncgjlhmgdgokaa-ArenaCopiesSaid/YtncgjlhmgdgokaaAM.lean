/- A place is held; no condition. -/
import Derived.Test.YtncgjlhmgdgokaaAL
namespace Go.Proofs.Ytncgjlhmgdgokaa
open Go.RowKit Go.Sort ArenaMath Go.Maps

set_option maxRecDepth 1000000 in
set_option maxHeartbeats 16000000 in
theorem hold_any {w : World} {base b many c m : Nat} {mark top : Int} {A : Option Addr} {hs : List Int} {D : DataW Unit} {tk : Int → Option Bool} (x : Int) (q : Bool)
    (h : ArMem w base b many mark top A c hs m D tk) (hx : 0 ≤ x ∧ x < 65536) (hn : Maps.size D < 1000000000) :
    Calls Try.prog 27 #[.pointer (some ⟨b, 0, none⟩), .int .i64 x, .agg #[.bool q]] w fun e w' => e = .returned (.tuple #[]) ∧
      ArMem w' base b many mark (max top (x + 1)) A c hs m (D.put (.int .i64 x) (.lit (.bool q))) (upd tk x (some q)) ∧ Only (fun k => k = b ∨ k = m) w w' := by
  have hwf : (Lit.int .i64 x).wf = true := WalkArith.wf_i64 (by omega)
  have wk : IntKind.i64.wrap (x + 1) = x + 1 := IntWalk.i64_in _ (by omega)
  have H := Lib.hid (And.intro h (And.intro hwf hn))
  have HX := Lib.hid hx
  clear h hwf hn hx
  go_enter Try.func27, Try.ntmps27
  go_wp2_with fail
  generalize hW : w.alloc _ = W0
  have h0 : ArMem W0 base b many mark top A c hs m D tk := by rw [← hW]; exact H.out.1.after ((Below.refl w.heap.size w).alloc (Nat.le_refl _) _)
  have o0 : Only (fun k => k = b ∨ k = m) w W0 := by rw [← hW]; exact Only.of ((Below.refl w.heap.size w).alloc (Nat.le_refl _) _)
  have z0 : W0.cell? ⟨w.heap.size, 0, none⟩ = some (.bool q) := by rw [← hW]; exact (Row.at rfl [.bool q] _).c 0 rfl
  have y1 := h0.hp.row.c 1 rfl
  have H0 := Lib.hid (And.intro h0 o0)
  clear hW h0 o0
  go_still_tail 6, (by kernel_rfl)
  change wpList _ _ _ _ _ (World.drew _)
  go_wp2_with (at_mapUpdate; refine wpList_keep rfl _ _ _ rfl m _ D q rfl H0.out.1.map.drew H.out.2.2 x rfl rfl H.out.2.1 ?_; intro w2 hown hg; have r2 := (H0.out.1.hp.row.drew).grownBy hg (fun e => H0.out.1.ne.1 (Option.some.inj e).symm); have z4 := r2.c 4 rfl; have f4 := r2.f 4 rfl)
  all_goals
    go_end0
    have fin : ∀ t, t = max top (x + 1) → ArMem (w2.setCell ⟨b, 4, none⟩ (.int .i64 t)) base b many mark (max top (x + 1)) A c hs m (D.put (.int .i64 x) (.lit (.bool q))) (upd tk x (some q)) ∧ Only (fun k => k = b ∨ k = m) w (w2.setCell ⟨b, 4, none⟩ (.int .i64 t)) := fun t ht => by
      subst ht
      obtain ⟨h0, o0⟩ := H0.out
      have og : Only (fun k => k = b ∨ k = m) W0.drew w2 := Only.grownBy hg (fun k hk => .inr (Option.some.inj hk).symm)
      have hne := h0.ne
      have hp2 : HpAt w2 base b [.map (some m), .int .i64 many, .int .i64 mark, .int .i64 top] A c hs := ⟨r2, (h0.hp.line.drew).only (Only.grownBy (F := fun k => k = m) hg (fun k hk => (Option.some.inj hk).symm)) (fun g hg' => (hne.2 g hg').2), h0.hp.far⟩
      exact ⟨⟨hp2.top _, ownsMap_put (ownsMap_tight hown) (fun e => hne.1 e.symm) _, h0.is.put h0.map.isMap x q, h0.base⟩, ((o0.drew.trans og)).put (p := ⟨b, 4, none⟩) (.inl (.inl rfl)) _⟩
    exact ⟨rfl, fin _ (by omega)⟩
end Go.Proofs.Ytncgjlhmgdgokaa
