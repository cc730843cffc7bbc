/- The mark goes on; a place is held; no condition. -/
import Derived.Test.YtncgjlhmgdgokaaAK
import Derived.StillTailTactics
import Derived.Deep.LoopGhost
namespace Go.Proofs.Ytncgjlhmgdgokaa
open Go.RowKit Go.Sort ArenaMath Go.Maps

theorem HpAt.mark {w : World} {base b c : Nat} {v1 v2 v3 v4 : Value} {A : Option Addr} {l : List Int} (h : HpAt w base b [v1, v2, v3, v4] A c l) (v : Value) : HpAt (w.setCell ⟨b, 3, none⟩ v) base b [v1, v2, v, v4] A c l :=
  ⟨h.row.set 3 (by simp) v, h.line.put (fun g hg => h.far g hg) v, h.far⟩
theorem HpAt.top {w : World} {base b c : Nat} {v1 v2 v3 v4 : Value} {A : Option Addr} {l : List Int} (h : HpAt w base b [v1, v2, v3, v4] A c l) (v : Value) : HpAt (w.setCell ⟨b, 4, none⟩ v) base b [v1, v2, v3, v] A c l :=
  ⟨h.row.set 4 (by simp) v, h.line.put (fun g hg => h.far g hg) v, h.far⟩
/-- A block that is not the cell's keeps its map. -/
theorem ownsMap_put {w : World} {b n : Nat} {D : DataW Unit} (h : w.ownsMap Try.prog 3 hElem b n D) {p : Addr} (hp : b ≠ p.block) (v : Value) : (w.setCell p v).ownsMap Try.prog 3 hElem b n D := h.setCell hp v
/-- The state of reach's loop. -/
structure ReachS (w : World) (base b many : Nat) (mark top : Int) (A : Option Addr) (m : Nat) (D : DataW Unit) (tk : Int → Option Bool) (L : List Int) (x : Int) (mk1 : Int) (A1 : Option Addr) (c1 : Nat) (hs1 : List Int) (wr : World) : Prop where
  mem : ArMem wr base b many mk1 top A1 c1 hs1 m D tk
  inv : AInv many mk1 top hs1 tk L
  lo : mark ≤ mk1 ∧ mk1 ≤ max mark (x + 1)
  only : Only (fun k => k = b ∨ ownB A = some k) w wr
  loc : ∀ g, ownB A1 = some g → ownB A = some g ∨ w.heap.size ≤ g
set_option maxRecDepth 1000000 in
set_option maxHeartbeats 16000000 in
theorem reach_any {w : World} {base b many c m : Nat} {mark top : Int} {A : Option Addr} {hs : List Int} {D : DataW Unit} {tk : Int → Option Bool} {L : List Int} (x : Int)
    (h : ArMem w base b many mark top A c hs m D tk) (hi : AInv many mark top hs tk L) (hx : x < many) (hm : many ≤ 65536) (hbase : base ≤ w.heap.size) :
    Calls Try.prog 34 #[.pointer (some ⟨b, 0, none⟩), .int .i64 x] w fun e w' => e = .returned (.tuple #[]) ∧ ∃ A1 c1 hs1, ReachS w base b many mark top A m D tk L x (max mark (x + 1)) A1 c1 hs1 w' := by
  have HX := Lib.hid (And.intro hx (And.intro hm hbase))
  have HS0 : Hid (ReachS w base b many mark top A m D tk L x mark A c hs w) := Lib.hid ⟨h, hi, ⟨Int.le_refl _, by omega⟩, Only.refl _ _, fun g hg => .inl hg⟩
  clear h hi hx hm hbase
  go_enter Try.func34, Try.ntmps34
  go_wp2_with fail
  go_loopg [] ((max mark (x + 1) - mark).toNat) (fun g wr => ∃ mk1 A1 c1 hs1, (max mark (x + 1) - mk1).toNat ≤ g ∧ Hid (ReachS w base b many mark top A m D tk L x mk1 A1 c1 hs1 wr))
  case atStart => exact ⟨mark, A, c, hs, Nat.le_refl _, HS0⟩
  case round =>
    obtain ⟨mk1, A1, c1, hs1, hg, HS⟩ := hrel
    clear HS0
    have y3 := HS.out.mem.hp.row.c 3 rfl
    by_cases t : mk1 ≤ x
    · have t' : decide (mk1 ≤ x) = true := decide_eq_true t
      go_wp2_with fail
      go_still_tail 7, (by kernel_rfl)
      change wpList _ _ _ _ _ wr.drew
      obtain ⟨hmem, hinv, hlo, honly, hloc⟩ := HS.out
      obtain ⟨hx, hm, hbase⟩ := HX.out
      have hlen := hinv.hlen hm
      have hsz := Nat.le_trans hbase honly.size
      have CP := Lib.hid (put_any (w := wr.drew) (base := base) (b := b) (c := c1) (A := A1) (l := hs1) mk1 ⟨hmem.hp.row.drew, hmem.hp.line.drew, hmem.hp.far⟩ hinv.heap (by omega) hsz)
      have HN := Lib.hid (And.intro hmem (And.intro hinv (And.intro hlo (And.intro honly (And.intro hloc (And.intro hx (And.intro hm t)))))))
      have wk : IntKind.i64.wrap (mk1 + 1) = mk1 + 1 := IntWalk.i64_in _ (by have := hinv.mkb; omega)
      clear hmem hinv hlo honly hloc hx hm hbase hlen hsz y3 t HS
      go_wp2_with fail
      refine CP.out.mono ?_
      rintro e w2 ⟨rfl, l', hp, hh, A2, c2, hA2, ho2, hl2⟩
      have z3 := hA2.row.c 3 rfl
      have f3 := hA2.row.f 3 rfl
      have HZ := Lib.hid (And.intro hp (And.intro hh (And.intro hA2 (And.intro ho2 hl2))))
      clear hp hh hA2 ho2 hl2 CP
      go_wp2_with fail
      obtain ⟨hmem, hinv, hlo, honly, hloc, hx, hm, t⟩ := HN.out
      obtain ⟨hp, hh, hA2, ho2, hl2⟩ := HZ.out
      have hne := hmem.ne
      have hmap : w2.ownsMap Try.prog 3 hElem m (Maps.size D) D := (hmem.map.drew).only ho2 (by rintro (e | e); exact hne.1 e.symm; exact (hne.2 m e).2 rfl)
      have HSN : Hid (ReachS w base b many mark top A m D tk L x (mk1 + 1) A2 c2 l' (w2.setCell ⟨b, 3, none⟩ (.int .i64 (mk1 + 1)))) := Lib.hid ⟨⟨hA2.mark _, ownsMap_put hmap (fun e => hne.1 e.symm) _, hmem.is, hmem.base⟩, hinv.reach (by omega) hp hh, ⟨by omega, by omega⟩,
        ((honly.drew.next ho2 (fun k hk q => by
          rcases q with q | q
          · exact .inl q
          · rcases hloc k q with e | e
            · exact .inr e
            · omega)).put (p := ⟨b, 3, none⟩) (.inl (.inl rfl)) _), fun g hg => by
          rcases hl2 g hg with e | e
          · exact hloc g e
          · exact .inr (Nat.le_trans honly.size e)⟩
      have hms : (max mark (x + 1) - (mk1 + 1)).toNat < (max mark (x + 1) - mk1).toNat := by omega
      clear hmem hinv hlo honly hloc hx hm t hp hh hA2 ho2 hl2 hne hmap HN HZ z3 f3
      go_roundg ((max mark (x + 1) - (mk1 + 1)).toNat)
      case measure => omega
      case rel => exact ⟨mk1 + 1, A2, c2, l', Nat.le_refl _, HSN⟩
    · have t' : decide (mk1 ≤ x) = false := decide_eq_false t
      go_wp2_with fail
      go_end0
      have e : mk1 = max mark (x + 1) := by have := HS.out.lo; omega
      rw [← e]
      exact ⟨rfl, A1, c1, hs1, HS.out⟩
end Go.Proofs.Ytncgjlhmgdgokaa
