/- The heap's put: what was there and one more, and it is a heap; no condition. -/
import Derived.Test.YtncgjlhmgdgokaaAF
namespace Go.Proofs.Ytncgjlhmgdgokaa
open Go.RowKit Go.Sort ArenaMath

/-- What a call that changes the heap of block b leaves. -/
def HpTurn (w : World) (base b : Nat) (rest : List Value) (A : Option Addr) (l' : List Int) (w' : World) : Prop :=
  ∃ A' c', HpAt w' base b rest A' c' l' ∧ Only (fun k => k = b ∨ ownB A = some k) w w' ∧ ∀ g, ownB A' = some g → ownB A = some g ∨ w.heap.size ≤ g
/-- The state of put's loop. -/
def PutS (W0 : World) (base b : Nat) (rest : List Value) (A : Option Addr) (l0 : List Int) (i : Nat) (wr : World) : Prop :=
  ∃ c l, HpAt wr base b rest A c l ∧ Only (fun k => ownB A = some k) W0 wr ∧ l.Perm l0 ∧ l.length = l0.length ∧ UpOk l i ∧ i < l.length
theorem wr64 {x : Int} (h1 : 0 ≤ x) (h2 : x < 9223372036854775808) : wrap64 x = x := by unfold wrap64; omega
set_option maxRecDepth 1000000 in
set_option maxHeartbeats 16000000 in
theorem put_any {w : World} {base b c : Nat} {rest : List Value} {A : Option Addr} {l : List Int} (x : Int) (h : HpAt w base b rest A c l) (hh : Heap l) (hl : l.length < 500000000) (hbase : base ≤ w.heap.size) :
    Calls Try.prog 52 #[.pointer (some ⟨b, 0, none⟩), .int .i64 x] w fun e w' => e = .returned (.tuple #[]) ∧ ∃ l', l'.Perm (x :: l) ∧ Heap l' ∧ HpTurn w base b rest A l' w' := by
  have h0 := h.row.c 0 rfl
  have H := Lib.hid h
  have HBA := Lib.hid hbase
  have HHH := Lib.hid hh
  have HL := Lib.hid hl
  clear h hbase hh hl
  go_enter Try.func52, Try.ntmps52
  go_wp2_with (at_builtin; refine wpList_app rfl _ _ elemInt rfl base A l.length c (intCs l) (some ⟨w.heap.size, 0, none⟩) 1 1 [.int .i64 x] rfl rfl (H.out.line.alloc _) (cells_row (Row.at rfl [.int .i64 x] _)) rfl (by intro u hu; simp at hu; subst hu; rfl) (by have := HL.out; omega) (by have := HBA.out; simp; omega) ?_; intro A' c' w1 hown hg hloc; have r1 := (H.out.row.alloc (.cells #[.int .i64 x] 3)).grownBy hg (fun e => H.out.far b e rfl); have y0 := r1.c 0 rfl; have g0 := r1.f 0 rfl)
  have e0 : wrap64 ((l.length : Nat) : Int) = (l.length : Nat) := wr64 (by omega) (by have := HL.out; omega)
  rw [e0]
  clear e0
  have hne : ∀ g, ownB A' = some g → g ≠ b := fun g hg' => by
    rcases hloc with e | e
    · exact H.out.far g (by rw [← e]; exact hg')
    · rw [e] at hg'
      have := H.out.row.lt
      have e2 : (w.alloc (Obj.cells #[Value.int IntKind.i64 x] 3)).heap.size = w.heap.size + 1 := by simp
      rw [e2] at hg'
      cases hg'; omega
  have hloc' : ∀ g, ownB A' = some g → ownB A = some g ∨ w.heap.size ≤ g := fun g hg' => by
    rcases hloc with e | e
    · exact .inl (by rw [← e]; exact hg')
    · rw [e] at hg'
      have e2 : (w.alloc (Obj.cells #[Value.int IntKind.i64 x] 3)).heap.size = w.heap.size + 1 := by simp
      rw [e2] at hg'
      cases hg'; exact .inr (by omega)
  have oW : Only (fun k => k = b ∨ ownB A = some k) w (w1.setCell ⟨b, 0, none⟩ (.slice A' (l.length + 1) c')) :=
    ((Only.of ((Below.refl _ w).alloc (Nat.le_refl _) _)).trans ((Only.grownBy hg (F := fun k => k = b ∨ ownB A = some k) (fun k hk => .inr hk)))).put (p := ⟨b, 0, none⟩) (.inl (.inl rfl)) _
  have hs := H.out.row.lt
  have hAt : HpAt (w1.setCell ⟨b, 0, none⟩ (.slice A' (l.length + 1) c')) base b rest A' c' (l ++ [x]) := by
    refine ⟨?_, ?_, hne⟩
    · have := r1.set 0 (by simp) (.slice A' (l.length + 1) c')
      simpa using this
    · rw [intCs_append, List.length_append]
      exact hown.put (fun g hg' => hne g hg') _
  have hu := up_start x HHH.out
  generalize w1.setCell ⟨b, 0, none⟩ (.slice A' (l.length + 1) c') = W0 at oW hAt ⊢
  obtain ⟨g, hA, _⟩ := hAt.some (by simp)
  subst hA
  have HO := Lib.hid oW
  have HLo := Lib.hid hloc'
  have HS0 : Hid (PutS W0 base b rest (some ⟨g, 0, none⟩) (l ++ [x]) l.length W0) := Lib.hid ⟨c', l ++ [x], hAt, Only.refl _ _, List.Perm.refl _, rfl, hu, by simp⟩
  clear oW hAt hu hloc hloc' hg hown hne r1 y0 g0 h0 hs
  go_loopw [4] (fun i wr => ∃ k : Nat, i = .int .i64 k ∧ Hid (PutS W0 base b rest (some ⟨g, 0, none⟩) (l ++ [x]) k wr)) (fun i _ => (intOf i).toNat)
  case atStart => exact ⟨l.length, rfl, HS0⟩
  case round =>
    obtain ⟨k, rfl, HS⟩ := hrel
    clear HS0
    have fin : ∀ c1 l1 W, HpAt W base b rest (some ⟨g, 0, none⟩) c1 l1 → Only (fun k => ownB (some ⟨g, 0, none⟩) = some k) W0 W → l1.Perm (l ++ [x]) → Heap l1 → ∃ l', l'.Perm (x :: l) ∧ Heap l' ∧ HpTurn w base b rest A l' W := fun c1 l1 W h1 ho hp hh =>
      ⟨l1, hp.trans List.perm_append_comm, hh, some ⟨g, 0, none⟩, c1, h1, HO.out.next ho (fun k hk q => by rcases HLo.out k q with e | e; exact .inr e; omega), HLo.out⟩
    obtain ⟨c1, l1, h1, ho, hp, hl, hu, hk⟩ := HS.out
    have y0 := h1.row.c 0 rfl
    by_cases k0 : k = 0
    · subst k0
      go_wp2_with fail
      go_quiet (fail)
      go_wp2_with fail
      go_end0
      exact ⟨rfl, fin c1 l1 _ ⟨h1.row.drewN _, h1.line.drewN _, h1.far⟩ (ho.trans (Only.of (below_drewN (Below.refl _ _) _))) hp (up_done hu (.inl rfl))⟩
    · have kp := par_lt (Nat.pos_of_ne_zero k0)
      have hlb := HL.out
      have hk9 : k < 1000000000 := by simp at hl; omega
      have HP := Lib.hid (fun W => parent_any k (by omega) hk9 W)
      obtain ⟨p, hpp⟩ : ∃ p, par k = p := ⟨_, rfl⟩
      obtain ⟨n1, hn1⟩ : ∃ n, l1.length = n := ⟨_, rfl⟩
      obtain ⟨xi, hxi⟩ : ∃ z, gt l1 k = z := ⟨_, rfl⟩
      obtain ⟨xp, hxp⟩ : ∃ z, gt l1 (par k) = z := ⟨_, rfl⟩
      have ci := h1.cell rfl (i := k) hk
      have cp := h1.cell rfl (i := par k) (by omega)
      rw [hxi] at ci
      rw [hxp, hpp] at cp
      rw [hpp] at kp
      rw [hn1] at y0
      have i1 : (k : Int) < (n1 : Int) := by omega
      have i2 : (p : Int) < (n1 : Int) := by omega
      have i3 : (0 : Int) ≤ (k : Int) := by omega
      have i4 : (0 : Int) ≤ (p : Int) := by omega
      have i5 : (k : Int).toNat = k := by omega
      have i6 : (p : Int).toNat = p := by omega
      have i7 : decide (0 < k) = true := decide_eq_true (by omega)
      have HF := Lib.hid (And.intro hu (And.intro hk (And.intro hp (And.intro hl (And.intro ho (And.intro h1 fin))))))
      have HE := Lib.hid (And.intro hpp (And.intro hn1 (And.intro hxi (And.intro hxp (And.intro kp k0)))))
      rw [hpp] at HP
      clear hu hk hp hl ho h1 fin hpp hn1 hxi hxp kp k0 hlb hk9
      by_cases t : xi < xp
      · have t' : decide (xi < xp) = true := decide_eq_true t
        go_wp2_with fail
        go_quiet ((go_at_call 61; exact Calls.quiet_of_same (HP.out _)))
        go_wp2_with fail
        refine (HP.out _).mono ?_
        rintro e w2 ⟨rfl, rfl⟩
        clear y0 ci cp
        obtain ⟨hu, hk, hp, hl, ho, h1, fin⟩ := HF.out
        obtain ⟨hpp, hn1, hxi, hxp, kp, k0⟩ := HE.out
        have CS := Lib.hid (swap_any (w := wr.drewN nq) ⟨h1.row.drewN _, h1.line.drewN _, h1.far⟩ k p hk (by omega))
        have hs2 := up_step hu (by omega) hk (by rw [hxi, hxp]; exact t)
        have hperm := (sw_perm hk (show par k < l1.length by omega)).trans hp
        have ho2 := ho.trans (Only.of (F := fun k => ownB (some ⟨g, 0, none⟩) = some k) (below_drewN (Below.refl wr.heap.size wr) nq))
        rw [hpp] at hs2 hperm
        have HN := Lib.hid (And.intro hs2 (And.intro hperm (And.intro ho2 (And.intro hl (And.intro kp hk)))))
        clear hu hk hp hl ho h1 fin hpp hn1 hxi hxp kp k0 hs2 hperm ho2 HF HE HS
        go_wp2_with fail
        refine CS.out.mono ?_
        rintro e w3 ⟨rfl, h3, o3⟩
        have H3 := Lib.hid (And.intro h3 o3)
        clear h3 o3
        go_wp2_with fail
        refine (HP.out _).mono ?_
        rintro e w4 ⟨rfl, rfl⟩
        go_wp2_with fail
        go_roundw
        case rel =>
          obtain ⟨hs2, hperm, ho2, hl, kp, hk⟩ := HN.out
          exact ⟨p, rfl, Lib.hid ⟨c1, sw l1 k p, H3.out.1, ho2.trans H3.out.2, hperm, by rw [sw_len]; exact hl, hs2, by rw [sw_len]; omega⟩⟩
        case measure =>
          obtain ⟨hs2, hperm, ho2, hl, kp, hk⟩ := HN.out
          simp [intOf]; omega
      · have t' : decide (xi < xp) = false := decide_eq_false t
        go_wp2_with fail
        go_quiet ((go_at_call 61; exact Calls.quiet_of_same (HP.out _)))
        go_wp2_with fail
        go_end0
        obtain ⟨hu, hk, hp, hl, ho, h1, fin⟩ := HF.out
        obtain ⟨hpp, hn1, hxi, hxp, kp, k0⟩ := HE.out
        exact ⟨rfl, fin c1 l1 _ ⟨h1.row.drewN _, h1.line.drewN _, h1.far⟩ (ho.trans (Only.of (below_drewN (Below.refl _ _) _))) hp (up_done hu (.inr (by rw [hxi, hxp]; omega)))⟩
end Go.Proofs.Ytncgjlhmgdgokaa
