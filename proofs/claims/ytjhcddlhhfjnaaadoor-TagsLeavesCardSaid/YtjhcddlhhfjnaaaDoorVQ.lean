/- The law's own comparison. -/
import Derived.Test.YtjhcddlhhfjnaaaDoorVM
import Derived.Test.YtjhcddlhhfjnaaaDoorRI
namespace Go.Proofs.YtjhcddlhhfjnaaaDoor
open Go.RowKit Go.Sort Go.Shelf
attribute [local go_sem] Oper.semAt_some
theorem CellsS.below {w w1 : World} {A : Option Addr} {xs : List Value} {B : Nat} (h : CellsS w A xs) (hb : Below B w w1) (hB : 0 < xs.length → ∀ a, A = some a → a.block < B) : CellsS w1 A xs := fun h0 => by
  obtain ⟨b, o, e, hl⟩ := h h0
  exact ⟨b, o, e, hl.below hb (hB h0 _ e)⟩
theorem CellsS.lt {w : World} {A : Option Addr} {xs : List Value} (h : CellsS w A xs) : 0 < xs.length → ∀ a, A = some a → a.block < w.heap.size := fun h0 a ha => by
  obtain ⟨b, o, e, hl⟩ := h h0
  rw [ha] at e; cases e
  exact hl.1
theorem new_same (l : List Int) : rnew l = ((newA l).1, expand (newA l).2) := by
  have h : l.any badN = anyOff l := by
    unfold anyOff
    congr 1
    funext n
    exact bad_may n
  unfold rnew newA
  rw [h]
  cases anyOff l with
  | true => rfl
  | false =>
    show raddAll [] l = ((addAll [] l).1, expand (addAll [] l).2)
    exact add_all (cs := []) Good.nil
theorem wr_next (k : Nat) (h : k < 1000000) : IntKind.i64.wrap ((k : Int) + 1) = ((k + 1 : Nat) : Int) := by
  simp [IntKind.wrap, IntKind.signed, IntKind.bits]
  omega
/-- The numbers of counts. -/
def keysL (cs : List (Int × Int)) : List Int := cs.map (·.1)
/-- What stands while the law compares. -/
structure IsS (w : World) (m : Nat) (ks : List Int) (A : Option Addr) (N c : Nat) (A' : Option Addr) (N' c' : Nat) (b : Nat) (Ak : Option Addr) (ck k : Nat) (W : World) : Prop where
  t : Row W w.heap.size [.slice A N c]
  u : Row W (w.heap.size + 1) [.slice A' N' c']
  r : Row W (w.heap.size + 1 + 1) [.bool false]
  kk : Row W b [.slice Ak m ck]
  n : Row W (b + 1) [.int .i64 k]
  nk : m = ks.length
  ck : CellsS W Ak (intCs ks)
  far : 0 < m → ∀ a, Ak = some a → a.block < b
  lo : w.heap.size + 3 ≤ b
  bel : Below w.heap.size w W
section
variable {w : World} {m : Nat} {ks : List Int} {A : Option Addr} {N c : Nat} {A' : Option Addr} {N' c' : Nat} {b : Nat} {Ak : Option Addr} {ck k : Nat} {W W1 : World}
theorem IsS.under {B : Nat} (h : IsS w m ks A N c A' N' c' b Ak ck k W) (hb : Below B W W1) (hB : b + 2 ≤ B) : IsS w m ks A N c A' N' c' b Ak ck k W1 := by
  have h1 := h.lo
  exact ⟨h.t.below hb (by omega), h.u.below hb (by omega), h.r.below hb (by omega), h.kk.below hb (by omega), h.n.below hb (by omega), h.nk,
    h.ck.below hb (fun h0 a ha => by have := h.far (by rw [intCs_len, ← h.nk] at h0; omega) a ha; omega), h.far, h.lo, h.bel.trans (hb.mono (by omega))⟩
theorem IsS.after (h : IsS w m ks A N c A' N' c' b Ak ck k W) (hb : Below W.heap.size W W1) : IsS w m ks A N c A' N' c' b Ak ck k W1 := h.under hb h.n.1
end
end Go.Proofs.YtjhcddlhhfjnaaaDoor
