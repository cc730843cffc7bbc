/- Contract of package limb's shared at the numbers of the chapter's row. -/
import Derived.Test.YthmobcpdbgmbeaaGreatDoorP
import Derived.Deep.RegionWith
import Derived.Deep.DeepCutAuto
namespace Go.Proofs.YthmobcpdbgmbeaaGreatDoor
open Go.RowKit
/-- What shared's three magnitudes hold. -/
def Sh (w0 : World) (a b : Int) (W : World) : Prop := Row W w0.heap.size [.int .u64 a, .int .u64 0, .int .u64 0, .int .u64 0] ∧ Row W (w0.heap.size + 1) [.int .u64 b, .int .u64 0, .int .u64 0, .int .u64 0] ∧
  Row W (w0.heap.size + 1 + 1) [.int .u64 0, .int .u64 0, .int .u64 0, .int .u64 0] ∧ Below w0.heap.size w0 W
section
variable {w0 W W1 : World} {a b : Int}
theorem Sh.alloc (h : Sh w0 a b W) (o : Obj) : Sh w0 a b (W.alloc o) := ⟨h.1.alloc o, h.2.1.alloc o, h.2.2.1.alloc o, h.2.2.2.alloc h.2.2.2.size o⟩
theorem Sh.drew (h : Sh w0 a b W) : Sh w0 a b W.drew := ⟨h.1, h.2.1, h.2.2.1, h.2.2.2.drew⟩
theorem Sh.after (h : Sh w0 a b W) (hb : Below W.heap.size W W1) : Sh w0 a b W1 := ⟨h.1.after hb, h.2.1.after hb, h.2.2.1.after hb, h.2.2.2.trans (hb.mono h.2.2.2.size)⟩
theorem Sh.putM (h : Sh w0 a b W) (c : Int) : Sh w0 c b ((((W.setCell ⟨w0.heap.size, 0, none⟩ (.int .u64 c)).setCell ⟨w0.heap.size, 1, none⟩ (.int .u64 0)).setCell ⟨w0.heap.size, 2, none⟩ (.int .u64 0)).setCell ⟨w0.heap.size, 3, none⟩ (.int .u64 0)) :=
  ⟨h.1.put4 _ _ _ _, h.2.1.other4 (by omega) _ _ _ _, h.2.2.1.other4 (by omega) _ _ _ _, below_put4 h.2.2.2 (Nat.le_refl _) _ _ _ _⟩
theorem Sh.putN (h : Sh w0 a b W) (c : Int) : Sh w0 a c ((((W.setCell ⟨w0.heap.size + 1, 0, none⟩ (.int .u64 c)).setCell ⟨w0.heap.size + 1, 1, none⟩ (.int .u64 0)).setCell ⟨w0.heap.size + 1, 2, none⟩ (.int .u64 0)).setCell ⟨w0.heap.size + 1, 3, none⟩ (.int .u64 0)) :=
  ⟨h.1.other4 (by omega) _ _ _ _, h.2.1.put4 _ _ _ _, h.2.2.1.other4 (by omega) _ _ _ _, below_put4 h.2.2.2 (by omega) _ _ _ _⟩
end
end Go.Proofs.YthmobcpdbgmbeaaGreatDoor
