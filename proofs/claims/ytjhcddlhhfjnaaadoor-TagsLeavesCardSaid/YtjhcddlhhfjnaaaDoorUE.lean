/- Contracts of Tags.With and Same. -/
import Derived.Test.YtjhcddlhhfjnaaaDoorTM
import Derived.BigQuiet
import Derived.Deep.QuietTactic
namespace Go.Proofs.YtjhcddlhhfjnaaaDoor
open Go.RowKit Go.Sort
theorem below_drewN (W : World) (n : Nat) : Below W.heap.size W (W.drewN n) := ⟨rfl, rfl, rfl, Nat.le_refl _, fun _ _ => rfl⟩
end Go.Proofs.YtjhcddlhhfjnaaaDoor
