/-
  The program draws orders.
-/
import Derived.Test.YtnomlnedincfjaaDoorChecked
import Derived.KernelRfl
namespace Go.Proofs.YtnomlnedincfjaaDoor
theorem Tryd.mixed : Tryd.prog.follows .mixedOrders = true := by kernel_rfl
end Go.Proofs.YtnomlnedincfjaaDoor
