/-
  The program draws orders.
-/
import Derived.Test.YtooffljimdklfaaDoorChecked
import Derived.KernelRfl
namespace Go.Proofs.YtooffljimdklfaaDoor
theorem Tryd.mixed : Tryd.prog.follows .mixedOrders = true := by kernel_rfl
end Go.Proofs.YtooffljimdklfaaDoor
