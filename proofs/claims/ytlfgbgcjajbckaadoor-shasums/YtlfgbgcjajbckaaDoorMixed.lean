/-
  The program draws orders.
-/
import Derived.Test.YtlfgbgcjajbckaaDoorChecked
import Derived.KernelRfl
namespace Go.Proofs.YtlfgbgcjajbckaaDoor
theorem Tryd.mixed : Tryd.prog.follows .mixedOrders = true := by kernel_rfl
end Go.Proofs.YtlfgbgcjajbckaaDoor
