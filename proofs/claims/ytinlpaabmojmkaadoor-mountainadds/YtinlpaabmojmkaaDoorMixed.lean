/-
  The program draws orders.
-/
import Derived.Test.YtinlpaabmojmkaaDoorChecked
import Derived.KernelRfl
namespace Go.Proofs.YtinlpaabmojmkaaDoor
theorem Tryd.mixed : Tryd.prog.follows .mixedOrders = true := by kernel_rfl
end Go.Proofs.YtinlpaabmojmkaaDoor
