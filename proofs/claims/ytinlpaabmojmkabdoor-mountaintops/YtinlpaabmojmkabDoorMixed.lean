/-
  The program draws orders.
-/
import Derived.Test.YtinlpaabmojmkabDoorChecked
import Derived.KernelRfl
namespace Go.Proofs.YtinlpaabmojmkabDoor
theorem Tryd.mixed : Tryd.prog.follows .mixedOrders = true := by kernel_rfl
end Go.Proofs.YtinlpaabmojmkabDoor
