/-
  The program draws orders.
-/
import Derived.Test.YtfclmjfbcmjfbabDoorChecked
import Derived.KernelRfl
namespace Go.Proofs.YtfclmjfbcmjfbabDoor
theorem Tryd.mixed : Tryd.prog.follows .mixedOrders = true := by kernel_rfl
end Go.Proofs.YtfclmjfbcmjfbabDoor
