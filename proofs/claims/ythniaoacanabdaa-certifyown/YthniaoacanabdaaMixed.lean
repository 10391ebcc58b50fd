/-
  The program draws orders.
-/
import Derived.Test.YthniaoacanabdaaChecked
import Derived.KernelRfl
namespace Go.Proofs.Ythniaoacanabdaa
theorem Try.mixed : Try.prog.follows .mixedOrders = true := by kernel_rfl
end Go.Proofs.Ythniaoacanabdaa
