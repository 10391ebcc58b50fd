/-
  The program draws orders.
-/
import Derived.Test.YtinlpaabmojmkaaChecked
import Derived.KernelRfl
namespace Go.Proofs.Ytinlpaabmojmkaa
theorem Try.mixed : Try.prog.follows .mixedOrders = true := by kernel_rfl
end Go.Proofs.Ytinlpaabmojmkaa
