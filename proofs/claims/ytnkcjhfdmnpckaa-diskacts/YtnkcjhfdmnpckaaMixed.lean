/-
  The program draws orders.
-/
import Derived.Test.YtnkcjhfdmnpckaaChecked
import Derived.KernelRfl
namespace Go.Proofs.Ytnkcjhfdmnpckaa
theorem Try.mixed : Try.prog.follows .mixedOrders = true := by kernel_rfl
end Go.Proofs.Ytnkcjhfdmnpckaa
