/-
  The program draws orders.
-/
import Derived.Test.YtnkcjhfdmnpckabChecked
import Derived.KernelRfl
namespace Go.Proofs.Ytnkcjhfdmnpckab
theorem Try.mixed : Try.prog.follows .mixedOrders = true := by kernel_rfl
end Go.Proofs.Ytnkcjhfdmnpckab
