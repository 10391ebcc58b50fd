/-
  The program draws orders.
-/
import Derived.Test.YtgaoionnfkbhaaaChecked
import Derived.KernelRfl
namespace Go.Proofs.Ytgaoionnfkbhaaa
theorem Try.mixed : Try.prog.follows .mixedOrders = true := by kernel_rfl
end Go.Proofs.Ytgaoionnfkbhaaa
