/-
  The program draws orders.
-/
import Derived.Test.YtgaoionnfkbhaabChecked
import Derived.KernelRfl
namespace Go.Proofs.Ytgaoionnfkbhaab
theorem Try.mixed : Try.prog.follows .mixedOrders = true := by kernel_rfl
end Go.Proofs.Ytgaoionnfkbhaab
