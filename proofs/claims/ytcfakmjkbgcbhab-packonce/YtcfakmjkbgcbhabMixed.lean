/-
  The program draws orders.
-/
import Derived.Test.YtcfakmjkbgcbhabChecked
import Derived.KernelRfl
namespace Go.Proofs.Ytcfakmjkbgcbhab
theorem Try.mixed : Try.prog.follows .mixedOrders = true := by kernel_rfl
end Go.Proofs.Ytcfakmjkbgcbhab
