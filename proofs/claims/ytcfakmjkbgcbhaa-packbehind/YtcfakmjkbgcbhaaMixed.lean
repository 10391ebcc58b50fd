/-
  The program draws orders.
-/
import Derived.Test.YtcfakmjkbgcbhaaChecked
import Derived.KernelRfl
namespace Go.Proofs.Ytcfakmjkbgcbhaa
theorem Try.mixed : Try.prog.follows .mixedOrders = true := by kernel_rfl
end Go.Proofs.Ytcfakmjkbgcbhaa
