/-
  The program draws orders.
-/
import Derived.Test.YtcngkeilleeanaaChecked
import Derived.KernelRfl
namespace Go.Proofs.Ytcngkeilleeanaa
theorem Try.mixed : Try.prog.follows .mixedOrders = true := by kernel_rfl
end Go.Proofs.Ytcngkeilleeanaa
