/-
  The program draws orders.
-/
import Derived.Test.YtfjlkncliljjnaaChecked
import Derived.KernelRfl
namespace Go.Proofs.Ytfjlkncliljjnaa
theorem Try.mixed : Try.prog.follows .mixedOrders = true := by kernel_rfl
end Go.Proofs.Ytfjlkncliljjnaa
