/-
  The program draws orders.
-/
import Derived.Test.YtmicmbjbclkbjaaChecked
import Derived.KernelRfl
namespace Go.Proofs.Ytmicmbjbclkbjaa
theorem Try.mixed : Try.prog.follows .mixedOrders = true := by kernel_rfl
end Go.Proofs.Ytmicmbjbclkbjaa
