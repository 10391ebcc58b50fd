/-
  The program draws orders.
-/
import Derived.Test.YtljmhbchcadnbaaDoorChecked
import Derived.KernelRfl
namespace Go.Proofs.YtljmhbchcadnbaaDoor
theorem Tryd.mixed : Tryd.prog.follows .mixedOrders = true := by kernel_rfl
end Go.Proofs.YtljmhbchcadnbaaDoor
