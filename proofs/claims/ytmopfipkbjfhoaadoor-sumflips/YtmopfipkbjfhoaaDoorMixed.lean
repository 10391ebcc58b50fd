/-
  The program draws orders.
-/
import Derived.Test.YtmopfipkbjfhoaaDoorChecked
import Derived.KernelRfl
namespace Go.Proofs.YtmopfipkbjfhoaaDoor
theorem Tryd.mixed : Tryd.prog.follows .mixedOrders = true := by kernel_rfl
end Go.Proofs.YtmopfipkbjfhoaaDoor
