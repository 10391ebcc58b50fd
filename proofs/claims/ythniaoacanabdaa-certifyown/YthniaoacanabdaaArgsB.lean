/-
  What comes in, as the walks ask it: bytes.
-/
import Derived.Test.YthniaoacanabdaaArgs
import Derived.Test.YthniaoacanabdaaBase
import Derived.SizedLaws
namespace Go.Proofs.Ythniaoacanabdaa
open Go.RowKit Go.ChangeShapes Go.WideShapes Go.ChangeAt

end Go.Proofs.Ythniaoacanabdaa
