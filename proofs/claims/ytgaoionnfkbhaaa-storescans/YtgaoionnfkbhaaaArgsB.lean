/-
  What comes in, as the walks ask it: bytes.
-/
import Derived.Test.YtgaoionnfkbhaaaArgs
import Derived.Test.YtgaoionnfkbhaaaBase
import Derived.SizedLaws
namespace Go.Proofs.Ytgaoionnfkbhaaa
open Go.RowKit Go.ChangeShapes Go.WideShapes Go.ChangeAt

end Go.Proofs.Ytgaoionnfkbhaaa
