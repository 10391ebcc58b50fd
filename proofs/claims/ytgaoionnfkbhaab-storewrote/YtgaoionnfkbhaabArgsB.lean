/-
  What comes in, as the walks ask it: bytes.
-/
import Derived.Test.YtgaoionnfkbhaabArgs
import Derived.Test.YtgaoionnfkbhaabBase
import Derived.SizedLaws
namespace Go.Proofs.Ytgaoionnfkbhaab
open Go.RowKit Go.ChangeShapes Go.WideShapes Go.ChangeAt

end Go.Proofs.Ytgaoionnfkbhaab
