/-
  What comes in, as the walks ask it: bytes.
-/
import Derived.Test.YtcngkeilleeanaaArgs
import Derived.Test.YtcngkeilleeanaaBase
import Derived.SizedLaws
namespace Go.Proofs.Ytcngkeilleeanaa
open Go.RowKit Go.ChangeShapes Go.WideShapes Go.ChangeAt

end Go.Proofs.Ytcngkeilleeanaa
