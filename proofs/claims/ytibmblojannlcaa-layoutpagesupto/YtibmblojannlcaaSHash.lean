/- The contracts of Gnu and Hash. -/
import Derived.Test.YtibmblojannlcaaSPlain
namespace Go.Proofs.Ytibmblojannlcaa
open Go.ChangeShapes Go.WideShapes Go.ChangeAt Go.RowKit
set_option linter.unusedVariables false

end Go.Proofs.Ytibmblojannlcaa
