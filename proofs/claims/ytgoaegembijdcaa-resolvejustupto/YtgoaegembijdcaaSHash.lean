/- The contracts of Gnu and Hash. -/
import Derived.Test.YtgoaegembijdcaaSPlain
namespace Go.Proofs.Ytgoaegembijdcaa
open Go.ChangeShapes Go.WideShapes Go.ChangeAt Go.RowKit
set_option linter.unusedVariables false

end Go.Proofs.Ytgoaegembijdcaa
