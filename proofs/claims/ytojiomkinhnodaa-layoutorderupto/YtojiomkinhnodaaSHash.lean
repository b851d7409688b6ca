/- The contracts of Gnu and Hash. -/
import Derived.Test.YtojiomkinhnodaaSPlain
namespace Go.Proofs.Ytojiomkinhnodaa
open Go.ChangeShapes Go.WideShapes Go.ChangeAt Go.RowKit
set_option linter.unusedVariables false

end Go.Proofs.Ytojiomkinhnodaa
