/- The law CfaBack, walked. -/
import Derived.Test.YtgldijohpfihaaaDoorCPRY
import Derived.Test.YtgldijohpfihaaaDoorCPWX
import Derived.Test.YtgldijohpfihaaaDoorRiseWalk
namespace Go.Proofs.YtgldijohpfihaaaDoor
open Go.ChangeShapes Go.WideShapes Go.ChangeAt Go.RowKit
set_option linter.unusedVariables false

theorem cfaBack_wk (ao : Option Addr) (c : Nat) (l : List Oq) (w : World) (hI : IsOq w ao c l) (hl : l.length ≤ 5864062014634) (hf : Fz w) :
    Calls Tryd.prog 7 #[.slice ao l.length c] w fun e w' => e = .returned (.bool true) ∧ Below w.heap.size w w' :=
  cfaBack_walk pwrite pread pknows ao c l w hI hl hf
end Go.Proofs.YtgldijohpfihaaaDoor
