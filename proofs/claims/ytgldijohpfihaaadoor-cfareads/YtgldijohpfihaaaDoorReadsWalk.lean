/- The law CfaReads, walked. -/
import Derived.Test.YtgldijohpfihaaaDoorCPRY
import Derived.Test.YtgldijohpfihaaaDoorRiseWalk
namespace Go.Proofs.YtgldijohpfihaaaDoor
open Go.ChangeShapes Go.WideShapes Go.ChangeAt Go.RowKit
set_option linter.unusedVariables false

theorem bytes5 : Tryd.prog.bytesOf 5 = 1 := by kernel_rfl
theorem cfaReads_wk (ao : Option Addr) (len cap : Nat) (bs : Nat → Int) (w : World) (hI : IsRow w ao len cap bs) (hl : len ≤ 140737488351232) (hf : Fz w) :
    Calls Tryd.prog 6 #[.slice ao len cap] w fun e w' => e = .returned (.bool true) ∧ Below w.heap.size w w' :=
  cfaReads_walk pread pknows ao len cap bs w hI hl hf
end Go.Proofs.YtgldijohpfihaaaDoor
