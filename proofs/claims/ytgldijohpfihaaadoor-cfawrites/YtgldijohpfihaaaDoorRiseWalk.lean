/- The law CfaRise, walked. -/
import Derived.Test.YtgldijohpfihaaaDoorCFind
namespace Go.Proofs.YtgldijohpfihaaaDoor
open Go.ChangeShapes Go.WideShapes Go.ChangeAt Go.RowKit
set_option linter.unusedVariables false

theorem pknows : PKnows := cknows_any prows pfind pusual
theorem lit_in {x : Int} (h : (Lit.int .i64 x).wf = true) : -9223372036854775808 ≤ x ∧ x ≤ 9223372036854775807 := by
  simp [Lit.wf, IntKind.min, IntKind.max, IntKind.signed, IntKind.bits] at h
  omega
theorem cfaRise_wk (a1 : Option Addr) (c1 : Nat) (i : List Oq) (a2 : Option Addr) (c2 : Nat) (l : List Oq) (size x : Int) (w : World) (hI1 : IsOq w a1 c1 i) (h1 : i.length ≤ 5864062014634) (hI2 : IsOq w a2 c2 l) (h2 : l.length ≤ 5864062014634) (hs : (Lit.int .i64 size).wf = true) (hx : (Lit.int .i64 x).wf = true) (hf : Fz w) :
    Calls Tryd.prog 8 #[.slice a1 i.length c1, .slice a2 l.length c2, .int .i64 size, .int .i64 x] w fun e w' => e = .returned (.bool true) ∧ Below w.heap.size w w' :=
  cfaRise_walk prows pfind pknows a1 c1 i a2 c2 l size x w hI1 hI2 h1 h2 (lit_in hs) (lit_in hx) hf
end Go.Proofs.YtgldijohpfihaaaDoor
