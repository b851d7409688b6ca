/- P1507, P1508: looked up in a program, and in what is read of its bytes; moved. -/
import Derived.Test.YtbhdledlahbokaaLookGood
namespace Go.Proofs.Ytbhdledlahbokaa
open Go.ChangeShapes Go.WideShapes Go.ChangeAt Go.RowKit Go.Conc
set_option linter.unusedVariables false

theorem linesLooked_walk (fa : Option Addr) (fc : Nat) (sa : Option Addr) (sc : Nat) (p : Pg) (addr seq to' : Int) (w : World) (h : PgIn w fa sa p ∧ (fa = none → fc = 0) ∧ Few p ∧ ∀ x ∈ p.seqs, BndQ x) (h1 : (Lit.int .i64 addr).wf = true) (h2 : (Lit.int .i64 seq).wf = true) (h3 : (Lit.int .i64 to').wf = true) :
    Calls Try.prog 6 #[.agg #[.slice fa p.files.length fc, .slice sa p.seqs.length sc], .int .i64 addr, .int .i64 seq, .int .i64 to'] w fun e w' => e = .returned (.bool true) ∧ Below w.heap.size w w' := by
  by_cases hE : wriE p = 0
  · exact looked_good p fa sa fc sc addr seq to' w h.1 h.2.1 h.2.2.1 h.2.2.2 hE (i64_in h1) (i64_in h2) (i64_in h3)
  · exact looked_bad p fa sa fc sc addr seq to' w h.1 h.2.1 h.2.2.1 hE
end Go.Proofs.Ytbhdledlahbokaa
