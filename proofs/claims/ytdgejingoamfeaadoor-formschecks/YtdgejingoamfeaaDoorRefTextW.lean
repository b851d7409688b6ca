/- The document's Text: a whole instruction out of its block. -/
import Derived.Test.YtdgejingoamfeaaDoorRefOperand
import Derived.Test.YtdgejingoamfeaaDoorRefNameV
import Derived.Test.YtdgejingoamfeaaDoorRefCheck
namespace Go.Proofs.YtdgejingoamfeaaDoor
open Go.ChangeShapes Go.WideShapes Go.ChangeAt Go.RowKit
set_option linter.unusedVariables false
set_option linter.unusedSimpArgs false

theorem IA.whole2 {w : World} {b : Nat} {i : I} (h : IA w b i) : (loadVar 25 ⟨b, 0, none⟩).run Tryd.prog w = .ok (.agg #[.int .i64 i.op, .int .i64 i.sz, .int .i64 i.cd, .int .i64 i.to.k, .int .i64 i.to.r, .int .i64 i.to.b, .int .i64 i.to.x, .int .i64 i.to.s, .bool i.to.rip, .bool i.to.fs, .int .i64 i.to.n, .string i.to.nm, .int .i64 i.to.m, .int .i64 i.fr.k, .int .i64 i.fr.r, .int .i64 i.fr.b, .int .i64 i.fr.x, .int .i64 i.fr.s, .bool i.fr.rip, .bool i.fr.fs, .int .i64 i.fr.n, .string i.fr.nm, .int .i64 i.fr.m, .bool i.sh]) w := h.whole

end Go.Proofs.YtdgejingoamfeaaDoor
