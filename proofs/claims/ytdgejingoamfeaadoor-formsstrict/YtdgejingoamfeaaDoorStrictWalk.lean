/- The law FormsStrict, walked. -/
import Derived.Test.YtdgejingoamfeaaDoorStrictE
import Derived.Test.YtdgejingoamfeaaDoorStrictO
namespace Go.Proofs.YtdgejingoamfeaaDoor
open Go.ChangeShapes Go.WideShapes Go.ChangeAt Go.RowKit
set_option linter.unusedVariables false

theorem formsStrict_walk (i : I) (wh n : Int) (w : World) (h : I64 i) (_ : (Lit.int .i64 wh).wf = true) (_ : (Lit.int .i64 n).wf = true) (hw : Gp w) :
    Calls Tryd.prog 8 #[i.val, .int .i64 wh, .int .i64 n] w fun e w' => e = .returned (.bool true) ∧ Below w.heap.size w w' := by
  cases hc : checkB i
  · exact strict_no i wh n w hw hc
  cases hh : (wh.tmod 2 != 0)
  · cases h0 : (i.to.k == 0)
    · cases h2 : (i.to.k == 2)
      · cases h1 : (i.to.k == 1)
        · cases h3 : (i.to.k == 3)
          · exact strict_e4 i wh n w hw hc hh h0 h2 h1 h3
          · exact strict_e3 i wh n w hw hc hh h0 h2 h1 h3
        · exact strict_e1 i wh n w hw hc hh h0 h2 h1
      · exact strict_e2 i wh n w hw hc hh h0 h2
    · exact strict_e0 i wh n w hw hc hh h0
  · cases h0 : (i.fr.k == 0)
    · cases h2 : (i.fr.k == 2)
      · cases h1 : (i.fr.k == 1)
        · cases h3 : (i.fr.k == 3)
          · exact strict_o4 i wh n w hw hc hh h0 h2 h1 h3
          · exact strict_o3 i wh n w hw hc hh h0 h2 h1 h3
        · exact strict_o1 i wh n w hw hc hh h0 h2 h1
      · exact strict_o2 i wh n w hw hc hh h0 h2
    · exact strict_o0 i wh n w hw hc hh h0
end Go.Proofs.YtdgejingoamfeaaDoor
