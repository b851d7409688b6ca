/- The document's Check of ops is its Rows' error. -/
import Derived.Test.YtomboebfbipaaaaDoorCDC
import Derived.Test.YtomboebfbipaaaaDoorERChk
namespace Go.Proofs.YtomboebfbipaaaaDoor
open Go.ChangeShapes Go.WideShapes Go.ChangeAt Go.RowKit Go.Maps
set_option linter.unusedVariables false
set_option linter.unusedSimpArgs false

theorem rck : RCk := by
  intro W a1 c1 i a2 c2 l size h1 h2 hs hI hL
  have HR : Hid _ := ⟨rrows_any a1 c1 i a2 c2 l size W (by omega) (by omega) (by omega) hI hL⟩
  clear h1 h2 hs hI hL
  generalize rowsE i l size = E at *
  generalize rowsL i l size = R at *
  go_enter Tryd.func48, Tryd.ntmps48
  go_wp2_with (go_at_call 67; (with_reducible refine HR.out.mono ?_); rintro e w1 ⟨v, he, _, hb⟩; subst he)
  go_ret
  exact ⟨rfl, hb⟩
end Go.Proofs.YtomboebfbipaaaaDoor
