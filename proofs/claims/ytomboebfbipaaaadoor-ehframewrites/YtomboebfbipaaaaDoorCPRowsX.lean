/- The program's Check. The program's Rows, Check, Usual and Find. -/
import Derived.Test.YtomboebfbipaaaaDoorCBuiltX
import Derived.Test.YtomboebfbipaaaaDoorCKnowsX
namespace Go.Proofs.YtomboebfbipaaaaDoor
open Go.ChangeShapes Go.WideShapes Go.ChangeAt Go.RowKit
set_option linter.unusedVariables false
set_option linter.unusedSimpArgs false

theorem pcheck (a1 : Option Addr) (c1 : Nat) (i : List Oq) (a2 : Option Addr) (c2 : Nat) (l : List Oq) (size : Int) (w : World) (h1 : i.length ≤ 5864062014634) (h2 : l.length ≤ 11728124029268) (hs : -9223372036854775808 ≤ size ∧ size ≤ 9223372036854775807) (hI1 : IsOq w a1 c1 i) (hI2 : IsOq w a2 c2 l) (hf : Fz w) :
    Calls Tryd.prog 66 #[.slice a1 i.length c1, .slice a2 l.length c2, .int .i64 size] w fun e w' => e = .returned (.int .i64 (rowsE i l size)) ∧ Below w.heap.size w w' := by
  have HBu : Hid _ := ⟨built_any a1 c1 i a2 c2 l size w h1 h2 hs hI1.ops hI2.ops hf⟩
  generalize rowsE i l size = E at *
  go_enter Tryd.func66, Tryd.ntmps66
  go_wp2_with (go_at_call 84; (with_reducible refine HBu.out.mono ?_); rintro e w1 ⟨v1, he, hB1⟩; subst he; have HB1 : Hid _ := ⟨hB1⟩; clear hB1)
  go_ret
  exact ⟨rfl, HB1.out.bel⟩

theorem pusual : PUsual := by
  intro w
  go_enter Tryd.func36, Tryd.ntmps36
  go_wp2
  go_ret
  refine ⟨_, rfl, ?_, (Below.refl _ _).alloc (Nat.le_refl _) _⟩
  exact ⟨rfl, .inr ⟨w.heap.size, 2, _, rfl, Nat.le_refl _, heap_alloc_new w _, by decide, by decide, rfl, rfl⟩⟩
end Go.Proofs.YtomboebfbipaaaaDoor
