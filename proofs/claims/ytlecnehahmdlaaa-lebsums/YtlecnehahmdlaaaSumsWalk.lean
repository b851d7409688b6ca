/- The walk of the law on aligned numbers, sums and what fits. -/
import Derived.Test.YtlecnehahmdlaaaKnows
import Derived.Test.YtlecnehahmdlaaaSums
namespace Go.Proofs.Ytlecnehahmdlaaa
open Go.ChangeShapes Go.WideShapes Go.ChangeAt Go.RowKit
set_option linter.unusedVariables false

theorem i64_bounds {a : Int} (h : (Lit.int .i64 a).wf = true) : -9223372036854775808 ≤ a ∧ a ≤ 9223372036854775807 := by
  simpa [Lit.wf, IntKind.min, IntKind.max, IntKind.signed, IntKind.bits] using h

theorem lebSums_walk (a b c : Int) (s : Bool) (w : World) (ha : (Lit.int .i64 a).wf = true) (hb : (Lit.int .i64 b).wf = true) (hc : (Lit.int .i64 c).wf = true) :
    Calls Try.prog 6 #[.int .i64 a, .int .i64 b, .int .i64 c, .bool s] w fun e w' => e = .returned (.bool true) ∧ Below w.heap.size w w' := by
  have HA : Hid _ := i64_bounds ha
  have HB : Hid _ := i64_bounds hb
  clear ha hb hc
  go_enter Try.func6, Try.ntmps6
  go_wp2_with (first
    | (go_at_call 27; refine (align_any _ _ _).mono ?_; rintro e' w' ⟨rfl, rfl⟩)
    | (go_at_call 28; refine (add_any _ _ _ HA.out HB.out).mono ?_; rintro e' w' ⟨rfl, rfl⟩)
    | (go_at_call 29; refine (ralign_any _ _ _ HA.out.2).mono ?_; rintro e' w' ⟨rfl, rfl⟩)
    | (go_at_call 30; refine (radd_any _ _ _ HA.out HB.out).mono ?_; rintro e' w' ⟨rfl, rfl⟩)
    | (go_at_call 31; refine (fits_any _ _ _ _).mono ?_; rintro e' w' ⟨rfl, rfl⟩)
    | (go_at_call 32; refine (rfits_any _ _ _ _ HA.out).mono ?_; rintro e' w' ⟨rfl, rfl⟩)
    | (go_at_call 14; refine (num_any _ _).mono ?_; rintro e' w' ⟨rfl, rfl⟩)
    | (go_at_call 16; refine (knows_any _).mono ?_; rintro e' w1 ⟨rfl, hb⟩))
  go_ret
  exact ⟨rfl, hb⟩
end Go.Proofs.Ytlecnehahmdlaaa
