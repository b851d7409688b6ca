/- The contracts of Add, and of the document's own Align, Add and Fits. -/
import Derived.Test.YtbhdledlahbokaaAlign
import Derived.Test.YtbhdledlahbokaaAlignPlain
namespace Go.Proofs.Ytbhdledlahbokaa
open Go.ChangeShapes Go.WideShapes Go.ChangeAt Go.RowKit
set_option linter.unusedVariables false

/-- Add's error and number. -/
def addE (a b : Int) : Int := if a + b < -9223372036854775808 ∨ 9223372036854775807 < a + b then 11 else 0
def addV (a b : Int) : Int := if addE a b = 0 then a + b else 0

theorem add_any (a b : Int) (w : World) (ha : -9223372036854775808 ≤ a ∧ a ≤ 9223372036854775807) (hb : -9223372036854775808 ≤ b ∧ b ≤ 9223372036854775807) :
    Calls Try.prog 97 #[.int .i64 a, .int .i64 b] w fun e w' => e = .returned (.tuple #[.int .i64 (addV a b), .int .i64 (addE a b)]) ∧ w' = w := by
  by_cases ho : a + b < -9223372036854775808 ∨ 9223372036854775807 < a + b
  · have e : addE a b = 11 := by simp [addE, ho]
    have v : addV a b = 0 := by simp [addV, e]
    rw [e, v]; clear e v
    by_cases hp : 0 < b
    · have h1 : 9223372036854775807 - b < a := by omega
      clear ho
      go_enter Try.func97, Try.ntmps97
      go_wp2
      go_ret2
      exact ⟨rfl, rfl⟩
    · have h0 : b < 0 := by omega
      have h1 : a < -9223372036854775808 - b := by omega
      clear ho
      go_enter Try.func97, Try.ntmps97
      go_wp2
      go_ret2
      exact ⟨rfl, rfl⟩
  · have e : addE a b = 0 := by simp [addE, ho]
    have v : addV a b = a + b := by simp [addV, e]
    rw [e, v]; clear e v
    have h1 : -9223372036854775808 ≤ a + b := by omega
    have h2 : a + b ≤ 9223372036854775807 := by omega
    clear ho
    by_cases hp : 0 < b
    · go_enter Try.func97, Try.ntmps97
      go_wp2
      go_ret2
      exact ⟨rfl, rfl⟩
    · by_cases h0 : b < 0
      · go_enter Try.func97, Try.ntmps97
        go_wp2
        go_ret2
        exact ⟨rfl, rfl⟩
      · go_enter Try.func97, Try.ntmps97
        go_wp2
        go_ret2
        exact ⟨rfl, rfl⟩

end Go.Proofs.Ytbhdledlahbokaa
