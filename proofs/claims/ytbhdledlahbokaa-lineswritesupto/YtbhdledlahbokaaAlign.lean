/- The contract of Align, for every number and every alignment. -/
import Derived.Test.YtbhdledlahbokaaPure
namespace Go.Proofs.Ytbhdledlahbokaa
open Go.ChangeShapes Go.WideShapes Go.ChangeAt Go.RowKit
set_option linter.unusedVariables false

/-- A power of 2 from 1 to 2^30. -/
def powB (a : Int) : Bool := decide (1 ≤ a) && decide (a ≤ 1073741824) && (bits .and .i64 a (a - 1) == 0)

/-- Align's error. -/
def alignE (n a : Int) : Int := if powB a = true then (if n < 0 ∨ 9223372036854775807 - (a - 1) < n then 11 else 0) else 1
/-- Align's number. -/
def alignV (n a : Int) : Int := if alignE n a = 0 then (n + a - 1) / a * a else 0

theorem powB_of (a : Int) (h : powB a = true) : 1 ≤ a ∧ a ≤ 1073741824 ∧ bits .and .i64 a (a - 1) = 0 := by
  simpa [powB, and_assoc] using h

theorem align_num (n a : Int) (h : powB a = true) (h0 : 0 ≤ n) (h1 : n ≤ 9223372036854775807 - (a - 1)) : bits .andNot .i64 (n + a - 1) (a - 1) = (n + a - 1) / a * a := by
  obtain ⟨p0, p1, p2⟩ := powB_of a h
  obtain ⟨j, hj, rfl⟩ := pow2_of a p0 p1 p2
  exact andNot_mask _ j (by omega) (by omega) (by omega)

theorem ret_2 {k k' : IntKind} {a b c d : Int} (h : a = b) (h' : c = d) : Ending.returned (.tuple #[.int k a, .int k' c]) = .returned (.tuple #[.int k b, .int k' d]) := by rw [h, h']

end Go.Proofs.Ytbhdledlahbokaa
