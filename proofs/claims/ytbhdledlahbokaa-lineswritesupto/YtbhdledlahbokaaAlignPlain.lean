/- Plain arithmetic of alignments, without the program. -/
import Derived.Test.YtbhdledlahbokaaPlain
namespace Go.Proofs.Ytbhdledlahbokaa
open Go.RowKit
set_option linter.unusedVariables false

theorem mult_le (a M q : Int) (ha : 0 < a) (h : a * q < a * M) : a * q ≤ a * M - a := by
  have h1 : q < M := Int.lt_of_mul_lt_mul_left h (Int.le_of_lt ha)
  have h2 := Int.mul_le_mul_of_nonneg_left (show q + 1 ≤ M by omega) (Int.le_of_lt ha)
  rw [Int.mul_add, Int.mul_one] at h2
  omega

/-- Where the document's way to align says ErrRange, and where the other does. -/
theorem align_ref (n a : Int) (j : Nat) (hj : j ≤ 30) (ea : a = 2 ^ j) (h0 : 0 ≤ n) (h1 : n ≤ 9223372036854775807) :
    (n % a = 0 → n ≤ 9223372036854775807 - (a - 1)) ∧ (¬ n % a = 0 → (9223372036854775807 - a < n - n % a ↔ 9223372036854775807 - (a - 1) < n)) := by
  have hp : 0 < a := by rw [ea]; exact pow_pos_i j
  have e63 : (9223372036854775808 : Int) = a * 2 ^ (63 - j) := by
    rw [ea, ← Int.pow_add, show j + (63 - j) = 63 from by omega]; decide
  have e := Int.emod_add_mul_ediv n a
  have r0 := Int.emod_nonneg n (show a ≠ 0 by omega)
  have r1 := Int.emod_lt_of_pos n hp
  have hq : a * (n / a) ≤ 9223372036854775808 - a := by
    have := mult_le a (2 ^ (63 - j)) (n / a) hp (by rw [← e63]; omega)
    rw [← e63] at this; exact this
  constructor
  · intro h; omega
  · intro h
    constructor
    · intro h2; omega
    · intro h2
      apply Classical.byContradiction
      intro h3
      have h4 : a * (n / a) < a * (2 ^ (63 - j) - 1) := by rw [Int.mul_sub, ← e63, Int.mul_one]; omega
      have h5 := mult_le a (2 ^ (63 - j) - 1) (n / a) hp h4
      rw [Int.mul_sub, ← e63, Int.mul_one] at h5
      omega
end Go.Proofs.Ytbhdledlahbokaa
