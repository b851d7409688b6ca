/- Plain arithmetic: a product of 128 bits by sums of shifted ones. -/
import Derived.Test.YtbfkmnlbmlpogaaDoorMulPlain
namespace Go.Proofs.YtbfkmnlbmlpogaaDoor
open Go.RowKit
set_option linter.unusedVariables false

/-- A bit of a number with its sign, as far as one likes. -/
theorem far_bit (Y : Int) (h0 : -9223372036854775808 ≤ Y) (h1 : Y < 9223372036854775808) (j : Nat) :
    (Y % 18446744073709551616) / 2 ^ (min j 63) % 2 = Y / 2 ^ j % 2 := by
  by_cases h : j ≤ 63
  · rw [Nat.min_eq_left h]
    have t := tb_mod j (by omega) Y
    unfold tb at t
    have := decide_eq_decide.1 t
    omega
  · rw [Nat.min_eq_right (by omega)]
    have hp : (2 : Int) ^ 63 ≤ 2 ^ j := pow_le_i (by omega)
    have hq := pow_pos_i j
    by_cases hy : Y < 0
    · have e : Y / 2 ^ j = -1 := by
        apply Int.le_antisymm
        · have : Y / 2 ^ j < 0 := Int.ediv_neg_of_neg_of_pos hy hq
          omega
        · exact Int.le_ediv_of_mul_le hq (by omega)
      rw [e]; omega
    · have e : Y / 2 ^ j = 0 := Int.ediv_eq_zero_of_lt (by omega) (by omega)
      rw [e]; omega

/-- A sum of 128 bits, in two words. -/
theorem sum_words (D E : Int) : (IntKind.u64.wrap (D % 18446744073709551616 + E % 18446744073709551616) = (D + E) % 18446744073709551616) ∧
    (IntKind.u64.wrap (D % 18446744073709551616 + E % 18446744073709551616) < D % 18446744073709551616 → IntKind.u64.wrap (IntKind.u64.wrap (D / 18446744073709551616 % 18446744073709551616 + 1) + E / 18446744073709551616 % 18446744073709551616) = (D + E) / 18446744073709551616 % 18446744073709551616) ∧
    (¬ IntKind.u64.wrap (D % 18446744073709551616 + E % 18446744073709551616) < D % 18446744073709551616 → IntKind.u64.wrap (D / 18446744073709551616 % 18446744073709551616 + E / 18446744073709551616 % 18446744073709551616) = (D + E) / 18446744073709551616 % 18446744073709551616) := by
  simp only [IntKind.wrap_u64]
  refine ⟨by omega, fun h => by omega, fun h => by omega⟩

/-- Twice a number of 128 bits, in two words. -/
theorem twice_low (E : Int) : IntKind.u64.wrap (E % 18446744073709551616 * 2) = E * 2 % 18446744073709551616 := by
  rw [IntKind.wrap_u64]; omega
theorem twice_high (E : Int) : bits .or .u64 (IntKind.u64.wrap (E / 18446744073709551616 % 18446744073709551616 * 2)) (E % 18446744073709551616 / 9223372036854775808) = E * 2 / 18446744073709551616 % 18446744073709551616 := by
  have e : IntKind.u64.wrap (E / 18446744073709551616 % 18446744073709551616 * 2) = E / 18446744073709551616 * 2 % 18446744073709551616 := by rw [IntKind.wrap_u64]; omega
  rw [e]
  rw [bits_join .u64 64 (by decide) (fun n a b => by rw [IntKind.wrap_u64]; omega) 1 _ _ (by omega) (by omega) (by omega) (by omega) (by omega) (by omega)]
  omega

theorem prod_step (X Y : Int) (j : Nat) : X * (Y % 2 ^ (j + 1)) = X * (Y % 2 ^ j) + Y / 2 ^ j % 2 * (X * 2 ^ j) := by
  rw [Int.pow_succ, mod_two_mul Y _ (pow_pos_i j), Int.mul_add, Int.mul_comm (2 ^ j) (Y / 2 ^ j % 2), ← Int.mul_assoc, Int.mul_comm X (Y / 2 ^ j % 2), Int.mul_assoc]

theorem prod_end (X Y : Int) (h0 : -9223372036854775808 ≤ Y) (h1 : Y < 9223372036854775808) :
    X * (Y % 2 ^ 128) % 18446744073709551616 = X * Y % 18446744073709551616 ∧ X * (Y % 2 ^ 128) / 18446744073709551616 % 18446744073709551616 = X * Y / 18446744073709551616 % 18446744073709551616 := by
  by_cases h : Y < 0
  · have e : Y % 2 ^ 128 = Y + 340282366920938463463374607431768211456 := by omega
    rw [e, Int.mul_add]
    omega
  · have e : Y % 2 ^ 128 = Y := by omega
    rw [e]; exact ⟨rfl, rfl⟩
end Go.Proofs.YtbfkmnlbmlpogaaDoor
