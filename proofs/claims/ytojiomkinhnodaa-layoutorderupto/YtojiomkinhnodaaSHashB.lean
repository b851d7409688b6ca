/- The contract of Hash. -/
import Derived.Test.YtojiomkinhnodaaSHash
namespace Go.Proofs.Ytojiomkinhnodaa
open Go.ChangeShapes Go.WideShapes Go.ChangeAt Go.RowKit
set_option linter.unusedVariables false

theorem and_parts (q r p t : Nat) (hr : r < 2 ^ 28) (ht : t < 2 ^ 28) : (2 ^ 28 * q + r) &&& (2 ^ 28 * p + t) = 2 ^ 28 * (q &&& p) + (r &&& t) := by
  apply Nat.eq_of_testBit_eq
  intro i
  rw [Nat.testBit_and, Nat.testBit_two_pow_mul_add _ hr, Nat.testBit_two_pow_mul_add _ ht, Nat.testBit_two_pow_mul_add _ (Nat.lt_of_le_of_lt Nat.and_le_left hr)]
  split <;> simp [Nat.testBit_and]

theorem and_top (m : Nat) (h : m < 4294967296) : m &&& 4026531840 = 2 ^ 28 * (m / 2 ^ 28) := by
  have := and_parts (m / 2 ^ 28) (m % 2 ^ 28) 15 0 (by omega) (by omega)
  rw [show 2 ^ 28 * (m / 2 ^ 28) + m % 2 ^ 28 = m by omega] at this
  rw [show (4026531840 : Nat) = 2 ^ 28 * 15 + 0 from rfl, this]
  have h15 : m / 2 ^ 28 &&& 15 = m / 2 ^ 28 := by
    rw [show (15 : Nat) = 2 ^ 4 - 1 from rfl, Nat.and_two_pow_sub_one_eq_mod]; omega
  rw [h15]; simp

theorem and_rest (m : Nat) (h : m < 4294967296) : m &&& (4294967295 - 2 ^ 28 * (m / 2 ^ 28)) = m % 2 ^ 28 := by
  have hq : m / 2 ^ 28 < 16 := by omega
  have := and_parts (m / 2 ^ 28) (m % 2 ^ 28) (15 - m / 2 ^ 28) (2 ^ 28 - 1) (by omega) (by omega)
  rw [show 2 ^ 28 * (m / 2 ^ 28) + m % 2 ^ 28 = m by omega] at this
  rw [show 4294967295 - 2 ^ 28 * (m / 2 ^ 28) = 2 ^ 28 * (15 - m / 2 ^ 28) + (2 ^ 28 - 1) by omega, this]
  have h0 : ∀ q : Fin 16, q.val &&& (15 - q.val) = 0 := by decide
  rw [h0 ⟨m / 2 ^ 28, hq⟩, Nat.and_two_pow_sub_one_eq_mod]
  omega

theorem hash_bits (y : Int) (h0 : 0 ≤ y) (h1 : y < 4294967296) :
    bits .xor .u32 (bits .andNot .u32 y (bits .and .u32 y 4026531840)) (bits .and .u32 y 4026531840 / 16777216) = (((y % 268435456).toNat ^^^ (y / 268435456 * 16).toNat : Nat) : Int) := by
  obtain ⟨m, rfl⟩ := Int.eq_ofNat_of_zero_le h0
  have hm : m < 4294967296 := by omega
  have e1 : bits .and .u32 (m : Int) 4026531840 = ((2 ^ 28 * (m / 2 ^ 28) : Nat) : Int) := by
    rw [← and_top m hm]; exact u32_and_nat m 4026531840 hm (by decide)
  rw [e1]
  have e2 : bits .andNot .u32 (m : Int) ((2 ^ 28 * (m / 2 ^ 28) : Nat) : Int) = ((m % 2 ^ 28 : Nat) : Int) := by
    rw [← and_rest m hm]; exact u32_andNot_nat m _ hm (by omega)
  rw [e2]
  have e3 : (((2 ^ 28 * (m / 2 ^ 28) : Nat) : Int) / 16777216) = ((m / 2 ^ 28 * 16 : Nat) : Int) := by omega
  rw [e3, u32_xor_nat _ _ (by omega) (by omega)]
  congr 2

end Go.Proofs.Ytojiomkinhnodaa
