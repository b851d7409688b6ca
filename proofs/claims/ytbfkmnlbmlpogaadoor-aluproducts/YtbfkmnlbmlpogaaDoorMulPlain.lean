/- Plain arithmetic: products of n bits, and whether they fit. -/
import Derived.Test.YtbfkmnlbmlpogaaDoorPlain2
namespace Go.Proofs.YtbfkmnlbmlpogaaDoor
open Go.RowKit
set_option linter.unusedVariables false

theorem and_sign (a b : Int) (ha0 : -9223372036854775808 ≤ a) (ha1 : a < 9223372036854775808) (hb0 : -9223372036854775808 ≤ b) (hb1 : b < 9223372036854775808) :
    bits .and .i64 (a / 9223372036854775808) b = bitV (decide (a < 0)) b := by
  have eb : bitV (decide (a < 0)) b = if a < 0 then b else 0 := by unfold bitV; simp
  rw [eb]
  by_cases h : a < 0
  · have e : a / 9223372036854775808 = -1 := by omega
    rw [e, if_pos h]
    show IntKind.i64.wrap ((BitVec.ofInt 64 (-1) &&& BitVec.ofInt 64 b).toNat : Int) = b
    have e1 : (BitVec.ofInt 64 (-1) : BitVec 64) = BitVec.allOnes 64 := by decide
    rw [e1, BitVec.allOnes_and, BitVec.toNat_ofInt, IntKind.wrap_i64]
    omega
  · have e : a / 9223372036854775808 = 0 := by omega
    rw [e, if_neg h]
    show IntKind.i64.wrap ((BitVec.ofInt 64 0 &&& BitVec.ofInt 64 b).toNat : Int) = 0
    have e1 : (BitVec.ofInt 64 0 : BitVec 64) = 0#64 := by decide
    rw [e1, BitVec.zero_and]
    decide

theorem prod_bound (a b : Int) (ha0 : -9223372036854775808 ≤ a) (ha1 : a < 9223372036854775808) (hb0 : -9223372036854775808 ≤ b) (hb1 : b < 9223372036854775808) :
    -85070591730234615865843651857942052864 ≤ a * b ∧ a * b ≤ 85070591730234615865843651857942052864 := by
  have h1 : (a * b).natAbs ≤ 9223372036854775808 * 9223372036854775808 := by
    rw [Int.natAbs_mul]
    exact Nat.mul_le_mul (by omega) (by omega)
  omega

/-- The two words of the plain product of two signed numbers. -/
theorem words (a b : Int) (ha0 : -9223372036854775808 ≤ a) (ha1 : a < 9223372036854775808) (hb0 : -9223372036854775808 ≤ b) (hb1 : b < 9223372036854775808) :
    (a % 18446744073709551616) * (b % 18446744073709551616) % 18446744073709551616 = a * b % 18446744073709551616 ∧
    IntKind.u64.wrap ((a % 18446744073709551616) * (b % 18446744073709551616) / 18446744073709551616 - IntKind.u64.wrap (IntKind.u64.wrap (bitV (decide (a < 0)) b) + IntKind.u64.wrap (bitV (decide (b < 0)) a))) = a * b / 18446744073709551616 % 18446744073709551616 := by
  have P := prod_bound a b ha0 ha1 hb0 hb1
  have eb : bitV (decide (a < 0)) b = if a < 0 then b else 0 := by unfold bitV; simp
  have ea' : bitV (decide (b < 0)) a = if b < 0 then a else 0 := by unfold bitV; simp
  rw [eb, ea']
  constructor
  · rw [← Int.mul_emod]
  · simp only [IntKind.wrap_u64]
    by_cases h : a < 0 <;> by_cases g : b < 0
    · have ea : a % 18446744073709551616 = a + 18446744073709551616 := by omega
      have eb : b % 18446744073709551616 = b + 18446744073709551616 := by omega
      rw [ea, eb, if_pos h, if_pos g]
      have e : (a + 18446744073709551616) * (b + 18446744073709551616) = a * b + 18446744073709551616 * (a + b + 18446744073709551616) := by
        rw [Int.add_mul, Int.mul_add, Int.mul_add]; omega
      rw [e, Int.add_mul_ediv_left _ _ (by decide)]
      omega
    · have ea : a % 18446744073709551616 = a + 18446744073709551616 := by omega
      have eb : b % 18446744073709551616 = b := by omega
      rw [ea, eb, if_pos h, if_neg g]
      have e : (a + 18446744073709551616) * b = a * b + 18446744073709551616 * b := by rw [Int.add_mul]
      rw [e, Int.add_mul_ediv_left _ _ (by decide)]
      omega
    · have ea : a % 18446744073709551616 = a := by omega
      have eb : b % 18446744073709551616 = b + 18446744073709551616 := by omega
      rw [ea, eb, if_neg h, if_pos g]
      have e : a * (b + 18446744073709551616) = a * b + 18446744073709551616 * a := by rw [Int.mul_add]; omega
      rw [e, Int.add_mul_ediv_left _ _ (by decide)]
      omega
    · have ea : a % 18446744073709551616 = a := by omega
      have eb : b % 18446744073709551616 = b := by omega
      rw [ea, eb, if_neg h, if_neg g]
      omega

/-- A product fits just if it is its own low bits, taken as signed. -/
theorem fits (n : Nat) (h0 : 1 ≤ n) (h1 : n ≤ 64) (p : Int) (hp0 : -85070591730234615865843651857942052864 ≤ p) (hp1 : p ≤ 85070591730234615865843651857942052864) :
    ((sx n (p % 18446744073709551616) % 18446744073709551616 != p % 18446744073709551616) || (sx n (p % 18446744073709551616) / 9223372036854775808 % 18446744073709551616 != p / 18446744073709551616 % 18446744073709551616)) = outS n p := by
  have es : sx n (p % 18446744073709551616) = sx n p := sx_congr n h0 (mod64 n h1 p)
  rw [es]
  have si := sx_in n h0 p
  have hp : (2 : Int) ^ (n - 1) ≤ 2 ^ 63 := pow_le_i (by omega)
  have hpos := pow_pos_i (n - 1)
  have hpn := pow_pred h0
  have em : sx n p = p ↔ (-2 ^ (n - 1) ≤ p ∧ p < 2 ^ (n - 1)) := by
    constructor
    · intro h; rw [h] at si; exact si
    · intro ⟨a, b⟩
      unfold sx
      rw [Int.emod_eq_of_lt (by omega) (by omega)]
      omega
  unfold outS
  by_cases hin : -2 ^ (n - 1) ≤ p ∧ p < 2 ^ (n - 1)
  · have e := em.2 hin
    rw [e]
    have e2 : p / 9223372036854775808 % 18446744073709551616 = p / 18446744073709551616 % 18446744073709551616 := by omega
    rw [e2]
    simp [hin.1, hin.2]
  · have ne : sx n p ≠ p := fun h => hin (em.1 h)
    have hout : (decide (-2 ^ (n - 1) ≤ p) && decide (p < 2 ^ (n - 1))) = false := by
      rw [Bool.eq_false_iff]; intro h; simp at h; exact hin h
    rw [hout]
    generalize sx n p = r at *
    by_cases e1 : r % 18446744073709551616 = p % 18446744073709551616
    · have e2 : r / 9223372036854775808 % 18446744073709551616 ≠ p / 18446744073709551616 % 18446744073709551616 := by
        intro h2; apply ne
        have r0 : -9223372036854775808 ≤ r := by omega
        have r1 : r < 9223372036854775808 := by omega
        have q0 : -4611686018427387904 ≤ p / 18446744073709551616 := by omega
        have q1 : p / 18446744073709551616 ≤ 4611686018427387904 := by omega
        clear em ne hout hin si hp hpos hpn es
        by_cases hr : r < 0
        · have d1 : r / 9223372036854775808 = -1 := by omega
          rw [d1] at h2
          have d2 : p / 18446744073709551616 = -1 := by omega
          omega
        · have d1 : r / 9223372036854775808 = 0 := by omega
          rw [d1] at h2
          have d2 : p / 18446744073709551616 = 0 := by omega
          omega
      simp [e1, e2]
    · simp [e1]
end Go.Proofs.YtbfkmnlbmlpogaaDoor
