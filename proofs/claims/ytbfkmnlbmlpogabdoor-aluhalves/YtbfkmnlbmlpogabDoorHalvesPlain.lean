/- Plain arithmetic: sums and differences of 64 bits, in two halves. -/
import Derived.Test.YtbfkmnlbmlpogabDoorPlain2
namespace Go.Proofs.YtbfkmnlbmlpogabDoor
open Go.RowKit
set_option linter.unusedVariables false

theorem wraps_u64 (n : Int) (h0 : 0 ≤ n) (h1 : n < 2 ^ 64) : IntKind.u64.wrap n = n := by rw [IntKind.wrap_u64]; omega

theorem mask32 (x : Int) (h0 : 0 ≤ x) (h1 : x < 18446744073709551616) : bits .and .u64 x 4294967295 = x % 4294967296 :=
  bits_mask .u64 64 (by decide) wraps_u64 32 (by decide) x h0 (by omega)

/-- Two halves joined. -/
theorem join32 (u l : Int) (hu0 : 0 ≤ u) (hu1 : u < 4294967296) (hl0 : 0 ≤ l) (hl1 : l < 4294967296) :
    bits .or .u64 (IntKind.u64.wrap (u * 4294967296)) l = u * 4294967296 + l := by
  rw [wraps_u64 _ (by omega) (by omega)]
  exact bits_join .u64 64 (by decide) wraps_u64 32 _ l (by omega) (by omega) (by omega) hl0 (by omega) (by omega)

theorem addC4 (a b : Int) (k : Bool) : addC 32 a b (b2i k) = decide (4294967296 ≤ a % 4294967296 + b % 4294967296 + b2i k) := rfl
theorem subC4 (a b : Int) (k : Bool) : subC 32 a b (b2i k) = decide (a % 4294967296 - b % 4294967296 - b2i k < 0) := rfl

/-- The first sum's carry, as a number. -/
theorem carry_num (p : Prop) [Decidable p] : b2i (decide p) = if p then 1 else 0 := by
  by_cases h : p <;> simp [h, b2i, bitV]

theorem sx64 (x : Int) : sx 64 x = (x + 9223372036854775808) % 18446744073709551616 - 9223372036854775808 := rfl
theorem sx32 (x : Int) : sx 32 x = (x + 2147483648) % 4294967296 - 2147483648 := rfl
theorem out64 (x : Int) : outS 64 x = true ↔ ¬ (-9223372036854775808 ≤ x ∧ x < 9223372036854775808) := by
  show (!(decide (-9223372036854775808 ≤ x) && decide (x < 9223372036854775808))) = true ↔ _
  simp; omega
theorem out32 (x : Int) : outS 32 x = true ↔ ¬ (-2147483648 ≤ x ∧ x < 2147483648) := by
  show (!(decide (-2147483648 ≤ x) && decide (x < 2147483648))) = true ↔ _
  simp; omega

theorem halves_add (a b : Int) (h0 : 0 ≤ a) (h1 : a < 18446744073709551616) (g0 : 0 ≤ b) (g1 : b < 18446744073709551616) (K : Bool)
    (hK : K = addC 32 (a % 4294967296) (b % 4294967296) (b2i false)) :
    (a / 4294967296 + b / 4294967296 + b2i K) % 4294967296 * 4294967296 + (a % 4294967296 + b % 4294967296 + b2i false) % 4294967296 = (a + b + b2i false) % 18446744073709551616 ∧
    addC 64 a b (b2i false) = addC 32 (a / 4294967296) (b / 4294967296) (b2i K) ∧
    decide (sx 64 ((a + b + b2i false) % 18446744073709551616) < 0) = decide (sx 32 ((a / 4294967296 + b / 4294967296 + b2i K) % 4294967296) < 0) ∧
    outS 64 (sx 64 a + sx 64 b + b2i false) = outS 32 (sx 32 (a / 4294967296) + sx 32 (b / 4294967296) + b2i K) := by
  have e0 : b2i false = 0 := rfl
  rw [addC4, e0] at hK
  have eK : b2i K = if 4294967296 ≤ a % 4294967296 % 4294967296 + b % 4294967296 % 4294967296 + 0 then 1 else 0 := by rw [hK]; exact carry_num _
  clear hK
  generalize b2i K = k at *
  rw [e0]
  refine ⟨?_, ?_, ?_, ?_⟩
  · split at eK <;> omega
  · simp only [addC]
    rw [Bool.eq_iff_iff]; simp only [decide_eq_true_eq]
    split at eK <;> omega
  · rw [Bool.eq_iff_iff]; simp only [decide_eq_true_eq]
    rw [sx64, sx32]
    split at eK <;> omega
  · rw [Bool.eq_iff_iff, out64, out32, sx64, sx64, sx32, sx32]
    split at eK <;> omega

theorem halves_sub (a b : Int) (h0 : 0 ≤ a) (h1 : a < 18446744073709551616) (g0 : 0 ≤ b) (g1 : b < 18446744073709551616) (K : Bool)
    (hK : K = subC 32 (a % 4294967296) (b % 4294967296) (b2i false)) :
    (a / 4294967296 - b / 4294967296 - b2i K) % 4294967296 * 4294967296 + (a % 4294967296 - b % 4294967296 - b2i false) % 4294967296 = (a - b - b2i false) % 18446744073709551616 ∧
    subC 64 a b (b2i false) = subC 32 (a / 4294967296) (b / 4294967296) (b2i K) ∧
    decide (sx 64 ((a - b - b2i false) % 18446744073709551616) < 0) = decide (sx 32 ((a / 4294967296 - b / 4294967296 - b2i K) % 4294967296) < 0) ∧
    outS 64 (sx 64 a - sx 64 b - b2i false) = outS 32 (sx 32 (a / 4294967296) - sx 32 (b / 4294967296) - b2i K) := by
  have e0 : b2i false = 0 := rfl
  rw [subC4, e0] at hK
  have eK : b2i K = if a % 4294967296 % 4294967296 - b % 4294967296 % 4294967296 - 0 < 0 then 1 else 0 := by rw [hK]; exact carry_num _
  clear hK
  generalize b2i K = k at *
  rw [e0]
  refine ⟨?_, ?_, ?_, ?_⟩
  · split at eK <;> omega
  · simp only [subC]
    rw [Bool.eq_iff_iff]; simp only [decide_eq_true_eq]
    split at eK <;> omega
  · rw [Bool.eq_iff_iff]; simp only [decide_eq_true_eq]
    rw [sx64, sx32]
    split at eK <;> omega
  · rw [Bool.eq_iff_iff, out64, out32, sx64, sx64, sx32, sx32]
    split at eK <;> omega
end Go.Proofs.YtbfkmnlbmlpogabDoor
