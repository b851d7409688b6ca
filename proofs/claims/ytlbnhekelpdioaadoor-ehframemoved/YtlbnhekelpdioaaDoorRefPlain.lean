/- Plain facts of the document's own way to read a number with a sign. -/
import Derived.Test.YtlbnhekelpdioaaDoorPlain
namespace Go.Proofs.YtlbnhekelpdioaaDoor
open Go.RowKit
set_option linter.unusedVariables false

theorem and64_u8 (x : Int) (h0 : 0 ≤ x) (h1 : x < 128) : bits .and .u8 x 64 = if 64 ≤ x then 64 else 0 := by
  obtain ⟨X, rfl⟩ := Int.eq_ofNat_of_zero_le h0
  have e : bits .and .u8 (X : Int) ((64 : Nat) : Int) = ((X &&& 64 : Nat) : Int) := u8_and_nat X 64 (by omega) (by omega)
  have f : ∀ y : Fin 128, y.val &&& 64 = if 64 ≤ y.val then 64 else 0 := by decide +kernel
  have g := f ⟨X, by omega⟩
  simp only at g
  rw [show (64 : Int) = ((64 : Nat) : Int) from rfl, e, g]
  split <;> split <;> omega

theorem sext_ref (bs : Nat → Int) (a c : Nat) (h1 : 1 ≤ c) (h2 : c ≤ 9) (hb0 : 0 ≤ bs (a + c - 1)) (hb1 : bs (a + c - 1) < 128) :
    (64 ≤ bs (a + c - 1) → wrap64 (bits .or .u64 (uacc bs a c % 18446744073709551616) (IntKind.u64.wrap (18446744073709551615 * 2 ^ (7 * c)))) = sval bs a c) ∧
    (¬ 64 ≤ bs (a + c - 1) → wrap64 (uacc bs a c % 18446744073709551616) = sval bs a c) := by
  have hu := uacc_in bs a c
  obtain ⟨d, rfl⟩ : ∃ d, c = d + 1 := ⟨c - 1, by omega⟩
  have hd := uacc_in bs a d
  have e0 : uacc bs a (d + 1) = uacc bs a d + (bs (a + d) % 128) * 2 ^ (7 * d) := rfl
  rw [show a + (d + 1) - 1 = a + d from by omega] at hb0 hb1 ⊢
  have hp := pow_pos_i (7 * d)
  have e7 : (2 : Int) ^ (7 * (d + 1)) = 128 * 2 ^ (7 * d) := by
    rw [show 7 * (d + 1) = 7 + 7 * d from by omega, Int.pow_add]; rfl
  have e6 : (2 : Int) ^ (7 * (d + 1) - 1) = 64 * 2 ^ (7 * d) := by
    rw [show 7 * (d + 1) - 1 = 6 + 7 * d from by omega, Int.pow_add]; rfl
  have hle : (2 : Int) ^ (7 * d) ≤ 2 ^ 56 := pow_le_i (by omega)
  have em : bs (a + d) % 128 = bs (a + d) := by omega
  rw [em] at e0
  unfold sval sx
  rw [show min (7 * (d + 1)) 64 = 7 * (d + 1) from by omega, e6, e7]
  rw [e7] at hu
  constructor
  · intro h64
    have m := Int.mul_le_mul_of_nonneg_right h64 (Int.le_of_lt hp)
    have hj := join_u64 (7 * (d + 1)) (by omega) (uacc bs a (d + 1)) 18446744073709551615 hu.1 (by rw [e7]; exact hu.2)
    rw [e7] at hj
    rw [IntKind.wrap_u64, hj, wrap64_of_mod]
    have e9 : (uacc bs a (d + 1) + 64 * 2 ^ (7 * d)) % (128 * 2 ^ (7 * d)) = uacc bs a (d + 1) + 64 * 2 ^ (7 * d) - 128 * 2 ^ (7 * d) := by
      have : uacc bs a (d + 1) + 64 * 2 ^ (7 * d) = (uacc bs a (d + 1) + 64 * 2 ^ (7 * d) - 128 * 2 ^ (7 * d)) + (128 * 2 ^ (7 * d)) * 1 := by omega
      rw [this, Int.add_mul_emod_self_left]
      rw [Int.emod_eq_of_lt (by omega) (by omega)]
      omega
    rw [e9]
    unfold wrap64
    omega
  · intro h64
    have m := Int.mul_le_mul_of_nonneg_right (show bs (a + d) ≤ 63 by omega) (Int.le_of_lt hp)
    have e9 : (uacc bs a (d + 1) + 64 * 2 ^ (7 * d)) % (128 * 2 ^ (7 * d)) = uacc bs a (d + 1) + 64 * 2 ^ (7 * d) := Int.emod_eq_of_lt (by omega) (by omega)
    rw [e9]
    unfold wrap64
    omega
end Go.Proofs.YtlbnhekelpdioaaDoor
