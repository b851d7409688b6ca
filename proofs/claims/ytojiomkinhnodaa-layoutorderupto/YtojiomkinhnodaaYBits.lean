/- Alignments, plainly. -/
import Derived.Test.YtojiomkinhnodaaRChk
import Derived.Laws.BitsAllLaws
import Derived.WalkLawsBesides
namespace Go.Proofs.Ytojiomkinhnodaa
open Go.ChangeShapes Go.WideShapes Go.ChangeAt Go.RowKit Go.Maps
set_option linter.unusedVariables false
set_option linter.unusedSimpArgs false

theorem wraps_i64 (n : Int) (h0 : 0 ≤ n) (h1 : n < 2 ^ 63) : IntKind.i64.wrap n = n := by rw [IntKind.wrap_i64]; omega

theorem and_pred_nat : ∀ a : Nat, 0 < a → a &&& (a - 1) = 0 → ∃ j, a = 2 ^ j := by
  intro a
  induction a using Nat.strongRecOn with
  | ind a ih =>
    intro h0 h
    by_cases h1 : a = 1
    · exact ⟨0, by simpa using h1⟩
    · have hd := congrArg (· / 2) h
      simp only [Nat.and_div_two, Nat.zero_div] at hd
      have hm := congrArg (· % 2) h
      rcases Nat.mod_two_eq_zero_or_one a with e | e
      · have e2 : (a - 1) / 2 = a / 2 - 1 := by omega
        rw [e2] at hd
        obtain ⟨j, hj⟩ := ih (a / 2) (by omega) (by omega) hd
        exact ⟨j + 1, by rw [Nat.pow_succ]; omega⟩
      · have e2 : (a - 1) / 2 = a / 2 := by omega
        rw [e2, Nat.and_self] at hd
        omega

theorem pow2_of (a : Int) (h0 : 1 ≤ a) (h1 : a ≤ 1073741824) (h : bits .and .i64 a (a - 1) = 0) : ∃ j : Nat, j ≤ 30 ∧ a = 2 ^ j := by
  obtain ⟨A, rfl⟩ := Int.eq_ofNat_of_zero_le (show 0 ≤ a by omega)
  have e : ((A : Int) - 1) = ((A - 1 : Nat) : Int) := by omega
  rw [e, (bits_nat .i64 63 (by decide) wraps_i64 A (A - 1) (by omega) (by omega)).1] at h
  obtain ⟨j, hj⟩ := and_pred_nat A (by omega) (by omega)
  refine ⟨j, ?_, by rw [hj]; simp⟩
  apply Classical.byContradiction
  intro hn
  have := Nat.pow_le_pow_right (n := 2) (by decide) (show 31 ≤ j by omega)
  omega

theorem pow2_and (j : Nat) (hj : j ≤ 30) : bits .and .i64 (2 ^ j) (2 ^ j - 1) = 0 := by
  have hp := Nat.two_pow_pos j
  have hlt : 2 ^ j < 2 ^ 63 := Nat.pow_lt_pow_right (by decide) (by omega)
  have e1 : (2 : Int) ^ j = ((2 ^ j : Nat) : Int) := by simp
  have e2 : (2 : Int) ^ j - 1 = ((2 ^ j - 1 : Nat) : Int) := by rw [e1]; omega
  rw [e2, e1, (bits_nat .i64 63 (by decide) wraps_i64 _ _ hlt (by omega)).1, Nat.and_two_pow_sub_one_eq_mod, Nat.mod_self]
  rfl

theorem nat_andNot (x j : Nat) (hx : x < 2 ^ 64) (hj : j ≤ 64) : x &&& (2 ^ 64 - 1 - (2 ^ j - 1)) = x / 2 ^ j * 2 ^ j := by
  have hp := Nat.two_pow_pos j
  apply Nat.eq_of_testBit_eq
  intro i
  rw [Nat.testBit_and, show 2 ^ 64 - 1 - (2 ^ j - 1) = 2 ^ 64 - ((2 ^ j - 1) + 1) from by omega,
    Nat.testBit_two_pow_sub_succ (by have := Nat.pow_le_pow_right (n := 2) (by decide) hj; omega), Nat.testBit_two_pow_sub_one,
    ← Nat.shiftRight_eq_div_pow, ← Nat.shiftLeft_eq, Nat.testBit_shiftLeft, Nat.testBit_shiftRight]
  by_cases h64 : i < 64
  · by_cases hij : i < j
    · simp [hij]; omega
    · have : j + (i - j) = i := by omega
      simp [hij, h64, this]; omega
  · have hx0 : x.testBit i = false := Nat.testBit_lt_two_pow (Nat.lt_of_lt_of_le hx (Nat.pow_le_pow_right (by decide) (by omega)))
    by_cases hij : i < j
    · omega
    · have : j + (i - j) = i := by omega
      simp [hx0, this]

theorem andNot_mask (x : Int) (j : Nat) (hj : j ≤ 62) (h0 : 0 ≤ x) (h1 : x < 9223372036854775808) : bits .andNot .i64 x (2 ^ j - 1) = x / 2 ^ j * 2 ^ j := by
  obtain ⟨X, rfl⟩ := Int.eq_ofNat_of_zero_le h0
  have hp := Nat.two_pow_pos j
  have hle : 2 ^ j ≤ 2 ^ 62 := Nat.pow_le_pow_right (by decide) hj
  have e2 : (2 : Int) ^ j - 1 = ((2 ^ j - 1 : Nat) : Int) := by rw [show (2 : Int) ^ j = ((2 ^ j : Nat) : Int) from by simp]; omega
  show IntKind.i64.wrap ((BitVec.ofInt 64 (X : Int) &&& ~~~BitVec.ofInt 64 (2 ^ j - 1)).toNat : Int) = _
  rw [e2, BitVec.ofInt_natCast, BitVec.ofInt_natCast, BitVec.toNat_and, BitVec.toNat_not, BitVec.toNat_ofNat, BitVec.toNat_ofNat,
    Nat.mod_eq_of_lt (show X < 2 ^ 64 by omega), Nat.mod_eq_of_lt (show 2 ^ j - 1 < 2 ^ 64 by omega), nat_andNot X j (by omega) (by omega)]
  have hm : X / 2 ^ j * 2 ^ j ≤ X := Nat.div_mul_le_self _ _
  rw [wraps_i64 _ (by omega) (by omega)]
  simp

end Go.Proofs.Ytojiomkinhnodaa
