/- Plain arithmetic: shifts by one place at a time. -/
import Derived.Test.YtbfkmnlbmlpogaaDoorRefPlain
import Derived.Test.YtbfkmnlbmlpogaaDoorShiftPlain
namespace Go.Proofs.YtbfkmnlbmlpogaaDoor
open Go.RowKit
set_option linter.unusedVariables false

theorem lowb (n : Nat) (hn : n ≤ 64) (x : Int) : 0 ≤ x % 2 ^ n ∧ x % 2 ^ n < 18446744073709551616 := by
  have hp := pow_pos_i n
  have hle : (2 : Int) ^ n ≤ 2 ^ 64 := pow_le_i hn
  have h0 := Int.emod_nonneg x (Int.ne_of_gt hp); have h1 := Int.emod_lt_of_pos x hp
  omega

theorem shl_step (n : Nat) (hn : n ≤ 64) (a : Int) (j : Nat) : IntKind.u64.wrap (a * 2 ^ j % 2 ^ n * 2) % 2 ^ n = a * 2 ^ (j + 1) % 2 ^ n := by
  rw [IntKind.wrap_u64, mod64 n hn, mul_low, Int.pow_succ, Int.mul_assoc]

theorem top_of (n : Nat) (hn : 1 ≤ n) (x : Int) : (x % 2 ^ n / 2 ^ (n - 1) % 2 == 1) = tb (n - 1) x := by
  rw [odd_tb]
  exact tb_congr n hn (Int.emod_emod_of_dvd _ (Int.dvd_refl _))

theorem shr_step (A : Int) (j : Nat) : A / 2 ^ j / 2 = A / 2 ^ (j + 1) := by
  rw [Int.pow_succ, Int.ediv_ediv_of_nonneg (Int.le_of_lt (pow_pos_i _))]

theorem sar_in (n : Nat) (hn : 1 ≤ n) (a : Int) (j : Nat) : -2 ^ (n - 1) ≤ sx n a / 2 ^ j ∧ sx n a / 2 ^ j < 2 ^ (n - 1) := by
  have s := sx_in n hn a
  have hp := pow_pos_i j
  have hq := pow_pos_i (n - 1)
  have h1 : (1 : Int) ≤ 2 ^ j := by omega
  refine ⟨?_, ?_⟩
  · apply Int.le_ediv_of_mul_le hp
    have : (2 : Int) ^ (n - 1) * 1 ≤ 2 ^ (n - 1) * 2 ^ j := Int.mul_le_mul_of_nonneg_left h1 (Int.le_of_lt hq)
    rw [Int.neg_mul]; omega
  · apply Int.ediv_lt_of_lt_mul hp
    have : (2 : Int) ^ (n - 1) * 1 ≤ 2 ^ (n - 1) * 2 ^ j := Int.mul_le_mul_of_nonneg_left h1 (Int.le_of_lt hq)
    omega

/-- A signed number between, modulo 2^n. -/
theorem neg_mod (n : Nat) (hn : 1 ≤ n) (s : Int) (h0 : -2 ^ (n - 1) ≤ s) (h1 : s < 2 ^ (n - 1)) : s % 2 ^ n = if s < 0 then s + 2 ^ n else s := by
  have e := pow_pred hn
  have hp := pow_pos_i (n - 1)
  split
  · rw [← Int.add_emod_right s (2 ^ n)]; exact Int.emod_eq_of_lt (by omega) (by omega)
  · exact Int.emod_eq_of_lt (by omega) (by omega)

theorem sar_top (n : Nat) (hn : 1 ≤ n) (s : Int) (h0 : -2 ^ (n - 1) ≤ s) (h1 : s < 2 ^ (n - 1)) : s % 2 ^ n / 2 ^ (n - 1) % 2 = if s < 0 then 1 else 0 := by
  have e := pow_pred hn
  have hp := pow_pos_i (n - 1)
  rw [neg_mod n hn s h0 h1]
  split
  · have : (s + 2 ^ n) / 2 ^ (n - 1) = 1 := by
      apply Int.le_antisymm
      · have : (s + 2 ^ n) / 2 ^ (n - 1) < 2 := Int.ediv_lt_of_lt_mul hp (by omega)
        omega
      · exact Int.le_ediv_of_mul_le hp (by omega)
    rw [this]; decide
  · rw [Int.ediv_eq_zero_of_lt (by omega) h1]; decide

theorem sar_step (n : Nat) (hn : 1 ≤ n) (hm : n ≤ 64) (a : Int) (j : Nat) :
    bits .or .u64 (sx n a / 2 ^ j % 2 ^ n / 2) (IntKind.u64.wrap (sx n a / 2 ^ j % 2 ^ n / 2 ^ (n - 1) % 2 * 2 ^ (n - 1))) = sx n a / 2 ^ (j + 1) % 2 ^ n := by
  have si := sar_in n hn a j
  have s2 := sar_in n hn a (j + 1)
  rw [← shr_step] at s2 ⊢
  generalize sx n a / 2 ^ j = s at *
  have e := pow_pred hn
  have hp := pow_pos_i (n - 1)
  rw [sar_top n hn s si.1 si.2, neg_mod n hn s si.1 si.2, neg_mod n hn (s / 2) s2.1 s2.2]
  by_cases h : s < 0
  · rw [if_pos h, if_pos h, if_pos (by omega), or_bit (n - 1) (by omega) _ _ (by omega) (by omega) (by decide) (by decide)]
    omega
  · rw [if_neg h, if_neg h, if_neg (by omega), or_bit (n - 1) (by omega) _ _ (by omega) (by omega) (by decide) (by decide)]
    omega

theorem sar_bit (n : Nat) (hn : 1 ≤ n) (a : Int) (j : Nat) : (sx n a / 2 ^ j % 2 ^ n % 2 == 1) = tb j (sx n a) := by
  have e := pow_pred hn
  have : sx n a / 2 ^ j % 2 ^ n % 2 = sx n a / 2 ^ j % 2 := Int.emod_emod_of_dvd _ (by rw [e]; exact Int.dvd_mul_left _ _)
  rw [this, odd_tb]

theorem sx_md (n : Nat) (a : Int) : sx n a % 2 ^ n = a % 2 ^ n := by
  unfold sx
  rw [Int.sub_emod, Int.emod_emod_of_dvd _ (Int.dvd_refl _), ← Int.sub_emod]
  congr 1; omega
end Go.Proofs.YtbfkmnlbmlpogaaDoor
