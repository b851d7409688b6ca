/- Plain arithmetic: shifts of n bits. -/
import Derived.Test.YtbfkmnlbmlpogaaDoorPlain2
namespace Go.Proofs.YtbfkmnlbmlpogaaDoor
open Go.RowKit
set_option linter.unusedVariables false

theorem pow_step {m : Nat} (h : 1 ≤ m) : (2 : Int) ^ m = 2 ^ (m - 1) * 2 := pow_pred h

/-- A shift to the left, by one place behind m - 1. -/
theorem shl_two (A : Int) (m : Nat) (h : 1 ≤ m) : IntKind.u64.wrap (IntKind.u64.wrap (A * 2 ^ (m - 1)) * 2) = A * 2 ^ m % 18446744073709551616 := by
  rw [IntKind.wrap_u64, IntKind.wrap_u64, pow_step h, ← Int.mul_assoc]; omega

/-- Low bits do not care what stands above. -/
theorem mul_low (n : Nat) (a t : Int) : a % 2 ^ n * t % 2 ^ n = a * t % 2 ^ n := by
  rw [Int.mul_emod, Int.emod_emod_of_dvd _ (Int.dvd_refl _), ← Int.mul_emod]

theorem tb_congr (n : Nat) (hn : 1 ≤ n) {x y : Int} (h : x % 2 ^ n = y % 2 ^ n) : tb (n - 1) x = tb (n - 1) y := by
  rw [← sx_neg n hn, ← sx_neg n hn, sx_congr n hn h]

/-- The bit that goes out last to the left. -/
theorem shl_c (n : Nat) (hn : 1 ≤ n) (hm : n ≤ 64) (a : Int) (m : Nat) : decide (sx n (IntKind.u64.wrap (a % 2 ^ n * 2 ^ (m - 1))) < 0) = tb (n - 1) (a * 2 ^ (m - 1)) := by
  rw [sx_neg n hn, IntKind.wrap_u64]
  apply tb_congr n hn
  rw [mod64 n hm, mul_low]

theorem shl_top (n : Nat) (hn : 1 ≤ n) (hm : n ≤ 64) (a : Int) (m : Nat) : decide (sx n (a % 2 ^ n * 2 ^ m % 18446744073709551616) < 0) = tb (n - 1) (a * 2 ^ m) := by
  rw [sx_neg n hn]
  apply tb_congr n hn
  rw [mod64 n hm, mul_low]

theorem shr_two (A : Int) (m : Nat) (h : 1 ≤ m) : A / 2 ^ (m - 1) / 2 = A / 2 ^ m := by
  rw [pow_step h, Int.ediv_ediv_of_nonneg (Int.le_of_lt (pow_pos_i _))]

theorem and_one_u (y : Int) (h0 : 0 ≤ y) (h1 : y < 18446744073709551616) : bits .and .u64 y 1 = y % 2 :=
  bits_mask .u64 64 (by decide) (fun n a b => by rw [IntKind.wrap_u64]; omega) 1 (by decide) y h0 (by omega)

theorem and_one_i (y : Int) : bits .and .i64 y 1 = y % 2 := by
  show IntKind.i64.wrap ((BitVec.ofInt 64 y &&& BitVec.ofInt 64 1).toNat : Int) = _
  have e1 : (BitVec.ofInt 64 1 : BitVec 64) = 1#64 := rfl
  have e2 : (BitVec.ofInt 64 y &&& 1#64).toNat = (BitVec.ofInt 64 y).toNat % 2 := by
    rw [BitVec.toNat_and]
    exact Nat.and_two_pow_sub_one_eq_mod _ 1
  rw [e1, e2, BitVec.toNat_ofInt, IntKind.wrap_i64]
  omega

theorem odd_tb (x : Int) (m : Nat) : (x / 2 ^ m % 2 == 1) = tb m x := by unfold tb; rw [Bool.eq_iff_iff]; simp
end Go.Proofs.YtbfkmnlbmlpogaaDoor
