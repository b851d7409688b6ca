/- Plain arithmetic: differences and their borrow. -/
import Derived.Test.YtbfkmnlbmlpogaaDoorPlain
namespace Go.Proofs.YtbfkmnlbmlpogaaDoor
open Go.RowKit
set_option linter.unusedVariables false

theorem wrap_sum (a b : Int) (k : Bool) : IntKind.u64.wrap (IntKind.u64.wrap (a + b) + bitV k 1) = (a + b + b2i k) % 18446744073709551616 := by
  rw [IntKind.wrap_u64, IntKind.wrap_u64]; unfold b2i; omega

/-- C of a difference: the plain difference is below 0. -/
def subC (n : Nat) (a b k : Int) : Bool := decide (a % 2 ^ n - b % 2 ^ n - k < 0)

theorem mod64 (n : Nat) (hn : n ≤ 64) (x : Int) : x % 18446744073709551616 % 2 ^ n = x % 2 ^ n := by
  have e64 : (18446744073709551616 : Int) = 2 ^ n * 2 ^ (64 - n) := by
    rw [← Int.pow_add, show n + (64 - n) = 64 from by omega]; decide
  exact Int.emod_emod_of_dvd _ (by rw [e64]; exact Int.dvd_mul_right _ _)

theorem low_not (n : Nat) (hn : n ≤ 64) (b : Int) : ((-1 - b) % 18446744073709551616) % 2 ^ n = 2 ^ n - 1 - b % 2 ^ n := by
  rw [mod64 n hn]
  have hp := pow_pos_i n
  have b0 := Int.emod_nonneg b (Int.ne_of_gt hp); have b1 := Int.emod_lt_of_pos b hp
  have e : -1 - b = (2 ^ n - 1 - b % 2 ^ n) + 2 ^ n * (-1 - b / 2 ^ n) := by
    have := Int.emod_add_mul_ediv b (2 ^ n)
    rw [Int.mul_sub]; omega
  rw [e, Int.add_mul_emod_self_left]
  exact Int.emod_eq_of_lt (by omega) (by omega)

theorem sx_congr (n : Nat) (hn : 1 ≤ n) {x y : Int} (h : x % 2 ^ n = y % 2 ^ n) : sx n x = sx n y := by
  unfold sx
  rw [Int.add_emod, h, ← Int.add_emod]

theorem sx_low (n : Nat) (hn : 1 ≤ n) (x : Int) : sx n x = if x % 2 ^ n < 2 ^ (n - 1) then x % 2 ^ n else x % 2 ^ n - 2 ^ n := by
  rw [sx_top n hn, low_top n hn]
  have hp := pow_pos_i (n - 1)
  have e := pow_pred hn
  have h0 := Int.emod_nonneg x (Int.ne_of_gt hp)
  have h1 := Int.emod_lt_of_pos x hp
  rcases (show x / 2 ^ (n - 1) % 2 = 0 ∨ x / 2 ^ (n - 1) % 2 = 1 by omega) with e1 | e1 <;> rw [e1] <;> split <;> omega

theorem sx_not (n : Nat) (h1 : 1 ≤ n) (hn : n ≤ 64) (b : Int) : sx n ((-1 - b) % 18446744073709551616) = -1 - sx n b := by
  rw [sx_low n h1, sx_low n h1, low_not n hn]
  have hp := pow_pos_i n
  have e := pow_pred h1
  have b0 := Int.emod_nonneg b (Int.ne_of_gt hp); have b1 := Int.emod_lt_of_pos b hp
  split <;> split <;> omega

theorem sub_c (n : Nat) (h1 : 1 ≤ n) (hn : n ≤ 64) (a b : Int) (k : Bool) : (!addC n a ((-1 - b) % 18446744073709551616) (b2i (!k))) = subC n a b (b2i k) := by
  unfold addC subC
  rw [low_not n hn]
  cases k <;> simp [b2i, bitV] <;> rw [Bool.eq_iff_iff] <;> simp <;> omega

theorem sub_o (n : Nat) (h1 : 1 ≤ n) (hn : n ≤ 64) (a b : Int) (k : Bool) : outS n (sx n a + sx n ((-1 - b) % 18446744073709551616) + b2i (!k)) = outS n (sx n a - sx n b - b2i k) := by
  rw [sx_not n h1 hn]
  congr 1
  cases k <;> simp [b2i, bitV] <;> omega

theorem sub_r (a b : Int) (k : Bool) : (a + (-1 - b) % 18446744073709551616 + b2i (!k)) % 18446744073709551616 = (a - b - b2i k) % 18446744073709551616 := by
  cases k <;> simp [b2i, bitV] <;> omega

theorem xor_max (b : Int) : bits .xor .u64 IntKind.u64.max b = (-1 - b) % 18446744073709551616 := by
  show IntKind.u64.wrap ((BitVec.ofInt 64 IntKind.u64.max ^^^ BitVec.ofInt 64 b).toNat : Int) = _
  have e : BitVec.ofInt 64 IntKind.u64.max = BitVec.allOnes 64 := by decide
  rw [e, BitVec.allOnes_xor, IntKind.wrap_u64, BitVec.toNat_not, BitVec.toNat_ofInt]
  omega
end Go.Proofs.YtbfkmnlbmlpogaaDoor
