/- Plain arithmetic: numbers bit by bit: low bits, signs, sums with their carries. -/
import Derived.Test.YtbfkmnlbmlpogaaDoorPlain2
namespace Go.Proofs.YtbfkmnlbmlpogaaDoor
open Go.RowKit
set_option linter.unusedVariables false

theorem wraps64 (n : Int) (h0 : 0 ≤ n) (h1 : n < 2 ^ 64) : IntKind.u64.wrap n = n := by rw [IntKind.wrap_u64]; omega
theorem or_comm_bits (k : IntKind) (x y : Int) : bits .or k x y = bits .or k y x := by simp only [bits, BitVec.or_comm]
theorem and_one (y : Int) (h0 : 0 ≤ y) (h1 : y < 18446744073709551616) : bits .and .u64 y 1 = y % 2 :=
  bits_mask .u64 64 (by decide) wraps64 1 (by decide) y h0 (by omega)

/-- A number below 2^i, and a bit at place i. -/
theorem or_bit (i : Nat) (hi : i ≤ 63) (u t : Int) (hu0 : 0 ≤ u) (hu1 : u < 2 ^ i) (ht0 : 0 ≤ t) (ht1 : t ≤ 1) :
    bits .or .u64 u (IntKind.u64.wrap (t * 2 ^ i)) = u + t * 2 ^ i := by
  have hp := pow_pos_i i
  have hle : (2 : Int) ^ i ≤ 2 ^ 63 := pow_le_i hi
  have h0 : 0 ≤ t * 2 ^ i := Int.mul_nonneg ht0 (Int.le_of_lt hp)
  have h1 : t * 2 ^ i ≤ 2 ^ i := by
    rcases (show t = 0 ∨ t = 1 by omega) with rfl | rfl <;> omega
  rw [wraps64 _ h0 (by omega), or_comm_bits]
  rw [bits_join .u64 64 (by decide) wraps64 i _ u h0 (Int.mul_emod_left _ _) (by omega) hu0 hu1 (by omega)]
  omega

theorem bit_in (x : Int) (i : Nat) : 0 ≤ x / 2 ^ i % 2 ∧ x / 2 ^ i % 2 ≤ 1 := by omega

theorem low_step (x : Int) (i : Nat) (hi : i ≤ 63) : bits .or .u64 (x % 2 ^ i) (IntKind.u64.wrap (x / 2 ^ i % 2 * 2 ^ i)) = x % 2 ^ (i + 1) := by
  have hp := pow_pos_i i
  rw [or_bit i hi _ _ (Int.emod_nonneg x (Int.ne_of_gt hp)) (Int.emod_lt_of_pos x hp) (bit_in x i).1 (bit_in x i).2, Int.pow_succ, mod_two_mul x _ hp, Int.mul_comm (2 ^ i)]

/-- The low n bits, with their top one repeated up to place i. -/
def extTo (n : Nat) (x : Int) (i : Nat) : Int := x % 2 ^ n + x / 2 ^ (n - 1) % 2 * (2 ^ i - 2 ^ n)

theorem ext_in (n : Nat) (x : Int) (i : Nat) (h : n ≤ i) : 0 ≤ extTo n x i ∧ extTo n x i < 2 ^ i := by
  unfold extTo
  have hp := pow_pos_i n
  have h0 := Int.emod_nonneg x (Int.ne_of_gt hp)
  have h1 := Int.emod_lt_of_pos x hp
  have hle : (2 : Int) ^ n ≤ 2 ^ i := pow_le_i h
  rcases (show x / 2 ^ (n - 1) % 2 = 0 ∨ x / 2 ^ (n - 1) % 2 = 1 by omega) with e | e <;> rw [e] <;> omega

theorem ext_step (n : Nat) (x : Int) (i : Nat) (h : n ≤ i) (hi : i ≤ 63) : bits .or .u64 (extTo n x i) (IntKind.u64.wrap (x / 2 ^ (n - 1) % 2 * 2 ^ i)) = extTo n x (i + 1) := by
  have e := ext_in n x i h
  rw [or_bit i hi _ _ e.1 e.2 (bit_in x (n - 1)).1 (bit_in x (n - 1)).2]
  unfold extTo
  rw [Int.pow_succ]
  rcases (show x / 2 ^ (n - 1) % 2 = 0 ∨ x / 2 ^ (n - 1) % 2 = 1 by omega) with e | e <;> rw [e] <;> omega

theorem ext_start (n : Nat) (x : Int) : extTo n x n = x % 2 ^ n := by unfold extTo; simp

theorem ext_end (n : Nat) (hn : 1 ≤ n) (hm : n ≤ 64) (x : Int) : extTo n x 64 = sx n x % 18446744073709551616 := by
  have l := low_top n hn x
  have s := sx_top n hn x
  have e := pow_pred hn
  have hp := pow_pos_i (n - 1)
  have hle : (2 : Int) ^ n ≤ 2 ^ 64 := pow_le_i hm
  have h0 := Int.emod_nonneg x (Int.ne_of_gt hp)
  have h1 := Int.emod_lt_of_pos x hp
  unfold extTo
  rcases (show x / 2 ^ (n - 1) % 2 = 0 ∨ x / 2 ^ (n - 1) % 2 = 1 by omega) with e1 | e1 <;> rw [e1] at l s ⊢ <;> omega

theorem ones_in (k : Nat) (x : Int) : 0 ≤ onesTo k x ∧ onesTo k x ≤ k := by
  induction k with
  | zero => simp [onesTo]
  | succ k ih => simp only [onesTo]; omega

theorem top_bit (n : Nat) (hn : 1 ≤ n) (r : Int) : (r / 2 ^ (n - 1) % 2 == 1) = decide (sx n r < 0) := by
  rw [sx_neg n hn]; unfold tb; rw [Bool.eq_iff_iff]; simp

/-- The carry into place i, as a number. -/
def ci (a b k : Int) (i : Nat) : Int := (a % 2 ^ i + b % 2 ^ i + k) / 2 ^ i

theorem ci_eq (a b k : Int) (i : Nat) (h0 : 0 ≤ k) (h1 : k ≤ 1) : ci a b k i = if cin i a b k = true then 1 else 0 := by
  unfold ci cin
  have hp := pow_pos_i i
  have a0 := Int.emod_nonneg a (Int.ne_of_gt hp); have a1 := Int.emod_lt_of_pos a hp
  have b0 := Int.emod_nonneg b (Int.ne_of_gt hp); have b1 := Int.emod_lt_of_pos b hp
  generalize (2 : Int) ^ i = h at *
  by_cases c : h ≤ a % h + b % h + k
  · simp only [c, decide_true, if_true]
    apply Int.le_antisymm
    · have : (a % h + b % h + k) / h < 2 := Int.ediv_lt_of_lt_mul hp (by omega)
      omega
    · exact Int.le_ediv_of_mul_le hp (by omega)
  · simp only [c, decide_false, Bool.false_eq_true, if_false]
    exact Int.ediv_eq_zero_of_lt (by omega) (by omega)

theorem ci_in (a b k : Int) (i : Nat) (h0 : 0 ≤ k) (h1 : k ≤ 1) : 0 ≤ ci a b k i ∧ ci a b k i ≤ 1 := by
  rw [ci_eq a b k i h0 h1]; split <;> omega

theorem ci_zero (a b k : Int) : ci a b k 0 = k := by unfold ci; simp

theorem ci_succ (a b k : Int) (i : Nat) : ci a b k (i + 1) = (a / 2 ^ i % 2 + b / 2 ^ i % 2 + ci a b k i) / 2 := by
  unfold ci
  have hp := pow_pos_i i
  rw [Int.pow_succ, mod_two_mul a _ hp, mod_two_mul b _ hp]
  have e : a % 2 ^ i + 2 ^ i * (a / 2 ^ i % 2) + (b % 2 ^ i + 2 ^ i * (b / 2 ^ i % 2)) + k = (a % 2 ^ i + b % 2 ^ i + k) + 2 ^ i * (a / 2 ^ i % 2 + b / 2 ^ i % 2) := by rw [Int.mul_add]; omega
  rw [e, ← Int.ediv_ediv_of_nonneg (Int.le_of_lt hp), Int.add_mul_ediv_left _ _ (Int.ne_of_gt hp)]
  congr 1; omega

theorem sum_div (a b k : Int) (i : Nat) : (a + b + k) / 2 ^ i = a / 2 ^ i + b / 2 ^ i + ci a b k i := by
  unfold ci
  have hp := pow_pos_i i
  have ea := Int.emod_add_mul_ediv a (2 ^ i)
  have eb := Int.emod_add_mul_ediv b (2 ^ i)
  have e : a + b + k = (a % 2 ^ i + b % 2 ^ i + k) + 2 ^ i * (a / 2 ^ i + b / 2 ^ i) := by rw [Int.mul_add]; omega
  rw [e, Int.add_mul_ediv_left _ _ (Int.ne_of_gt hp)]
  omega

theorem sum_step (a b k : Int) (i : Nat) (hi : i ≤ 63) :
    bits .or .u64 ((a + b + k) % 2 ^ i) (IntKind.u64.wrap ((a / 2 ^ i % 2 + b / 2 ^ i % 2 + ci a b k i) % 2 * 2 ^ i)) = (a + b + k) % 2 ^ (i + 1) := by
  rw [← low_step _ _ hi, sum_div]
  congr 2
  have : (a / 2 ^ i % 2 + b / 2 ^ i % 2 + ci a b k i) % 2 = (a / 2 ^ i + b / 2 ^ i + ci a b k i) % 2 := by omega
  rw [this]

theorem ci_addC (n : Nat) (a b k : Int) (h0 : 0 ≤ k) (h1 : k ≤ 1) : (ci a b k n == 1) = addC n a b k := by
  rw [ci_eq a b k n h0 h1]
  have : cin n a b k = addC n a b k := rfl
  rw [this]
  cases addC n a b k <;> rfl

theorem ci_addN (n : Nat) (a b k : Int) (h0 : 0 ≤ k) (h1 : k ≤ 1) : (ci a b k n == 0) = !addC n a b k := by
  rw [ci_eq a b k n h0 h1]
  have : cin n a b k = addC n a b k := rfl
  rw [this]
  cases addC n a b k <;> rfl

theorem ci_out (n : Nat) (hn : 1 ≤ n) (a b k : Int) (h0 : 0 ≤ k) (h1 : k ≤ 1) : (ci a b k (n - 1) != ci a b k n) = outS n (sx n a + sx n b + k) := by
  rw [addO_bits n hn a b k h0 h1, ci_eq a b k n h0 h1, ci_eq a b k (n - 1) h0 h1]
  have : cin n a b k = addC n a b k := rfl
  rw [this, addC_bits n hn a b k h0 h1]
  cases tb (n - 1) a <;> cases tb (n - 1) b <;> cases cin (n - 1) a b k <;> rfl

/-- All bits turned, bit by bit. -/
theorem bit_not (b : Int) (i : Nat) (hi : i < 64) : (-1 - b) % 18446744073709551616 / 2 ^ i % 2 = 1 - b / 2 ^ i % 2 := by
  have hp := pow_pos_i i
  have h := tb_mod i hi (-1 - b)
  unfold tb at h
  have q : (-1 - b) / 2 ^ i = -1 - b / 2 ^ i := by
    have e := Int.emod_add_mul_ediv b (2 ^ i)
    have b0 := Int.emod_nonneg b (Int.ne_of_gt hp); have b1 := Int.emod_lt_of_pos b hp
    have e2 : -1 - b = (2 ^ i - 1 - b % 2 ^ i) + 2 ^ i * (-1 - b / 2 ^ i) := by rw [Int.mul_sub]; omega
    rw [e2, Int.add_mul_ediv_left _ _ (Int.ne_of_gt hp), Int.ediv_eq_zero_of_lt (by omega) (by omega)]
    omega
  rw [q] at h
  have h' := decide_eq_decide.1 h
  omega
end Go.Proofs.YtbfkmnlbmlpogaaDoor
