/- Plain arithmetic on bits, without the program: the low bits of a number, with and without a sign; single bits; sums and their carries. -/
import Derived.WalkKit
import Derived.Laws.BitsAllLaws
import Derived.Laws.Bits128
namespace Go.Proofs.YtbfkmnlbmlpogaaDoor
open Go.RowKit
set_option linter.unusedVariables false

theorem pow_pos_i (k : Nat) : (0 : Int) < 2 ^ k := Int.pow_pos (by decide)

theorem pow_le_i {a b : Nat} (h : a ≤ b) : (2 : Int) ^ a ≤ 2 ^ b := by
  have := Nat.pow_le_pow_right (n := 2) (by decide) h
  exact_mod_cast this

theorem pow_split {a b c : Nat} (h : a + b = c) : (2 : Int) ^ c = 2 ^ a * 2 ^ b := by rw [← Int.pow_add, h]

theorem wrap64_mod (x : Int) : wrap64 x % 18446744073709551616 = x % 18446744073709551616 := by unfold wrap64; omega

/-- A shift to the left and back, without a sign: the low b bits. -/
theorem low_u (n : Int) (b : Nat) (hb : b ≤ 64) : IntKind.u64.wrap (n * 2 ^ (64 - b)) / 2 ^ (64 - b) = n % 2 ^ b := by
  rw [IntKind.wrap_u64]
  have e64 : (18446744073709551616 : Int) = 2 ^ (64 - b) * 2 ^ b := by
    rw [← Int.pow_add, show 64 - b + b = 64 from by omega]; decide
  rw [e64, Int.mul_comm n, Int.mul_emod_mul_of_pos _ _ (pow_pos_i _), Int.mul_ediv_cancel_left _ (Int.ne_of_gt (pow_pos_i _))]

/-- The number that b bits mean with a sign. -/
def sx (b : Nat) (n : Int) : Int := (n + 2 ^ (b - 1)) % 2 ^ b - 2 ^ (b - 1)

/-- A shift to the left and back, with a sign. -/
theorem low_i (n : Int) (b : Nat) (h1 : 1 ≤ b) (hb : b ≤ 64) : wrap64 (n * 2 ^ (64 - b)) / 2 ^ (64 - b) = sx b n := by
  unfold wrap64 sx
  have e64 : (18446744073709551616 : Int) = 2 ^ (64 - b) * 2 ^ b := by
    rw [← Int.pow_add, show 64 - b + b = 64 from by omega]; decide
  have e63 : (9223372036854775808 : Int) = 2 ^ (64 - b) * 2 ^ (b - 1) := by
    rw [← Int.pow_add, show 64 - b + (b - 1) = 63 from by omega]; decide
  rw [e64, e63, Int.mul_comm n, ← Int.mul_add, Int.mul_emod_mul_of_pos _ _ (pow_pos_i _), ← Int.mul_sub, Int.mul_ediv_cancel_left _ (Int.ne_of_gt (pow_pos_i _))]

/-- Bit i of a number. -/
def tb (i : Nat) (x : Int) : Bool := decide (x / 2 ^ i % 2 = 1)

theorem mod_two_mul (x h : Int) (hh : 0 < h) : x % (h * 2) = x % h + h * (x / h % 2) := by
  have e1 := Int.emod_add_mul_ediv x h
  have e2 := Int.emod_add_mul_ediv (x / h) 2
  have a0 := Int.emod_nonneg x (Int.ne_of_gt hh)
  have a1 := Int.emod_lt_of_pos x hh
  have e3 : x = (x % h + h * (x / h % 2)) + (h * 2) * (x / h / 2) := by
    rw [Int.mul_assoc, Int.add_assoc, ← Int.mul_add, e2, e1]
  have lt : x % h + h * (x / h % 2) < h * 2 := by
    rcases (show x / h % 2 = 0 ∨ x / h % 2 = 1 by omega) with e | e <;> rw [e] <;> omega
  have ge : 0 ≤ x % h + h * (x / h % 2) := by
    rcases (show x / h % 2 = 0 ∨ x / h % 2 = 1 by omega) with e | e <;> rw [e] <;> omega
  rw [show x % (h * 2) = ((x % h + h * (x / h % 2)) + (h * 2) * (x / h / 2)) % (h * 2) from by rw [← e3], Int.add_mul_emod_self_left]
  exact Int.emod_eq_of_lt ge lt

theorem pow_pred {n : Nat} (h : 1 ≤ n) : (2 : Int) ^ n = 2 ^ (n - 1) * 2 := by
  rw [show n = (n - 1) + 1 from by omega, Int.pow_succ]; simp

/-- The low n bits, by the top one of them and the rest. -/
theorem low_top (n : Nat) (h : 1 ≤ n) (x : Int) : x % 2 ^ n = x % 2 ^ (n - 1) + 2 ^ (n - 1) * (x / 2 ^ (n - 1) % 2) := by
  rw [pow_pred h, mod_two_mul x _ (pow_pos_i _)]

theorem sx_top (n : Nat) (h : 1 ≤ n) (x : Int) : sx n x = x % 2 ^ (n - 1) - 2 ^ (n - 1) * (x / 2 ^ (n - 1) % 2) := by
  unfold sx
  have hp := pow_pos_i (n - 1)
  rw [pow_pred h, mod_two_mul _ _ hp]
  have e1 : (x + 2 ^ (n - 1)) % 2 ^ (n - 1) = x % 2 ^ (n - 1) := by simp
  have e2 : (x + 2 ^ (n - 1)) / 2 ^ (n - 1) = x / 2 ^ (n - 1) + 1 := Int.add_ediv_of_dvd_right (Int.dvd_refl _) ▸ by rw [Int.ediv_self (Int.ne_of_gt hp)]
  rw [e1, e2]
  rcases (show x / 2 ^ (n - 1) % 2 = 0 ∨ x / 2 ^ (n - 1) % 2 = 1 by omega) with e | e
  · rw [e, show (x / 2 ^ (n - 1) + 1) % 2 = 1 from by omega]; omega
  · rw [e, show (x / 2 ^ (n - 1) + 1) % 2 = 0 from by omega]; omega

theorem sx_in (n : Nat) (h : 1 ≤ n) (x : Int) : -2 ^ (n - 1) ≤ sx n x ∧ sx n x < 2 ^ (n - 1) := by
  unfold sx
  have hp := pow_pos_i (n - 1)
  have h0 := Int.emod_nonneg (x + 2 ^ (n - 1)) (Int.ne_of_gt (pow_pos_i n))
  have h1 := Int.emod_lt_of_pos (x + 2 ^ (n - 1)) (pow_pos_i n)
  have := pow_pred h
  omega

/-- The sign of n bits is the top one of them. -/
theorem sx_neg (n : Nat) (h : 1 ≤ n) (x : Int) : decide (sx n x < 0) = tb (n - 1) x := by
  unfold tb
  rw [sx_top n h]
  have hp := pow_pos_i (n - 1)
  have h0 := Int.emod_nonneg x (Int.ne_of_gt hp)
  have h1 := Int.emod_lt_of_pos x hp
  rcases (show x / 2 ^ (n - 1) % 2 = 0 ∨ x / 2 ^ (n - 1) % 2 = 1 by omega) with e | e
  · rw [e, Bool.eq_iff_iff]; simp; omega
  · rw [e, Bool.eq_iff_iff]; simp; omega

/-- A bit, as the machine's bits have it. -/
theorem tb_bv (i : Nat) (hi : i < 64) (x : Int) : tb i x = (BitVec.ofInt 64 x).getLsbD i := by
  have e : (BitVec.ofInt 64 x).getLsbD i = (BitVec.ofInt 64 x).toNat.testBit i := rfl
  rw [e, BitVec.toNat_ofInt, Nat.testBit_eq_decide_div_mod_eq]
  unfold tb
  have hp := pow_pos_i i
  have e64 : (18446744073709551616 : Int) = 2 ^ i * 2 ^ (64 - i) := by
    rw [← Int.pow_add, show i + (64 - i) = 64 from by omega]; decide
  have e2 : (2 : Int) ^ (64 - i) = 2 * 2 ^ (63 - i) := by
    rw [show 64 - i = (63 - i) + 1 from by omega, Int.pow_succ]; omega
  have key : x / 2 ^ i % 2 = (x % 18446744073709551616) / 2 ^ i % 2 := by
    rw [e64]
    have d : x % (2 ^ i * 2 ^ (64 - i)) = x + 2 ^ i * (-(2 ^ (64 - i) * (x / (2 ^ i * 2 ^ (64 - i))))) := by
      have := Int.emod_add_mul_ediv x (2 ^ i * 2 ^ (64 - i))
      rw [Int.mul_neg, ← Int.mul_assoc]; omega
    rw [d, Int.add_mul_ediv_left _ _ (Int.ne_of_gt hp), e2, Int.mul_assoc]
    omega
  rw [key]
  have hnn : 0 ≤ x % 18446744073709551616 := by omega
  have ecast : (((x % 18446744073709551616).toNat / 2 ^ i % 2 : Nat) : Int) = (x % 18446744073709551616) / 2 ^ i % 2 := by
    simp [Int.toNat_of_nonneg hnn]
  rw [Bool.eq_iff_iff]
  simp only [decide_eq_true_eq]
  have e3 : (x % ((2 ^ 64 : Nat) : Int)).toNat = (x % 18446744073709551616).toNat := rfl
  rw [e3]
  omega

theorem tb_and (i : Nat) (hi : i < 64) (x y : Int) : tb i (bits .and .u64 x y) = (tb i x && tb i y) := by
  show tb i (IntKind.u64.wrap ((BitVec.ofInt 64 x &&& BitVec.ofInt 64 y).toNat : Int)) = _
  rw [tb_bv i hi, tb_bv i hi, tb_bv i hi]
  have e : BitVec.ofInt 64 (IntKind.u64.wrap ((BitVec.ofInt 64 x &&& BitVec.ofInt 64 y).toNat : Int)) = (BitVec.ofInt 64 x &&& BitVec.ofInt 64 y) := by
    have := (BitVec.ofInt 64 x &&& BitVec.ofInt 64 y).isLt
    apply BitVec.eq_of_toNat_eq
    rw [IntKind.wrap_u64, BitVec.toNat_ofInt]
    omega
  rw [e]
  simp
theorem tb_or (i : Nat) (hi : i < 64) (x y : Int) : tb i (bits .or .u64 x y) = (tb i x || tb i y) := by
  show tb i (IntKind.u64.wrap ((BitVec.ofInt 64 x ||| BitVec.ofInt 64 y).toNat : Int)) = _
  rw [tb_bv i hi, tb_bv i hi, tb_bv i hi]
  have e : BitVec.ofInt 64 (IntKind.u64.wrap ((BitVec.ofInt 64 x ||| BitVec.ofInt 64 y).toNat : Int)) = (BitVec.ofInt 64 x ||| BitVec.ofInt 64 y) := by
    have := (BitVec.ofInt 64 x ||| BitVec.ofInt 64 y).isLt
    apply BitVec.eq_of_toNat_eq
    rw [IntKind.wrap_u64, BitVec.toNat_ofInt]
    omega
  rw [e]
  simp
theorem tb_xor (i : Nat) (hi : i < 64) (x y : Int) : tb i (bits .xor .u64 x y) = (tb i x ^^ tb i y) := by
  show tb i (IntKind.u64.wrap ((BitVec.ofInt 64 x ^^^ BitVec.ofInt 64 y).toNat : Int)) = _
  rw [tb_bv i hi, tb_bv i hi, tb_bv i hi]
  have e : BitVec.ofInt 64 (IntKind.u64.wrap ((BitVec.ofInt 64 x ^^^ BitVec.ofInt 64 y).toNat : Int)) = (BitVec.ofInt 64 x ^^^ BitVec.ofInt 64 y) := by
    have := (BitVec.ofInt 64 x ^^^ BitVec.ofInt 64 y).isLt
    apply BitVec.eq_of_toNat_eq
    rw [IntKind.wrap_u64, BitVec.toNat_ofInt]
    omega
  rw [e]
  simp

theorem tb_andNot (i : Nat) (hi : i < 64) (x y : Int) : tb i (bits .andNot .u64 x y) = (tb i x && !tb i y) := by
  show tb i (IntKind.u64.wrap ((BitVec.ofInt 64 x &&& ~~~BitVec.ofInt 64 y).toNat : Int)) = _
  rw [tb_bv i hi, tb_bv i hi, tb_bv i hi]
  have e : BitVec.ofInt 64 (IntKind.u64.wrap ((BitVec.ofInt 64 x &&& ~~~BitVec.ofInt 64 y).toNat : Int)) = (BitVec.ofInt 64 x &&& ~~~BitVec.ofInt 64 y) := by
    have := (BitVec.ofInt 64 x &&& ~~~BitVec.ofInt 64 y).isLt
    apply BitVec.eq_of_toNat_eq
    rw [IntKind.wrap_u64, BitVec.toNat_ofInt]
    omega
  rw [e]
  simp [hi]

/-- The bits of a number modulo 2^64 are its own. -/
theorem tb_mod (i : Nat) (hi : i < 64) (x : Int) : tb i (x % 18446744073709551616) = tb i x := by
  rw [tb_bv i hi, tb_bv i hi]
  congr 1
  apply BitVec.eq_of_toInt_eq; simp [BitVec.toInt_ofInt, Int.bmod]

/-- A carry into place i. -/
def cin (i : Nat) (a b k : Int) : Bool := decide (2 ^ i ≤ a % 2 ^ i + b % 2 ^ i + k)

theorem tb_add (i : Nat) (a b k : Int) (h0 : 0 ≤ k) (h1 : k ≤ 1) : tb i (a + b + k) = (tb i a ^^ tb i b ^^ cin i a b k) := by
  unfold tb cin
  have hp := pow_pos_i i
  generalize (2 : Int) ^ i = h at *
  have ea := Int.emod_add_mul_ediv a h
  have eb := Int.emod_add_mul_ediv b h
  have a0 := Int.emod_nonneg a (Int.ne_of_gt hp); have a1 := Int.emod_lt_of_pos a hp
  have b0 := Int.emod_nonneg b (Int.ne_of_gt hp); have b1 := Int.emod_lt_of_pos b hp
  have e : a + b + k = (a % h + b % h + k) + h * (a / h + b / h) := by rw [Int.mul_add]; omega
  rw [e, Int.add_mul_ediv_left _ _ (Int.ne_of_gt hp)]
  by_cases c : h ≤ a % h + b % h + k
  · have q : (a % h + b % h + k) / h = 1 := by
      apply Int.le_antisymm
      · have : (a % h + b % h + k) / h < 2 := Int.ediv_lt_of_lt_mul hp (by omega)
        omega
      · exact Int.le_ediv_of_mul_le hp (by omega)
    rw [q]
    simp only [c, decide_true]
    rcases (show a / h % 2 = 0 ∨ a / h % 2 = 1 by omega) with e1 | e1 <;> rcases (show b / h % 2 = 0 ∨ b / h % 2 = 1 by omega) with e2 | e2 <;> simp [e1, e2] <;> omega
  · have q : (a % h + b % h + k) / h = 0 := Int.ediv_eq_zero_of_lt (by omega) (by omega)
    rw [q]
    simp only [c, decide_false]
    rcases (show a / h % 2 = 0 ∨ a / h % 2 = 1 by omega) with e1 | e1 <;> rcases (show b / h % 2 = 0 ∨ b / h % 2 = 1 by omega) with e2 | e2 <;> simp [e1, e2] <;> omega

/-- C of a sum: the plain sum has more than n bits. -/
def addC (n : Nat) (a b k : Int) : Bool := decide (2 ^ n ≤ a % 2 ^ n + b % 2 ^ n + k)
/-- Whether a number lies outside the signed numbers of n bits. -/
def outS (n : Nat) (x : Int) : Bool := !(decide (-2 ^ (n - 1) ≤ x) && decide (x < 2 ^ (n - 1)))

theorem addC_bits (n : Nat) (hn : 1 ≤ n) (a b k : Int) (h0 : 0 ≤ k) (h1 : k ≤ 1) :
    addC n a b k = ((tb (n - 1) a && tb (n - 1) b) || ((tb (n - 1) a || tb (n - 1) b) && cin (n - 1) a b k)) := by
  unfold addC tb cin
  rw [low_top n hn a, low_top n hn b, pow_pred hn]
  have hp := pow_pos_i (n - 1)
  generalize (2 : Int) ^ (n - 1) = h at *
  have a0 := Int.emod_nonneg a (Int.ne_of_gt hp); have a1 := Int.emod_lt_of_pos a hp
  have b0 := Int.emod_nonneg b (Int.ne_of_gt hp); have b1 := Int.emod_lt_of_pos b hp
  rcases (show a / h % 2 = 0 ∨ a / h % 2 = 1 by omega) with e1 | e1 <;> rcases (show b / h % 2 = 0 ∨ b / h % 2 = 1 by omega) with e2 | e2 <;> simp [e1, e2] <;> omega

theorem addO_bits (n : Nat) (hn : 1 ≤ n) (a b k : Int) (h0 : 0 ≤ k) (h1 : k ≤ 1) :
    outS n (sx n a + sx n b + k) = ((tb (n - 1) a == tb (n - 1) b) && (tb (n - 1) a != cin (n - 1) a b k)) := by
  unfold outS tb cin
  rw [sx_top n hn a, sx_top n hn b]
  have hp := pow_pos_i (n - 1)
  generalize (2 : Int) ^ (n - 1) = h at *
  have a0 := Int.emod_nonneg a (Int.ne_of_gt hp); have a1 := Int.emod_lt_of_pos a hp
  have b0 := Int.emod_nonneg b (Int.ne_of_gt hp); have b1 := Int.emod_lt_of_pos b hp
  rcases (show a / h % 2 = 0 ∨ a / h % 2 = 1 by omega) with e1 | e1 <;> rcases (show b / h % 2 = 0 ∨ b / h % 2 = 1 by omega) with e2 | e2 <;> by_cases c : h ≤ a % h + b % h + k <;> simp [e1, e2, c] <;> omega

/-- The program's C of a sum. -/
theorem add_c (n : Nat) (hn : 1 ≤ n) (hm : n ≤ 64) (a b k : Int) (h0 : 0 ≤ k) (h1 : k ≤ 1) :
    decide (sx n (bits .or .u64 (bits .and .u64 a b) (bits .andNot .u64 (bits .or .u64 a b) ((a + b + k) % 18446744073709551616))) < 0) = addC n a b k := by
  have hi : n - 1 < 64 := by omega
  rw [sx_neg n hn, tb_or _ hi, tb_and _ hi, tb_andNot _ hi, tb_or _ hi, tb_mod _ hi, tb_add _ a b k h0 h1, addC_bits n hn a b k h0 h1]
  cases tb (n - 1) a <;> cases tb (n - 1) b <;> cases cin (n - 1) a b k <;> rfl

/-- The program's O of a sum. -/
theorem add_o (n : Nat) (hn : 1 ≤ n) (hm : n ≤ 64) (a b k : Int) (h0 : 0 ≤ k) (h1 : k ≤ 1) :
    decide (sx n (bits .and .u64 (bits .xor .u64 a ((a + b + k) % 18446744073709551616)) (bits .xor .u64 b ((a + b + k) % 18446744073709551616))) < 0) = outS n (sx n a + sx n b + k) := by
  have hi : n - 1 < 64 := by omega
  rw [sx_neg n hn, tb_and _ hi, tb_xor _ hi, tb_xor _ hi, tb_mod _ hi, tb_add _ a b k h0 h1, addO_bits n hn a b k h0 h1]
  cases tb (n - 1) a <;> cases tb (n - 1) b <;> cases cin (n - 1) a b k <;> rfl

/-- A number, if it is asked for. -/
def bitV (s : Bool) (b : Int) : Int := if s then b else 0
/-- A Bool as a number. -/
def b2i (s : Bool) : Int := bitV s 1
theorem b2i_in (s : Bool) : 0 ≤ b2i s ∧ b2i s ≤ 1 := by cases s <;> simp [b2i, bitV]

/-- How many of the lowest k bits are 1. -/
def onesTo : Nat → Int → Int
  | 0, _ => 0
  | k + 1, x => onesTo k x + x / 2 ^ k % 2

/-- Whether of the lowest 8 bits an even number are 1. -/
def evenB (x : Int) : Bool := onesTo 8 x % 2 == 0
end Go.Proofs.YtbfkmnlbmlpogaaDoor
