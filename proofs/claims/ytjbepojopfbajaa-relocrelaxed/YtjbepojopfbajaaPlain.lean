/- Plain arithmetic on bits, without the program: masks, joins, groups of seven bits. -/
import Derived.WalkKit
import Derived.Laws.BitsAllLaws
import Derived.Laws.Bits128
namespace Go.Proofs.Ytjbepojopfbajaa
open Go.RowKit
set_option linter.unusedVariables false

theorem pow_pos_i (k : Nat) : (0 : Int) < 2 ^ k := Int.pow_pos (by decide)

theorem pow_le_i {a b : Nat} (h : a ≤ b) : (2 : Int) ^ a ≤ 2 ^ b := by
  have := Nat.pow_le_pow_right (n := 2) (by decide) h
  exact_mod_cast this

/-- The value of k groups of seven bits from place a on, the low one first. -/
def uacc (bs : Nat → Int) (a : Nat) : Nat → Int
  | 0 => 0
  | k + 1 => uacc bs a k + (bs (a + k) % 128) * 2 ^ (7 * k)

theorem uacc_in (bs : Nat → Int) (a k : Nat) : 0 ≤ uacc bs a k ∧ uacc bs a k < 2 ^ (7 * k) := by
  induction k with
  | zero => simp [uacc]
  | succ k ih =>
    have hp := pow_pos_i (7 * k)
    have e : (2 : Int) ^ (7 * (k + 1)) = 128 * 2 ^ (7 * k) := by
      rw [show 7 * (k + 1) = 7 * k + 7 from by omega, Int.pow_add]; omega
    have h1 : 0 ≤ bs (a + k) % 128 := by omega
    have h2 : bs (a + k) % 128 ≤ 127 := by omega
    have m0 := Int.mul_nonneg h1 (Int.le_of_lt hp)
    have m1 := Int.mul_le_mul_of_nonneg_right h2 (Int.le_of_lt hp)
    simp only [uacc]
    rw [e]
    omega

theorem wraps_u64 (n : Int) (h0 : 0 ≤ n) (h1 : n < 2 ^ 64) : IntKind.u64.wrap n = n := by rw [IntKind.wrap_u64]; omega

theorem or_comm_bits (k : IntKind) (x y : Int) : bits .or k x y = bits .or k y x := by simp only [bits, BitVec.or_comm]

theorem u8_and127 (x : Int) (h0 : 0 ≤ x) (h1 : x < 256) : bits .and .u8 x 127 = x % 128 :=
  bits_mask .u8 8 (by decide) wraps_u8 7 (by decide) x h0 (by omega)

/-- A multiple of 2^i, taken modulo 2^64, and a number below 2^i: joined they are the sum modulo 2^64. -/
theorem join_u64 (i : Nat) (hi : i ≤ 63) (u t : Int) (hu0 : 0 ≤ u) (hu1 : u < 2 ^ i) :
    bits .or .u64 (u % 18446744073709551616) ((t * 2 ^ i) % 18446744073709551616) = (u + t * 2 ^ i) % 18446744073709551616 := by
  have hp := pow_pos_i i
  have hle : (2 : Int) ^ i ≤ 2 ^ 63 := pow_le_i hi
  have e64 : (18446744073709551616 : Int) = 2 ^ i * 2 ^ (64 - i) := by
    rw [← Int.pow_add, show i + (64 - i) = 64 from by omega]; decide
  have hmod : (t * 2 ^ i) % 18446744073709551616 = (t % 2 ^ (64 - i)) * 2 ^ i := by
    rw [e64, Int.mul_comm t, Int.mul_emod_mul_of_pos _ _ hp, Int.mul_comm]
  have hq0 := Int.emod_nonneg t (Int.ne_of_gt (pow_pos_i (64 - i)))
  have hq1 := Int.emod_lt_of_pos t (pow_pos_i (64 - i))
  have hle2 : (t % 2 ^ (64 - i)) * 2 ^ i + 2 ^ i ≤ 18446744073709551616 := by
    have := Int.mul_le_mul_of_nonneg_right (show t % 2 ^ (64 - i) + 1 ≤ 2 ^ (64 - i) from by omega) (Int.le_of_lt hp)
    rw [e64, Int.mul_comm (2 ^ i)]
    rw [Int.add_mul, Int.one_mul] at this
    exact this
  have hn := Int.mul_nonneg hq0 (Int.le_of_lt hp)
  have hu : u % 18446744073709551616 = u := by omega
  rw [hu, or_comm_bits, hmod]
  rw [bits_join .u64 64 (by decide) wraps_u64 i _ u hn (Int.mul_emod_left _ _) (by omega) hu0 hu1 (by omega)]
  have hx : (u + t * 2 ^ i) % 18446744073709551616 = (u + (t * 2 ^ i) % 18446744073709551616) % 18446744073709551616 := by omega
  rw [hx, hmod]
  omega

theorem uacc_step_u64 (bs : Nat → Int) (a k : Nat) (hk : k ≤ 9) (hb0 : 0 ≤ bs (a + k)) (hb1 : bs (a + k) < 256) :
    bits .or .u64 (uacc bs a k % 18446744073709551616) (IntKind.u64.wrap (IntKind.u64.wrap (bits .and .u8 (bs (a + k)) 127) * 2 ^ (7 * k))) = uacc bs a (k + 1) % 18446744073709551616 := by
  have h := uacc_in bs a k
  rw [u8_and127 _ hb0 hb1, IntKind.wrap_u64, IntKind.wrap_u64, show bs (a + k) % 128 % 18446744073709551616 = bs (a + k) % 128 from by omega,
    join_u64 (7 * k) (by omega) _ _ h.1 h.2]
  rfl

/-- The bitwise operators look at a number's 64 bits alone. -/
theorem or_i64 (x y : Int) : bits .or .i64 x y = wrap64 (bits .or .u64 (x % 18446744073709551616) (y % 18446744073709551616)) := by
  have e : ∀ z : Int, BitVec.ofInt 64 (z % 18446744073709551616) = BitVec.ofInt 64 z := by
    intro z; apply BitVec.eq_of_toInt_eq; simp [BitVec.toInt_ofInt, Int.bmod]
  show IntKind.i64.wrap ((BitVec.ofInt 64 x ||| BitVec.ofInt 64 y).toNat : Int) = wrap64 (IntKind.u64.wrap ((BitVec.ofInt 64 (x % 18446744073709551616) ||| BitVec.ofInt 64 (y % 18446744073709551616)).toNat : Int))
  rw [e, e, IntKind.wrap_u64, IntKind.wrap_i64]
  unfold wrap64
  omega

theorem wrap64_mod (x : Int) : wrap64 x % 18446744073709551616 = x % 18446744073709551616 := by unfold wrap64; omega

theorem wrap64_of_mod (x : Int) : wrap64 (x % 18446744073709551616) = wrap64 x := by unfold wrap64; omega

theorem uacc_step_i64 (bs : Nat → Int) (a k : Nat) (hk : k ≤ 9) (hb0 : 0 ≤ bs (a + k)) (hb1 : bs (a + k) < 256) :
    bits .or .i64 (wrap64 (uacc bs a k)) (wrap64 (wrap64 (bits .and .u8 (bs (a + k)) 127) * 2 ^ (7 * k))) = wrap64 (uacc bs a (k + 1)) := by
  have h := uacc_in bs a k
  rw [u8_and127 _ hb0 hb1, show wrap64 (bs (a + k) % 128) = bs (a + k) % 128 from by unfold wrap64; omega,
    or_i64, wrap64_mod, wrap64_mod, join_u64 (7 * k) (by omega) _ _ h.1 h.2, wrap64_of_mod]
  rfl

/-- A shift to the left and back, without a sign: the low b bits. -/
theorem low_u (n : Int) (b : Nat) (hb : b ≤ 64) : IntKind.u64.wrap (n * 2 ^ (64 - b)) / 2 ^ (64 - b) = n % 2 ^ b := by
  rw [IntKind.wrap_u64]
  have e64 : (18446744073709551616 : Int) = 2 ^ (64 - b) * 2 ^ b := by
    rw [← Int.pow_add, show 64 - b + b = 64 from by omega]; decide
  rw [e64, Int.mul_comm n, Int.mul_emod_mul_of_pos _ _ (pow_pos_i _), Int.mul_ediv_cancel_left _ (Int.ne_of_gt (pow_pos_i _))]

/-- The number that b bits mean with a sign. -/
def sx (b : Nat) (n : Int) : Int := (n + 2 ^ (b - 1)) % 2 ^ b - 2 ^ (b - 1)

/-- A shift to the left and back, with a sign. -/
theorem low_i (n : Int) (b : Nat) (h1 : 1 ≤ b) (hb : b ≤ 64) : wrap64 (n * 2 ^ (64 - b)) / 2 ^ (64 - b) = sx b n := by
  unfold wrap64 sx
  have e64 : (18446744073709551616 : Int) = 2 ^ (64 - b) * 2 ^ b := by
    rw [← Int.pow_add, show 64 - b + b = 64 from by omega]; decide
  have e63 : (9223372036854775808 : Int) = 2 ^ (64 - b) * 2 ^ (b - 1) := by
    rw [← Int.pow_add, show 64 - b + (b - 1) = 63 from by omega]; decide
  rw [e64, e63, Int.mul_comm n, ← Int.mul_add, Int.mul_emod_mul_of_pos _ _ (pow_pos_i _), ← Int.mul_sub, Int.mul_ediv_cancel_left _ (Int.ne_of_gt (pow_pos_i _))]

theorem uacc10 (bs : Nat → Int) (a : Nat) : ∃ u : Int, 0 ≤ u ∧ u < 9223372036854775808 ∧ uacc bs a 10 = u + (bs (a + 9) % 128) * 9223372036854775808 :=
  ⟨uacc bs a 9, (uacc_in bs a 9).1, by have := (uacc_in bs a 9).2; simpa using this, rfl⟩

theorem ten_u64_ok (bs : Nat → Int) (a : Nat) (h0 : 0 ≤ bs (a + 9)) (h1 : bs (a + 9) ≤ 1) :
    (bs (a + 9) != bits .and .u8 (uacc bs a 10 % 18446744073709551616 / 9223372036854775808) 127) = false := by
  obtain ⟨u, u0, u1, e⟩ := uacc10 bs a
  rw [e, u8_and127 _ (by omega) (by omega)]
  simp; omega

theorem ten_u64_bad (bs : Nat → Int) (a : Nat) (h0 : 1 < bs (a + 9)) (h1 : bs (a + 9) < 128) :
    (bs (a + 9) != bits .and .u8 (uacc bs a 10 % 18446744073709551616 / 9223372036854775808) 127) = true := by
  obtain ⟨u, u0, u1, e⟩ := uacc10 bs a
  rw [e, u8_and127 _ (by omega) (by omega)]
  simp; omega

theorem ten_i64_ok (bs : Nat → Int) (a : Nat) (h : bs (a + 9) = 0 ∨ bs (a + 9) = 127) :
    (bs (a + 9) != bits .and .u8 (wrap64 (uacc bs a 10) / 9223372036854775808 % 256) 127) = false := by
  obtain ⟨u, u0, u1, e⟩ := uacc10 bs a
  rw [e, u8_and127 _ (by omega) (by omega)]
  unfold wrap64
  simp; omega

theorem ten_i64_bad (bs : Nat → Int) (a : Nat) (h0 : 0 ≤ bs (a + 9)) (h1 : bs (a + 9) < 128) (h : ¬ (bs (a + 9) = 0 ∨ bs (a + 9) = 127)) :
    (bs (a + 9) != bits .and .u8 (wrap64 (uacc bs a 10) / 9223372036854775808 % 256) 127) = true := by
  obtain ⟨u, u0, u1, e⟩ := uacc10 bs a
  rw [e, u8_and127 _ (by omega) (by omega)]
  unfold wrap64
  simp; omega

theorem sx64 (n : Int) : sx 64 n = wrap64 n := by unfold sx wrap64; rfl

theorem wrap64_wrap64 (n : Int) : wrap64 (wrap64 n) = wrap64 n := by unfold wrap64; omega

/-- The number in groups from place a on, read with a sign. -/
def sval (bs : Nat → Int) (a c : Nat) : Int := sx (min (7 * c) 64) (uacc bs a c)

theorem wraps_i64 (n : Int) (h0 : 0 ≤ n) (h1 : n < 2 ^ 63) : IntKind.i64.wrap n = n := by rw [IntKind.wrap_i64]; omega

theorem and_pred_nat : ∀ a : Nat, 0 < a → a &&& (a - 1) = 0 → ∃ j, a = 2 ^ j := by
  intro a
  induction a using Nat.strongRecOn with
  | ind a ih =>
    intro h0 h
    by_cases h1 : a = 1
    · exact ⟨0, by simpa using h1⟩
    · have hd := congrArg (· / 2) h
      simp only [Nat.and_div_two, Nat.zero_div] at hd
      have hm := congrArg (· % 2) h
      rcases Nat.mod_two_eq_zero_or_one a with e | e
      · have e2 : (a - 1) / 2 = a / 2 - 1 := by omega
        rw [e2] at hd
        obtain ⟨j, hj⟩ := ih (a / 2) (by omega) (by omega) hd
        exact ⟨j + 1, by rw [Nat.pow_succ]; omega⟩
      · have e2 : (a - 1) / 2 = a / 2 := by omega
        rw [e2, Nat.and_self] at hd
        omega

theorem pow2_of (a : Int) (h0 : 1 ≤ a) (h1 : a ≤ 1073741824) (h : bits .and .i64 a (a - 1) = 0) : ∃ j : Nat, j ≤ 30 ∧ a = 2 ^ j := by
  obtain ⟨A, rfl⟩ := Int.eq_ofNat_of_zero_le (show 0 ≤ a by omega)
  have e : ((A : Int) - 1) = ((A - 1 : Nat) : Int) := by omega
  rw [e, (bits_nat .i64 63 (by decide) wraps_i64 A (A - 1) (by omega) (by omega)).1] at h
  obtain ⟨j, hj⟩ := and_pred_nat A (by omega) (by omega)
  refine ⟨j, ?_, by rw [hj]; simp⟩
  apply Classical.byContradiction
  intro hn
  have := Nat.pow_le_pow_right (n := 2) (by decide) (show 31 ≤ j by omega)
  omega

theorem pow2_and (j : Nat) (hj : j ≤ 30) : bits .and .i64 (2 ^ j) (2 ^ j - 1) = 0 := by
  have hp := Nat.two_pow_pos j
  have hlt : 2 ^ j < 2 ^ 63 := Nat.pow_lt_pow_right (by decide) (by omega)
  have e1 : (2 : Int) ^ j = ((2 ^ j : Nat) : Int) := by simp
  have e2 : (2 : Int) ^ j - 1 = ((2 ^ j - 1 : Nat) : Int) := by rw [e1]; omega
  rw [e2, e1, (bits_nat .i64 63 (by decide) wraps_i64 _ _ hlt (by omega)).1, Nat.and_two_pow_sub_one_eq_mod, Nat.mod_self]
  rfl

theorem nat_andNot (x j : Nat) (hx : x < 2 ^ 64) (hj : j ≤ 64) : x &&& (2 ^ 64 - 1 - (2 ^ j - 1)) = x / 2 ^ j * 2 ^ j := by
  have hp := Nat.two_pow_pos j
  apply Nat.eq_of_testBit_eq
  intro i
  rw [Nat.testBit_and, show 2 ^ 64 - 1 - (2 ^ j - 1) = 2 ^ 64 - ((2 ^ j - 1) + 1) from by omega,
    Nat.testBit_two_pow_sub_succ (by have := Nat.pow_le_pow_right (n := 2) (by decide) hj; omega), Nat.testBit_two_pow_sub_one,
    ← Nat.shiftRight_eq_div_pow, ← Nat.shiftLeft_eq, Nat.testBit_shiftLeft, Nat.testBit_shiftRight]
  by_cases h64 : i < 64
  · by_cases hij : i < j
    · simp [hij]; omega
    · have : j + (i - j) = i := by omega
      simp [hij, h64, this]; omega
  · have hx0 : x.testBit i = false := Nat.testBit_lt_two_pow (Nat.lt_of_lt_of_le hx (Nat.pow_le_pow_right (by decide) (by omega)))
    by_cases hij : i < j
    · omega
    · have : j + (i - j) = i := by omega
      simp [hx0, this]

theorem andNot_mask (x : Int) (j : Nat) (hj : j ≤ 62) (h0 : 0 ≤ x) (h1 : x < 9223372036854775808) : bits .andNot .i64 x (2 ^ j - 1) = x / 2 ^ j * 2 ^ j := by
  obtain ⟨X, rfl⟩ := Int.eq_ofNat_of_zero_le h0
  have hp := Nat.two_pow_pos j
  have hle : 2 ^ j ≤ 2 ^ 62 := Nat.pow_le_pow_right (by decide) hj
  have e2 : (2 : Int) ^ j - 1 = ((2 ^ j - 1 : Nat) : Int) := by rw [show (2 : Int) ^ j = ((2 ^ j : Nat) : Int) from by simp]; omega
  show IntKind.i64.wrap ((BitVec.ofInt 64 (X : Int) &&& ~~~BitVec.ofInt 64 (2 ^ j - 1)).toNat : Int) = _
  rw [e2, BitVec.ofInt_natCast, BitVec.ofInt_natCast, BitVec.toNat_and, BitVec.toNat_not, BitVec.toNat_ofNat, BitVec.toNat_ofNat,
    Nat.mod_eq_of_lt (show X < 2 ^ 64 by omega), Nat.mod_eq_of_lt (show 2 ^ j - 1 < 2 ^ 64 by omega), nat_andNot X j (by omega) (by omega)]
  have hm : X / 2 ^ j * 2 ^ j ≤ X := Nat.div_mul_le_self _ _
  rw [wraps_i64 _ (by omega) (by omega)]
  simp

/-- The least multiple of a that is not below n, in two ways. -/
theorem up_eq (n a : Int) (ha : 0 < a) : (n + a - 1) / a * a = if n % a = 0 then n else n - n % a + a := by
  have e := Int.emod_add_mul_ediv n a
  have r0 := Int.emod_nonneg n (Int.ne_of_gt ha)
  have r1 := Int.emod_lt_of_pos n ha
  have c := Int.mul_comm a (n / a)
  split
  · rename_i h
    have e3 : n + a - 1 = (a - 1) + a * (n / a) := by omega
    rw [e3, Int.add_mul_ediv_left _ _ (Int.ne_of_gt ha), Int.ediv_eq_zero_of_lt (by omega) (by omega), Int.zero_add]
    omega
  · rename_i h
    have e3 : n + a - 1 = (n % a - 1) + a * (n / a + 1) := by rw [Int.mul_add, Int.mul_one]; omega
    rw [e3, Int.add_mul_ediv_left _ _ (Int.ne_of_gt ha), Int.ediv_eq_zero_of_lt (by omega) (by omega), Int.zero_add, Int.add_mul, Int.one_mul]
    omega

end Go.Proofs.Ytjbepojopfbajaa
