/- Plain arithmetic on bits, without the program: masks, joins, groups of seven bits. Plain lists of groups of seven bits, without the program. Plain facts of numbers in groups: what is written is read; no shorter bytes are. Plain facts of numbers as bytes, the low one first. Plain facts of the document's own way to read a number with a sign. Plain arithmetic of alignments, without the program. -/
import Derived.WalkKit
import Derived.Laws.BitsAllLaws
import Derived.Laws.Bits128
namespace Go.Proofs.YtomboebfbipaaaaDoor
open Go.RowKit
set_option linter.unusedVariables false

theorem pow_pos_i (k : Nat) : (0 : Int) < 2 ^ k := Int.pow_pos (by decide)

theorem pow_le_i {a b : Nat} (h : a ≤ b) : (2 : Int) ^ a ≤ 2 ^ b := by
  have := Nat.pow_le_pow_right (n := 2) (by decide) h
  exact_mod_cast this

/-- The value of k groups of seven bits from place a on, the low one first. -/
def uacc (bs : Nat → Int) (a : Nat) : Nat → Int
  | 0 => 0
  | k + 1 => uacc bs a k + (bs (a + k) % 128) * 2 ^ (7 * k)

theorem uacc_in (bs : Nat → Int) (a k : Nat) : 0 ≤ uacc bs a k ∧ uacc bs a k < 2 ^ (7 * k) := by
  induction k with
  | zero => simp [uacc]
  | succ k ih =>
    have hp := pow_pos_i (7 * k)
    have e : (2 : Int) ^ (7 * (k + 1)) = 128 * 2 ^ (7 * k) := by
      rw [show 7 * (k + 1) = 7 * k + 7 from by omega, Int.pow_add]; omega
    have h1 : 0 ≤ bs (a + k) % 128 := by omega
    have h2 : bs (a + k) % 128 ≤ 127 := by omega
    have m0 := Int.mul_nonneg h1 (Int.le_of_lt hp)
    have m1 := Int.mul_le_mul_of_nonneg_right h2 (Int.le_of_lt hp)
    simp only [uacc]
    rw [e]
    omega

theorem wraps_u64 (n : Int) (h0 : 0 ≤ n) (h1 : n < 2 ^ 64) : IntKind.u64.wrap n = n := by rw [IntKind.wrap_u64]; omega

theorem or_comm_bits (k : IntKind) (x y : Int) : bits .or k x y = bits .or k y x := by simp only [bits, BitVec.or_comm]

theorem u8_and127 (x : Int) (h0 : 0 ≤ x) (h1 : x < 256) : bits .and .u8 x 127 = x % 128 :=
  bits_mask .u8 8 (by decide) wraps_u8 7 (by decide) x h0 (by omega)

/-- A multiple of 2^i, taken modulo 2^64, and a number below 2^i: joined they are the sum modulo 2^64. -/
theorem join_u64 (i : Nat) (hi : i ≤ 63) (u t : Int) (hu0 : 0 ≤ u) (hu1 : u < 2 ^ i) :
    bits .or .u64 (u % 18446744073709551616) ((t * 2 ^ i) % 18446744073709551616) = (u + t * 2 ^ i) % 18446744073709551616 := by
  have hp := pow_pos_i i
  have hle : (2 : Int) ^ i ≤ 2 ^ 63 := pow_le_i hi
  have e64 : (18446744073709551616 : Int) = 2 ^ i * 2 ^ (64 - i) := by
    rw [← Int.pow_add, show i + (64 - i) = 64 from by omega]; decide
  have hmod : (t * 2 ^ i) % 18446744073709551616 = (t % 2 ^ (64 - i)) * 2 ^ i := by
    rw [e64, Int.mul_comm t, Int.mul_emod_mul_of_pos _ _ hp, Int.mul_comm]
  have hq0 := Int.emod_nonneg t (Int.ne_of_gt (pow_pos_i (64 - i)))
  have hq1 := Int.emod_lt_of_pos t (pow_pos_i (64 - i))
  have hle2 : (t % 2 ^ (64 - i)) * 2 ^ i + 2 ^ i ≤ 18446744073709551616 := by
    have := Int.mul_le_mul_of_nonneg_right (show t % 2 ^ (64 - i) + 1 ≤ 2 ^ (64 - i) from by omega) (Int.le_of_lt hp)
    rw [e64, Int.mul_comm (2 ^ i)]
    rw [Int.add_mul, Int.one_mul] at this
    exact this
  have hn := Int.mul_nonneg hq0 (Int.le_of_lt hp)
  have hu : u % 18446744073709551616 = u := by omega
  rw [hu, or_comm_bits, hmod]
  rw [bits_join .u64 64 (by decide) wraps_u64 i _ u hn (Int.mul_emod_left _ _) (by omega) hu0 hu1 (by omega)]
  have hx : (u + t * 2 ^ i) % 18446744073709551616 = (u + (t * 2 ^ i) % 18446744073709551616) % 18446744073709551616 := by omega
  rw [hx, hmod]
  omega

theorem uacc_step_u64 (bs : Nat → Int) (a k : Nat) (hk : k ≤ 9) (hb0 : 0 ≤ bs (a + k)) (hb1 : bs (a + k) < 256) :
    bits .or .u64 (uacc bs a k % 18446744073709551616) (IntKind.u64.wrap (IntKind.u64.wrap (bits .and .u8 (bs (a + k)) 127) * 2 ^ (7 * k))) = uacc bs a (k + 1) % 18446744073709551616 := by
  have h := uacc_in bs a k
  rw [u8_and127 _ hb0 hb1, IntKind.wrap_u64, IntKind.wrap_u64, show bs (a + k) % 128 % 18446744073709551616 = bs (a + k) % 128 from by omega,
    join_u64 (7 * k) (by omega) _ _ h.1 h.2]
  rfl

/-- The bitwise operators look at a number's 64 bits alone. -/
theorem or_i64 (x y : Int) : bits .or .i64 x y = wrap64 (bits .or .u64 (x % 18446744073709551616) (y % 18446744073709551616)) := by
  have e : ∀ z : Int, BitVec.ofInt 64 (z % 18446744073709551616) = BitVec.ofInt 64 z := by
    intro z; apply BitVec.eq_of_toInt_eq; simp [BitVec.toInt_ofInt, Int.bmod]
  show IntKind.i64.wrap ((BitVec.ofInt 64 x ||| BitVec.ofInt 64 y).toNat : Int) = wrap64 (IntKind.u64.wrap ((BitVec.ofInt 64 (x % 18446744073709551616) ||| BitVec.ofInt 64 (y % 18446744073709551616)).toNat : Int))
  rw [e, e, IntKind.wrap_u64, IntKind.wrap_i64]
  unfold wrap64
  omega

theorem wrap64_mod (x : Int) : wrap64 x % 18446744073709551616 = x % 18446744073709551616 := by unfold wrap64; omega

theorem wrap64_of_mod (x : Int) : wrap64 (x % 18446744073709551616) = wrap64 x := by unfold wrap64; omega

theorem uacc_step_i64 (bs : Nat → Int) (a k : Nat) (hk : k ≤ 9) (hb0 : 0 ≤ bs (a + k)) (hb1 : bs (a + k) < 256) :
    bits .or .i64 (wrap64 (uacc bs a k)) (wrap64 (wrap64 (bits .and .u8 (bs (a + k)) 127) * 2 ^ (7 * k))) = wrap64 (uacc bs a (k + 1)) := by
  have h := uacc_in bs a k
  rw [u8_and127 _ hb0 hb1, show wrap64 (bs (a + k) % 128) = bs (a + k) % 128 from by unfold wrap64; omega,
    or_i64, wrap64_mod, wrap64_mod, join_u64 (7 * k) (by omega) _ _ h.1 h.2, wrap64_of_mod]
  rfl

/-- A shift to the left and back, without a sign: the low b bits. -/
theorem low_u (n : Int) (b : Nat) (hb : b ≤ 64) : IntKind.u64.wrap (n * 2 ^ (64 - b)) / 2 ^ (64 - b) = n % 2 ^ b := by
  rw [IntKind.wrap_u64]
  have e64 : (18446744073709551616 : Int) = 2 ^ (64 - b) * 2 ^ b := by
    rw [← Int.pow_add, show 64 - b + b = 64 from by omega]; decide
  rw [e64, Int.mul_comm n, Int.mul_emod_mul_of_pos _ _ (pow_pos_i _), Int.mul_ediv_cancel_left _ (Int.ne_of_gt (pow_pos_i _))]

/-- The number that b bits mean with a sign. -/
def sx (b : Nat) (n : Int) : Int := (n + 2 ^ (b - 1)) % 2 ^ b - 2 ^ (b - 1)

/-- A shift to the left and back, with a sign. -/
theorem low_i (n : Int) (b : Nat) (h1 : 1 ≤ b) (hb : b ≤ 64) : wrap64 (n * 2 ^ (64 - b)) / 2 ^ (64 - b) = sx b n := by
  unfold wrap64 sx
  have e64 : (18446744073709551616 : Int) = 2 ^ (64 - b) * 2 ^ b := by
    rw [← Int.pow_add, show 64 - b + b = 64 from by omega]; decide
  have e63 : (9223372036854775808 : Int) = 2 ^ (64 - b) * 2 ^ (b - 1) := by
    rw [← Int.pow_add, show 64 - b + (b - 1) = 63 from by omega]; decide
  rw [e64, e63, Int.mul_comm n, ← Int.mul_add, Int.mul_emod_mul_of_pos _ _ (pow_pos_i _), ← Int.mul_sub, Int.mul_ediv_cancel_left _ (Int.ne_of_gt (pow_pos_i _))]

theorem uacc10 (bs : Nat → Int) (a : Nat) : ∃ u : Int, 0 ≤ u ∧ u < 9223372036854775808 ∧ uacc bs a 10 = u + (bs (a + 9) % 128) * 9223372036854775808 :=
  ⟨uacc bs a 9, (uacc_in bs a 9).1, by have := (uacc_in bs a 9).2; simpa using this, rfl⟩

theorem ten_u64_ok (bs : Nat → Int) (a : Nat) (h0 : 0 ≤ bs (a + 9)) (h1 : bs (a + 9) ≤ 1) :
    (bs (a + 9) != bits .and .u8 (uacc bs a 10 % 18446744073709551616 / 9223372036854775808) 127) = false := by
  obtain ⟨u, u0, u1, e⟩ := uacc10 bs a
  rw [e, u8_and127 _ (by omega) (by omega)]
  simp; omega

theorem ten_u64_bad (bs : Nat → Int) (a : Nat) (h0 : 1 < bs (a + 9)) (h1 : bs (a + 9) < 128) :
    (bs (a + 9) != bits .and .u8 (uacc bs a 10 % 18446744073709551616 / 9223372036854775808) 127) = true := by
  obtain ⟨u, u0, u1, e⟩ := uacc10 bs a
  rw [e, u8_and127 _ (by omega) (by omega)]
  simp; omega

theorem ten_i64_ok (bs : Nat → Int) (a : Nat) (h : bs (a + 9) = 0 ∨ bs (a + 9) = 127) :
    (bs (a + 9) != bits .and .u8 (wrap64 (uacc bs a 10) / 9223372036854775808 % 256) 127) = false := by
  obtain ⟨u, u0, u1, e⟩ := uacc10 bs a
  rw [e, u8_and127 _ (by omega) (by omega)]
  unfold wrap64
  simp; omega

theorem ten_i64_bad (bs : Nat → Int) (a : Nat) (h0 : 0 ≤ bs (a + 9)) (h1 : bs (a + 9) < 128) (h : ¬ (bs (a + 9) = 0 ∨ bs (a + 9) = 127)) :
    (bs (a + 9) != bits .and .u8 (wrap64 (uacc bs a 10) / 9223372036854775808 % 256) 127) = true := by
  obtain ⟨u, u0, u1, e⟩ := uacc10 bs a
  rw [e, u8_and127 _ (by omega) (by omega)]
  unfold wrap64
  simp; omega

theorem sx64 (n : Int) : sx 64 n = wrap64 n := by unfold sx wrap64; rfl

theorem wrap64_wrap64 (n : Int) : wrap64 (wrap64 n) = wrap64 n := by unfold wrap64; omega

/-- The number in groups from place a on, read with a sign. -/
def sval (bs : Nat → Int) (a c : Nat) : Int := sx (min (7 * c) 64) (uacc bs a c)

theorem wraps_i64 (n : Int) (h0 : 0 ≤ n) (h1 : n < 2 ^ 63) : IntKind.i64.wrap n = n := by rw [IntKind.wrap_i64]; omega

theorem and_pred_nat : ∀ a : Nat, 0 < a → a &&& (a - 1) = 0 → ∃ j, a = 2 ^ j := by
  intro a
  induction a using Nat.strongRecOn with
  | ind a ih =>
    intro h0 h
    by_cases h1 : a = 1
    · exact ⟨0, by simpa using h1⟩
    · have hd := congrArg (· / 2) h
      simp only [Nat.and_div_two, Nat.zero_div] at hd
      have hm := congrArg (· % 2) h
      rcases Nat.mod_two_eq_zero_or_one a with e | e
      · have e2 : (a - 1) / 2 = a / 2 - 1 := by omega
        rw [e2] at hd
        obtain ⟨j, hj⟩ := ih (a / 2) (by omega) (by omega) hd
        exact ⟨j + 1, by rw [Nat.pow_succ]; omega⟩
      · have e2 : (a - 1) / 2 = a / 2 := by omega
        rw [e2, Nat.and_self] at hd
        omega

theorem pow2_of (a : Int) (h0 : 1 ≤ a) (h1 : a ≤ 1073741824) (h : bits .and .i64 a (a - 1) = 0) : ∃ j : Nat, j ≤ 30 ∧ a = 2 ^ j := by
  obtain ⟨A, rfl⟩ := Int.eq_ofNat_of_zero_le (show 0 ≤ a by omega)
  have e : ((A : Int) - 1) = ((A - 1 : Nat) : Int) := by omega
  rw [e, (bits_nat .i64 63 (by decide) wraps_i64 A (A - 1) (by omega) (by omega)).1] at h
  obtain ⟨j, hj⟩ := and_pred_nat A (by omega) (by omega)
  refine ⟨j, ?_, by rw [hj]; simp⟩
  apply Classical.byContradiction
  intro hn
  have := Nat.pow_le_pow_right (n := 2) (by decide) (show 31 ≤ j by omega)
  omega

theorem pow2_and (j : Nat) (hj : j ≤ 30) : bits .and .i64 (2 ^ j) (2 ^ j - 1) = 0 := by
  have hp := Nat.two_pow_pos j
  have hlt : 2 ^ j < 2 ^ 63 := Nat.pow_lt_pow_right (by decide) (by omega)
  have e1 : (2 : Int) ^ j = ((2 ^ j : Nat) : Int) := by simp
  have e2 : (2 : Int) ^ j - 1 = ((2 ^ j - 1 : Nat) : Int) := by rw [e1]; omega
  rw [e2, e1, (bits_nat .i64 63 (by decide) wraps_i64 _ _ hlt (by omega)).1, Nat.and_two_pow_sub_one_eq_mod, Nat.mod_self]
  rfl

theorem nat_andNot (x j : Nat) (hx : x < 2 ^ 64) (hj : j ≤ 64) : x &&& (2 ^ 64 - 1 - (2 ^ j - 1)) = x / 2 ^ j * 2 ^ j := by
  have hp := Nat.two_pow_pos j
  apply Nat.eq_of_testBit_eq
  intro i
  rw [Nat.testBit_and, show 2 ^ 64 - 1 - (2 ^ j - 1) = 2 ^ 64 - ((2 ^ j - 1) + 1) from by omega,
    Nat.testBit_two_pow_sub_succ (by have := Nat.pow_le_pow_right (n := 2) (by decide) hj; omega), Nat.testBit_two_pow_sub_one,
    ← Nat.shiftRight_eq_div_pow, ← Nat.shiftLeft_eq, Nat.testBit_shiftLeft, Nat.testBit_shiftRight]
  by_cases h64 : i < 64
  · by_cases hij : i < j
    · simp [hij]; omega
    · have : j + (i - j) = i := by omega
      simp [hij, h64, this]; omega
  · have hx0 : x.testBit i = false := Nat.testBit_lt_two_pow (Nat.lt_of_lt_of_le hx (Nat.pow_le_pow_right (by decide) (by omega)))
    by_cases hij : i < j
    · omega
    · have : j + (i - j) = i := by omega
      simp [hx0, this]

theorem andNot_mask (x : Int) (j : Nat) (hj : j ≤ 62) (h0 : 0 ≤ x) (h1 : x < 9223372036854775808) : bits .andNot .i64 x (2 ^ j - 1) = x / 2 ^ j * 2 ^ j := by
  obtain ⟨X, rfl⟩ := Int.eq_ofNat_of_zero_le h0
  have hp := Nat.two_pow_pos j
  have hle : 2 ^ j ≤ 2 ^ 62 := Nat.pow_le_pow_right (by decide) hj
  have e2 : (2 : Int) ^ j - 1 = ((2 ^ j - 1 : Nat) : Int) := by rw [show (2 : Int) ^ j = ((2 ^ j : Nat) : Int) from by simp]; omega
  show IntKind.i64.wrap ((BitVec.ofInt 64 (X : Int) &&& ~~~BitVec.ofInt 64 (2 ^ j - 1)).toNat : Int) = _
  rw [e2, BitVec.ofInt_natCast, BitVec.ofInt_natCast, BitVec.toNat_and, BitVec.toNat_not, BitVec.toNat_ofNat, BitVec.toNat_ofNat,
    Nat.mod_eq_of_lt (show X < 2 ^ 64 by omega), Nat.mod_eq_of_lt (show 2 ^ j - 1 < 2 ^ 64 by omega), nat_andNot X j (by omega) (by omega)]
  have hm : X / 2 ^ j * 2 ^ j ≤ X := Nat.div_mul_le_self _ _
  rw [wraps_i64 _ (by omega) (by omega)]
  simp

/-- The least multiple of a that is not below n, in two ways. -/
theorem up_eq (n a : Int) (ha : 0 < a) : (n + a - 1) / a * a = if n % a = 0 then n else n - n % a + a := by
  have e := Int.emod_add_mul_ediv n a
  have r0 := Int.emod_nonneg n (Int.ne_of_gt ha)
  have r1 := Int.emod_lt_of_pos n ha
  have c := Int.mul_comm a (n / a)
  split
  · rename_i h
    have e3 : n + a - 1 = (a - 1) + a * (n / a) := by omega
    rw [e3, Int.add_mul_ediv_left _ _ (Int.ne_of_gt ha), Int.ediv_eq_zero_of_lt (by omega) (by omega), Int.zero_add]
    omega
  · rename_i h
    have e3 : n + a - 1 = (n % a - 1) + a * (n / a + 1) := by rw [Int.mul_add, Int.mul_one]; omega
    rw [e3, Int.add_mul_ediv_left _ _ (Int.ne_of_gt ha), Int.ediv_eq_zero_of_lt (by omega) (by omega), Int.zero_add, Int.add_mul, Int.one_mul]
    omega


/-- The groups of a number without a sign, the low one first, each but the last one with 128 more; the first number bounds how many. -/
def ulF : Nat → Nat → List Int
  | 0, n => [(n : Int)]
  | f + 1, n => if n < 128 then [(n : Int)] else ((n % 128 + 128 : Nat) : Int) :: ulF f (n / 128)
def ul (n : Nat) : List Int := ulF n n

theorem ulF_same : ∀ (f g n : Nat), n ≤ f → n ≤ g → ulF f n = ulF g n := by
  intro f
  induction f with
  | zero =>
    intro g n hf hg
    obtain rfl : n = 0 := by omega
    cases g with
    | zero => rfl
    | succ g => simp [ulF]
  | succ f ih =>
    intro g n hf hg
    cases g with
    | zero =>
      obtain rfl : n = 0 := by omega
      simp [ulF]
    | succ g =>
      simp only [ulF]
      split
      · rfl
      · rw [ih g (n / 128) (by omega) (by omega)]

theorem ul_lt {n : Nat} (h : n < 128) : ul n = [(n : Int)] := by
  unfold ul
  cases n with
  | zero => rfl
  | succ n => simp only [ulF]; rw [if_pos h]
theorem ul_ge {n : Nat} (h : ¬ n < 128) : ul n = ((n % 128 + 128 : Nat) : Int) :: ul (n / 128) := by
  unfold ul
  cases n with
  | zero => omega
  | succ n =>
    have e : ulF n ((n + 1) / 128) = ulF ((n + 1) / 128) ((n + 1) / 128) := ulF_same _ _ _ (by omega) (by omega)
    simp only [ulF]; rw [if_neg h, e]

theorem ul_len_pos (n : Nat) : 1 ≤ (ul n).length := by
  by_cases h : n < 128
  · rw [ul_lt h]; simp
  · rw [ul_ge h]; simp

theorem ul_len : ∀ (k n : Nat), n < 128 ^ (k + 1) → (ul n).length ≤ k + 1 := by
  intro k
  induction k with
  | zero => intro n h; rw [ul_lt (by simpa using h)]; simp
  | succ k ih =>
    intro n h
    by_cases hn : n < 128
    · rw [ul_lt hn]; simp
    · rw [ul_ge hn]
      have : n / 128 < 128 ^ (k + 1) := by
        apply Nat.div_lt_of_lt_mul
        rw [Nat.mul_comm, ← Nat.pow_succ]; exact h
      have := ih _ this
      simp; omega

theorem ul_len10 (n : Nat) (h : n < 18446744073709551616) : (ul n).length ≤ 10 := ul_len 9 n (by omega)

theorem ul_byte (n : Nat) : ∀ x ∈ ul n, 0 ≤ x ∧ x < 256 := by
  induction n using Nat.strongRecOn with
  | ind n ih =>
    intro x hx
    by_cases h : n < 128
    · rw [ul_lt h] at hx; simp at hx; omega
    · rw [ul_ge h] at hx
      rcases List.mem_cons.1 hx with e | e
      · omega
      · exact ih (n / 128) (by omega) x e

theorem getD_byte {l : List Int} (h : ∀ x ∈ l, 0 ≤ x ∧ x < 256) (i : Nat) : 0 ≤ l.getD i 0 ∧ l.getD i 0 < 256 := by
  by_cases hi : i < l.length
  · have : l.getD i 0 = l[i] := by simp [hi]
    rw [this]; exact h _ (List.getElem_mem hi)
  · have : l.getD i 0 = 0 := by simp [List.getD, List.getElem?_eq_none (show l.length ≤ i by omega)]
    rw [this]; omega

theorem ul_nonneg (n i : Nat) (hi : i < (ul n).length) : 0 ≤ (ul n).getD i 0 := (getD_byte (ul_byte n) i).1

/-- The groups of a number with a sign; the first number bounds how many. -/
def slF : Nat → Int → List Int
  | 0, n => [n % 128]
  | f + 1, n => if -64 ≤ n ∧ n ≤ 63 then [n % 128] else (n % 128 + 128) :: slF f (n / 128)
def sl (n : Int) : List Int := slF n.natAbs n

theorem slF_same : ∀ (f g : Nat) (n : Int), n.natAbs ≤ f → n.natAbs ≤ g → slF f n = slF g n := by
  intro f
  induction f with
  | zero =>
    intro g n hf hg
    obtain rfl : n = 0 := by omega
    cases g with
    | zero => rfl
    | succ g => simp [slF]
  | succ f ih =>
    intro g n hf hg
    cases g with
    | zero =>
      obtain rfl : n = 0 := by omega
      simp [slF]
    | succ g =>
      simp only [slF]
      split
      · rfl
      · rw [ih g (n / 128) (by omega) (by omega)]

theorem sl_in {n : Int} (h : -64 ≤ n ∧ n ≤ 63) : sl n = [n % 128] := by
  unfold sl
  cases n.natAbs with
  | zero => rfl
  | succ f => simp only [slF]; rw [if_pos h]
theorem sl_out {n : Int} (h : ¬ (-64 ≤ n ∧ n ≤ 63)) : sl n = (n % 128 + 128) :: sl (n / 128) := by
  have e : slF n.natAbs n = slF (n.natAbs - 1 + 1) n := by rw [show n.natAbs - 1 + 1 = n.natAbs from by omega]
  have e2 : slF (n.natAbs - 1) (n / 128) = slF (n / 128).natAbs (n / 128) := slF_same _ _ _ (by omega) (by omega)
  unfold sl
  rw [e, ← e2]
  simp only [slF]; rw [if_neg h]

theorem sl_len_pos (n : Int) : 1 ≤ (sl n).length := by
  by_cases h : -64 ≤ n ∧ n ≤ 63
  · rw [sl_in h]; simp
  · rw [sl_out h]; simp

theorem sl_len : ∀ (k : Nat) (n : Int), -(64 * 128 ^ k) ≤ n → n < 64 * 128 ^ k → (sl n).length ≤ k + 1 := by
  intro k
  induction k with
  | zero => intro n h1 h2; rw [sl_in (by simp at h1 h2; omega)]; simp
  | succ k ih =>
    intro n h1 h2
    by_cases hn : -64 ≤ n ∧ n ≤ 63
    · rw [sl_in hn]; simp
    · rw [sl_out hn]
      rw [Int.pow_succ] at h1 h2
      have := ih (n / 128) (by omega) (by omega)
      simp; omega

theorem sl_len10 (n : Int) (h : -9223372036854775808 ≤ n ∧ n ≤ 9223372036854775807) : (sl n).length ≤ 10 :=
  sl_len 9 n (by omega) (by omega)

theorem sl_byte : ∀ (k : Nat) (n : Int), n.natAbs ≤ k → ∀ x ∈ sl n, 0 ≤ x ∧ x < 256 := by
  intro k
  induction k with
  | zero =>
    intro n hk x hx
    rw [sl_in (by omega)] at hx; simp at hx; omega
  | succ k ih =>
    intro n hk x hx
    by_cases h : -64 ≤ n ∧ n ≤ 63
    · rw [sl_in h] at hx; simp at hx; omega
    · rw [sl_out h] at hx
      rcases List.mem_cons.1 hx with e | e
      · omega
      · exact ih (n / 128) (by omega) x e

theorem or128_u8 (x : Int) (h0 : 0 ≤ x) (h1 : x < 256) : bits .or .u8 x 128 = x % 128 + 128 := by
  obtain ⟨X, rfl⟩ := Int.eq_ofNat_of_zero_le h0
  have e : bits .or .u8 (X : Int) ((128 : Nat) : Int) = ((X ||| 128 : Nat) : Int) := u8_or_nat X 128 (by omega) (by omega)
  have f : ∀ y : Fin 256, y.val ||| 128 = y.val % 128 + 128 := by decide +kernel
  have g := f ⟨X, by omega⟩
  simp only at g
  rw [show (128 : Int) = ((128 : Nat) : Int) from rfl, e, g]
  omega

theorem sx7 (n : Int) : sx 7 n = (n + 64) % 128 - 64 := by unfold sx; rfl

theorem uacc_head (bs : Nat → Int) (a k : Nat) : uacc bs a (k + 1) = bs a % 128 + 128 * uacc bs (a + 1) k := by
  induction k with
  | zero => simp [uacc]
  | succ k ih =>
    have e1 : uacc bs a (k + 1 + 1) = uacc bs a (k + 1) + (bs (a + (k + 1)) % 128) * 2 ^ (7 * (k + 1)) := rfl
    have e2 : uacc bs (a + 1) (k + 1) = uacc bs (a + 1) k + (bs (a + 1 + k) % 128) * 2 ^ (7 * k) := rfl
    have e3 : (2 : Int) ^ (7 * (k + 1)) = 128 * 2 ^ (7 * k) := by
      rw [show 7 * (k + 1) = 7 + 7 * k from by omega, Int.pow_add]; rfl
    have e4 : a + (k + 1) = a + 1 + k := by omega
    rw [e1, ih, e2, e3, e4, Int.mul_add, ← Int.mul_assoc, Int.mul_comm _ 128, Int.mul_assoc]
    omega

/-- bytes from place a on are those of a list -/
def At (bs : Nat → Int) (a : Nat) (l : List Int) : Prop := ∀ i, i < l.length → bs (a + i) = l.getD i 0

theorem At.tail {bs : Nat → Int} {a : Nat} {x : Int} {l : List Int} (h : At bs a (x :: l)) : bs a = x ∧ At bs (a + 1) l := by
  constructor
  · have := h 0 (by simp); simpa using this
  · intro i hi
    have := h (i + 1) (by simp; omega)
    rw [show a + 1 + i = a + (i + 1) from by omega, this]; simp

theorem ul_read (n : Nat) : ∀ (bs : Nat → Int) (a : Nat), At bs a (ul n) →
    uacc bs a (ul n).length = n ∧ (∀ j, j + 1 < (ul n).length → 128 ≤ bs (a + j)) ∧ bs (a + ((ul n).length - 1)) < 128 := by
  induction n using Nat.strongRecOn with
  | ind n ih =>
    intro bs a h
    by_cases hn : n < 128
    · rw [ul_lt hn] at h ⊢
      have h0 := h.tail.1
      refine ⟨?_, ?_, ?_⟩
      · simp [uacc, h0]; omega
      · intro j hj; simp at hj
      · simp [h0]; omega
    · rw [ul_ge hn] at h ⊢
      obtain ⟨h0, h1⟩ := h.tail
      obtain ⟨i1, i2, i3⟩ := ih (n / 128) (by omega) bs (a + 1) h1
      have hp := ul_len_pos (n / 128)
      refine ⟨?_, ?_, ?_⟩
      · rw [List.length_cons, uacc_head, i1, h0]; omega
      · intro j hj
        rw [List.length_cons] at hj
        by_cases hj0 : j = 0
        · subst hj0; rw [Nat.add_zero, h0]; omega
        · have := i2 (j - 1) (by omega)
          rw [show a + j = a + 1 + (j - 1) from by omega]; exact this
      · rw [List.length_cons, show a + ((ul (n / 128)).length + 1 - 1) = a + 1 + ((ul (n / 128)).length - 1) from by omega]; exact i3

theorem sx_step (b : Nat) (hb : 1 ≤ b) (r U : Int) (h0 : 0 ≤ r) (h1 : r < 128) : sx (7 + b) (r + 128 * U) = r + 128 * sx b U := by
  unfold sx
  have e1 : (2 : Int) ^ (7 + b) = 128 * 2 ^ b := by rw [Int.pow_add]; rfl
  have e2 : (2 : Int) ^ (7 + b - 1) = 128 * 2 ^ (b - 1) := by
    rw [show 7 + b - 1 = 7 + (b - 1) from by omega, Int.pow_add]; rfl
  have hp := pow_pos_i b
  rw [e1, e2]
  have e3 : r + 128 * U + 128 * 2 ^ (b - 1) = r + 128 * (U + 2 ^ (b - 1)) := by rw [Int.mul_add]; omega
  rw [e3]
  have e4 : (r + 128 * (U + 2 ^ (b - 1))) % (128 * 2 ^ b) = r + 128 * ((U + 2 ^ (b - 1)) % 2 ^ b) := by
    have q := Int.emod_add_mul_ediv (U + 2 ^ (b - 1)) (2 ^ b)
    have q0 := Int.emod_nonneg (U + 2 ^ (b - 1)) (Int.ne_of_gt hp)
    have q1 := Int.emod_lt_of_pos (U + 2 ^ (b - 1)) hp
    have e5 : r + 128 * (U + 2 ^ (b - 1)) = (r + 128 * ((U + 2 ^ (b - 1)) % 2 ^ b)) + (128 * 2 ^ b) * ((U + 2 ^ (b - 1)) / 2 ^ b) := by
      rw [Int.mul_assoc]; omega
    rw [e5, Int.add_mul_emod_self_left]
    exact Int.emod_eq_of_lt (by omega) (by omega)
  rw [e4]
  omega

theorem sl_read : ∀ (k : Nat) (n : Int), n.natAbs ≤ k → ∀ (bs : Nat → Int) (a : Nat), At bs a (sl n) →
    sx (7 * (sl n).length) (uacc bs a (sl n).length) = n ∧ (∀ j, j + 1 < (sl n).length → 128 ≤ bs (a + j)) ∧ bs (a + ((sl n).length - 1)) < 128 := by
  intro k
  induction k with
  | zero =>
    intro n hk bs a h
    have hn : -64 ≤ n ∧ n ≤ 63 := by omega
    rw [sl_in hn] at h ⊢
    have h0 := h.tail.1
    refine ⟨?_, ?_, ?_⟩
    · simp [uacc, h0, sx]; omega
    · intro j hj; simp at hj
    · simp [h0]; omega
  | succ k ih =>
    intro n hk bs a h
    by_cases hn : -64 ≤ n ∧ n ≤ 63
    · rw [sl_in hn] at h ⊢
      have h0 := h.tail.1
      refine ⟨?_, ?_, ?_⟩
      · simp [uacc, h0, sx]; omega
      · intro j hj; simp at hj
      · simp [h0]; omega
    · rw [sl_out hn] at h ⊢
      obtain ⟨h0, h1⟩ := h.tail
      obtain ⟨i1, i2, i3⟩ := ih (n / 128) (by omega) bs (a + 1) h1
      have hp := sl_len_pos (n / 128)
      refine ⟨?_, ?_, ?_⟩
      · rw [List.length_cons, uacc_head, h0, show 7 * ((sl (n / 128)).length + 1) = 7 + 7 * (sl (n / 128)).length from by omega,
          sx_step _ (by omega) _ _ (by omega) (by omega), i1]
        omega
      · intro j hj
        rw [List.length_cons] at hj
        by_cases hj0 : j = 0
        · subst hj0; rw [Nat.add_zero, h0]; omega
        · have := i2 (j - 1) (by omega)
          rw [show a + j = a + 1 + (j - 1) from by omega]; exact this
      · rw [List.length_cons, show a + ((sl (n / 128)).length + 1 - 1) = a + 1 + ((sl (n / 128)).length - 1) from by omega]; exact i3

theorem sx_in (b : Nat) (hb : 1 ≤ b) (n : Int) : -(2 ^ (b - 1)) ≤ sx b n ∧ sx b n < 2 ^ (b - 1) := by
  unfold sx
  have hp := pow_pos_i b
  have e : (2 : Int) ^ b = 2 * 2 ^ (b - 1) := by
    rw [show b = 1 + (b - 1) from by omega, Int.pow_add]; simp
  have q0 := Int.emod_nonneg (n + 2 ^ (b - 1)) (Int.ne_of_gt hp)
  have q1 := Int.emod_lt_of_pos (n + 2 ^ (b - 1)) hp
  omega

/-- the last of ten groups -/
theorem ul_ten (n : Nat) (h : n < 18446744073709551616) (bs : Nat → Int) (a : Nat) (hat : At bs a (ul n)) (h10 : (ul n).length = 10) : bs (a + 9) ≤ 1 := by
  obtain ⟨h1, h2, h3⟩ := ul_read n bs a hat
  rw [h10] at h1 h3
  obtain ⟨u, u0, u1, e⟩ := uacc10 bs a
  have h3' : bs (a + 9) < 128 := h3
  have hb : bs (a + 9) % 128 ≤ 1 := by omega
  have hnn : 0 ≤ bs (a + 9) := by
    have := hat 9 (by omega)
    rw [this]
    exact ul_nonneg n _ (by simp [h10])
  omega

/-- The number of k bytes from place a on, the low one first. -/
def bacc (bs : Nat → Int) (a : Nat) : Nat → Int
  | 0 => 0
  | k + 1 => bacc bs a k + bs (a + k) * 2 ^ (8 * k)

theorem bacc_in (bs : Nat → Int) (hbs : ∀ i, 0 ≤ bs i ∧ bs i < 256) (a k : Nat) : 0 ≤ bacc bs a k ∧ bacc bs a k < 2 ^ (8 * k) := by
  induction k with
  | zero => simp [bacc]
  | succ k ih =>
    have hp := pow_pos_i (8 * k)
    have e : (2 : Int) ^ (8 * (k + 1)) = 256 * 2 ^ (8 * k) := by
      rw [show 8 * (k + 1) = 8 + 8 * k from by omega, Int.pow_add]; rfl
    have hb := hbs (a + k)
    have m0 := Int.mul_nonneg hb.1 (Int.le_of_lt hp)
    have m1 := Int.mul_le_mul_of_nonneg_right (show bs (a + k) ≤ 255 by omega) (Int.le_of_lt hp)
    simp only [bacc]
    rw [e]
    omega

theorem bacc_head (bs : Nat → Int) (a k : Nat) : bacc bs a (k + 1) = bs a + 256 * bacc bs (a + 1) k := by
  induction k with
  | zero => simp [bacc]
  | succ k ih =>
    have e1 : bacc bs a (k + 1 + 1) = bacc bs a (k + 1) + bs (a + (k + 1)) * 2 ^ (8 * (k + 1)) := rfl
    have e2 : bacc bs (a + 1) (k + 1) = bacc bs (a + 1) k + bs (a + 1 + k) * 2 ^ (8 * k) := rfl
    have e3 : (2 : Int) ^ (8 * (k + 1)) = 256 * 2 ^ (8 * k) := by
      rw [show 8 * (k + 1) = 8 + 8 * k from by omega, Int.pow_add]; rfl
    have e4 : a + (k + 1) = a + 1 + k := by omega
    rw [e1, ih, e2, e3, e4, Int.mul_add, ← Int.mul_assoc, Int.mul_comm _ 256, Int.mul_assoc]
    omega

theorem bacc_step_u64 (bs : Nat → Int) (hbs : ∀ i, 0 ≤ bs i ∧ bs i < 256) (a k : Nat) (hk : k ≤ 7) :
    bits .or .u64 (bacc bs a k % 18446744073709551616) (IntKind.u64.wrap (IntKind.u64.wrap (bs (a + k)) * 2 ^ (8 * k))) = bacc bs a (k + 1) % 18446744073709551616 := by
  have h := bacc_in bs hbs a k
  have hb := hbs (a + k)
  rw [IntKind.wrap_u64, IntKind.wrap_u64, show bs (a + k) % 18446744073709551616 = bs (a + k) from by omega, join_u64 (8 * k) (by omega) _ _ h.1 h.2]
  rfl

theorem bacc_step_i64 (bs : Nat → Int) (hbs : ∀ i, 0 ≤ bs i ∧ bs i < 256) (a k : Nat) (hk : k ≤ 7) :
    bits .or .i64 (wrap64 (bacc bs a k)) (wrap64 (wrap64 (bs (a + k)) * 2 ^ (8 * k))) = wrap64 (bacc bs a (k + 1)) := by
  have h := bacc_in bs hbs a k
  have hb := hbs (a + k)
  rw [show wrap64 (bs (a + k)) = bs (a + k) from by unfold wrap64; omega, or_i64, wrap64_mod, wrap64_mod, join_u64 (8 * k) (by omega) _ _ h.1 h.2, wrap64_of_mod]
  rfl

/-- The document's own step: the high bytes first. -/
theorem bacc_back (bs : Nat → Int) (hbs : ∀ i, 0 ≤ bs i ∧ bs i < 256) (a m : Nat) (hm : m ≤ 7) :
    bits .or .u64 (IntKind.u64.wrap (bacc bs (a + 1) m * 256)) (IntKind.u64.wrap (bs a)) = bacc bs a (m + 1) := by
  have h := bacc_in bs hbs (a + 1) m
  have h2 := bacc_in bs hbs a (m + 1)
  have hb := hbs a
  have hle : (2 : Int) ^ (8 * (m + 1)) ≤ 2 ^ 64 := pow_le_i (by omega)
  have j := join_u64 8 (by omega) (bs a) (bacc bs (a + 1) m) hb.1 (by omega)
  rw [show (2 : Int) ^ 8 = 256 from rfl] at j
  rw [IntKind.wrap_u64, IntKind.wrap_u64, or_comm_bits, j, show bacc bs (a + 1) m * 256 = 256 * bacc bs (a + 1) m from by omega, ← bacc_head]
  omega

theorem bfin_u64 (bs : Nat → Int) (hbs : ∀ i, 0 ≤ bs i ∧ bs i < 256) (a s : Nat) (hs : s ≤ 8) : bacc bs a s % 18446744073709551616 % 2 ^ (8 * (s : Int)).toNat = bacc bs a s := by
  have h := bacc_in bs hbs a s
  have hle : (2 : Int) ^ (8 * s) ≤ 2 ^ 64 := pow_le_i (by omega)
  rw [show (8 * (s : Int)).toNat = 8 * s from by omega, show bacc bs a s % 18446744073709551616 = bacc bs a s from by omega]
  exact Int.emod_eq_of_lt h.1 h.2

theorem bfin_i64 (bs : Nat → Int) (hbs : ∀ i, 0 ≤ bs i ∧ bs i < 256) (a s : Nat) (hs : s ≤ 8) : sx (8 * (s : Int)).toNat (wrap64 (bacc bs a s)) = sx (8 * s) (bacc bs a s) := by
  have h := bacc_in bs hbs a s
  rw [show (8 * (s : Int)).toNat = 8 * s from by omega]
  by_cases h8 : s = 8
  · subst h8
    show sx 64 _ = sx 64 _
    rw [sx64, sx64, wrap64_wrap64]
  · have hle : (2 : Int) ^ (8 * s) ≤ 2 ^ 56 := pow_le_i (by omega)
    rw [show wrap64 (bacc bs a s) = bacc bs a s from by unfold wrap64; omega]

/-- What Get answers. -/
def gval (bs : Nat → Int) (a s : Nat) (sg : Bool) : Int := if sg then sx (8 * s) (bacc bs a s) else wrap64 (bacc bs a s)

theorem and64_u8 (x : Int) (h0 : 0 ≤ x) (h1 : x < 128) : bits .and .u8 x 64 = if 64 ≤ x then 64 else 0 := by
  obtain ⟨X, rfl⟩ := Int.eq_ofNat_of_zero_le h0
  have e : bits .and .u8 (X : Int) ((64 : Nat) : Int) = ((X &&& 64 : Nat) : Int) := u8_and_nat X 64 (by omega) (by omega)
  have f : ∀ y : Fin 128, y.val &&& 64 = if 64 ≤ y.val then 64 else 0 := by decide +kernel
  have g := f ⟨X, by omega⟩
  simp only at g
  rw [show (64 : Int) = ((64 : Nat) : Int) from rfl, e, g]
  split <;> split <;> omega

theorem sext_ref (bs : Nat → Int) (a c : Nat) (h1 : 1 ≤ c) (h2 : c ≤ 9) (hb0 : 0 ≤ bs (a + c - 1)) (hb1 : bs (a + c - 1) < 128) :
    (64 ≤ bs (a + c - 1) → wrap64 (bits .or .u64 (uacc bs a c % 18446744073709551616) (IntKind.u64.wrap (18446744073709551615 * 2 ^ (7 * c)))) = sval bs a c) ∧
    (¬ 64 ≤ bs (a + c - 1) → wrap64 (uacc bs a c % 18446744073709551616) = sval bs a c) := by
  have hu := uacc_in bs a c
  obtain ⟨d, rfl⟩ : ∃ d, c = d + 1 := ⟨c - 1, by omega⟩
  have hd := uacc_in bs a d
  have e0 : uacc bs a (d + 1) = uacc bs a d + (bs (a + d) % 128) * 2 ^ (7 * d) := rfl
  rw [show a + (d + 1) - 1 = a + d from by omega] at hb0 hb1 ⊢
  have hp := pow_pos_i (7 * d)
  have e7 : (2 : Int) ^ (7 * (d + 1)) = 128 * 2 ^ (7 * d) := by
    rw [show 7 * (d + 1) = 7 + 7 * d from by omega, Int.pow_add]; rfl
  have e6 : (2 : Int) ^ (7 * (d + 1) - 1) = 64 * 2 ^ (7 * d) := by
    rw [show 7 * (d + 1) - 1 = 6 + 7 * d from by omega, Int.pow_add]; rfl
  have hle : (2 : Int) ^ (7 * d) ≤ 2 ^ 56 := pow_le_i (by omega)
  have em : bs (a + d) % 128 = bs (a + d) := by omega
  rw [em] at e0
  unfold sval sx
  rw [show min (7 * (d + 1)) 64 = 7 * (d + 1) from by omega, e6, e7]
  rw [e7] at hu
  constructor
  · intro h64
    have m := Int.mul_le_mul_of_nonneg_right h64 (Int.le_of_lt hp)
    have hj := join_u64 (7 * (d + 1)) (by omega) (uacc bs a (d + 1)) 18446744073709551615 hu.1 (by rw [e7]; exact hu.2)
    rw [e7] at hj
    rw [IntKind.wrap_u64, hj, wrap64_of_mod]
    have e9 : (uacc bs a (d + 1) + 64 * 2 ^ (7 * d)) % (128 * 2 ^ (7 * d)) = uacc bs a (d + 1) + 64 * 2 ^ (7 * d) - 128 * 2 ^ (7 * d) := by
      have : uacc bs a (d + 1) + 64 * 2 ^ (7 * d) = (uacc bs a (d + 1) + 64 * 2 ^ (7 * d) - 128 * 2 ^ (7 * d)) + (128 * 2 ^ (7 * d)) * 1 := by omega
      rw [this, Int.add_mul_emod_self_left]
      rw [Int.emod_eq_of_lt (by omega) (by omega)]
      omega
    rw [e9]
    unfold wrap64
    omega
  · intro h64
    have m := Int.mul_le_mul_of_nonneg_right (show bs (a + d) ≤ 63 by omega) (Int.le_of_lt hp)
    have e9 : (uacc bs a (d + 1) + 64 * 2 ^ (7 * d)) % (128 * 2 ^ (7 * d)) = uacc bs a (d + 1) + 64 * 2 ^ (7 * d) := Int.emod_eq_of_lt (by omega) (by omega)
    rw [e9]
    unfold wrap64
    omega

theorem mult_le (a M q : Int) (ha : 0 < a) (h : a * q < a * M) : a * q ≤ a * M - a := by
  have h1 : q < M := Int.lt_of_mul_lt_mul_left h (Int.le_of_lt ha)
  have h2 := Int.mul_le_mul_of_nonneg_left (show q + 1 ≤ M by omega) (Int.le_of_lt ha)
  rw [Int.mul_add, Int.mul_one] at h2
  omega

/-- Where the document's way to align says ErrRange, and where the other does. -/
theorem align_ref (n a : Int) (j : Nat) (hj : j ≤ 30) (ea : a = 2 ^ j) (h0 : 0 ≤ n) (h1 : n ≤ 9223372036854775807) :
    (n % a = 0 → n ≤ 9223372036854775807 - (a - 1)) ∧ (¬ n % a = 0 → (9223372036854775807 - a < n - n % a ↔ 9223372036854775807 - (a - 1) < n)) := by
  have hp : 0 < a := by rw [ea]; exact pow_pos_i j
  have e63 : (9223372036854775808 : Int) = a * 2 ^ (63 - j) := by
    rw [ea, ← Int.pow_add, show j + (63 - j) = 63 from by omega]; decide
  have e := Int.emod_add_mul_ediv n a
  have r0 := Int.emod_nonneg n (show a ≠ 0 by omega)
  have r1 := Int.emod_lt_of_pos n hp
  have hq : a * (n / a) ≤ 9223372036854775808 - a := by
    have := mult_le a (2 ^ (63 - j)) (n / a) hp (by rw [← e63]; omega)
    rw [← e63] at this; exact this
  constructor
  · intro h; omega
  · intro h
    constructor
    · intro h2; omega
    · intro h2
      apply Classical.byContradiction
      intro h3
      have h4 : a * (n / a) < a * (2 ^ (63 - j) - 1) := by rw [Int.mul_sub, ← e63, Int.mul_one]; omega
      have h5 := mult_le a (2 ^ (63 - j) - 1) (n / a) hp h4
      rw [Int.mul_sub, ← e63, Int.mul_one] at h5
      omega
end Go.Proofs.YtomboebfbipaaaaDoor
