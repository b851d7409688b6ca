/- Plain arithmetic: behind a difference the flags say the order. -/
import Derived.Test.YtbfkmnlbmlpogaaDoorCond
namespace Go.Proofs.YtbfkmnlbmlpogaaDoor
open Go.ChangeShapes Go.WideShapes Go.ChangeAt Go.RowKit
set_option linter.unusedVariables false

theorem mod_facts (n : Nat) (x : Int) : 0 ≤ x % 2 ^ n ∧ x % 2 ^ n < 2 ^ n := ⟨Int.emod_nonneg x (Int.ne_of_gt (pow_pos_i n)), Int.emod_lt_of_pos x (pow_pos_i n)⟩

/-- The low bits of a difference are 0 just if the low bits are the same. -/
theorem diff_zero (n : Nat) (a b : Int) : ((a - b - b2i false) % 2 ^ n == 0) = decide (a % 2 ^ n = b % 2 ^ n) := by
  have e : a - b - b2i false = a - b := by simp [b2i, bitV]
  rw [e, Bool.eq_iff_iff]
  simp only [beq_iff_eq, decide_eq_true_eq]
  constructor
  · intro h; exact Int.emod_eq_emod_iff_emod_sub_eq_zero.2 h
  · intro h; exact Int.emod_eq_emod_iff_emod_sub_eq_zero.1 h

/-- The sign of a difference's low bits, by the signed numbers. -/
theorem sx_sub (n : Nat) (hn : 1 ≤ n) (a b : Int) : sx n ((a - b - b2i false) % 2 ^ n) = sx n (sx n a - sx n b) := by
  apply sx_congr n hn
  have e : a - b - b2i false = a - b := by simp [b2i, bitV]
  rw [e, Int.emod_emod_of_dvd _ (Int.dvd_refl _)]
  have c : ∀ x, sx n x % 2 ^ n = x % 2 ^ n := by
    intro x
    unfold sx
    rw [Int.sub_emod, Int.emod_emod_of_dvd _ (Int.dvd_refl _), ← Int.sub_emod]
    congr 1; omega
  rw [Int.sub_emod, ← c a, ← c b, ← Int.sub_emod]

theorem sx_out (n : Nat) (hn : 1 ≤ n) (x : Int) (h0 : -2 ^ n ≤ x) (h1 : x < 2 ^ n) : (decide (sx n x < 0) != outS n x) = decide (x < 0) := by
  have hp := pow_pos_i (n - 1)
  have e := pow_pred hn
  have m := mod_facts n x
  rw [sx_low n hn]
  have em : x % 2 ^ n = if x < 0 then x + 2 ^ n else x := by
    split
    · rw [← Int.add_emod_right x (2 ^ n)]; exact Int.emod_eq_of_lt (by omega) (by omega)
    · exact Int.emod_eq_of_lt (by omega) (by omega)
  unfold outS
  rw [em, Bool.eq_iff_iff]
  generalize (2 : Int) ^ (n - 1) = h at *
  generalize (2 : Int) ^ n = g at *
  by_cases hx : x < 0
  · simp only [hx, if_true]
    have c2 : x < h := by omega
    by_cases c1 : x + g < h
    · have c3 : ¬ x + g < 0 := by omega
      have c4 : ¬ -h ≤ x := by omega
      simp [c1, c2, c3, c4]
    · have c3 : x + g - g < 0 := by omega
      have c4 : -h ≤ x := by omega
      simp only [c1, c2, c3, c4, if_false, decide_true, Bool.and_self, Bool.not_true]; simp
  · simp only [hx, if_false]
    have c2 : -h ≤ x := by omega
    by_cases c1 : x < h
    · have c3 : ¬ x < 0 := by omega
      simp [c1, c2, c3]
    · have c3 : x - g < 0 := by omega
      simp [c1, c2, c3]

/-- S and O are unlike behind a difference just if the first number is less, signed. -/
theorem order_s (n : Nat) (hn : 1 ≤ n) (a b : Int) :
    (decide (sx n ((a - b - b2i false) % 2 ^ n) < 0) != outS n (sx n a - sx n b - b2i false)) = decide (sx n a < sx n b) := by
  have e : sx n a - sx n b - b2i false = sx n a - sx n b := by simp [b2i, bitV]
  have ha := sx_in n hn a
  have hb := sx_in n hn b
  have p := pow_pred hn
  rw [sx_sub n hn, e, sx_out n hn _ (by omega) (by omega), Bool.eq_iff_iff]
  simp; omega

theorem order_c (n : Nat) (a b : Int) : subC n a b (b2i false) = decide (a % 2 ^ n < b % 2 ^ n) := by
  unfold subC
  rw [Bool.eq_iff_iff]; simp [b2i, bitV]; omega

theorem le_lt_eq (x y : Int) : (decide (x < y) || decide (x = y)) = decide (x ≤ y) := by
  rw [Bool.eq_iff_iff]; simp; omega

theorem sx_eq_iff (n : Nat) (hn : 1 ≤ n) (a b : Int) : decide (a % 2 ^ n = b % 2 ^ n) = decide (sx n a = sx n b) := by
  rw [Bool.eq_iff_iff]; simp only [decide_eq_true_eq]
  constructor
  · exact sx_congr n hn
  · intro h
    have m := mod_facts n a; have m' := mod_facts n b
    rw [sx_low n hn, sx_low n hn] at h
    have p := pow_pred hn
    split at h <;> split at h <;> omega

/-- The five conditions behind a difference. -/
theorem cond2 (n : Nat) (a b : Int) (P Z S O : Bool) : condV 2 (subC n a b (b2i false)) P Z S O = decide (a % 2 ^ n < b % 2 ^ n) := by
  rw [← order_c]; simp [condV, sel8]
theorem cond4 (n : Nat) (a b : Int) (C P S O : Bool) : condV 4 C P ((a - b - b2i false) % 2 ^ n == 0) S O = decide (a % 2 ^ n = b % 2 ^ n) := by
  rw [← diff_zero]; simp [condV, sel8]
theorem cond6 (n : Nat) (a b : Int) (P S O : Bool) : condV 6 (subC n a b (b2i false)) P ((a - b - b2i false) % 2 ^ n == 0) S O = decide (a % 2 ^ n ≤ b % 2 ^ n) := by
  rw [← le_lt_eq, ← order_c, ← diff_zero]; simp [condV, sel8]
theorem cond12 (n : Nat) (hn : 1 ≤ n) (a b : Int) (C P Z : Bool) : condV 12 C P Z (decide (sx n ((a - b - b2i false) % 2 ^ n) < 0)) (outS n (sx n a - sx n b - b2i false)) = decide (sx n a < sx n b) := by
  rw [← order_s n hn]; simp [condV, sel8]
theorem cond14 (n : Nat) (hn : 1 ≤ n) (a b : Int) (C P : Bool) : condV 14 C P ((a - b - b2i false) % 2 ^ n == 0) (decide (sx n ((a - b - b2i false) % 2 ^ n) < 0)) (outS n (sx n a - sx n b - b2i false)) = decide (sx n a ≤ sx n b) := by
  rw [← le_lt_eq, ← order_s n hn, ← sx_eq_iff n hn, ← diff_zero, Bool.or_comm]; simp [condV, sel8]
end Go.Proofs.YtbfkmnlbmlpogaaDoor
