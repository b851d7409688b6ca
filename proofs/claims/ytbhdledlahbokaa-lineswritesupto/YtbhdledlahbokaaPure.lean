/- The contracts of package leb's functions that only compute. -/
import Derived.Test.YtbhdledlahbokaaRows
import Derived.Test.YtbhdledlahbokaaPlain
import Derived.WalkKit
import Derived.ProofKit
import Derived.Below
import Derived.Laws.BitsAllLaws
import Derived.WalkLawsBesides
namespace Go.Proofs.Ytbhdledlahbokaa
open Go.ChangeShapes Go.WideShapes Go.ChangeAt Go.RowKit
set_option linter.unusedVariables false

theorem isSize_yes (n : Int) (w : World) (h : n = 1 ∨ n = 2 ∨ n = 4 ∨ n = 8) :
    Calls Try.prog 55 #[.int .i64 n] w fun e w' => e = .returned (.bool true) ∧ w' = w := by
  rcases h with rfl | rfl | rfl | rfl
  all_goals
    go_enter Try.func55, Try.ntmps55
    go_wp2
    go_ret
    exact ⟨rfl, rfl⟩

theorem isSize_no (n : Int) (w : World) (h : ¬ (n = 1 ∨ n = 2 ∨ n = 4 ∨ n = 8)) :
    Calls Try.prog 55 #[.int .i64 n] w fun e w' => e = .returned (.bool false) ∧ w' = w := by
  have h1 : (n == 1) = false := by simp; omega
  have h2 : (n == 2) = false := by simp; omega
  have h4 : (n == 4) = false := by simp; omega
  have h8 : (n == 8) = false := by simp; omega
  clear h
  go_enter Try.func55, Try.ntmps55
  go_wp2
  go_ret
  exact ⟨rfl, rfl⟩


/-- A shift to the right by k leaves 0 or -1 just where the number lies within k bits and a sign. -/
theorem sar_in (n : Int) (k : Nat) : (n / 2 ^ k = 0 ∨ n / 2 ^ k = -1) ↔ (-(2 ^ k) ≤ n ∧ n < 2 ^ k) := by
  have hp := pow_pos_i k
  constructor
  · rintro (h | h)
    · have := Int.emod_add_mul_ediv n (2 ^ k); rw [h] at this
      have a := Int.emod_nonneg n (Int.ne_of_gt hp); have b := Int.emod_lt_of_pos n hp
      omega
    · have := Int.emod_add_mul_ediv n (2 ^ k); rw [h] at this
      have a := Int.emod_nonneg n (Int.ne_of_gt hp); have b := Int.emod_lt_of_pos n hp
      omega
  · rintro ⟨h1, h2⟩
    by_cases h : 0 ≤ n
    · exact .inl (Int.ediv_eq_zero_of_lt h h2)
    · right
      have a := Int.emod_nonneg n (Int.ne_of_gt hp); have b := Int.emod_lt_of_pos n hp
      have e := Int.emod_add_mul_ediv n (2 ^ k)
      have lo : -1 ≤ n / 2 ^ k := by
        apply Int.le_ediv_of_mul_le hp; omega
      have hi : n / 2 ^ k < 0 := Int.ediv_neg_of_neg_of_pos (by omega) hp
      omega

def fitsB (n b : Int) (s : Bool) : Bool :=
  decide (1 ≤ b) && decide (b ≤ 64) && (if s then decide (-(2 ^ (b.toNat - 1)) ≤ n) && decide (n < 2 ^ (b.toNat - 1)) else decide (0 ≤ n) && decide (n < 2 ^ b.toNat))

theorem ret_bool {a b : Bool} (h : a = b) : Ending.returned (.bool a) = .returned (.bool b) := by rw [h]

theorem fits_any (n b : Int) (s : Bool) (w : World) :
    Calls Try.prog 56 #[.int .i64 n, .int .i64 b, .bool s] w fun e w' => e = .returned (.bool (fitsB n b s)) ∧ w' = w := by
  by_cases h0 : 1 ≤ b
  · by_cases h1 : b ≤ 64
    · have S := sar_in n (b.toNat - 1)
      have U := sar_in n b.toNat
      have p1 := pow_pos_i (b.toNat - 1)
      have p2 := pow_pos_i b.toNat
      cases s
      · have F : fitsB n b false = (decide (0 ≤ n) && (n / 2 ^ b.toNat == 0)) := by
          unfold fitsB
          rw [Bool.eq_iff_iff]; simp [h0, h1]
          intro hn
          constructor
          · intro hlt; exact Int.ediv_eq_zero_of_lt hn hlt
          · intro h; exact (U.1 (.inl h)).2
        rw [F]; clear S U p1 p2 F
        go_enter Try.func56, Try.ntmps56
        go_wp2
        all_goals
          go_ret
          exact ⟨ret_bool (by first | (simp [*]; done) | (simp [*]; omega)), rfl⟩
      · have F : fitsB n b true = (n / 2 ^ (b.toNat - 1) == 0 || n / 2 ^ (b.toNat - 1) == -1) := by
          unfold fitsB
          rw [Bool.eq_iff_iff]; simp [h0, h1]
          exact S.symm
        rw [F]; clear S U p1 p2 F
        go_enter Try.func56, Try.ntmps56
        go_wp2
        all_goals
          go_ret
          exact ⟨ret_bool (by first | (simp [*]; done) | (simp [*]; omega)), rfl⟩
    · have F : fitsB n b s = false := by simp [fitsB, h1]
      rw [F]; clear F
      go_enter Try.func56, Try.ntmps56
      go_wp2
      go_ret
      exact ⟨rfl, rfl⟩
  · have F : fitsB n b s = false := by simp [fitsB, h0]
    rw [F]; clear F
    go_enter Try.func56, Try.ntmps56
    go_wp2
    go_ret
    exact ⟨rfl, rfl⟩
end Go.Proofs.Ytbhdledlahbokaa
