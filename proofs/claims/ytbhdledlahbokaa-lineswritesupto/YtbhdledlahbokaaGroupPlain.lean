/- Plain lists of groups of seven bits, without the program. -/
import Derived.Test.YtbhdledlahbokaaPlain
namespace Go.Proofs.Ytbhdledlahbokaa
open Go.RowKit
set_option linter.unusedVariables false

/-- The groups of a number without a sign, the low one first, each but the last one with 128 more; the first number bounds how many. -/
def ulF : Nat → Nat → List Int
  | 0, n => [(n : Int)]
  | f + 1, n => if n < 128 then [(n : Int)] else ((n % 128 + 128 : Nat) : Int) :: ulF f (n / 128)
def ul (n : Nat) : List Int := ulF n n

theorem ulF_same : ∀ (f g n : Nat), n ≤ f → n ≤ g → ulF f n = ulF g n := by
  intro f
  induction f with
  | zero =>
    intro g n hf hg
    obtain rfl : n = 0 := by omega
    cases g with
    | zero => rfl
    | succ g => simp [ulF]
  | succ f ih =>
    intro g n hf hg
    cases g with
    | zero =>
      obtain rfl : n = 0 := by omega
      simp [ulF]
    | succ g =>
      simp only [ulF]
      split
      · rfl
      · rw [ih g (n / 128) (by omega) (by omega)]

theorem ul_lt {n : Nat} (h : n < 128) : ul n = [(n : Int)] := by
  unfold ul
  cases n with
  | zero => rfl
  | succ n => simp only [ulF]; rw [if_pos h]
theorem ul_ge {n : Nat} (h : ¬ n < 128) : ul n = ((n % 128 + 128 : Nat) : Int) :: ul (n / 128) := by
  unfold ul
  cases n with
  | zero => omega
  | succ n =>
    have e : ulF n ((n + 1) / 128) = ulF ((n + 1) / 128) ((n + 1) / 128) := ulF_same _ _ _ (by omega) (by omega)
    simp only [ulF]; rw [if_neg h, e]

theorem ul_len_pos (n : Nat) : 1 ≤ (ul n).length := by
  by_cases h : n < 128
  · rw [ul_lt h]; simp
  · rw [ul_ge h]; simp

theorem ul_len : ∀ (k n : Nat), n < 128 ^ (k + 1) → (ul n).length ≤ k + 1 := by
  intro k
  induction k with
  | zero => intro n h; rw [ul_lt (by simpa using h)]; simp
  | succ k ih =>
    intro n h
    by_cases hn : n < 128
    · rw [ul_lt hn]; simp
    · rw [ul_ge hn]
      have : n / 128 < 128 ^ (k + 1) := by
        apply Nat.div_lt_of_lt_mul
        rw [Nat.mul_comm, ← Nat.pow_succ]; exact h
      have := ih _ this
      simp; omega

theorem ul_len10 (n : Nat) (h : n < 18446744073709551616) : (ul n).length ≤ 10 := ul_len 9 n (by omega)

theorem ul_byte (n : Nat) : ∀ x ∈ ul n, 0 ≤ x ∧ x < 256 := by
  induction n using Nat.strongRecOn with
  | ind n ih =>
    intro x hx
    by_cases h : n < 128
    · rw [ul_lt h] at hx; simp at hx; omega
    · rw [ul_ge h] at hx
      rcases List.mem_cons.1 hx with e | e
      · omega
      · exact ih (n / 128) (by omega) x e

theorem getD_byte {l : List Int} (h : ∀ x ∈ l, 0 ≤ x ∧ x < 256) (i : Nat) : 0 ≤ l.getD i 0 ∧ l.getD i 0 < 256 := by
  by_cases hi : i < l.length
  · have : l.getD i 0 = l[i] := by simp [hi]
    rw [this]; exact h _ (List.getElem_mem hi)
  · have : l.getD i 0 = 0 := by simp [List.getD, List.getElem?_eq_none (show l.length ≤ i by omega)]
    rw [this]; omega

theorem ul_nonneg (n i : Nat) (hi : i < (ul n).length) : 0 ≤ (ul n).getD i 0 := (getD_byte (ul_byte n) i).1

/-- The groups of a number with a sign; the first number bounds how many. -/
def slF : Nat → Int → List Int
  | 0, n => [n % 128]
  | f + 1, n => if -64 ≤ n ∧ n ≤ 63 then [n % 128] else (n % 128 + 128) :: slF f (n / 128)
def sl (n : Int) : List Int := slF n.natAbs n

theorem slF_same : ∀ (f g : Nat) (n : Int), n.natAbs ≤ f → n.natAbs ≤ g → slF f n = slF g n := by
  intro f
  induction f with
  | zero =>
    intro g n hf hg
    obtain rfl : n = 0 := by omega
    cases g with
    | zero => rfl
    | succ g => simp [slF]
  | succ f ih =>
    intro g n hf hg
    cases g with
    | zero =>
      obtain rfl : n = 0 := by omega
      simp [slF]
    | succ g =>
      simp only [slF]
      split
      · rfl
      · rw [ih g (n / 128) (by omega) (by omega)]

theorem sl_in {n : Int} (h : -64 ≤ n ∧ n ≤ 63) : sl n = [n % 128] := by
  unfold sl
  cases n.natAbs with
  | zero => rfl
  | succ f => simp only [slF]; rw [if_pos h]
theorem sl_out {n : Int} (h : ¬ (-64 ≤ n ∧ n ≤ 63)) : sl n = (n % 128 + 128) :: sl (n / 128) := by
  have e : slF n.natAbs n = slF (n.natAbs - 1 + 1) n := by rw [show n.natAbs - 1 + 1 = n.natAbs from by omega]
  have e2 : slF (n.natAbs - 1) (n / 128) = slF (n / 128).natAbs (n / 128) := slF_same _ _ _ (by omega) (by omega)
  unfold sl
  rw [e, ← e2]
  simp only [slF]; rw [if_neg h]

theorem sl_len_pos (n : Int) : 1 ≤ (sl n).length := by
  by_cases h : -64 ≤ n ∧ n ≤ 63
  · rw [sl_in h]; simp
  · rw [sl_out h]; simp

theorem sl_len : ∀ (k : Nat) (n : Int), -(64 * 128 ^ k) ≤ n → n < 64 * 128 ^ k → (sl n).length ≤ k + 1 := by
  intro k
  induction k with
  | zero => intro n h1 h2; rw [sl_in (by simp at h1 h2; omega)]; simp
  | succ k ih =>
    intro n h1 h2
    by_cases hn : -64 ≤ n ∧ n ≤ 63
    · rw [sl_in hn]; simp
    · rw [sl_out hn]
      rw [Int.pow_succ] at h1 h2
      have := ih (n / 128) (by omega) (by omega)
      simp; omega

theorem sl_len10 (n : Int) (h : -9223372036854775808 ≤ n ∧ n ≤ 9223372036854775807) : (sl n).length ≤ 10 :=
  sl_len 9 n (by omega) (by omega)

theorem sl_byte : ∀ (k : Nat) (n : Int), n.natAbs ≤ k → ∀ x ∈ sl n, 0 ≤ x ∧ x < 256 := by
  intro k
  induction k with
  | zero =>
    intro n hk x hx
    rw [sl_in (by omega)] at hx; simp at hx; omega
  | succ k ih =>
    intro n hk x hx
    by_cases h : -64 ≤ n ∧ n ≤ 63
    · rw [sl_in h] at hx; simp at hx; omega
    · rw [sl_out h] at hx
      rcases List.mem_cons.1 hx with e | e
      · omega
      · exact ih (n / 128) (by omega) x e

theorem or128_u8 (x : Int) (h0 : 0 ≤ x) (h1 : x < 256) : bits .or .u8 x 128 = x % 128 + 128 := by
  obtain ⟨X, rfl⟩ := Int.eq_ofNat_of_zero_le h0
  have e : bits .or .u8 (X : Int) ((128 : Nat) : Int) = ((X ||| 128 : Nat) : Int) := u8_or_nat X 128 (by omega) (by omega)
  have f : ∀ y : Fin 256, y.val ||| 128 = y.val % 128 + 128 := by decide +kernel
  have g := f ⟨X, by omega⟩
  simp only at g
  rw [show (128 : Int) = ((128 : Nat) : Int) from rfl, e, g]
  omega

theorem sx7 (n : Int) : sx 7 n = (n + 64) % 128 - 64 := by unfold sx; rfl
end Go.Proofs.Ytbhdledlahbokaa
