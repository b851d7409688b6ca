/- Plain facts of numbers in groups: what is written is read; no shorter bytes are. -/
import Derived.Test.YtbhdledlahbokaaGroupPlain
namespace Go.Proofs.Ytbhdledlahbokaa
open Go.RowKit
set_option linter.unusedVariables false

theorem uacc_head (bs : Nat → Int) (a k : Nat) : uacc bs a (k + 1) = bs a % 128 + 128 * uacc bs (a + 1) k := by
  induction k with
  | zero => simp [uacc]
  | succ k ih =>
    have e1 : uacc bs a (k + 1 + 1) = uacc bs a (k + 1) + (bs (a + (k + 1)) % 128) * 2 ^ (7 * (k + 1)) := rfl
    have e2 : uacc bs (a + 1) (k + 1) = uacc bs (a + 1) k + (bs (a + 1 + k) % 128) * 2 ^ (7 * k) := rfl
    have e3 : (2 : Int) ^ (7 * (k + 1)) = 128 * 2 ^ (7 * k) := by
      rw [show 7 * (k + 1) = 7 + 7 * k from by omega, Int.pow_add]; rfl
    have e4 : a + (k + 1) = a + 1 + k := by omega
    rw [e1, ih, e2, e3, e4, Int.mul_add, ← Int.mul_assoc, Int.mul_comm _ 128, Int.mul_assoc]
    omega

/-- bytes from place a on are those of a list -/
def At (bs : Nat → Int) (a : Nat) (l : List Int) : Prop := ∀ i, i < l.length → bs (a + i) = l.getD i 0

theorem At.tail {bs : Nat → Int} {a : Nat} {x : Int} {l : List Int} (h : At bs a (x :: l)) : bs a = x ∧ At bs (a + 1) l := by
  constructor
  · have := h 0 (by simp); simpa using this
  · intro i hi
    have := h (i + 1) (by simp; omega)
    rw [show a + 1 + i = a + (i + 1) from by omega, this]; simp

theorem ul_read (n : Nat) : ∀ (bs : Nat → Int) (a : Nat), At bs a (ul n) →
    uacc bs a (ul n).length = n ∧ (∀ j, j + 1 < (ul n).length → 128 ≤ bs (a + j)) ∧ bs (a + ((ul n).length - 1)) < 128 := by
  induction n using Nat.strongRecOn with
  | ind n ih =>
    intro bs a h
    by_cases hn : n < 128
    · rw [ul_lt hn] at h ⊢
      have h0 := h.tail.1
      refine ⟨?_, ?_, ?_⟩
      · simp [uacc, h0]; omega
      · intro j hj; simp at hj
      · simp [h0]; omega
    · rw [ul_ge hn] at h ⊢
      obtain ⟨h0, h1⟩ := h.tail
      obtain ⟨i1, i2, i3⟩ := ih (n / 128) (by omega) bs (a + 1) h1
      have hp := ul_len_pos (n / 128)
      refine ⟨?_, ?_, ?_⟩
      · rw [List.length_cons, uacc_head, i1, h0]; omega
      · intro j hj
        rw [List.length_cons] at hj
        by_cases hj0 : j = 0
        · subst hj0; rw [Nat.add_zero, h0]; omega
        · have := i2 (j - 1) (by omega)
          rw [show a + j = a + 1 + (j - 1) from by omega]; exact this
      · rw [List.length_cons, show a + ((ul (n / 128)).length + 1 - 1) = a + 1 + ((ul (n / 128)).length - 1) from by omega]; exact i3

theorem sx_step (b : Nat) (hb : 1 ≤ b) (r U : Int) (h0 : 0 ≤ r) (h1 : r < 128) : sx (7 + b) (r + 128 * U) = r + 128 * sx b U := by
  unfold sx
  have e1 : (2 : Int) ^ (7 + b) = 128 * 2 ^ b := by rw [Int.pow_add]; rfl
  have e2 : (2 : Int) ^ (7 + b - 1) = 128 * 2 ^ (b - 1) := by
    rw [show 7 + b - 1 = 7 + (b - 1) from by omega, Int.pow_add]; rfl
  have hp := pow_pos_i b
  rw [e1, e2]
  have e3 : r + 128 * U + 128 * 2 ^ (b - 1) = r + 128 * (U + 2 ^ (b - 1)) := by rw [Int.mul_add]; omega
  rw [e3]
  have e4 : (r + 128 * (U + 2 ^ (b - 1))) % (128 * 2 ^ b) = r + 128 * ((U + 2 ^ (b - 1)) % 2 ^ b) := by
    have q := Int.emod_add_mul_ediv (U + 2 ^ (b - 1)) (2 ^ b)
    have q0 := Int.emod_nonneg (U + 2 ^ (b - 1)) (Int.ne_of_gt hp)
    have q1 := Int.emod_lt_of_pos (U + 2 ^ (b - 1)) hp
    have e5 : r + 128 * (U + 2 ^ (b - 1)) = (r + 128 * ((U + 2 ^ (b - 1)) % 2 ^ b)) + (128 * 2 ^ b) * ((U + 2 ^ (b - 1)) / 2 ^ b) := by
      rw [Int.mul_assoc]; omega
    rw [e5, Int.add_mul_emod_self_left]
    exact Int.emod_eq_of_lt (by omega) (by omega)
  rw [e4]
  omega

theorem sl_read : ∀ (k : Nat) (n : Int), n.natAbs ≤ k → ∀ (bs : Nat → Int) (a : Nat), At bs a (sl n) →
    sx (7 * (sl n).length) (uacc bs a (sl n).length) = n ∧ (∀ j, j + 1 < (sl n).length → 128 ≤ bs (a + j)) ∧ bs (a + ((sl n).length - 1)) < 128 := by
  intro k
  induction k with
  | zero =>
    intro n hk bs a h
    have hn : -64 ≤ n ∧ n ≤ 63 := by omega
    rw [sl_in hn] at h ⊢
    have h0 := h.tail.1
    refine ⟨?_, ?_, ?_⟩
    · simp [uacc, h0, sx]; omega
    · intro j hj; simp at hj
    · simp [h0]; omega
  | succ k ih =>
    intro n hk bs a h
    by_cases hn : -64 ≤ n ∧ n ≤ 63
    · rw [sl_in hn] at h ⊢
      have h0 := h.tail.1
      refine ⟨?_, ?_, ?_⟩
      · simp [uacc, h0, sx]; omega
      · intro j hj; simp at hj
      · simp [h0]; omega
    · rw [sl_out hn] at h ⊢
      obtain ⟨h0, h1⟩ := h.tail
      obtain ⟨i1, i2, i3⟩ := ih (n / 128) (by omega) bs (a + 1) h1
      have hp := sl_len_pos (n / 128)
      refine ⟨?_, ?_, ?_⟩
      · rw [List.length_cons, uacc_head, h0, show 7 * ((sl (n / 128)).length + 1) = 7 + 7 * (sl (n / 128)).length from by omega,
          sx_step _ (by omega) _ _ (by omega) (by omega), i1]
        omega
      · intro j hj
        rw [List.length_cons] at hj
        by_cases hj0 : j = 0
        · subst hj0; rw [Nat.add_zero, h0]; omega
        · have := i2 (j - 1) (by omega)
          rw [show a + j = a + 1 + (j - 1) from by omega]; exact this
      · rw [List.length_cons, show a + ((sl (n / 128)).length + 1 - 1) = a + 1 + ((sl (n / 128)).length - 1) from by omega]; exact i3

theorem sx_in (b : Nat) (hb : 1 ≤ b) (n : Int) : -(2 ^ (b - 1)) ≤ sx b n ∧ sx b n < 2 ^ (b - 1) := by
  unfold sx
  have hp := pow_pos_i b
  have e : (2 : Int) ^ b = 2 * 2 ^ (b - 1) := by
    rw [show b = 1 + (b - 1) from by omega, Int.pow_add]; simp
  have q0 := Int.emod_nonneg (n + 2 ^ (b - 1)) (Int.ne_of_gt hp)
  have q1 := Int.emod_lt_of_pos (n + 2 ^ (b - 1)) hp
  omega

/-- the last of ten groups -/
theorem ul_ten (n : Nat) (h : n < 18446744073709551616) (bs : Nat → Int) (a : Nat) (hat : At bs a (ul n)) (h10 : (ul n).length = 10) : bs (a + 9) ≤ 1 := by
  obtain ⟨h1, h2, h3⟩ := ul_read n bs a hat
  rw [h10] at h1 h3
  obtain ⟨u, u0, u1, e⟩ := uacc10 bs a
  have h3' : bs (a + 9) < 128 := h3
  have hb : bs (a + 9) % 128 ≤ 1 := by omega
  have hnn : 0 ≤ bs (a + 9) := by
    have := hat 9 (by omega)
    rw [this]
    exact ul_nonneg n _ (by simp [h10])
  omega
end Go.Proofs.Ytbhdledlahbokaa
