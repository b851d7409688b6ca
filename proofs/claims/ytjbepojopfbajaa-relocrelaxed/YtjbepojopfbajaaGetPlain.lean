/- Plain facts of numbers as bytes, the low one first. -/
import Derived.Test.YtjbepojopfbajaaPlain
namespace Go.Proofs.Ytjbepojopfbajaa
open Go.RowKit
set_option linter.unusedVariables false

/-- The number of k bytes from place a on, the low one first. -/
def bacc (bs : Nat → Int) (a : Nat) : Nat → Int
  | 0 => 0
  | k + 1 => bacc bs a k + bs (a + k) * 2 ^ (8 * k)

theorem bacc_in (bs : Nat → Int) (hbs : ∀ i, 0 ≤ bs i ∧ bs i < 256) (a k : Nat) : 0 ≤ bacc bs a k ∧ bacc bs a k < 2 ^ (8 * k) := by
  induction k with
  | zero => simp [bacc]
  | succ k ih =>
    have hp := pow_pos_i (8 * k)
    have e : (2 : Int) ^ (8 * (k + 1)) = 256 * 2 ^ (8 * k) := by
      rw [show 8 * (k + 1) = 8 + 8 * k from by omega, Int.pow_add]; rfl
    have hb := hbs (a + k)
    have m0 := Int.mul_nonneg hb.1 (Int.le_of_lt hp)
    have m1 := Int.mul_le_mul_of_nonneg_right (show bs (a + k) ≤ 255 by omega) (Int.le_of_lt hp)
    simp only [bacc]
    rw [e]
    omega

theorem bacc_head (bs : Nat → Int) (a k : Nat) : bacc bs a (k + 1) = bs a + 256 * bacc bs (a + 1) k := by
  induction k with
  | zero => simp [bacc]
  | succ k ih =>
    have e1 : bacc bs a (k + 1 + 1) = bacc bs a (k + 1) + bs (a + (k + 1)) * 2 ^ (8 * (k + 1)) := rfl
    have e2 : bacc bs (a + 1) (k + 1) = bacc bs (a + 1) k + bs (a + 1 + k) * 2 ^ (8 * k) := rfl
    have e3 : (2 : Int) ^ (8 * (k + 1)) = 256 * 2 ^ (8 * k) := by
      rw [show 8 * (k + 1) = 8 + 8 * k from by omega, Int.pow_add]; rfl
    have e4 : a + (k + 1) = a + 1 + k := by omega
    rw [e1, ih, e2, e3, e4, Int.mul_add, ← Int.mul_assoc, Int.mul_comm _ 256, Int.mul_assoc]
    omega

theorem bacc_step_u64 (bs : Nat → Int) (hbs : ∀ i, 0 ≤ bs i ∧ bs i < 256) (a k : Nat) (hk : k ≤ 7) :
    bits .or .u64 (bacc bs a k % 18446744073709551616) (IntKind.u64.wrap (IntKind.u64.wrap (bs (a + k)) * 2 ^ (8 * k))) = bacc bs a (k + 1) % 18446744073709551616 := by
  have h := bacc_in bs hbs a k
  have hb := hbs (a + k)
  rw [IntKind.wrap_u64, IntKind.wrap_u64, show bs (a + k) % 18446744073709551616 = bs (a + k) from by omega, join_u64 (8 * k) (by omega) _ _ h.1 h.2]
  rfl

theorem bacc_step_i64 (bs : Nat → Int) (hbs : ∀ i, 0 ≤ bs i ∧ bs i < 256) (a k : Nat) (hk : k ≤ 7) :
    bits .or .i64 (wrap64 (bacc bs a k)) (wrap64 (wrap64 (bs (a + k)) * 2 ^ (8 * k))) = wrap64 (bacc bs a (k + 1)) := by
  have h := bacc_in bs hbs a k
  have hb := hbs (a + k)
  rw [show wrap64 (bs (a + k)) = bs (a + k) from by unfold wrap64; omega, or_i64, wrap64_mod, wrap64_mod, join_u64 (8 * k) (by omega) _ _ h.1 h.2, wrap64_of_mod]
  rfl

/-- The document's own step: the high bytes first. -/
theorem bacc_back (bs : Nat → Int) (hbs : ∀ i, 0 ≤ bs i ∧ bs i < 256) (a m : Nat) (hm : m ≤ 7) :
    bits .or .u64 (IntKind.u64.wrap (bacc bs (a + 1) m * 256)) (IntKind.u64.wrap (bs a)) = bacc bs a (m + 1) := by
  have h := bacc_in bs hbs (a + 1) m
  have h2 := bacc_in bs hbs a (m + 1)
  have hb := hbs a
  have hle : (2 : Int) ^ (8 * (m + 1)) ≤ 2 ^ 64 := pow_le_i (by omega)
  have j := join_u64 8 (by omega) (bs a) (bacc bs (a + 1) m) hb.1 (by omega)
  rw [show (2 : Int) ^ 8 = 256 from rfl] at j
  rw [IntKind.wrap_u64, IntKind.wrap_u64, or_comm_bits, j, show bacc bs (a + 1) m * 256 = 256 * bacc bs (a + 1) m from by omega, ← bacc_head]
  omega

theorem bfin_u64 (bs : Nat → Int) (hbs : ∀ i, 0 ≤ bs i ∧ bs i < 256) (a s : Nat) (hs : s ≤ 8) : bacc bs a s % 18446744073709551616 % 2 ^ (8 * (s : Int)).toNat = bacc bs a s := by
  have h := bacc_in bs hbs a s
  have hle : (2 : Int) ^ (8 * s) ≤ 2 ^ 64 := pow_le_i (by omega)
  rw [show (8 * (s : Int)).toNat = 8 * s from by omega, show bacc bs a s % 18446744073709551616 = bacc bs a s from by omega]
  exact Int.emod_eq_of_lt h.1 h.2

theorem bfin_i64 (bs : Nat → Int) (hbs : ∀ i, 0 ≤ bs i ∧ bs i < 256) (a s : Nat) (hs : s ≤ 8) : sx (8 * (s : Int)).toNat (wrap64 (bacc bs a s)) = sx (8 * s) (bacc bs a s) := by
  have h := bacc_in bs hbs a s
  rw [show (8 * (s : Int)).toNat = 8 * s from by omega]
  by_cases h8 : s = 8
  · subst h8
    show sx 64 _ = sx 64 _
    rw [sx64, sx64, wrap64_wrap64]
  · have hle : (2 : Int) ^ (8 * s) ≤ 2 ^ 56 := pow_le_i (by omega)
    rw [show wrap64 (bacc bs a s) = bacc bs a s from by unfold wrap64; omega]

/-- What Get answers. -/
def gval (bs : Nat → Int) (a s : Nat) (sg : Bool) : Int := if sg then sx (8 * s) (bacc bs a s) else wrap64 (bacc bs a s)
end Go.Proofs.Ytjbepojopfbajaa
