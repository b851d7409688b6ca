/- Shifts by less than the bits, and a product with a power of 2: the calls' answers, named ahead. -/
import Derived.Test.YtbfkmnlbmlpogabDoorShift
import Derived.Test.YtbfkmnlbmlpogabDoorMul
namespace Go.Proofs.YtbfkmnlbmlpogabDoor
open Go.ChangeShapes Go.WideShapes Go.ChangeAt Go.RowKit
set_option linter.unusedVariables false

theorem wraps_i63 (n : Int) (h0 : 0 ≤ n) (h1 : n < 2 ^ 63) : IntKind.i64.wrap n = n := by rw [IntKind.wrap_i64]; omega
theorem mask31 (x : Int) (h0 : 0 ≤ x) (h1 : x ≤ 255) : bits .and .i64 x 31 = x % 32 := bits_mask .i64 63 (by decide) wraps_i63 5 (by decide) x h0 (by omega)
theorem mask63 (x : Int) (h0 : 0 ≤ x) (h1 : x ≤ 255) : bits .and .i64 x 63 = x % 64 := bits_mask .i64 63 (by decide) wraps_i63 6 (by decide) x h0 (by omega)

theorem count_in {sz : Int} {n : Nat} {c : Int} (h : Wide sz n c) (q : Nat) (hq : q + 2 ≤ n) : bits .and .i64 (q : Int) c = (q : Int) := by
  rcases h with ⟨_, rfl, rfl⟩ | ⟨_, rfl, rfl⟩ | ⟨_, rfl, rfl⟩
  · rw [mask31 _ (by omega) (by omega)]; omega
  · rw [mask31 _ (by omega) (by omega)]; omega
  · rw [mask63 _ (by omega) (by omega)]; omega

theorem sx_mod (n : Nat) (a : Int) : sx n a % 2 ^ n = a % 2 ^ n := by
  unfold sx
  rw [Int.sub_emod, Int.emod_emod_of_dvd _ (Int.dvd_refl _), ← Int.sub_emod]
  congr 1; omega

theorem pow_shl (a sz : Int) (n : Nat) (c : Int) (q : Nat) (h : Wide sz n c) (hq : q + 2 ≤ n) : ∃ C P Z S O : Bool, ∀ v, Wd v →
    Calls Tryd.prog 13 #[.int .i64 17, .int .u64 a, .int .i64 q, .agg #[.bool false, .bool false, .bool false, .bool false, .bool false], .int .i64 sz] v fun e w' =>
      e = .returned (.tuple #[.int .u64 (a * 2 ^ q % 2 ^ n), .agg #[.bool C, .bool P, .bool Z, .bool S, .bool O], .int .i64 0]) ∧ Below v.heap.size v w' := by
  have em := count_in h q hq
  have hi := h.hi
  by_cases h0 : q = 0
  · have e : a % 2 ^ n = ((a * 2 ^ q % 2 ^ n) : Int) := by
      subst h0
      exact (by simp)
    subst h0
    refine ⟨false, false, false, false, false, fun v hv => ?_⟩
    have s := shift_none 17 34 sz n c a (0 : Nat) false false false false false v h hv (by omega) (by omega) em shiftOf_shl
    rw [e] at s
    exact s
  · have A := fun v hv => answer_shifted 34 sz n c a q _ _ _ v h hv enters_shl (fun v => shl_any sz c n a q v h.lo h.hi (by omega) (by omega))
    have e : (a % 2 ^ n * 2 ^ q % 18446744073709551616) % 2 ^ n = (a * 2 ^ q % 2 ^ n) := by rw [mod64 n h.hi, mul_low]
    simp only [e, resF] at A
    exact ⟨_, _, _, _, _, fun v hv => shift_run 17 _ sz n c a q q false false false false false _ _ _ _ _ _ v h hv (by omega) (by omega) em (by simp; omega) shiftOf_shl A⟩

theorem pow_shr (a sz : Int) (n : Nat) (c : Int) (q : Nat) (h : Wide sz n c) (hq : q + 2 ≤ n) : ∃ C P Z S O : Bool, ∀ v, Wd v →
    Calls Tryd.prog 13 #[.int .i64 18, .int .u64 a, .int .i64 q, .agg #[.bool false, .bool false, .bool false, .bool false, .bool false], .int .i64 sz] v fun e w' =>
      e = .returned (.tuple #[.int .u64 (a % 2 ^ n / 2 ^ q), .agg #[.bool C, .bool P, .bool Z, .bool S, .bool O], .int .i64 0]) ∧ Below v.heap.size v w' := by
  have em := count_in h q hq
  have hi := h.hi
  by_cases h0 : q = 0
  · have e : a % 2 ^ n = ((a % 2 ^ n / 2 ^ q) : Int) := by
      subst h0
      exact (by simp)
    subst h0
    refine ⟨false, false, false, false, false, fun v hv => ?_⟩
    have s := shift_none 18 35 sz n c a (0 : Nat) false false false false false v h hv (by omega) (by omega) em shiftOf_shr
    rw [e] at s
    exact s
  · have A := fun v hv => answer_shifted 35 sz n c a q _ _ _ v h hv enters_shr (fun v => shr_any sz c n a q v h.lo h.hi (by omega) (by omega))
    have e : (a % 2 ^ n / 2 ^ q) % 2 ^ n = (a % 2 ^ n / 2 ^ q) := Int.emod_eq_of_lt (Int.ediv_nonneg (Int.emod_nonneg a (Int.ne_of_gt (pow_pos_i n))) (Int.le_of_lt (pow_pos_i q))) (Int.lt_of_le_of_lt (Int.ediv_le_self _ (Int.emod_nonneg a (Int.ne_of_gt (pow_pos_i n)))) (Int.emod_lt_of_pos a (pow_pos_i n)))
    simp only [e, resF] at A
    exact ⟨_, _, _, _, _, fun v hv => shift_run 18 _ sz n c a q q false false false false false _ _ _ _ _ _ v h hv (by omega) (by omega) em (by simp; omega) shiftOf_shr A⟩

theorem pow_sar (a sz : Int) (n : Nat) (c : Int) (q : Nat) (h : Wide sz n c) (hq : q + 2 ≤ n) : ∃ C P Z S O : Bool, ∀ v, Wd v →
    Calls Tryd.prog 13 #[.int .i64 19, .int .u64 a, .int .i64 q, .agg #[.bool false, .bool false, .bool false, .bool false, .bool false], .int .i64 sz] v fun e w' =>
      e = .returned (.tuple #[.int .u64 (sx n a / 2 ^ q % 2 ^ n), .agg #[.bool C, .bool P, .bool Z, .bool S, .bool O], .int .i64 0]) ∧ Below v.heap.size v w' := by
  have em := count_in h q hq
  have hi := h.hi
  by_cases h0 : q = 0
  · have e : a % 2 ^ n = ((sx n a / 2 ^ q % 2 ^ n) : Int) := by
      subst h0
      exact (by simp [sx_mod])
    subst h0
    refine ⟨false, false, false, false, false, fun v hv => ?_⟩
    have s := shift_none 19 36 sz n c a (0 : Nat) false false false false false v h hv (by omega) (by omega) em shiftOf_sar
    rw [e] at s
    exact s
  · have A := fun v hv => answer_shifted 36 sz n c a q _ _ _ v h hv enters_sar (fun v => sar_any sz c n a q v h.lo h.hi (by omega) (by omega))
    have e : (sx n a / 2 ^ q % 18446744073709551616) % 2 ^ n = (sx n a / 2 ^ q % 2 ^ n) := mod64 n h.hi _
    simp only [e, resF] at A
    exact ⟨_, _, _, _, _, fun v hv => shift_run 19 _ sz n c a q q false false false false false _ _ _ _ _ _ v h hv (by omega) (by omega) em (by simp; omega) shiftOf_sar A⟩

theorem sx_pow (n q : Nat) (hq : q + 2 ≤ n) : sx n (2 ^ q) = 2 ^ q := by
  unfold sx
  have h1 : (2 : Int) ^ q * 2 ≤ 2 ^ (n - 1) := by
    have := pow_le_i (show q + 1 ≤ n - 1 by omega)
    rw [Int.pow_succ] at this; exact this
  have hp := pow_pos_i q
  have e := pow_pred (show 1 ≤ n by omega)
  rw [Int.emod_eq_of_lt (by omega) (by omega)]
  omega

theorem pow_mul (a sz : Int) (n : Nat) (c : Int) (q : Nat) (h : Wide sz n c) (hq : q + 2 ≤ n) : ∃ C P Z S O : Bool, ∀ v, Wd v →
    Calls Tryd.prog 14 #[.int .u64 a, .int .u64 (2 ^ q), .int .i64 sz] v fun e w' =>
      e = .returned (.tuple #[.int .u64 (a * 2 ^ q % 2 ^ n), .agg #[.bool C, .bool P, .bool Z, .bool S, .bool O], .int .i64 0]) ∧ Below v.heap.size v w' := by
  have A := fun v hv => mul_yes a (2 ^ q) sz n c v h hv
  have e : sx n a * sx n (2 ^ q) % 2 ^ n = a * 2 ^ q % 2 ^ n := by
    rw [sx_pow n q hq, Int.mul_emod, sx_mod, ← Int.mul_emod]
  simp only [e, resF] at A
  exact ⟨_, _, _, _, _, A⟩
end Go.Proofs.YtbfkmnlbmlpogabDoor
