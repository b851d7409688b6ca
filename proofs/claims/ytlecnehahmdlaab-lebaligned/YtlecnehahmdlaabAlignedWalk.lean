/- The walk of the law on aligned numbers. -/
import Derived.Test.YtlecnehahmdlaabKnows
import Derived.Test.YtlecnehahmdlaabAlign
namespace Go.Proofs.Ytlecnehahmdlaab
open Go.ChangeShapes Go.WideShapes Go.ChangeAt Go.RowKit
set_option linter.unusedVariables false

theorem i64_bounds {a : Int} (h : (Lit.int .i64 a).wf = true) : -9223372036854775808 ≤ a ∧ a ≤ 9223372036854775807 := by
  simpa [Lit.wf, IntKind.min, IntKind.max, IntKind.signed, IntKind.bits] using h

/-- The alignment that the law makes of its second number. -/
theorem aligned_of (k : Int) : ∃ j : Nat, j ≤ 30 ∧ wrap64 (2 ^ min (IntKind.u64.wrap ((wrap64 (k.tmod 31 + 31)).tmod 31)).toNat 64) = 2 ^ j := by
  have hr : -31 < k.tmod 31 ∧ k.tmod 31 < 31 := ⟨Int.lt_tmod_of_pos k (by decide), Int.tmod_lt_of_pos k (by decide)⟩
  have h1 : wrap64 (k.tmod 31 + 31) = k.tmod 31 + 31 := by unfold wrap64; omega
  have h2 : 0 ≤ (k.tmod 31 + 31).tmod 31 ∧ (k.tmod 31 + 31).tmod 31 ≤ 30 := by rw [Int.tmod_eq_emod_of_nonneg (by omega)]; omega
  have h3 : IntKind.u64.wrap ((k.tmod 31 + 31).tmod 31) = (k.tmod 31 + 31).tmod 31 := by rw [IntKind.wrap_u64]; omega
  rw [h1, h3]
  refine ⟨((k.tmod 31 + 31).tmod 31).toNat, by omega, ?_⟩
  have h4 : min ((k.tmod 31 + 31).tmod 31).toNat 64 = ((k.tmod 31 + 31).tmod 31).toNat := by omega
  rw [h4]
  have h5 := pow_le_i (show ((k.tmod 31 + 31).tmod 31).toNat ≤ 30 by omega)
  have h6 := pow_pos_i ((k.tmod 31 + 31).tmod 31).toNat
  unfold wrap64; omega

theorem powB_two (j : Nat) (hj : j ≤ 30) : powB (2 ^ j) = true := by
  have h5 := pow_le_i hj
  have h6 := pow_pos_i j
  simp only [powB, pow2_and j hj]
  simp; omega

/-- What an aligned number is. -/
theorem aligned_is (n a : Int) (hp : powB a = true) (h0 : 0 ≤ n) (h1 : n ≤ 9223372036854775807 - (a - 1)) :
    alignE n a = 0 ∧ alignV n a % a = 0 ∧ n ≤ alignV n a ∧ alignV n a - n < a ∧ alignE (alignV n a) a = 0 ∧ alignV (alignV n a) a = alignV n a := by
  obtain ⟨p0, p1, p2⟩ := powB_of a hp
  have e : alignE n a = 0 := by simp [alignE, hp]; omega
  have v : alignV n a = (n + a - 1) / a * a := by simp [alignV, e]
  have m : alignV n a % a = 0 := by rw [v]; exact Int.mul_emod_left _ _
  have r0 := Int.emod_nonneg (n + a - 1) (show a ≠ 0 by omega)
  have r1 := Int.emod_lt_of_pos (n + a - 1) (show 0 < a by omega)
  have d := Int.emod_add_mul_ediv (n + a - 1) a
  have c := Int.mul_comm a ((n + a - 1) / a)
  have lo : n ≤ alignV n a := by rw [v]; omega
  have hi : alignV n a - n < a := by rw [v]; omega
  have top : alignV n a ≤ 9223372036854775807 - (a - 1) := by
    obtain ⟨j, hj, rfl⟩ := pow2_of a p0 p1 p2
    have e63 : (9223372036854775807 : Int) - (2 ^ j - 1) = (2 ^ (63 - j) - 1) * 2 ^ j := by
      rw [Int.sub_mul, ← Int.pow_add, show 63 - j + j = 63 from by omega]; omega
    rw [e63] at h1 ⊢
    rw [v]
    apply Int.mul_le_mul_of_nonneg_right _ (by omega)
    apply Int.le_of_lt_add_one
    apply Int.ediv_lt_of_lt_mul (by omega)
    rw [Int.add_mul, Int.one_mul]
    omega
  have e2 : alignE (alignV n a) a = 0 := by simp [alignE, hp]; omega
  refine ⟨e, m, lo, hi, e2, ?_⟩
  have u := up_eq (alignV n a) a (by omega)
  rw [m, if_pos rfl] at u
  have : alignV (alignV n a) a = (alignV n a + a - 1) / a * a := by
    show (if alignE (alignV n a) a = 0 then _ else _) = _
    rw [if_pos e2]
  rw [this, u]

theorem lebAligned_walk (n k : Int) (w : World) (hn : (Lit.int .i64 n).wf = true) (hk : (Lit.int .i64 k).wf = true) :
    Calls Try.prog 3 #[.int .i64 n, .int .i64 k] w fun e w' => e = .returned (.bool true) ∧ Below w.heap.size w w' := by
  have bn := i64_bounds hn
  obtain ⟨j, hj, hA⟩ := aligned_of k
  have hp := powB_two j hj
  obtain ⟨A, hA'⟩ : ∃ A : Int, A = 2 ^ j := ⟨_, rfl⟩
  rw [← hA'] at hA hp
  obtain ⟨p0, p1, -⟩ := powB_of A hp
  clear hA' hj hk hn
  by_cases hneg : n < 0
  · obtain ⟨e, m, lo, hi, e2, v2⟩ := aligned_is 0 A hp (by omega) (by omega)
    obtain ⟨X, hX⟩ : ∃ X, alignV 0 A = X := ⟨_, rfl⟩
    rw [hX] at m lo hi e2 v2
    clear hp
    go_enter Try.func3, Try.ntmps3
    go_wp2_with (first
      | (go_at_call 4; refine (align_any _ _ _).mono ?_; rintro e' w' ⟨rfl, rfl⟩)
      | (go_at_call 5; refine (num_any _ _).mono ?_; rintro e' w' ⟨rfl, rfl⟩)
      | (go_at_call 6; refine (knows_any _).mono ?_; rintro e' w1 ⟨rfl, hb⟩))
    go_ret
    exact ⟨rfl, hb⟩
  · by_cases hbig : 9223372036854775807 - (A - 1) < n
    · have e : alignE n A = 11 := by simp [alignE, hp, hbig]
      clear hp
      go_enter Try.func3, Try.ntmps3
      go_wp2_with (first
        | (go_at_call 4; refine (align_any _ _ _).mono ?_; rintro e' w' ⟨rfl, rfl⟩)
        | (go_at_call 5; refine (num_any _ _).mono ?_; rintro e' w' ⟨rfl, rfl⟩)
        | (go_at_call 6; refine (knows_any _).mono ?_; rintro e' w1 ⟨rfl, hb⟩))
      go_ret
      exact ⟨rfl, hb⟩
    · obtain ⟨e, m, lo, hi, e2, v2⟩ := aligned_is n A hp (by omega) (by omega)
      obtain ⟨X, hX⟩ : ∃ X, alignV n A = X := ⟨_, rfl⟩
      rw [hX] at m lo hi e2 v2
      clear hp
      go_enter Try.func3, Try.ntmps3
      go_wp2_with (first
        | (go_at_call 4; refine (align_any _ _ _).mono ?_; rintro e' w' ⟨rfl, rfl⟩)
        | (go_at_call 5; refine (num_any _ _).mono ?_; rintro e' w' ⟨rfl, rfl⟩)
        | (go_at_call 6; refine (knows_any _).mono ?_; rintro e' w1 ⟨rfl, hb⟩))
      go_ret
      exact ⟨rfl, hb⟩
end Go.Proofs.Ytlecnehahmdlaab
