/- Shift is the document's shift; the walk of AluShifts. -/
import Derived.Test.YtbfkmnlbmlpogaaDoorShiftErr
namespace Go.Proofs.YtbfkmnlbmlpogaaDoor
open Go.ChangeShapes Go.WideShapes Go.ChangeAt Go.RowKit
set_option linter.unusedVariables false
set_option linter.unusedSimpArgs false

theorem wraps63 (n : Int) (h0 : 0 ≤ n) (h1 : n < 2 ^ 63) : IntKind.i64.wrap n = n := by rw [IntKind.wrap_i64]; omega
theorem msk31 (x : Int) (h0 : 0 ≤ x) (h1 : x ≤ 255) : bits .and .i64 x 31 = x % 32 := bits_mask .i64 63 (by decide) wraps63 5 (by decide) x h0 (by omega)
theorem msk63 (x : Int) (h0 : 0 ≤ x) (h1 : x ≤ 255) : bits .and .i64 x 63 = x % 64 := bits_mask .i64 63 (by decide) wraps63 6 (by decide) x h0 (by omega)

theorem u64_in {a : Int} (h : (Lit.int .u64 a).wf = true) : 0 ≤ a ∧ a < 18446744073709551616 := by
  have : 0 ≤ a ∧ a ≤ 18446744073709551615 := by simpa [Lit.wf, IntKind.min, IntKind.max, IntKind.signed, IntKind.bits] using h
  omega

/-- What both say of a shift. -/
def SameShift (op a k sz : Int) (oC oP oZ oS oO : Bool) : Prop :=
  ∃ (x : Int) (C P Z S O : Bool) (e0 : Int),
    (∀ v, Wd v → Calls Tryd.prog 23 #[.int .i64 op, .int .u64 a, .int .i64 k, .agg #[.bool oC, .bool oP, .bool oZ, .bool oS, .bool oO], .int .i64 sz] v fun e w' => e = .returned (.tuple #[.int .u64 x, .agg #[.bool C, .bool P, .bool Z, .bool S, .bool O], .int .i64 e0]) ∧ Below v.heap.size v w') ∧
    (∀ v, Calls Tryd.prog 24 #[.int .i64 op, .int .u64 a, .int .i64 k, .agg #[.bool oC, .bool oP, .bool oZ, .bool oS, .bool oO], .int .i64 sz] v fun e w' => e = .returned (.tuple #[.int .u64 x, .agg #[.bool C, .bool P, .bool Z, .bool S, .bool O], .int .i64 e0]) ∧ Below v.heap.size v w')

theorem same_shift_1 (op a k : Int) (oC oP oZ oS oO : Bool) (ho : op = 17 ∨ op = 18 ∨ op = 19) (k0 : 0 ≤ k) (k1 : k ≤ 255) (h0 : 0 ≤ a) (h1 : a < 18446744073709551616) : SameShift op a k 1 oC oP oZ oS oO := by
  have h : Wide 1 8 31 := .inl ⟨rfl, rfl, rfl⟩
  obtain ⟨m, hm⟩ : ∃ m : Nat, k % 32 = (m : Int) := ⟨(k % 32).toNat, by omega⟩
  have mb : m ≤ 63 := by omega
  have em : bits .and .i64 k 31 = (m : Int) := by rw [msk31 k k0 k1, hm]
  by_cases m0 : m = 0
  · subst m0
    obtain ⟨J, hJ⟩ := shiftOf_func op ho
    exact ⟨_, _, _, _, _, _, _, fun v hv => shift_none op J 1 8 31 a k oC oP oZ oS oO v h hv k0 k1 em hJ,
      fun v => rshift_1 op a k 0 oC oP oZ oS oO _ _ _ _ _ _ v ho k0 k1 hm (fun v => rsh_none op a oC oP oZ oS oO 8 v (by decide) h0 h1)⟩
  · have mz : ((m : Int) == 0) = false := by simp; omega
    rcases ho with rfl | rfl | rfl
    · have A := fun v hv => answer_shifted 63 1 8 31 a m _ _ _ v h hv enters_shl (fun v => shl_any 1 31 8 a m v (by decide) (by decide) (by omega) (by omega))
      have e : a % 2 ^ 8 * 2 ^ m % 18446744073709551616 % 2 ^ 8 = a * 2 ^ m % 2 ^ 8 := by rw [mod64 8 (by decide), mul_low]
      simp only [e] at A
      exact ⟨_, _, _, _, _, _, _, fun v hv => shift_run 17 _ 1 8 31 a k m oC oP oZ oS oO _ _ _ _ _ _ v h hv k0 k1 em mz shiftOf_shl A,
        fun v => rshift_1 17 a k m oC oP oZ oS oO _ _ _ _ _ _ v (.inl rfl) k0 k1 hm (fun v => rsh_shl a m oC oP oZ oS oO 8 v (by decide) (by decide) (by omega) (by omega) h0 h1)⟩
    · have A := fun v hv => answer_shifted 64 1 8 31 a m _ _ _ v h hv enters_shr (fun v => shr_any 1 31 8 a m v (by decide) (by decide) (by omega) (by omega))
      have e : a % 2 ^ 8 / 2 ^ m % 2 ^ 8 = a % 2 ^ 8 / 2 ^ m := Int.emod_eq_of_lt (Int.ediv_nonneg (Int.emod_nonneg a (Int.ne_of_gt (pow_pos_i 8))) (Int.le_of_lt (pow_pos_i m))) (Int.lt_of_le_of_lt (Int.ediv_le_self _ (Int.emod_nonneg a (Int.ne_of_gt (pow_pos_i 8)))) (Int.emod_lt_of_pos a (pow_pos_i 8)))
      simp only [e] at A
      exact ⟨_, _, _, _, _, _, _, fun v hv => shift_run 18 _ 1 8 31 a k m oC oP oZ oS oO _ _ _ _ _ _ v h hv k0 k1 em mz shiftOf_shr A,
        fun v => rshift_1 18 a k m oC oP oZ oS oO _ _ _ _ _ _ v (.inr (.inl rfl)) k0 k1 hm (fun v => rsh_shr a m oC oP oZ oS oO 8 v (by decide) (by decide) (by omega) (by omega) h0 h1)⟩
    · have A := fun v hv => answer_shifted 65 1 8 31 a m _ _ _ v h hv enters_sar (fun v => sar_any 1 31 8 a m v (by decide) (by decide) (by omega) (by omega))
      have e : sx 8 a / 2 ^ m % 18446744073709551616 % 2 ^ 8 = sx 8 a / 2 ^ m % 2 ^ 8 := mod64 8 (by decide) _
      simp only [e] at A
      exact ⟨_, _, _, _, _, _, _, fun v hv => shift_run 19 _ 1 8 31 a k m oC oP oZ oS oO _ _ _ _ _ _ v h hv k0 k1 em mz shiftOf_sar A,
        fun v => rshift_1 19 a k m oC oP oZ oS oO _ _ _ _ _ _ v (.inr (.inr rfl)) k0 k1 hm (fun v => rsh_sar a m oC oP oZ oS oO 8 v (by decide) (by decide) (by omega) (by omega) h0 h1)⟩

theorem same_shift_4 (op a k : Int) (oC oP oZ oS oO : Bool) (ho : op = 17 ∨ op = 18 ∨ op = 19) (k0 : 0 ≤ k) (k1 : k ≤ 255) (h0 : 0 ≤ a) (h1 : a < 18446744073709551616) : SameShift op a k 4 oC oP oZ oS oO := by
  have h : Wide 4 32 31 := .inr (.inl ⟨rfl, rfl, rfl⟩)
  obtain ⟨m, hm⟩ : ∃ m : Nat, k % 32 = (m : Int) := ⟨(k % 32).toNat, by omega⟩
  have mb : m ≤ 63 := by omega
  have em : bits .and .i64 k 31 = (m : Int) := by rw [msk31 k k0 k1, hm]
  by_cases m0 : m = 0
  · subst m0
    obtain ⟨J, hJ⟩ := shiftOf_func op ho
    exact ⟨_, _, _, _, _, _, _, fun v hv => shift_none op J 4 32 31 a k oC oP oZ oS oO v h hv k0 k1 em hJ,
      fun v => rshift_4 op a k 0 oC oP oZ oS oO _ _ _ _ _ _ v ho k0 k1 hm (fun v => rsh_none op a oC oP oZ oS oO 32 v (by decide) h0 h1)⟩
  · have mz : ((m : Int) == 0) = false := by simp; omega
    rcases ho with rfl | rfl | rfl
    · have A := fun v hv => answer_shifted 63 4 32 31 a m _ _ _ v h hv enters_shl (fun v => shl_any 4 31 32 a m v (by decide) (by decide) (by omega) (by omega))
      have e : a % 2 ^ 32 * 2 ^ m % 18446744073709551616 % 2 ^ 32 = a * 2 ^ m % 2 ^ 32 := by rw [mod64 32 (by decide), mul_low]
      simp only [e] at A
      exact ⟨_, _, _, _, _, _, _, fun v hv => shift_run 17 _ 4 32 31 a k m oC oP oZ oS oO _ _ _ _ _ _ v h hv k0 k1 em mz shiftOf_shl A,
        fun v => rshift_4 17 a k m oC oP oZ oS oO _ _ _ _ _ _ v (.inl rfl) k0 k1 hm (fun v => rsh_shl a m oC oP oZ oS oO 32 v (by decide) (by decide) (by omega) (by omega) h0 h1)⟩
    · have A := fun v hv => answer_shifted 64 4 32 31 a m _ _ _ v h hv enters_shr (fun v => shr_any 4 31 32 a m v (by decide) (by decide) (by omega) (by omega))
      have e : a % 2 ^ 32 / 2 ^ m % 2 ^ 32 = a % 2 ^ 32 / 2 ^ m := Int.emod_eq_of_lt (Int.ediv_nonneg (Int.emod_nonneg a (Int.ne_of_gt (pow_pos_i 32))) (Int.le_of_lt (pow_pos_i m))) (Int.lt_of_le_of_lt (Int.ediv_le_self _ (Int.emod_nonneg a (Int.ne_of_gt (pow_pos_i 32)))) (Int.emod_lt_of_pos a (pow_pos_i 32)))
      simp only [e] at A
      exact ⟨_, _, _, _, _, _, _, fun v hv => shift_run 18 _ 4 32 31 a k m oC oP oZ oS oO _ _ _ _ _ _ v h hv k0 k1 em mz shiftOf_shr A,
        fun v => rshift_4 18 a k m oC oP oZ oS oO _ _ _ _ _ _ v (.inr (.inl rfl)) k0 k1 hm (fun v => rsh_shr a m oC oP oZ oS oO 32 v (by decide) (by decide) (by omega) (by omega) h0 h1)⟩
    · have A := fun v hv => answer_shifted 65 4 32 31 a m _ _ _ v h hv enters_sar (fun v => sar_any 4 31 32 a m v (by decide) (by decide) (by omega) (by omega))
      have e : sx 32 a / 2 ^ m % 18446744073709551616 % 2 ^ 32 = sx 32 a / 2 ^ m % 2 ^ 32 := mod64 32 (by decide) _
      simp only [e] at A
      exact ⟨_, _, _, _, _, _, _, fun v hv => shift_run 19 _ 4 32 31 a k m oC oP oZ oS oO _ _ _ _ _ _ v h hv k0 k1 em mz shiftOf_sar A,
        fun v => rshift_4 19 a k m oC oP oZ oS oO _ _ _ _ _ _ v (.inr (.inr rfl)) k0 k1 hm (fun v => rsh_sar a m oC oP oZ oS oO 32 v (by decide) (by decide) (by omega) (by omega) h0 h1)⟩

theorem same_shift_8 (op a k : Int) (oC oP oZ oS oO : Bool) (ho : op = 17 ∨ op = 18 ∨ op = 19) (k0 : 0 ≤ k) (k1 : k ≤ 255) (h0 : 0 ≤ a) (h1 : a < 18446744073709551616) : SameShift op a k 8 oC oP oZ oS oO := by
  have h : Wide 8 64 63 := .inr (.inr ⟨rfl, rfl, rfl⟩)
  obtain ⟨m, hm⟩ : ∃ m : Nat, k % 64 = (m : Int) := ⟨(k % 64).toNat, by omega⟩
  have mb : m ≤ 63 := by omega
  have em : bits .and .i64 k 63 = (m : Int) := by rw [msk63 k k0 k1, hm]
  by_cases m0 : m = 0
  · subst m0
    obtain ⟨J, hJ⟩ := shiftOf_func op ho
    exact ⟨_, _, _, _, _, _, _, fun v hv => shift_none op J 8 64 63 a k oC oP oZ oS oO v h hv k0 k1 em hJ,
      fun v => rshift_8 op a k 0 oC oP oZ oS oO _ _ _ _ _ _ v ho k0 k1 hm (fun v => rsh_none op a oC oP oZ oS oO 64 v (by decide) h0 h1)⟩
  · have mz : ((m : Int) == 0) = false := by simp; omega
    rcases ho with rfl | rfl | rfl
    · have A := fun v hv => answer_shifted 63 8 64 63 a m _ _ _ v h hv enters_shl (fun v => shl_any 8 63 64 a m v (by decide) (by decide) (by omega) (by omega))
      have e : a % 2 ^ 64 * 2 ^ m % 18446744073709551616 % 2 ^ 64 = a * 2 ^ m % 2 ^ 64 := by rw [mod64 64 (by decide), mul_low]
      simp only [e] at A
      exact ⟨_, _, _, _, _, _, _, fun v hv => shift_run 17 _ 8 64 63 a k m oC oP oZ oS oO _ _ _ _ _ _ v h hv k0 k1 em mz shiftOf_shl A,
        fun v => rshift_8 17 a k m oC oP oZ oS oO _ _ _ _ _ _ v (.inl rfl) k0 k1 hm (fun v => rsh_shl a m oC oP oZ oS oO 64 v (by decide) (by decide) (by omega) (by omega) h0 h1)⟩
    · have A := fun v hv => answer_shifted 64 8 64 63 a m _ _ _ v h hv enters_shr (fun v => shr_any 8 63 64 a m v (by decide) (by decide) (by omega) (by omega))
      have e : a % 2 ^ 64 / 2 ^ m % 2 ^ 64 = a % 2 ^ 64 / 2 ^ m := Int.emod_eq_of_lt (Int.ediv_nonneg (Int.emod_nonneg a (Int.ne_of_gt (pow_pos_i 64))) (Int.le_of_lt (pow_pos_i m))) (Int.lt_of_le_of_lt (Int.ediv_le_self _ (Int.emod_nonneg a (Int.ne_of_gt (pow_pos_i 64)))) (Int.emod_lt_of_pos a (pow_pos_i 64)))
      simp only [e] at A
      exact ⟨_, _, _, _, _, _, _, fun v hv => shift_run 18 _ 8 64 63 a k m oC oP oZ oS oO _ _ _ _ _ _ v h hv k0 k1 em mz shiftOf_shr A,
        fun v => rshift_8 18 a k m oC oP oZ oS oO _ _ _ _ _ _ v (.inr (.inl rfl)) k0 k1 hm (fun v => rsh_shr a m oC oP oZ oS oO 64 v (by decide) (by decide) (by omega) (by omega) h0 h1)⟩
    · have A := fun v hv => answer_shifted 65 8 64 63 a m _ _ _ v h hv enters_sar (fun v => sar_any 8 63 64 a m v (by decide) (by decide) (by omega) (by omega))
      have e : sx 64 a / 2 ^ m % 18446744073709551616 % 2 ^ 64 = sx 64 a / 2 ^ m % 2 ^ 64 := mod64 64 (by decide) _
      simp only [e] at A
      exact ⟨_, _, _, _, _, _, _, fun v hv => shift_run 19 _ 8 64 63 a k m oC oP oZ oS oO _ _ _ _ _ _ v h hv k0 k1 em mz shiftOf_sar A,
        fun v => rshift_8 19 a k m oC oP oZ oS oO _ _ _ _ _ _ v (.inr (.inr rfl)) k0 k1 hm (fun v => rsh_sar a m oC oP oZ oS oO 64 v (by decide) (by decide) (by omega) (by omega) h0 h1)⟩

theorem wide_of (sz : Int) (h : sz = 1 ∨ sz = 4 ∨ sz = 8) : ∃ n c, Wide sz n c := by
  rcases h with h | h | h
  · exact ⟨8, 31, .inl ⟨h, rfl, rfl⟩⟩
  · exact ⟨32, 31, .inr (.inl ⟨h, rfl, rfl⟩)⟩
  · exact ⟨64, 63, .inr (.inr ⟨h, rfl, rfl⟩)⟩

theorem same_shift (op a k sz : Int) (oC oP oZ oS oO : Bool) (h0 : 0 ≤ a) (h1 : a < 18446744073709551616) : SameShift op a k sz oC oP oZ oS oO := by
  by_cases hs : sz = 1 ∨ sz = 4 ∨ sz = 8
  · obtain ⟨n, c, h⟩ := wide_of sz hs
    by_cases ho : op = 17 ∨ op = 18 ∨ op = 19
    · by_cases k0 : k < 0
      · obtain ⟨J, hJ⟩ := shiftOf_func op ho
        exact ⟨_, _, _, _, _, _, _, fun v hv => shift_low op sz a k n c J oC oP oZ oS oO v hv h k0 hJ, fun v => rshift_low op sz a k n c oC oP oZ oS oO v h ho k0⟩
      · by_cases k1 : 255 < k
        · obtain ⟨J, hJ⟩ := shiftOf_func op ho
          exact ⟨_, _, _, _, _, _, _, fun v hv => shift_high op sz a k n c J oC oP oZ oS oO v hv h k1 hJ, fun v => rshift_high op sz a k n c oC oP oZ oS oO v h ho k1⟩
        · rcases hs with rfl | rfl | rfl
          · exact same_shift_1 op a k oC oP oZ oS oO ho (by omega) (by omega) h0 h1
          · exact same_shift_4 op a k oC oP oZ oS oO ho (by omega) (by omega) h0 h1
          · exact same_shift_8 op a k oC oP oZ oS oO ho (by omega) (by omega) h0 h1
    · exact ⟨_, _, _, _, _, _, _, fun v hv => shift_op op sz a k n c oC oP oZ oS oO v hv h (fun v => shiftOf_no op v ho), fun v => rshift_op op sz a k n c oC oP oZ oS oO v h ho⟩
  · obtain ⟨fv, hf⟩ := shiftOf_any op
    exact ⟨_, _, _, _, _, _, _, fun v hv => shift_size op sz a k fv oC oP oZ oS oO v hv hs hf, fun v => rshift_size op sz a k oC oP oZ oS oO v hs⟩

set_option maxRecDepth 4000 in
set_option maxHeartbeats 1000000 in
theorem aluShifts_walk (op a k : Int) (C P Z S O : Bool) (sz : Int) (w : World) (ho : (Lit.int .i64 op).wf = true) (ha : (Lit.int .u64 a).wf = true) (hk : (Lit.int .i64 k).wf = true) (hs : (Lit.int .i64 sz).wf = true) (hw : Wd w) :
    Calls Tryd.prog 5 #[.int .i64 op, .int .u64 a, .int .i64 k, .agg #[.bool C, .bool P, .bool Z, .bool S, .bool O], .int .i64 sz] w fun e w' => e = .returned (.bool true) ∧ Below w.heap.size w w' := by
  obtain ⟨h0, h1⟩ := u64_in ha
  obtain ⟨x1, C1, P1, Z1, S1, O1, e1, A1, R1⟩ := same_shift op a k sz C P Z S O h0 h1
  have HA1 := hid A1; have HR1 := hid R1
  have HW := hid hw
  have fe := flags_eq
  clear A1 R1 ha hk hs ho h0 h1 hw
  go_enter Tryd.func5, Tryd.ntmps5
  go_wp2_with fail
  refine (HA1.out _ (HW.out.alloc _)).mono ?_; rintro e w1 ⟨rfl, hb1⟩
  have W1 := hid ((HW.out.alloc _).bel hb1)
  have L1 := hid ((Fl.new w C P Z S O 24).bel hb1)
  have B1 := hid (bel_trans (bel_alloc (Below.refl _ _) _) hb1)
  have z1 : w.heap.size < w1.heap.size := L1.out.lt
  clear hb1
  obtain ⟨l0, l1, l2, l3, l4, _, _, _, _, _⟩ := L1.out
  go_wp2_with fail
  clear l0 l1 l2 l3 l4
  refine (HR1.out _).mono ?_; rintro e w2 ⟨rfl, hb2⟩
  have W2 := hid ((W1.out.alloc _).bel hb2)
  obtain ⟨c0, c1, c2, c3, c4, _, _, _, _, _⟩ := (Fl.new w1 C1 P1 Z1 S1 O1 24).bel hb2
  have B2 := hid (bel_trans (bel_alloc B1.out _) hb2)
  have z2 : w1.heap.size < w2.heap.size := World.block_lt_of_cell? w2 ⟨w1.heap.size, 0, none⟩ c0
  clear hb2
  go_wp2_with (first
    | (go_at_call 17; refine (num_any _ _).mono ?_; rintro e wn ⟨rfl, hq⟩; subst wn)
    | (go_at_call 18; refine (live_any _ (W2.out.alloc _)).mono ?_; rintro e w9 ⟨rfl, hb9⟩))
  go_ret
  exact ⟨rfl, bel_trans (bel_alloc B2.out _) hb9⟩
end Go.Proofs.YtbfkmnlbmlpogaaDoor
