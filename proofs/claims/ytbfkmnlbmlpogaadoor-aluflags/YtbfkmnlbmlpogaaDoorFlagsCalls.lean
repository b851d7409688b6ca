/- The contracts of Pack, Unpack and Cond, the program's and the document's. -/
import Derived.Test.YtbfkmnlbmlpogaaDoorCond
import Derived.Test.YtbfkmnlbmlpogaaDoorRef
import Derived.Test.YtbfkmnlbmlpogaaDoorFive
import Derived.Laws.Bits64b
namespace Go.Proofs.YtbfkmnlbmlpogaaDoor
open Go.ChangeShapes Go.WideShapes Go.ChangeAt Go.RowKit
set_option linter.unusedVariables false
set_option linter.unusedSimpArgs false

/-- Flags as a number. -/
def packV (C P Z S O : Bool) : Int := 2 + bitV C 1 + bitV P 4 + bitV Z 64 + bitV S 128 + bitV O 2048

theorem pack_or (C P Z S O : Bool) : bits .or .u64 (bits .or .u64 (bits .or .u64 (bits .or .u64 (bits .or .u64 2 (bitV C 1)) (bitV P 4)) (bitV Z 64)) (bitV S 128)) (bitV O 2048) = packV C P Z S O := by
  cases C <;> cases P <;> cases Z <;> cases S <;> cases O <;> decide
theorem pack_in (C P Z S O : Bool) : 0 ≤ packV C P Z S O ∧ packV C P Z S O < 18446744073709551616 := by
  cases C <;> cases P <;> cases Z <;> cases S <;> cases O <;> decide
theorem pack_back (C P Z S O : Bool) : tb 0 (packV C P Z S O) = C ∧ tb 2 (packV C P Z S O) = P ∧ tb 6 (packV C P Z S O) = Z ∧ tb 7 (packV C P Z S O) = S ∧ tb 11 (packV C P Z S O) = O := by
  cases C <;> cases P <;> cases Z <;> cases S <;> cases O <;> decide

theorem pack_any (C P Z S O : Bool) (w : World) :
    Calls Tryd.prog 29 #[.agg #[.bool C, .bool P, .bool Z, .bool S, .bool O]] w fun e w' => e = .returned (.int .u64 (packV C P Z S O)) ∧ Below w.heap.size w w' := by
  rw [← pack_or]
  go_enter Tryd.func29, Tryd.ntmps29
  go_wp2
  go_quiet ((go_at_call 52; exact Calls.quiet_of_same (bit_any _ _ _)))
  go_wp2
  go_ret
  exact ⟨rfl, below_drewN (bel_alloc (Below.refl _ _) _) _⟩

theorem rone_any (s : Bool) (b : Int) (w : World) :
    Calls Tryd.prog 53 #[.bool s, .int .u64 b] w fun e w' => e = .returned (.int .u64 (bitV s b)) ∧ w' = w := by
  cases s
  all_goals
    go_enter Tryd.func53, Tryd.ntmps53
    go_wp2
    go_ret
    exact ⟨rfl, rfl⟩

theorem pack_sum (C P Z S O : Bool) : IntKind.u64.wrap (IntKind.u64.wrap (IntKind.u64.wrap (IntKind.u64.wrap (IntKind.u64.wrap (bitV C 1 + 2) + bitV P 4) + bitV Z 64) + bitV S 128) + bitV O 2048) = packV C P Z S O := by
  cases C <;> cases P <;> cases Z <;> cases S <;> cases O <;> decide

theorem rpack_any (C P Z S O : Bool) (w : World) :
    Calls Tryd.prog 30 #[.agg #[.bool C, .bool P, .bool Z, .bool S, .bool O]] w fun e w' => e = .returned (.int .u64 (packV C P Z S O)) ∧ Below w.heap.size w w' := by
  rw [← pack_sum]
  go_enter Tryd.func30, Tryd.ntmps30
  go_wp2
  go_quiet ((go_at_call 53; exact Calls.quiet_of_same (rone_any _ _ _)))
  go_wp2
  go_ret
  exact ⟨rfl, below_drewN (bel_alloc (Below.refl _ _) _) _⟩

theorem and_pow (x : Int) (i : Nat) (h0 : 0 ≤ x) (h1 : x < 18446744073709551616) (hi : i < 64) : (bits .and .u64 x ((2 ^ i : Nat) : Int) != 0) = tb i x := by
  have hp : 2 ^ i < 18446744073709551616 := by
    have := Nat.pow_lt_pow_right (a := 2) (by decide) hi
    exact this
  obtain ⟨m, rfl⟩ : ∃ m : Nat, x = m := ⟨x.toNat, (Int.toNat_of_nonneg h0).symm⟩
  rw [bits_and_u64_nat m (2 ^ i) (by omega) hp]
  unfold tb
  have e : (m : Int) / 2 ^ i % 2 = ((m / 2 ^ i % 2 : Nat) : Int) := by simp
  rw [e]
  by_cases h : m.testBit i = true
  · have h' := h
    rw [Nat.testBit_eq_decide_div_mod_eq] at h'
    have h2 := of_decide_eq_true h'
    have ne : m &&& 2 ^ i ≠ 0 := by
      intro hz
      have := congrArg (fun y => y.testBit i) hz
      simp [h] at this
    rw [h2, Bool.eq_iff_iff]; simp; omega
  · have hf : m.testBit i = false := by simpa using h
    have z : m &&& 2 ^ i = 0 := by
      apply Nat.eq_of_testBit_eq
      intro j
      rw [Nat.testBit_and, Nat.testBit_two_pow, Nat.zero_testBit]
      by_cases hj : i = j
      · subst hj; rw [hf]; rfl
      · simp [hj]
    rw [Nat.testBit_eq_decide_div_mod_eq] at hf
    have h2 := of_decide_eq_false hf
    rw [z, Bool.eq_iff_iff]; simp; omega

theorem unpack_any (x : Int) (w : World) (h0 : 0 ≤ x) (h1 : x < 18446744073709551616) :
    Calls Tryd.prog 31 #[.int .u64 x] w fun e w' => e = .returned (.agg #[.bool (tb 0 x), .bool (tb 2 x), .bool (tb 6 x), .bool (tb 7 x), .bool (tb 11 x)]) ∧ Below w.heap.size w w' := by
  have a0 : (bits .and .u64 x 1 != 0) = tb 0 x := and_pow x 0 h0 h1 (by decide)
  have a1 : (bits .and .u64 x 4 != 0) = tb 2 x := and_pow x 2 h0 h1 (by decide)
  have a2 : (bits .and .u64 x 64 != 0) = tb 6 x := and_pow x 6 h0 h1 (by decide)
  have a3 : (bits .and .u64 x 128 != 0) = tb 7 x := and_pow x 7 h0 h1 (by decide)
  have a4 : (bits .and .u64 x 2048 != 0) = tb 11 x := and_pow x 11 h0 h1 (by decide)
  have b0 : (!(bits .and .u64 x 1 == 0)) = tb 0 x := a0
  have b1 : (!(bits .and .u64 x 4 == 0)) = tb 2 x := a1
  have b2 : (!(bits .and .u64 x 64 == 0)) = tb 6 x := a2
  have b3 : (!(bits .and .u64 x 128 == 0)) = tb 7 x := a3
  have b4 : (!(bits .and .u64 x 2048 == 0)) = tb 11 x := a4
  clear h0 h1
  go_enter Tryd.func31, Tryd.ntmps31
  go_wp2
  refine bodyPost_ret (v := .agg #[.bool (tb 0 x), .bool (tb 2 x), .bool (tb 6 x), .bool (tb 7 x), .bool (tb 11 x)]) (by simp [results, Tryd.results31, go_sem, a0, a1, a2, a3, a4]) rfl ⟨rfl, ?_⟩
  exact bel_alloc (Below.refl _ _) _

theorem bit_tb (x : Int) (i : Nat) : (x / 2 ^ i % 2 == 1) = tb i x := by unfold tb; rw [Bool.eq_iff_iff]; simp

theorem runpack_any (x : Int) (w : World) (h0 : 0 ≤ x) (h1 : x < 18446744073709551616) :
    Calls Tryd.prog 32 #[.int .u64 x] w fun e w' => e = .returned (.agg #[.bool (tb 0 x), .bool (tb 2 x), .bool (tb 6 x), .bool (tb 7 x), .bool (tb 11 x)]) ∧ Below w.heap.size w w' := by
  have B : ∀ i : Nat, i < 64 → ∀ v, Calls Tryd.prog 44 #[.int .u64 x, .int .i64 i] v fun e w' => e = .returned (.int .i64 (x / 2 ^ i % 2)) ∧ w' = v := fun i hi v => rbit_any x i v h0 h1 hi
  have c0 := hid (B 0 (by decide)); have c1 := hid (B 2 (by decide)); have c2 := hid (B 6 (by decide)); have c3 := hid (B 7 (by decide)); have c4 := hid (B 11 (by decide))
  have t0 := bit_tb x 0; have t1 := bit_tb x 2; have t2 := bit_tb x 6; have t3 := bit_tb x 7; have t4 := bit_tb x 11
  clear B h0 h1
  generalize x / 2 ^ 0 % 2 = y0 at *
  generalize x / 2 ^ 2 % 2 = y1 at *
  generalize x / 2 ^ 6 % 2 = y2 at *
  generalize x / 2 ^ 7 % 2 = y3 at *
  generalize x / 2 ^ 11 % 2 = y4 at *
  go_enter Tryd.func32, Tryd.ntmps32
  go_wp2_with (first
    | (go_at_call_of 44 (Value.int IntKind.i64 0); refine (c0.out _).mono ?_; rintro e wn ⟨rfl, hq⟩; subst wn)
    | (go_at_call_of 44 (Value.int IntKind.i64 2); refine (c1.out _).mono ?_; rintro e wn ⟨rfl, hq⟩; subst wn)
    | (go_at_call_of 44 (Value.int IntKind.i64 6); refine (c2.out _).mono ?_; rintro e wn ⟨rfl, hq⟩; subst wn)
    | (go_at_call_of 44 (Value.int IntKind.i64 7); refine (c3.out _).mono ?_; rintro e wn ⟨rfl, hq⟩; subst wn)
    | (go_at_call_of 44 (Value.int IntKind.i64 11); refine (c4.out _).mono ?_; rintro e wn ⟨rfl, hq⟩; subst wn))
  refine bodyPost_ret (v := .agg #[.bool (tb 0 x), .bool (tb 2 x), .bool (tb 6 x), .bool (tb 7 x), .bool (tb 11 x)]) (by simp [results, Tryd.results32, go_sem]) rfl ⟨rfl, ?_⟩
  exact bel_alloc (Below.refl _ _) _

set_option maxRecDepth 4000 in
set_option maxHeartbeats 8000000 in
theorem rcond_yes (c : Int) (C P Z S O : Bool) (w : World) (h0 : 0 ≤ c) (h1 : c < 16) :
    Calls Tryd.prog 28 #[.int .i64 c, .agg #[.bool C, .bool P, .bool Z, .bool S, .bool O]] w fun e w' => e = .returned (.tuple #[.bool (condV c C P Z S O), .int .i64 0]) ∧ Below w.heap.size w w' := by
  obtain rfl | rfl | rfl | rfl | rfl | rfl | rfl | rfl | rfl | rfl | rfl | rfl | rfl | rfl | rfl | rfl : c = 0 ∨ c = 1 ∨ c = 2 ∨ c = 3 ∨ c = 4 ∨ c = 5 ∨ c = 6 ∨ c = 7 ∨ c = 8 ∨ c = 9 ∨ c = 10 ∨ c = 11 ∨ c = 12 ∨ c = 13 ∨ c = 14 ∨ c = 15 := by omega
  all_goals
    cases C <;> cases Z
  all_goals
    go_enter Tryd.func28, Tryd.ntmps28
    go_wp2
    go_ret2
    exact ⟨ret_bi (by first | rfl | (simp [condV, sel8]; done) | (cases S <;> cases O <;> cases P <;> rfl)) _, bel_alloc (Below.refl _ _) _⟩

theorem rcond_no (c : Int) (C P Z S O : Bool) (w : World) (h : c < 0 ∨ 16 ≤ c) (hl : -9223372036854775808 ≤ c) (hr : c ≤ 9223372036854775807) :
    Calls Tryd.prog 28 #[.int .i64 c, .agg #[.bool C, .bool P, .bool Z, .bool S, .bool O]] w fun e w' => e = .returned (.tuple #[.bool false, .int .i64 1]) ∧ Below w.heap.size w w' := by
  cases C <;> cases Z
  all_goals
    rcases h with h | h
  all_goals
    go_enter Tryd.func28, Tryd.ntmps28
    go_wp2
  all_goals go_ret2
  all_goals exact ⟨rfl, bel_alloc (Below.refl _ _) _⟩
end Go.Proofs.YtbfkmnlbmlpogaaDoor
