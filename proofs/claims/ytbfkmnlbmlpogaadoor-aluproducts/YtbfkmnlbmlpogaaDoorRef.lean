/- The contracts of the document's own answers: bits, low bits, signs, flags, sums. -/
import Derived.Test.YtbfkmnlbmlpogaaDoorAnswer
import Derived.Test.YtbfkmnlbmlpogaaDoorRefPlain
import Derived.LoopTactic
namespace Go.Proofs.YtbfkmnlbmlpogaaDoor
open Go.ChangeShapes Go.WideShapes Go.ChangeAt Go.RowKit
set_option linter.unusedVariables false

theorem hid1 {p : Prop} (h : p) : Hid p := h
theorem hid2 {p q : Prop} (h : p) (g : q) : Hid (p ∧ q) := ⟨h, g⟩

theorem rbits_yes {sz : Int} {n : Nat} {c : Int} (h : Wide sz n c) (w : World) :
    Calls Tryd.prog 36 #[.int .i64 sz] w fun e w' => e = .returned (.int .i64 n) ∧ w' = w := by
  rcases h with ⟨rfl, rfl, rfl⟩ | ⟨rfl, rfl, rfl⟩ | ⟨rfl, rfl, rfl⟩
  all_goals
    go_enter Tryd.func36, Tryd.ntmps36
    go_wp2
    go_ret
    exact ⟨rfl, rfl⟩

theorem rbits_no (sz : Int) (h : ¬ (sz = 1 ∨ sz = 4 ∨ sz = 8)) (w : World) :
    Calls Tryd.prog 36 #[.int .i64 sz] w fun e w' => e = .returned (.int .i64 0) ∧ w' = w := by
  have h1 : (sz == 1) = false := by simp; omega
  have h2 : (sz == 4) = false := by simp; omega
  have h3 : (sz == 8) = false := by simp; omega
  clear h
  go_enter Tryd.func36, Tryd.ntmps36
  go_wp2
  go_ret
  exact ⟨rfl, rfl⟩

theorem shr_in (x : Int) (i : Nat) (h0 : 0 ≤ x) (h1 : x < 18446744073709551616) : 0 ≤ x / 2 ^ i ∧ x / 2 ^ i < 18446744073709551616 := by
  have hp := pow_pos_i i
  refine ⟨Int.ediv_nonneg h0 (Int.le_of_lt hp), ?_⟩
  have : x / 2 ^ i ≤ x := Int.ediv_le_self _ h0
  omega

theorem rbit_any (x : Int) (i : Nat) (w : World) (h0 : 0 ≤ x) (h1 : x < 18446744073709551616) (hi : i < 64) :
    Calls Tryd.prog 44 #[.int .u64 x, .int .i64 i] w fun e w' => e = .returned (.int .i64 (x / 2 ^ i % 2)) ∧ w' = w := by
  have e := and_one (x / 2 ^ i) (shr_in x i h0 h1).1 (shr_in x i h0 h1).2
  clear h0 h1
  go_enter Tryd.func44, Tryd.ntmps44
  go_wp2
  go_ret
  exact ⟨ret_int (by first | rfl | (simp; done) | (unfold wrap64; omega)), rfl⟩

theorem rlow_any (x : Int) (n : Nat) (w : World) (h0 : 0 ≤ x) (h1 : x < 18446744073709551616) (hn : n ≤ 64) :
    Calls Tryd.prog 42 #[.int .u64 x, .int .i64 n] w fun e w' => e = .returned (.int .u64 (x % 2 ^ n)) ∧ w' = w := by
  have HX := hid2 h0 h1
  clear h0 h1
  go_enter Tryd.func42, Tryd.ntmps42
  go_wp2
  go_loop [5, 6] (fun r i => ∃ k : Nat, k ≤ n ∧ i = .int .i64 k ∧ r = .int .u64 (x % 2 ^ k)) (fun _ i => n - (intOf i).toNat)
  case atStart => exact ⟨0, Nat.zero_le _, rfl, by simp⟩
  case round =>
    obtain ⟨k, hk, rfl, rfl⟩ := hrel
    by_cases hlt : k < n
    · have st := low_step x k (by omega)
      have bi := bit_in x k
      go_wp2_with (go_at_call 44; refine (rbit_any _ _ _ HX.out.1 HX.out.2 (by omega)).mono ?_; rintro e w' ⟨rfl, rfl⟩)
      go_round
      case rel => exact ⟨k + 1, by omega, by go_num, rfl⟩
      case measure => simp [intOf]; omega
    · have e : k = n := by omega
      subst e
      go_wp2
      go_ret
      exact ⟨rfl, rfl⟩

theorem rtrim_yes (x sz : Int) (n : Nat) (c : Int) (w : World) (h : Wide sz n c) (h0 : 0 ≤ x) (h1 : x < 18446744073709551616) :
    Calls Tryd.prog 14 #[.int .u64 x, .int .i64 sz] w fun e w' => e = .returned (.tuple #[.int .u64 (x % 2 ^ n), .int .i64 0]) ∧ w' = w := by
  have l0 := h.lo; have l1 := h.hi
  have HH : Hid (Wide sz n c) := h
  have HX := hid2 h0 h1
  have hz : ((n : Int) == 0) = false := by simp; omega
  clear h h0 h1
  go_enter Tryd.func14, Tryd.ntmps14
  go_wp2_with (first
    | (go_at_call 36; refine (rbits_yes HH.out _).mono ?_; rintro e w1 ⟨rfl, rfl⟩)
    | (go_at_call 42; refine (rlow_any _ _ _ HX.out.1 HX.out.2 l1).mono ?_; rintro e w1 ⟨rfl, rfl⟩))
  go_ret2
  exact ⟨rfl, rfl⟩

theorem rtrim_no (x sz : Int) (w : World) (h : ¬ (sz = 1 ∨ sz = 4 ∨ sz = 8)) :
    Calls Tryd.prog 14 #[.int .u64 x, .int .i64 sz] w fun e w' => e = .returned (.tuple #[.int .u64 0, .int .i64 1]) ∧ w' = w := by
  have HH := hid1 h
  clear h
  go_enter Tryd.func14, Tryd.ntmps14
  go_wp2_with (go_at_call 36; refine (rbits_no _ HH.out _).mono ?_; rintro e w1 ⟨rfl, rfl⟩)
  go_ret2
  exact ⟨rfl, rfl⟩

theorem ret_ui2 {a b : Int} (h : a = b) (e : Int) : Ending.returned (.tuple #[.int .u64 a, .int .i64 e]) = .returned (.tuple #[.int .u64 b, .int .i64 e]) := by rw [h]

theorem rextend_yes (x sz : Int) (n : Nat) (c : Int) (w : World) (h : Wide sz n c) (h0 : 0 ≤ x) (h1 : x < 18446744073709551616) :
    Calls Tryd.prog 16 #[.int .u64 x, .int .i64 sz] w fun e w' => e = .returned (.tuple #[.int .u64 (sx n x % 18446744073709551616), .int .i64 0]) ∧ w' = w := by
  have l0 := h.lo; have l1 := h.hi
  have HH : Hid (Wide sz n c) := h
  have HX := hid2 h0 h1
  have hz : ((n : Int) == 0) = false := by simp; omega
  have en : ((n : Int) - 1) = ((n - 1 : Nat) : Int) := by omega
  clear h h0 h1
  go_enter Tryd.func16, Tryd.ntmps16
  go_wp2_with (first
    | (go_at_call 36; refine (rbits_yes HH.out _).mono ?_; rintro e w1 ⟨rfl, rfl⟩)
    | (go_at_call 42; refine (rlow_any _ _ _ HX.out.1 HX.out.2 l1).mono ?_; rintro e w1 ⟨rfl, rfl⟩))
  go_loop [7, 8] (fun r i => ∃ k : Nat, n ≤ k ∧ k ≤ 64 ∧ i = .int .i64 k ∧ r = .int .u64 (extTo n x k)) (fun _ i => 64 - (intOf i).toNat)
  case atStart => exact ⟨n, Nat.le_refl _, l1, rfl, by rw [ext_start]⟩
  case round =>
    obtain ⟨k, hk, hk2, rfl, rfl⟩ := hrel
    by_cases hlt : k < 64
    · have st := ext_step n x k hk (by omega)
      have bi := bit_in x (n - 1)
      go_wp2_with (go_at_call 44; refine (rbit_any _ _ _ HX.out.1 HX.out.2 (by omega)).mono ?_; rintro e w' ⟨rfl, rfl⟩)
      go_round
      case rel => exact ⟨k + 1, by omega, by omega, by go_num, rfl⟩
      case measure => simp [intOf]; omega
    · have e : k = 64 := by omega
      subst e
      go_wp2
      go_ret2
      exact ⟨ret_ui2 (ext_end n l0 l1 x) _, rfl⟩

theorem rextend_no (x sz : Int) (w : World) (h : ¬ (sz = 1 ∨ sz = 4 ∨ sz = 8)) :
    Calls Tryd.prog 16 #[.int .u64 x, .int .i64 sz] w fun e w' => e = .returned (.tuple #[.int .u64 0, .int .i64 1]) ∧ w' = w := by
  have HH := hid1 h
  clear h
  go_enter Tryd.func16, Tryd.ntmps16
  go_wp2_with (go_at_call 36; refine (rbits_no _ HH.out _).mono ?_; rintro e w1 ⟨rfl, rfl⟩)
  go_ret2
  exact ⟨rfl, rfl⟩

theorem rflags_any (r : Int) (n : Nat) (w : World) (h0 : 0 ≤ r) (h1 : r < 18446744073709551616) (l0 : 1 ≤ n) (l1 : n ≤ 64) :
    Calls Tryd.prog 38 #[.int .u64 r, .int .i64 n] w fun e w' => e = .returned (resF n false false r) ∧ Below w.heap.size w w' := by
  have HX := hid2 h0 h1
  have en : ((n : Int) - 1) = ((n - 1 : Nat) : Int) := by omega
  clear h0 h1
  go_enter Tryd.func38, Tryd.ntmps38
  go_wp2
  go_loop [5, 6] (fun o i => ∃ k : Nat, k ≤ 8 ∧ i = .int .i64 k ∧ o = .int .i64 (onesTo k r)) (fun _ i => 8 - (intOf i).toNat)
  case atStart => exact ⟨0, by omega, rfl, rfl⟩
  case round =>
    obtain ⟨k, hk, rfl, rfl⟩ := hrel
    have oi := ones_in k r
    have bi := bit_in r k
    by_cases hlt : k < 8
    · go_wp2_with (go_at_call 44; refine (rbit_any _ _ _ HX.out.1 HX.out.2 (by omega)).mono ?_; rintro e w' ⟨rfl, rfl⟩)
      go_round
      case rel => exact ⟨k + 1, by omega, by go_num, rfl⟩
      case measure => simp [intOf]; omega
    · have e : k = 8 := by omega
      subst e
      have tt := top_bit n l0 r
      go_wp2_with (go_at_call 44; refine (rbit_any _ _ _ HX.out.1 HX.out.2 (by omega)).mono ?_; rintro e w' ⟨rfl, rfl⟩)
      refine bodyPost_ret (v := resF n false false r) (by simp [results, Tryd.results38, go_sem, evenB]) rfl ⟨rfl, ?_⟩
      exact bel_alloc (Below.refl _ _) _

/-- The document's sum, bit by bit. -/
theorem rsum_any (a b B k : Int) (t : Bool) (n : Nat) (w : World) (h0 : 0 ≤ a) (h1 : a < 18446744073709551616) (g0 : 0 ≤ b) (g1 : b < 18446744073709551616) (l0 : 1 ≤ n) (l1 : n ≤ 64) (k0 : 0 ≤ k) (k1 : k ≤ 1)
    (hB : ∀ i : Nat, i < 64 → B / 2 ^ i % 2 = if t = true then 1 - b / 2 ^ i % 2 else b / 2 ^ i % 2) :
    Calls Tryd.prog 37 #[.int .u64 a, .int .u64 b, .int .i64 k, .bool t, .int .i64 n] w fun e w' => e = .returned (.tuple #[.int .u64 ((a + B + k) % 2 ^ n), .int .i64 (ci a B k (n - 1)), .int .i64 (ci a B k n)]) ∧ w' = w := by
  have HX := hid2 h0 h1
  have HY := hid2 g0 g1
  have HB := hid1 hB
  clear h0 h1 g0 g1 hB
  go_enter Tryd.func37, Tryd.ntmps37
  go_wp2
  go_loop [2, 13, 14, 15] (fun c r o i => ∃ j : Nat, j ≤ n ∧ i = .int .i64 j ∧ c = .int .i64 (ci a B k j) ∧ r = .int .u64 ((a + B + k) % 2 ^ j) ∧ o = .int .i64 (if j = 0 then 0 else ci a B k (j - 1))) (fun _ _ _ i => n - (intOf i).toNat)
  case atStart => exact ⟨0, by omega, rfl, by rw [ci_zero], by simp, rfl⟩
  case round =>
    obtain ⟨j, hj, rfl, rfl, rfl, rfl⟩ := hrel
    by_cases hlt : j < n
    · have st := sum_step a B k j (by omega)
      have cs := ci_succ a B k j
      have cn := ci_in a B k j k0 k1
      have ba := bit_in a j
      have bb := bit_in b j
      have hb := HB.out j (by omega)
      cases t
      all_goals
        simp only [Bool.false_eq_true, if_false, if_true] at hb
        rw [hb] at st cs
        clear hb
        have CS := hid1 cs
        clear cs
        generalize hcc : ci a B k j = cc at *
        go_wp2_with (first
          | (go_at_call_of 44 (Value.int IntKind.u64 a); refine (rbit_any a _ _ HX.out.1 HX.out.2 (by omega)).mono ?_; rintro e w' ⟨rfl, rfl⟩)
          | (go_at_call_of 44 (Value.int IntKind.u64 b); refine (rbit_any b _ _ HY.out.1 HY.out.2 (by omega)).mono ?_; rintro e w' ⟨rfl, rfl⟩))
        go_round
        case rel => exact ⟨j + 1, by omega, by go_num, by rw [CS.out], rfl, by simp [hcc]⟩
        case measure => simp [intOf]; omega
    · have e : j = n := by omega
      subst e
      have ej : (if j = 0 then 0 else ci a B k (j - 1)) = ci a B k (j - 1) := if_neg (by omega)
      rw [ej]
      go_wp2
      go_ret3
      exact ⟨rfl, rfl⟩
end Go.Proofs.YtbfkmnlbmlpogaaDoor
