/- The contracts of Add, and of the document's own Align, Add and Fits. -/
import Derived.Test.YtlecnehahmdlaaaAlign
import Derived.Test.YtlecnehahmdlaaaAlignPlain
namespace Go.Proofs.Ytlecnehahmdlaaa
open Go.ChangeShapes Go.WideShapes Go.ChangeAt Go.RowKit
set_option linter.unusedVariables false

/-- Add's error and number. -/
def addE (a b : Int) : Int := if a + b < -9223372036854775808 ∨ 9223372036854775807 < a + b then 11 else 0
def addV (a b : Int) : Int := if addE a b = 0 then a + b else 0

theorem add_any (a b : Int) (w : World) (ha : -9223372036854775808 ≤ a ∧ a ≤ 9223372036854775807) (hb : -9223372036854775808 ≤ b ∧ b ≤ 9223372036854775807) :
    Calls Try.prog 28 #[.int .i64 a, .int .i64 b] w fun e w' => e = .returned (.tuple #[.int .i64 (addV a b), .int .i64 (addE a b)]) ∧ w' = w := by
  by_cases ho : a + b < -9223372036854775808 ∨ 9223372036854775807 < a + b
  · have e : addE a b = 11 := by simp [addE, ho]
    have v : addV a b = 0 := by simp [addV, e]
    rw [e, v]; clear e v
    by_cases hp : 0 < b
    · have h1 : 9223372036854775807 - b < a := by omega
      clear ho
      go_enter Try.func28, Try.ntmps28
      go_wp2
      go_ret2
      exact ⟨rfl, rfl⟩
    · have h0 : b < 0 := by omega
      have h1 : a < -9223372036854775808 - b := by omega
      clear ho
      go_enter Try.func28, Try.ntmps28
      go_wp2
      go_ret2
      exact ⟨rfl, rfl⟩
  · have e : addE a b = 0 := by simp [addE, ho]
    have v : addV a b = a + b := by simp [addV, e]
    rw [e, v]; clear e v
    have h1 : -9223372036854775808 ≤ a + b := by omega
    have h2 : a + b ≤ 9223372036854775807 := by omega
    clear ho
    by_cases hp : 0 < b
    · go_enter Try.func28, Try.ntmps28
      go_wp2
      go_ret2
      exact ⟨rfl, rfl⟩
    · by_cases h0 : b < 0
      · go_enter Try.func28, Try.ntmps28
        go_wp2
        go_ret2
        exact ⟨rfl, rfl⟩
      · go_enter Try.func28, Try.ntmps28
        go_wp2
        go_ret2
        exact ⟨rfl, rfl⟩

theorem radd_any (a b : Int) (w : World) (ha : -9223372036854775808 ≤ a ∧ a ≤ 9223372036854775807) (hb : -9223372036854775808 ≤ b ∧ b ≤ 9223372036854775807) :
    Calls Try.prog 30 #[.int .i64 a, .int .i64 b] w fun e w' => e = .returned (.tuple #[.int .i64 (addV a b), .int .i64 (addE a b)]) ∧ w' = w := by
  by_cases hup : 9223372036854775807 < a + b
  · have e : addE a b = 11 := by simp [addE, hup]
    have v : addV a b = 0 := by simp [addV, e]
    have s : wrap64 (a + b) < 0 := by unfold wrap64; omega
    have p1 : 0 < a := by omega
    have p2 : 0 < b := by omega
    rw [e, v]; clear e v
    go_enter Try.func30, Try.ntmps30
    go_wp2
    go_ret2
    exact ⟨rfl, rfl⟩
  · by_cases hdn : a + b < -9223372036854775808
    · have e : addE a b = 11 := by simp [addE, hdn]
      have v : addV a b = 0 := by simp [addV, e]
      have s : 0 ≤ wrap64 (a + b) := by unfold wrap64; omega
      have p1 : a < 0 := by omega
      have p2 : b < 0 := by omega
      rw [e, v]; clear e v
      go_enter Try.func30, Try.ntmps30
      go_wp2
      go_ret2
      exact ⟨rfl, rfl⟩
    · have e : addE a b = 0 := by simp [addE, hup, hdn]
      have v : addV a b = a + b := by simp [addV, e]
      rw [e, v]; clear e v
      by_cases p1 : 0 < a
      · by_cases p2 : 0 < b
        all_goals
          go_enter Try.func30, Try.ntmps30
          go_wp2
          go_ret2
          exact ⟨rfl, rfl⟩
      · by_cases p3 : a < 0
        · by_cases p2 : b < 0
          all_goals
            go_enter Try.func30, Try.ntmps30
            go_wp2
            go_ret2
            exact ⟨rfl, rfl⟩
        · go_enter Try.func30, Try.ntmps30
          go_wp2
          go_ret2
          exact ⟨rfl, rfl⟩

theorem rpower (a : Int) (w : World) :
    Calls Try.prog 48 #[.int .i64 a] w fun e w' => e = .returned (.bool (powB a)) ∧ w' = w := by
  by_cases h0 : 1 ≤ a
  · by_cases h1 : a ≤ 1073741824
    · have e : powB a = (bits .and .i64 a (a - 1) == 0) := by simp [powB, h0, h1]
      rw [e]; clear e
      go_enter Try.func48, Try.ntmps48
      go_wp2
      go_ret
      exact ⟨rfl, rfl⟩
    · have e : powB a = false := by simp [powB, h1]
      rw [e]; clear e
      go_enter Try.func48, Try.ntmps48
      go_wp2
      go_ret
      exact ⟨rfl, rfl⟩
  · have e : powB a = false := by simp [powB, h0]
    rw [e]; clear e
    go_enter Try.func48, Try.ntmps48
    go_wp2
    go_ret
    exact ⟨rfl, rfl⟩

theorem ralign_any (n a : Int) (w : World) (hn : n ≤ 9223372036854775807) :
    Calls Try.prog 29 #[.int .i64 n, .int .i64 a] w fun e w' => e = .returned (.tuple #[.int .i64 (alignV n a), .int .i64 (alignE n a)]) ∧ w' = w := by
  by_cases hp : powB a = true
  · obtain ⟨p0, p1, p2⟩ := powB_of a hp
    by_cases hneg : n < 0
    · have e : alignE n a = 11 := by simp [alignE, hp, hneg]
      have v : alignV n a = 0 := by simp [alignV, e]
      rw [e, v]; clear e v p2
      go_enter Try.func29, Try.ntmps29
      go_wp2_with (go_at_call 48; refine (rpower _ _).mono ?_; rintro e w' ⟨rfl, rfl⟩)
      go_ret2
      exact ⟨rfl, rfl⟩
    · obtain ⟨j, hj, ej⟩ := pow2_of a p0 p1 p2
      obtain ⟨f1, f2⟩ := align_ref n a j hj ej (by omega) hn
      by_cases hr : n % a = 0
      · have e : alignE n a = 0 := by have := f1 hr; simp [alignE, hp]; omega
        have v : alignV n a = n := by simp only [alignV, e]; rw [if_pos trivial, up_eq n a (by omega), if_pos hr]
        rw [e, v]; clear e v p2 ej f1 f2
        go_enter Try.func29, Try.ntmps29
        go_wp2_with (go_at_call 48; refine (rpower _ _).mono ?_; rintro e w' ⟨rfl, rfl⟩)
        go_ret2
        exact ⟨rfl, rfl⟩
      · have hr' : (n % a == 0) = false := by simpa using hr
        have q0 := Int.emod_nonneg n (show a ≠ 0 by omega)
        have q1 := Int.emod_lt_of_pos n (show 0 < a by omega)
        have q2 : n % a ≤ n := by
          have e := Int.emod_add_mul_ediv n a
          have m := Int.mul_nonneg (show 0 ≤ a by omega) (Int.ediv_nonneg (show 0 ≤ n by omega) (show 0 ≤ a by omega))
          omega
        have f2 := f2 hr
        by_cases hbig : 9223372036854775807 - a < n - n % a
        · have hb := f2.1 hbig
          have e : alignE n a = 11 := by simp [alignE, hp, hb]
          have v : alignV n a = 0 := by simp [alignV, e]
          rw [e, v]; clear e v p2 ej f1 f2 hb hr
          go_enter Try.func29, Try.ntmps29
          go_wp2_with (go_at_call 48; refine (rpower _ _).mono ?_; rintro e w' ⟨rfl, rfl⟩)
          go_ret2
          exact ⟨rfl, rfl⟩
        · have hb : ¬ 9223372036854775807 - (a - 1) < n := fun h => hbig (f2.2 h)
          have e : alignE n a = 0 := by simp [alignE, hp]; omega
          have v : alignV n a = n - n % a + a := by simp only [alignV, e]; rw [if_pos trivial, up_eq n a (by omega), if_neg hr]
          rw [e, v]; clear e v p2 ej f1 f2 hb hr
          go_enter Try.func29, Try.ntmps29
          go_wp2_with (go_at_call 48; refine (rpower _ _).mono ?_; rintro e w' ⟨rfl, rfl⟩)
          go_ret2
          exact ⟨rfl, rfl⟩
  · have hp : powB a = false := by simpa using hp
    have e : alignE n a = 1 := by simp [alignE, hp]
    have v : alignV n a = 0 := by simp [alignV, e]
    rw [e, v]; clear e v
    go_enter Try.func29, Try.ntmps29
    go_wp2_with (go_at_call 48; refine (rpower _ _).mono ?_; rintro e w' ⟨rfl, rfl⟩)
    go_ret2
    exact ⟨rfl, rfl⟩

theorem rfits_any (n b : Int) (s : Bool) (w : World) (hn : -9223372036854775808 ≤ n ∧ n ≤ 9223372036854775807) :
    Calls Try.prog 32 #[.int .i64 n, .int .i64 b, .bool s] w fun e w' => e = .returned (.bool (fitsB n b s)) ∧ w' = w := by
  by_cases h0 : 1 ≤ b
  · by_cases h1 : b ≤ 64
    · cases s
      · by_cases hneg : n < 0
        · have F : fitsB n b false = false := by simp [fitsB, show ¬ 0 ≤ n by omega]
          rw [F]; clear F
          go_enter Try.func32, Try.ntmps32
          go_wp2
          go_ret
          exact ⟨rfl, rfl⟩
        · by_cases h63 : 63 ≤ b
          · have F : fitsB n b false = true := by
              have := pow_le_i (show 63 ≤ b.toNat by omega)
              simp [fitsB, h0, h1]; omega
            rw [F]; clear F
            go_enter Try.func32, Try.ntmps32
            go_wp2
            go_ret
            exact ⟨rfl, rfl⟩
          · obtain ⟨P, hP⟩ : ∃ P : Int, P = 2 ^ b.toNat := ⟨_, rfl⟩
            have hw : wrap64 (2 ^ b.toNat) = P := by
              have h2 := pow_le_i (show b.toNat ≤ 62 by omega)
              have h3 := pow_pos_i b.toNat
              rw [← hP] at h2 h3 ⊢
              unfold wrap64; omega
            have F : fitsB n b false = decide (n < P) := by simp [fitsB, h0, h1, ← hP, show 0 ≤ n by omega]
            rw [F]; clear F hP
            go_enter Try.func32, Try.ntmps32
            go_wp2
            go_ret
            exact ⟨ret_bool (by first | rfl | (simp; done) | (simp; omega)), rfl⟩
      · by_cases h64 : b = 64
        · subst h64
          have F : fitsB n 64 true = true := by
            simp [fitsB]; omega
          rw [F]; clear F
          go_enter Try.func32, Try.ntmps32
          go_wp2
          go_ret
          exact ⟨rfl, rfl⟩
        · have h64' : (b == 64) = false := by simpa using h64
          obtain ⟨P, hP⟩ : ∃ P : Int, P = 2 ^ (b.toNat - 1) := ⟨_, rfl⟩
          have h2 := pow_le_i (show b.toNat - 1 ≤ 62 by omega)
          have h3 := pow_pos_i (b.toNat - 1)
          rw [← hP] at h2 h3
          have hw : wrap64 (2 ^ (b.toNat - 1)) = P := by
            rw [← hP]
            unfold wrap64; omega
          have h4 : P ≤ 4611686018427387904 := h2
          have F : fitsB n b true = (decide (-P ≤ n) && decide (n < P)) := by simp [fitsB, h0, h1, ← hP]
          rw [F]; clear F hP h2
          by_cases hlo : -P ≤ n
          · by_cases hhi : n < P
            all_goals
              go_enter Try.func32, Try.ntmps32
              go_wp2
              go_ret
              exact ⟨ret_bool (by first | (simp [*]; done) | (simp [*]; omega)), rfl⟩
          · go_enter Try.func32, Try.ntmps32
            go_wp2
            go_ret
            exact ⟨ret_bool (by first | (simp [*]; done) | (simp [*]; omega)), rfl⟩
    · have F : fitsB n b s = false := by simp [fitsB, h1]
      rw [F]; clear F
      go_enter Try.func32, Try.ntmps32
      go_wp2
      go_ret
      exact ⟨rfl, rfl⟩
  · have F : fitsB n b s = false := by simp [fitsB, h0]
    rw [F]; clear F
    go_enter Try.func32, Try.ntmps32
    go_wp2
    go_ret
    exact ⟨rfl, rfl⟩
end Go.Proofs.Ytlecnehahmdlaaa
