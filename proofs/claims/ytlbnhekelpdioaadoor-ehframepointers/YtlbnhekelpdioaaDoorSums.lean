/- The contracts of Add, and of the document's own Align, Add and Fits. -/
import Derived.Test.YtlbnhekelpdioaaDoorAlign
import Derived.Test.YtlbnhekelpdioaaDoorAlignPlain
namespace Go.Proofs.YtlbnhekelpdioaaDoor
open Go.ChangeShapes Go.WideShapes Go.ChangeAt Go.RowKit
set_option linter.unusedVariables false

/-- Add's error and number. -/
def addE (a b : Int) : Int := if a + b < -9223372036854775808 ∨ 9223372036854775807 < a + b then 11 else 0
def addV (a b : Int) : Int := if addE a b = 0 then a + b else 0

theorem rfits_any (n b : Int) (s : Bool) (w : World) (hn : -9223372036854775808 ≤ n ∧ n ≤ 9223372036854775807) :
    Calls Tryd.prog 30 #[.int .i64 n, .int .i64 b, .bool s] w fun e w' => e = .returned (.bool (fitsB n b s)) ∧ w' = w := by
  by_cases h0 : 1 ≤ b
  · by_cases h1 : b ≤ 64
    · cases s
      · by_cases hneg : n < 0
        · have F : fitsB n b false = false := by simp [fitsB, show ¬ 0 ≤ n by omega]
          rw [F]; clear F
          go_enter Tryd.func30, Tryd.ntmps30
          go_wp2
          go_ret
          exact ⟨rfl, rfl⟩
        · by_cases h63 : 63 ≤ b
          · have F : fitsB n b false = true := by
              have := pow_le_i (show 63 ≤ b.toNat by omega)
              simp [fitsB, h0, h1]; omega
            rw [F]; clear F
            go_enter Tryd.func30, Tryd.ntmps30
            go_wp2
            go_ret
            exact ⟨rfl, rfl⟩
          · obtain ⟨P, hP⟩ : ∃ P : Int, P = 2 ^ b.toNat := ⟨_, rfl⟩
            have hw : wrap64 (2 ^ b.toNat) = P := by
              have h2 := pow_le_i (show b.toNat ≤ 62 by omega)
              have h3 := pow_pos_i b.toNat
              rw [← hP] at h2 h3 ⊢
              unfold wrap64; omega
            have F : fitsB n b false = decide (n < P) := by simp [fitsB, h0, h1, ← hP, show 0 ≤ n by omega]
            rw [F]; clear F hP
            go_enter Tryd.func30, Tryd.ntmps30
            go_wp2
            go_ret
            exact ⟨ret_bool (by first | rfl | (simp; done) | (simp; omega)), rfl⟩
      · by_cases h64 : b = 64
        · subst h64
          have F : fitsB n 64 true = true := by
            simp [fitsB]; omega
          rw [F]; clear F
          go_enter Tryd.func30, Tryd.ntmps30
          go_wp2
          go_ret
          exact ⟨rfl, rfl⟩
        · have h64' : (b == 64) = false := by simpa using h64
          obtain ⟨P, hP⟩ : ∃ P : Int, P = 2 ^ (b.toNat - 1) := ⟨_, rfl⟩
          have h2 := pow_le_i (show b.toNat - 1 ≤ 62 by omega)
          have h3 := pow_pos_i (b.toNat - 1)
          rw [← hP] at h2 h3
          have hw : wrap64 (2 ^ (b.toNat - 1)) = P := by
            rw [← hP]
            unfold wrap64; omega
          have h4 : P ≤ 4611686018427387904 := h2
          have F : fitsB n b true = (decide (-P ≤ n) && decide (n < P)) := by simp [fitsB, h0, h1, ← hP]
          rw [F]; clear F hP h2
          by_cases hlo : -P ≤ n
          · by_cases hhi : n < P
            all_goals
              go_enter Tryd.func30, Tryd.ntmps30
              go_wp2
              go_ret
              exact ⟨ret_bool (by first | (simp [*]; done) | (simp [*]; omega)), rfl⟩
          · go_enter Tryd.func30, Tryd.ntmps30
            go_wp2
            go_ret
            exact ⟨ret_bool (by first | (simp [*]; done) | (simp [*]; omega)), rfl⟩
    · have F : fitsB n b s = false := by simp [fitsB, h1]
      rw [F]; clear F
      go_enter Tryd.func30, Tryd.ntmps30
      go_wp2
      go_ret
      exact ⟨rfl, rfl⟩
  · have F : fitsB n b s = false := by simp [fitsB, h0]
    rw [F]; clear F
    go_enter Tryd.func30, Tryd.ntmps30
    go_wp2
    go_ret
    exact ⟨rfl, rfl⟩
end Go.Proofs.YtlbnhekelpdioaaDoor
