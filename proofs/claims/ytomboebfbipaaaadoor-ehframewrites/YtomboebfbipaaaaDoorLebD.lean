/- The contract of Align, for every number and every alignment. The contracts of Add, and of the document's own Align, Add and Fits. -/
import Derived.Test.YtomboebfbipaaaaDoorLebB
import Derived.Test.YtomboebfbipaaaaDoorLebA
namespace Go.Proofs.YtomboebfbipaaaaDoor
open Go.ChangeShapes Go.WideShapes Go.ChangeAt Go.RowKit
set_option linter.unusedVariables false

/-- A power of 2 from 1 to 2^30. -/
def powB (a : Int) : Bool := decide (1 ≤ a) && decide (a ≤ 1073741824) && (bits .and .i64 a (a - 1) == 0)

/-- Align's error. -/
def alignE (n a : Int) : Int := if powB a = true then (if n < 0 ∨ 9223372036854775807 - (a - 1) < n then 11 else 0) else 1
/-- Align's number. -/
def alignV (n a : Int) : Int := if alignE n a = 0 then (n + a - 1) / a * a else 0

theorem powB_of (a : Int) (h : powB a = true) : 1 ≤ a ∧ a ≤ 1073741824 ∧ bits .and .i64 a (a - 1) = 0 := by
  simpa [powB, and_assoc] using h

theorem align_num (n a : Int) (h : powB a = true) (h0 : 0 ≤ n) (h1 : n ≤ 9223372036854775807 - (a - 1)) : bits .andNot .i64 (n + a - 1) (a - 1) = (n + a - 1) / a * a := by
  obtain ⟨p0, p1, p2⟩ := powB_of a h
  obtain ⟨j, hj, rfl⟩ := pow2_of a p0 p1 p2
  exact andNot_mask _ j (by omega) (by omega) (by omega)

theorem ret_2 {k k' : IntKind} {a b c d : Int} (h : a = b) (h' : c = d) : Ending.returned (.tuple #[.int k a, .int k' c]) = .returned (.tuple #[.int k b, .int k' d]) := by rw [h, h']

theorem align_any (n a : Int) (w : World) :
    Calls Tryd.prog 80 #[.int .i64 n, .int .i64 a] w fun e w' => e = .returned (.tuple #[.int .i64 (alignV n a), .int .i64 (alignE n a)]) ∧ w' = w := by
  by_cases hp : powB a = true
  · obtain ⟨p0, p1, p2⟩ := powB_of a hp
    have t : (bits .and .i64 a (a - 1) != 0) = false := by simp [p2]
    by_cases hn : n < 0
    · have e : alignE n a = 11 := by simp [alignE, hp, hn]
      have v : alignV n a = 0 := by simp [alignV, e]
      rw [e, v]; clear e v p2 hp
      go_enter Tryd.func80, Tryd.ntmps80
      go_wp2
      go_ret2
      exact ⟨rfl, rfl⟩
    · by_cases hm : 9223372036854775807 - (a - 1) < n
      · have e : alignE n a = 11 := by simp [alignE, hp, hm]
        have v : alignV n a = 0 := by simp [alignV, e]
        rw [e, v]; clear e v p2 hp
        go_enter Tryd.func80, Tryd.ntmps80
        go_wp2
        go_ret2
        exact ⟨rfl, rfl⟩
      · have e : alignE n a = 0 := by simp [alignE, hp]; omega
        have v : alignV n a = bits .andNot .i64 (n + a - 1) (a - 1) := by simp only [alignV, e, if_pos]; exact (align_num n a hp (by omega) (by omega)).symm
        rw [e, v]; clear e v p2 hp
        go_enter Tryd.func80, Tryd.ntmps80
        go_wp2
        go_ret2
        exact ⟨ret_2 (by rw [show wrap64 (wrap64 (n + a) - 1) = n + a - 1 from by unfold wrap64; omega]) rfl, rfl⟩
  · have e : alignE n a = 1 := by simp [alignE, hp]
    have v : alignV n a = 0 := by simp [alignV, e]
    rw [e, v]; clear e v
    by_cases h0 : 1 ≤ a
    · by_cases h1 : a ≤ 1073741824
      · have t : (bits .and .i64 a (a - 1) != 0) = true := by
          simp [powB, h0, h1] at hp; simpa using hp
        clear hp
        go_enter Tryd.func80, Tryd.ntmps80
        go_wp2
        go_ret2
        exact ⟨rfl, rfl⟩
      · clear hp
        go_enter Tryd.func80, Tryd.ntmps80
        go_wp2
        go_ret2
        exact ⟨rfl, rfl⟩
    · clear hp
      go_enter Tryd.func80, Tryd.ntmps80
      go_wp2
      go_ret2
      exact ⟨rfl, rfl⟩

/-- Add's error and number. -/
def addE (a b : Int) : Int := if a + b < -9223372036854775808 ∨ 9223372036854775807 < a + b then 11 else 0
def addV (a b : Int) : Int := if addE a b = 0 then a + b else 0

theorem rfits_any (n b : Int) (s : Bool) (w : World) (hn : -9223372036854775808 ≤ n ∧ n ≤ 9223372036854775807) :
    Calls Tryd.prog 30 #[.int .i64 n, .int .i64 b, .bool s] w fun e w' => e = .returned (.bool (fitsB n b s)) ∧ w' = w := by
  by_cases h0 : 1 ≤ b
  · by_cases h1 : b ≤ 64
    · cases s
      · by_cases hneg : n < 0
        · have F : fitsB n b false = false := by simp [fitsB, show ¬ 0 ≤ n by omega]
          rw [F]; clear F
          go_enter Tryd.func30, Tryd.ntmps30
          go_wp2
          go_ret
          exact ⟨rfl, rfl⟩
        · by_cases h63 : 63 ≤ b
          · have F : fitsB n b false = true := by
              have := pow_le_i (show 63 ≤ b.toNat by omega)
              simp [fitsB, h0, h1]; omega
            rw [F]; clear F
            go_enter Tryd.func30, Tryd.ntmps30
            go_wp2
            go_ret
            exact ⟨rfl, rfl⟩
          · obtain ⟨P, hP⟩ : ∃ P : Int, P = 2 ^ b.toNat := ⟨_, rfl⟩
            have hw : wrap64 (2 ^ b.toNat) = P := by
              have h2 := pow_le_i (show b.toNat ≤ 62 by omega)
              have h3 := pow_pos_i b.toNat
              rw [← hP] at h2 h3 ⊢
              unfold wrap64; omega
            have F : fitsB n b false = decide (n < P) := by simp [fitsB, h0, h1, ← hP, show 0 ≤ n by omega]
            rw [F]; clear F hP
            go_enter Tryd.func30, Tryd.ntmps30
            go_wp2
            go_ret
            exact ⟨ret_bool (by first | rfl | (simp; done) | (simp; omega)), rfl⟩
      · by_cases h64 : b = 64
        · subst h64
          have F : fitsB n 64 true = true := by
            simp [fitsB]; omega
          rw [F]; clear F
          go_enter Tryd.func30, Tryd.ntmps30
          go_wp2
          go_ret
          exact ⟨rfl, rfl⟩
        · have h64' : (b == 64) = false := by simpa using h64
          obtain ⟨P, hP⟩ : ∃ P : Int, P = 2 ^ (b.toNat - 1) := ⟨_, rfl⟩
          have h2 := pow_le_i (show b.toNat - 1 ≤ 62 by omega)
          have h3 := pow_pos_i (b.toNat - 1)
          rw [← hP] at h2 h3
          have hw : wrap64 (2 ^ (b.toNat - 1)) = P := by
            rw [← hP]
            unfold wrap64; omega
          have h4 : P ≤ 4611686018427387904 := h2
          have F : fitsB n b true = (decide (-P ≤ n) && decide (n < P)) := by simp [fitsB, h0, h1, ← hP]
          rw [F]; clear F hP h2
          by_cases hlo : -P ≤ n
          · by_cases hhi : n < P
            all_goals
              go_enter Tryd.func30, Tryd.ntmps30
              go_wp2
              go_ret
              exact ⟨ret_bool (by first | (simp [*]; done) | (simp [*]; omega)), rfl⟩
          · go_enter Tryd.func30, Tryd.ntmps30
            go_wp2
            go_ret
            exact ⟨ret_bool (by first | (simp [*]; done) | (simp [*]; omega)), rfl⟩
    · have F : fitsB n b s = false := by simp [fitsB, h1]
      rw [F]; clear F
      go_enter Tryd.func30, Tryd.ntmps30
      go_wp2
      go_ret
      exact ⟨rfl, rfl⟩
  · have F : fitsB n b s = false := by simp [fitsB, h0]
    rw [F]; clear F
    go_enter Tryd.func30, Tryd.ntmps30
    go_wp2
    go_ret
    exact ⟨rfl, rfl⟩
end Go.Proofs.YtomboebfbipaaaaDoor
