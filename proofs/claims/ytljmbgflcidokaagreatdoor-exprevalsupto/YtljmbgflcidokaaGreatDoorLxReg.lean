/- The document's registers; every one. -/
import Derived.Test.YtljmbgflcidokaaGreatDoorLxOne
namespace Go.Proofs.YtljmbgflcidokaaGreatDoor
open Go.ChangeShapes Go.WideShapes Go.ChangeAt Go.RowKit
set_option linter.unusedVariables false
set_option linter.unusedSimpArgs false

def regB (j : Nat) (c : UInt8) : Bool := isLet c || (decide (0 < j) && isDig c)
theorem reg_at (l : List UInt8) (j : Nat) (hj : j ≤ regN l) : (∀ h : j < l.length, (regB j l[j] = true ↔ j < regN l)) ∧ (j = l.length → j = regN l) := by
  cases l with
  | nil => simp [regN] at hj ⊢; try exact hj
  | cons c r =>
    unfold regN at hj ⊢
    simp only at hj ⊢
    cases hc : isLet c
    · rw [hc] at hj
      simp at hj
      subst hj
      simp [regB, hc]
    · rw [hc] at hj
      simp only [if_true] at hj ⊢
      cases j with
      | zero => simp [regB, hc]; omega
      | succ j =>
        have := takeWhile_at (p := fun c => isLet c || isDig c) r j (by omega)
        refine ⟨fun h => ?_, fun h => ?_⟩
        · have h2 : j < r.length := by simpa using h
          have := this.1 h2
          simp only [List.getElem_cons_succ, regB, decide_eq_true (show 0 < j + 1 by omega), Bool.true_and]
          rw [this]; omega
        · have h2 : j = r.length := by simpa using h
          have := this.2 h2
          omega
theorem reg_le (l : List UInt8) : regN l ≤ l.length := by
  cases l with
  | nil => simp [regN]
  | cons c r =>
    unfold regN
    simp only
    have := (List.takeWhile_sublist (fun c => isLet c || isDig c) (l := r)).length_le
    split
    · simp; omega
    · omega

theorem reg_ret {s : ByteArray} {j r : Nat} {d : Bool} {l : List UInt8} (hr : j = 1 + r) (hj : 1 ≤ j) (hs : s.extract 1 (1 + r) = St (l.take r)) (hd : d = decide (1 < j)) :
    One3 (if r = 0 then none else some (⟨5, 0, l.take r⟩, 1 + r)) (.returned (.tuple #[.agg #[.int .i64 5, .int .i64 0, .int .i64 0, .string (s.extract 1 j)], .int .i64 (j : Int), .bool d])) := by
  subst hr
  by_cases h0 : r = 0
  · rw [if_pos h0]
    exact one_no (by rw [hd]; exact decide_eq_false (by omega))
  · rw [if_neg h0]
    exact one_yes (by rw [hd]; exact decide_eq_true (by omega)) hs
theorem reg_ret2 {M : Option (Tok × Nat)} {s : ByteArray} {j r : Nat} {d : Bool} {l : List UInt8} (hM : M = if r = 0 then none else some (⟨5, 0, l.take r⟩, 1 + r)) (hr : j = 1 + r) (hj : 1 ≤ j) (hs : s.extract 1 (1 + r) = St (l.take r)) (hd : d = decide (1 < j)) :
    One3 M (.returned (.tuple #[.agg #[.int .i64 5, .int .i64 0, .int .i64 0, .string (s.extract 1 j)], .int .i64 (j : Int), .bool d])) := by
  rw [hM]; exact reg_ret hr hj hs hd
end Go.Proofs.YtljmbgflcidokaaGreatDoor
