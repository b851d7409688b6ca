/- The document's small functions on bytes: letter, digit, inside, hex, word. -/
import Derived.Test.YtljmbgflcidokaaGreatDoorLxP
namespace Go.Proofs.YtljmbgflcidokaaGreatDoor
open Go.ChangeShapes Go.WideShapes Go.ChangeAt Go.RowKit
set_option linter.unusedVariables false
set_option linter.unusedSimpArgs false

theorem takeWhile_at {p : UInt8 → Bool} : ∀ (l : List UInt8) (k : Nat), k ≤ (l.takeWhile p).length → (∀ h : k < l.length, (p l[k] = true ↔ k < (l.takeWhile p).length)) ∧ (k = l.length → k = (l.takeWhile p).length)
  | [], k, hk => by simp at hk; subst hk; simp
  | c :: r, k, hk => by
    cases hc : p c
    · simp [List.takeWhile_cons, hc] at hk
      subst hk
      simp [List.takeWhile_cons, hc]
    · simp only [List.takeWhile_cons, hc, if_true, List.length_cons] at hk ⊢
      cases k with
      | zero => simp [hc]
      | succ k =>
        have := takeWhile_at (p := p) r k (by omega)
        refine ⟨fun h => ?_, fun h => ?_⟩
        · have h2 : k < r.length := by simpa using h
          have := this.1 h2
          simp only [List.getElem_cons_succ]
          rw [this]; omega
        · have h2 : k = r.length := by simpa using h
          have := this.2 h2
          omega

end Go.Proofs.YtljmbgflcidokaaGreatDoor
