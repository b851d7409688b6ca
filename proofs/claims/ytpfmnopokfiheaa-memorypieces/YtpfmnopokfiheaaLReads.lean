/- The contract of the law's reads. -/
import Derived.Test.YtpfmnopokfiheaaLBoth
import Derived.Test.YtpfmnopokfiheaaNilWalk
namespace Go.Proofs.Ytpfmnopokfiheaa
open Go.ChangeShapes Go.WideShapes Go.ChangeAt Go.RowKit Go.Maps
set_option linter.unusedVariables false
set_option linter.unusedSimpArgs false

theorem Own.conv {w : World} {base : Nat} {v : Value} {xs : List Int} (h : Own w base v xs) : Sem.run Try.prog (convert 31 9 v) w = .ok (.string (strOfNums xs)) w := by
  by_cases h0 : xs = []
  · subst h0
    rcases h.2 with ⟨hv, _⟩ | ⟨g, cap, cur, hv, _⟩
    · rw [hv]
      exact conv_row w none 0 0 (fun _ => 0) (.inl rfl) (fun _ => rfl)
    · rw [hv]
      exact conv_row w _ 0 cap (fun _ => 0) (.inl rfl) (fun e => by cases e)
  · have hne : 1 ≤ xs.length := by
      rcases xs with _ | ⟨x, xs⟩
      · exact absurd rfl h0
      · simp
    obtain ⟨g, cap, rfl, _, _, hr⟩ := h.row hne
    have := conv_row w (some ⟨g, 0, none⟩) xs.length cap (fun i => xs.getD i 0) (hr w (Below.refl _ _)) (fun e => by cases e)
    rw [this]
    have e : lst (fun i => xs.getD i 0) xs.length = xs := by
      apply List.ext_getElem
      · rw [lst_len]
      · intro i h1 h2
        simp [lst, h2]
    rw [e]

/-- Bytes of the call's own, as they may be written over. -/
theorem Own.spoilt {w : World} {base : Nat} {v : Value} {xs : List Int} (h : Own w base v xs) (hb : ∀ x ∈ xs, 0 ≤ x ∧ x < 256) : ∃ ao g cap, v = .slice ao xs.length cap ∧ (xs.length = 0 ∨ (ao = some ⟨g, 0, none⟩ ∧ Soft w g xs.length ∧ base ≤ g)) := by
  rcases h.2 with ⟨hv, hn⟩ | ⟨g, cap, cur, hv, hg, _⟩
  · exact ⟨none, 0, 0, by rw [hv, hn], .inl hn⟩
  · refine ⟨_, g, cap, hv, .inr ⟨rfl, ?_, hg⟩⟩
    subst hv
    exact h.soft hb
end Go.Proofs.Ytpfmnopokfiheaa
