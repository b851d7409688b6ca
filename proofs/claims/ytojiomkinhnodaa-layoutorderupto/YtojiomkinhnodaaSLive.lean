/- The contract of the law's own live. -/
import Derived.Test.YtojiomkinhnodaaSStr
import Derived.Test.YtojiomkinhnodaaSHashB
namespace Go.Proofs.Ytojiomkinhnodaa
open Go.ChangeShapes Go.WideShapes Go.ChangeAt Go.RowKit Go.Maps
set_option linter.unusedVariables false
set_option linter.unusedSimpArgs false

theorem live_str : strM [⟨#[97]⟩, ⟨#[]⟩, ⟨#[98]⟩, ⟨#[97]⟩] = .ok ([0, 97, 0, 98, 0], [1, 0, 3, 1]) := by kernel_rfl
theorem live_hash : hashB ⟨#[112, 114, 105, 110, 116, 102]⟩ = 125371814 := by kernel_rfl
theorem live_gnu : gnuB ⟨#[112, 114, 105, 110, 116, 102]⟩ = 359345080 := by kernel_rfl

theorem OwnI.lies {w : World} {base : Nat} {v : Value} {xs : List Int} (h : OwnI w base v xs) (hne : 1 ≤ xs.length) :
    ∃ g cap, v = .slice (some ⟨g, 0, none⟩) xs.length cap ∧ base ≤ g ∧ g < w.heap.size ∧ ∀ i, i < xs.length → w.cell? ⟨g, i, none⟩ = some (.int .i64 (xs.getD i 0)) := by
  rcases h.2 with ⟨_, hn⟩ | ⟨g, cap, cur, hv, hb, hg, _⟩
  · omega
  · refine ⟨g, cap, hv, hb, ?_, ?_⟩
    · apply Classical.byContradiction
      intro hn
      rw [Array.getElem?_eq_none (by omega)] at hg
      cases hg
    · intro i hi
      subst hv
      have := h.cellAt i (by omega)
      rw [this]
      simp [hi]

end Go.Proofs.Ytojiomkinhnodaa
