/- Rows of tokens that are written over. -/
import Derived.Test.YthdkbjifjmhgoaaDoorLxSame
import Derived.Test.YthdkbjifjmhgoaaDoorQxTurn
namespace Go.Proofs.YthdkbjifjmhgoaaDoor
open Go.ChangeShapes Go.WideShapes Go.ChangeAt Go.RowKit
set_option linter.unusedVariables false
set_option linter.unusedSimpArgs false


/-- Cells that may be written over: so many tokens, in block g. -/
def SfT (w : World) (g n : Nat) : Prop := ∃ cur : Array Value, w.heap[g]? = some (.cells cur 32) ∧ n * 4 ≤ cur.size
theorem SfT.set {w : World} {g n : Nat} (h : SfT w g n) (i : Nat) (v : Value) : SfT (w.setCell ⟨g, i, none⟩ v) g n := by
  obtain ⟨cur, hc, hz⟩ := h
  refine ⟨cur.set! i v, ?_, by simpa using hz⟩
  simp [World.setCell, Array.getElem?_modify, hc]
theorem SfT.cell {w : World} {g n : Nat} (h : SfT w g n) (i : Nat) (hi : i < n * 4) : (∃ v, w.cell? ⟨g, i, none⟩ = some v) ∧ w.frozen? ⟨g, i, none⟩ = false := by
  obtain ⟨cur, hc, hz⟩ := h
  have hlt : i < cur.size := by omega
  exact ⟨⟨cur[i], by simp [World.cell?, hc, hlt]⟩, by simp [World.frozen?, hc]⟩
theorem SfT.turn {w w' : World} {g n : Nat} (h : SfT w g n) (hb : Below w.heap.size w w') : SfT w' g n := by
  obtain ⟨cur, hc, hz⟩ := h
  exact ⟨cur, by rw [hb.block g (Array.getElem?_eq_some_iff.1 hc).1]; exact hc, hz⟩
theorem OwnTP.soft {w : World} {base : Nat} {ao : Option Addr} {c : Nat} {l : List TL} (h : OwnTP w base (.slice ao l.length c) l) (hne : 0 < l.length) : ∃ g, ao = some ⟨g, 0, none⟩ ∧ base ≤ g ∧ g < w.heap.size ∧ SfT w g l.length := by
  rcases h.2 with ⟨hv, hn⟩ | ⟨g, cap, cur, hv, hb, hg, h1, h2, h3, h4⟩
  · omega
  · simp only [Value.slice.injEq] at hv
    obtain ⟨rfl, _, rfl⟩ := hv
    exact ⟨g, rfl, hb, (Array.getElem?_eq_some_iff.1 hg).1, cur, hg, by rw [h3]; omega⟩
end Go.Proofs.YthdkbjifjmhgoaaDoor
