/- The contract of knows: what must come does come. -/
import Derived.Test.YtbhdledlahbokaaReads
import Derived.Laws.BytesArg
namespace Go.Proofs.Ytbhdledlahbokaa
open Go.ChangeShapes Go.WideShapes Go.ChangeAt Go.RowKit
set_option linter.unusedVariables false

/-- The three bytes of 624485. -/
def three (i : Nat) : Int := if i = 0 then 229 else if i = 1 then 142 else 38

theorem three_in (i : Nat) : 0 ≤ three i ∧ three i < 256 := by unfold three; split <;> (try split) <;> decide

theorem three_num : Num 3 three 0 3 := by
  refine ⟨by omega, by omega, by omega, ?_, by decide⟩
  intro j hj
  have : j = 0 ∨ j = 1 := by omega
  rcases this with rfl | rfl <;> decide

theorem readU_three (b : Nat) (w : World) (h0 : w.cell? ⟨b, 0, none⟩ = some (.int .u8 229)) (h1 : w.cell? ⟨b, 1, none⟩ = some (.int .u8 142)) (h2 : w.cell? ⟨b, 2, none⟩ = some (.int .u8 38)) :
    Calls Try.prog 48 #[.slice (some ⟨b, 0, none⟩) 3 3, .int .i64 0] w fun e w' => e = .returned (.tuple #[.int .i64 624485, .int .i64 3, .int .i64 0]) ∧ Below w.heap.size w w' := by
  have h := readU_num (some ⟨b, 0, none⟩) 3 3 0 3 three w (.inr ⟨b, 0, rfl, by
    intro i hi
    have : i = 0 ∨ i = 1 ∨ i = 2 := by omega
    rcases this with rfl | rfl | rfl
    · exact h0
    · exact h1
    · exact h2⟩) three_in (by omega) three_num (by omega)
  have e : wrap64 (uacc three 0 3) = 624485 := by unfold wrap64; decide
  rw [e] at h
  exact h

theorem three_laid (w : World) : let W := w.alloc (.cells #[.int .u8 229, .int .u8 142, .int .u8 38] 5)
    W.cell? ⟨w.heap.size, 0, none⟩ = some (.int .u8 229) ∧ W.cell? ⟨w.heap.size, 1, none⟩ = some (.int .u8 142) ∧ W.cell? ⟨w.heap.size, 2, none⟩ = some (.int .u8 38) := by
  simp [World.cell?_alloc_at]

theorem fits258 : fitsB 258 16 true = true := by decide

theorem str21 : strOfNums [2, 1] = { data := #[2, 1] } := by decide

end Go.Proofs.Ytbhdledlahbokaa
