/- The document's number. -/
import Derived.Test.YtljmbgflcidokaaGreatDoorLxNum
import Derived.Test.YtljmbgflcidokaaGreatDoorLPlain
namespace Go.Proofs.YtljmbgflcidokaaGreatDoor
open Go.ChangeShapes Go.WideShapes Go.ChangeAt Go.RowKit
set_option linter.unusedVariables false
set_option linter.unusedSimpArgs false

theorem ret3_no (v n : Int) {M : Option (Int × Nat)} (h : M = none) {w w' : World} (hw : Below w.heap.size w w') : Num3 M (.returned (.tuple #[.int .i64 v, .int .i64 n, .bool false])) ∧ Below w.heap.size w w' := by
  subst h; exact ⟨⟨v, n, rfl⟩, hw⟩
theorem ret3_yes (v : Int) (n : Nat) {u : Int} {M : Option (Int × Nat)} (h : M = some (v, n)) (hu : u = wrap64 v) {w w' : World} (hw : Below w.heap.size w w') : Num3 M (.returned (.tuple #[.int .i64 u, .int .i64 n, .bool true])) ∧ Below w.heap.size w w' := by
  subst h; subst hu; exact ⟨rfl, hw⟩

theorem join16 (x d : Int) (hx0 : 0 ≤ x) (hx1 : x < 1152921504606846976) (hd0 : 0 ≤ d) (hd1 : d < 16) : bits .or .u64 (x * 16) d = 16 * x + d := by
  have := join_u64 4 (by omega) d x hd0 (by omega)
  rw [show (2 : Int) ^ 4 = 16 from by decide] at this
  rw [or_comm_bits] at this
  rw [Int.emod_eq_of_lt (by omega) (by omega), Int.emod_eq_of_lt (by omega) (by omega), Int.emod_eq_of_lt (by omega) (by omega)] at this
  rw [this]; omega

end Go.Proofs.YtljmbgflcidokaaGreatDoor
