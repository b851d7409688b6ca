/- The document's signs. -/
import Derived.Test.YtljmbgflcidokaaGreatDoorLxQuo
namespace Go.Proofs.YtljmbgflcidokaaGreatDoor
open Go.ChangeShapes Go.WideShapes Go.ChangeAt Go.RowKit
set_option linter.unusedVariables false
set_option linter.unusedSimpArgs false

def sgI (b : Bool) : Int := if b = true then 1 else 0
theorem sign_c (s : ByteArray) (h0 : 0 < s.size) : signN (lo s) = if (s[0] = 60 ∧ ((lo s).drop 1).head? = some 60) ∨ (s[0] = 62 ∧ ((lo s).drop 1).head? = some 62) then 2 else if signs.contains s[0] = true then 1 else 0 := by
  rw [lo_cons s h0]; rfl
theorem two_eq (s : ByteArray) (h1 : 1 < s.size) (c : UInt8) : ((s.extract 0 2).toList == [c, c]) = decide (s[0] = c ∧ s[1] = c) := by
  rw [ByteArray.toList_eq]
  have e : (s.extract 0 2).data.toList = [s[0], s[1]] := by
    have := lo_sub s 0 2
    rw [List.drop_zero] at this
    have e0 := lo_cons s (by omega)
    have e1 := lo_drop s 1 h1
    rw [e1] at e0
    rw [e0] at this
    exact this
  rw [e]
  by_cases a : s[0] = c
  · by_cases b : s[1] = c
    · simp [a, b]
    · simp [a, b]
  · simp [a]

end Go.Proofs.YtljmbgflcidokaaGreatDoor
