/- The document's escapes. -/
import Derived.Test.YtljmbgflcidokaaGreatDoorLxNum3
namespace Go.Proofs.YtljmbgflcidokaaGreatDoor
open Go.ChangeShapes Go.WideShapes Go.ChangeAt Go.RowKit
set_option linter.unusedVariables false
set_option linter.unusedSimpArgs false

/-- An escape's three results. -/
def escV (m : Option (UInt8 × Nat)) : Value :=
  match m with
  | none => .tuple #[.int .u8 0, .int .i64 0, .bool false]
  | some p => .tuple #[.int .u8 p.1.toNat, .int .i64 p.2, .bool true]

theorem esc_e (M : Option (UInt8 × Nat)) (N : Option (UInt8 × Nat)) (h : M = N) {w w' : World} (hw : Below w.heap.size w w') {v : Value} (hv : v = escV N) : Ending.returned v = .returned (escV M) ∧ Below w.heap.size w w' := by
  subst h; subst hv; exact ⟨rfl, hw⟩

theorem esc_s {M : Option (UInt8 × Nat)} {x : UInt8} {k : Nat} {v : Int} (h : M = some (x, k)) (hv : (x.toNat : Int) = v) {w w' : World} (hw : Below w.heap.size w w') : Ending.returned (.tuple #[.int .u8 v, .int .i64 k, .bool true]) = .returned (escV M) ∧ Below w.heap.size w w' := by
  subst h; subst hv; exact ⟨rfl, hw⟩

theorem lo_cons (s : ByteArray) (h : 0 < s.size) : lo s = s[0] :: (lo s).drop 1 := by
  have := lo_drop s 0 h
  rwa [List.drop_zero] at this

theorem esc_x (s : ByteArray) (h0 : 0 < s.size) (h : s[0] = 120) : escM (lo s) = if h2 : 2 < s.size then (if 0 ≤ hexZ (zOf s[1]) ∧ 0 ≤ hexZ (zOf s[2]) then some (UInt8.ofNat (16 * hexZ (zOf s[1]) + hexZ (zOf s[2])).toNat, 3) else none) else none := by
  rw [lo_cons s h0, h]
  by_cases h2 : 2 < s.size
  · rw [dif_pos h2, lo_drop s 1 (by omega), lo_drop s 2 h2]
    rfl
  · rw [dif_neg h2]
    by_cases h1 : 1 < s.size
    · have e2 : (lo s).drop 2 = [] := List.drop_of_length_le (by rw [lo_len]; omega)
      rw [lo_drop s 1 h1, e2]; rfl
    · have e1 : (lo s).drop 1 = [] := List.drop_of_length_le (by rw [lo_len]; omega)
      rw [e1]; rfl

end Go.Proofs.YtljmbgflcidokaaGreatDoor
