/- The document's numbers: decimal, number. -/
import Derived.Test.YtljmbgflcidokaaGreatDoorLxSmall
import Derived.Deep.RegionHeld3
import Derived.Deep.QuietTactic
import Derived.BigQuiet
namespace Go.Proofs.YtljmbgflcidokaaGreatDoor
open Go.ChangeShapes Go.WideShapes Go.ChangeAt Go.RowKit
set_option linter.unusedVariables false
set_option linter.unusedSimpArgs false

/-- Two results: a number, and whether there is one. -/
def num2 (m : Option Int) : Value := match m with | none => .tuple #[.int .i64 0, .bool false] | some v => .tuple #[.int .i64 (wrap64 v), .bool true]
/-- Read so far. -/
def Dec (s : ByteArray) (M : Option Int) (k : Nat) (x : Int) : Prop := M = decF ((lo s).drop k) x
theorem lo_drop (s : ByteArray) (k : Nat) (h : k < s.size) : (lo s).drop k = s[k] :: (lo s).drop (k + 1) := by
  have h' : k < (lo s).length := by rw [lo_len]; exact h
  rw [List.drop_eq_getElem_cons h']; rfl
theorem lo_end (s : ByteArray) : (lo s).drop s.size = [] := by rw [← lo_len]; exact List.drop_length
theorem lo_head (s : ByteArray) (h : 0 < s.size) : (lo s).head? = some s[0] := by
  have := lo_drop s 0 h
  rw [List.drop_zero] at this
  rw [this]; rfl
theorem u8_eq (c : UInt8) (n : Nat) (h : n < 256) : ((c.toNat : Int) == (n : Int)) = decide (c = UInt8.ofNat n) := by
  by_cases e : c = UInt8.ofNat n
  · subst e; simp [UInt8.toNat_ofNat, Nat.mod_eq_of_lt h]
  · rw [decide_eq_false e, beq_eq_false_iff_ne]
    intro h'
    apply e
    have : c.toNat = n := by omega
    subst this
    simp

/-- Three results: a number, its length, and whether there is one. -/
def Num3 (m : Option (Int × Nat)) (e : Ending) : Prop :=
  match m with
  | none => ∃ v n : Int, e = .returned (.tuple #[.int .i64 v, .int .i64 n, .bool false])
  | some p => e = .returned (.tuple #[.int .i64 (wrap64 p.1), .int .i64 p.2, .bool true])

theorem nu8 {c : UInt8} {n : Nat} (h : c.toNat = n) (hn : n < 256) : c = UInt8.ofNat n := by subst h; simp

/-- A byte between two '. -/
theorem num_q (s : ByteArray) (h0 : 0 < s.size) (h : s[0] = 39) (M : Option (Int × Nat)) (hM : numM (lo s) = M) :
    (s.size < 3 → M = none) ∧ ∀ h3 : 3 ≤ s.size, M = if 33 ≤ zOf s[1] ∧ zOf s[1] ≤ 126 ∧ s[2] = 39 ∧ (((lo s).drop 3).head?.map isIn).getD false = false then some (zOf s[1], 3) else none := by
  subst hM
  have e0 := lo_drop s 0 h0
  rw [List.drop_zero] at e0
  constructor
  · intro hs
    rw [e0, h]
    by_cases h1 : 1 < s.size
    · have e1 := lo_drop s 1 h1
      have e2 : (lo s).drop 2 = [] := List.drop_of_length_le (by rw [lo_len]; omega)
      simp [numM, e1, e2]
    · have e1 : (lo s).drop 1 = [] := List.drop_of_length_le (by rw [lo_len]; omega)
      simp [numM, e1]
  · intro h3
    have e1 := lo_drop s 1 (by omega)
    have e2 := lo_drop s 2 (by omega)
    rw [e0, h, e1, e2]
    simp [numM]
end Go.Proofs.YtljmbgflcidokaaGreatDoor
