/- The document's quoted texts. -/
import Derived.Test.YtljmbgflcidokaaGreatDoorLxEsc
import Derived.Test.YtljmbgflcidokaaGreatDoorLxBytes
namespace Go.Proofs.YtljmbgflcidokaaGreatDoor
open Go.ChangeShapes Go.WideShapes Go.ChangeAt Go.RowKit
set_option linter.unusedVariables false
set_option linter.unusedSimpArgs false

/-- A text's three results. -/
def quoV (m : Option (List UInt8 × Nat)) : Value :=
  match m with
  | none => .tuple #[.string ⟨#[]⟩, .int .i64 0, .bool false]
  | some p => .tuple #[.string (St p.1), .int .i64 p.2, .bool true]
theorem quo_n {M : Option (List UInt8 × Nat)} (h : M = none) {w w' : World} (hw : Below w.heap.size w w') : Ending.returned (.tuple #[.string ⟨#[]⟩, .int .i64 0, .bool false]) = .returned (quoV M) ∧ Below w.heap.size w w' := by
  subst h; exact ⟨rfl, hw⟩
theorem quo_s {M : Option (List UInt8 × Nat)} {t : List UInt8} {k : Nat} {s : ByteArray} {v : Int} (h : M = some (t, k)) (hs : s = St t) (hv : v = k) {w w' : World} (hw : Below w.heap.size w w') : Ending.returned (.tuple #[.string s, .int .i64 v, .bool true]) = .returned (quoV M) ∧ Below w.heap.size w w' := by
  subst h; subst hs; subst hv; exact ⟨rfl, hw⟩

theorem esc_le {l : List UInt8} {x : UInt8} {k : Nat} (h : escM l = some (x, k)) : 1 ≤ k ∧ k ≤ l.length ∧ k ≤ 3 := by
  unfold escM at h
  cases l with
  | nil => cases h
  | cons c r =>
    simp only at h
    repeat (first | (split at h) | (simp only [Option.some.injEq, Prod.mk.injEq] at h; obtain ⟨_, rfl⟩ := h; simp) | cases h)

/-- So far: acc has been read; the rest from k on. -/
def QFar (s : ByteArray) (M : Option (List UInt8 × Nat)) (acc : List UInt8) (k : Nat) : Prop := ∃ n, s.size < k + n ∧ M = quoF n ((lo s).drop k) acc k

theorem QFar.stop {s : ByteArray} {M : Option (List UInt8 × Nat)} {acc : List UInt8} {k : Nat} (h : QFar s M acc k) (hk : ¬ k < s.size) : M = none := by
  obtain ⟨n, _, rfl⟩ := h
  rw [List.drop_of_length_le (by rw [lo_len]; omega)]
  cases n <;> rfl
theorem QFar.step {s : ByteArray} {M : Option (List UInt8 × Nat)} {acc : List UInt8} {k : Nat} (h : QFar s M acc k) (hk : k < s.size) : ∃ n, s.size < k + n + 1 ∧ M = (if s[k] = 34 then some (acc, k + 1) else if zOf s[k] < 32 ∨ 126 < zOf s[k] then none else if s[k] = 92 then (match escM ((lo s).drop (k + 1)) with | none => none | some (x, j) => quoF n (((lo s).drop (k + 1)).drop j) (acc ++ [x]) (k + 1 + j)) else quoF n ((lo s).drop (k + 1)) (acc ++ [s[k]]) (k + 1)) := by
  obtain ⟨n, hn, rfl⟩ := h
  cases n with
  | zero => omega
  | succ n => exact ⟨n, by omega, by rw [lo_drop s k hk]; rfl⟩

end Go.Proofs.YtljmbgflcidokaaGreatDoor
