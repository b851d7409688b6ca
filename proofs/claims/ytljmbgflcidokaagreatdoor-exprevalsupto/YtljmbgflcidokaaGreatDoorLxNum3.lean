/- The document's number, of digits. -/
import Derived.Test.YtljmbgflcidokaaGreatDoorLxNum2
namespace Go.Proofs.YtljmbgflcidokaaGreatDoor
open Go.ChangeShapes Go.WideShapes Go.ChangeAt Go.RowKit
set_option linter.unusedVariables false
set_option linter.unusedSimpArgs false

theorem num_w (s : ByteArray) (h0 : 0 < s.size) (hq : ¬ s[0] = 39) : numM (lo s) = if 2 < wordN (lo s) ∧ wordN (lo s) ≤ 18 ∧ s[0] = 48 ∧ ((lo s).drop 1).head? = some 120 then (hexF (((lo s).take (wordN (lo s))).drop 2) 0).map fun v => (v, wordN (lo s)) else (decM ((lo s).take (wordN (lo s)))).map fun v => (v, wordN (lo s)) := by
  have e0 := lo_drop s 0 h0
  rw [List.drop_zero] at e0
  unfold numM
  conv => lhs; rw [e0]
  simp only [if_neg hq]
  rw [← e0]
theorem word_le (l : List UInt8) : wordN l ≤ l.length := (List.takeWhile_sublist _).length_le
theorem take_drop_at (s : ByteArray) (n k : Nat) (h : k < n) (hn : n ≤ s.size) : ((lo s).take n).drop k = s[k] :: ((lo s).take n).drop (k + 1) := by
  have h' : k < ((lo s).take n).length := by rw [List.length_take, lo_len]; omega
  rw [List.drop_eq_getElem_cons h']
  congr 1
  rw [List.getElem_take]; rfl
theorem hex_lt (z : Int) : hexZ z < 16 := by
  unfold hexZ digZ
  split
  · rename_i h; simp at h; omega
  · split
    · omega
    · split <;> omega

end Go.Proofs.YtljmbgflcidokaaGreatDoor
