/- The contracts of the document's own zero and place. -/
import Derived.Test.YtpdcbokcoaienaaDoorSHashB
import Derived.Test.YtpdcbokcoaienaaDoorSNames
import Derived.Test.YtpdcbokcoaienaaDoorSLaw
namespace Go.Proofs.YtpdcbokcoaienaaDoor
open Go.ChangeShapes Go.WideShapes Go.ChangeAt Go.RowKit
set_option linter.unusedVariables false
set_option linter.unusedSimpArgs false

theorem rzero_any (s : ByteArray) (w : World) (hs : s.size ≤ 9223372036854775807) :
    Calls Tryd.prog 43 #[.string s] w fun e w' => e = .returned (.bool (zeroB s)) ∧ w' = w := by
  have hl : s.data.toList.length = s.size := by simp
  obtain ⟨r, HR⟩ : ∃ r, Hid (zeroB s = r) := ⟨_, ⟨rfl⟩⟩
  rw [HR.out]
  go_enter Tryd.func43, Tryd.ntmps43
  go_wp2
  go_loop [3] (fun i => ∃ k : Nat, k ≤ s.size ∧ i = .int .i64 k ∧ Hid ((s.data.toList.take k).any (· == 0) = false)) (fun i => s.size - (intOf i).toNat)
  case atStart => exact ⟨0, by omega, rfl, ⟨by simp⟩⟩
  case round =>
    obtain ⟨k, hk, rfl, hall⟩ := hrel
    by_cases hlt : k < s.size
    · have hget : s.data.toList[k]'(by omega) = s[k] := by rw [Array.getElem_toList]; rfl
      by_cases hz : s[k].toNat = 0
      · have hzz : ((s[k].toNat : Int) == 0) = true := by simp [hz]
        have HZ : Hid (r = true) := ⟨by
          rw [← HR.out]
          unfold zeroB
          rw [List.any_eq_true]
          exact ⟨s.data.toList[k]'(by omega), List.getElem_mem .., by rw [hget, beq_iff_eq]; exact UInt8.toNat_inj.1 hz⟩⟩
        clear hz hget
        go_wp2
        go_ret
        exact ⟨ret_bool HZ.out.symm, rfl⟩
      · have hzz : ((s[k].toNat : Int) == 0) = false := by simp [hz]
        have HZ : Hid ((s.data.toList.take (k + 1)).any (· == 0) = false) := ⟨by
          rw [take_succ_get s k hlt, List.any_append, hall.out]
          simp
          intro h
          exact hz (by rw [h]; rfl)⟩
        clear hz hget
        go_wp2
        go_round
        case rel => exact ⟨k + 1, hlt, by go_num, HZ⟩
        case measure => simp [intOf]; omega
    · obtain rfl : k = s.size := by omega
      have he : Hid (r = false) := ⟨by
        rw [← HR.out]
        have := hall.out
        rwa [List.take_of_length_le (by omega)] at this⟩
      go_wp2
      go_ret
      exact ⟨ret_bool he.out.symm, rfl⟩

/-- The first place of a name among names. -/
def pl (N : List ByteArray) (s : ByteArray) : Nat := N.findIdx fun t => decide (t = s)

theorem rplace_any (ao : Option Addr) (c : Nat) (N : List ByteArray) (s : ByteArray) (w : World) (hl : N.length ≤ 9223372036854775806) (hr : Strs w ao N) :
    Calls Tryd.prog 23 #[.slice ao N.length c, .string s] w fun e w' => e = .returned (.int .i64 (pl N s)) ∧ w' = w := by
  obtain ⟨r, HRR⟩ : ∃ r, Hid (pl N s = r) := ⟨_, ⟨rfl⟩⟩
  have HR : Hid (Strs w ao N) := ⟨hr⟩
  rw [HRR.out]
  clear hr
  go_enter Tryd.func23, Tryd.ntmps23
  go_wp2
  go_loop [5] (fun i => ∃ k : Nat, k ≤ N.length ∧ i = .int .i64 k ∧ Hid (∀ j, j < k → ∀ h : j < N.length, N[j] ≠ s)) (fun i => N.length - (intOf i).toNat)
  case atStart => exact ⟨0, by omega, rfl, ⟨fun j hj => by omega⟩⟩
  case round =>
    obtain ⟨k, hk, rfl, hall⟩ := hrel
    by_cases hlt : k < N.length
    · obtain ⟨b, off, rfl, hcell⟩ : ∃ b off, ao = some ⟨b, off, none⟩ ∧ ∀ i, i < N.length → w.cell? ⟨b, off + i, none⟩ = some (.string (N.getD i ByteArray.empty)) := by
        rcases HR.out with h | h
        · subst h; simp at hlt
        · exact h
      have hcx := hcell k hlt
      have hget : N.getD k ByteArray.empty = N[k] := by simp [hlt]
      rw [hget] at hcx
      have hbe := tl_beq N[k] s
      by_cases hs : N[k] = s
      · rw [decide_eq_true hs] at hbe
        have HE : Hid (r = k) := ⟨by
          rw [← HRR.out]
          unfold pl
          rw [List.findIdx_eq hlt]
          exact ⟨decide_eq_true hs, fun j hj => decide_eq_false (hall.out j hj (by omega))⟩⟩
        clear hcell hget hs
        go_wp2
        go_ret
        exact ⟨by rw [HE.out]; rfl, rfl⟩
      · rw [decide_eq_false hs] at hbe
        have HE : Hid (∀ j, j < k + 1 → ∀ h : j < N.length, N[j] ≠ s) := ⟨fun j hj h => by
          by_cases e : j < k
          · exact hall.out j e h
          · obtain rfl : j = k := by omega
            exact hs⟩
        clear hcell hget hs
        go_wp2
        go_round
        case rel => exact ⟨k + 1, hlt, by go_num, HE⟩
        case measure => simp [intOf]; omega
    · obtain rfl : k = N.length := by omega
      have HE : Hid (r = N.length) := ⟨by
        rw [← HRR.out]
        unfold pl
        rw [List.findIdx_eq_length]
        intro t ht
        obtain ⟨j, hj, rfl⟩ := List.getElem_of_mem ht
        exact decide_eq_false (hall.out j hj hj)⟩
      go_wp2
      go_ret
      exact ⟨by rw [HE.out]; rfl, rfl⟩
end Go.Proofs.YtpdcbokcoaienaaDoor
