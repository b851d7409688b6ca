/- The contracts of Gnu and Hash. -/
import Derived.Test.YtpdcbokcoaienaaDoorSPlain
namespace Go.Proofs.YtpdcbokcoaienaaDoor
open Go.ChangeShapes Go.WideShapes Go.ChangeAt Go.RowKit
set_option linter.unusedVariables false

theorem gnu_any (s : ByteArray) (w : World) (hs : s.size ≤ 9223372036854775807) :
    Calls Tryd.prog 30 #[.string s] w fun e w' => e = .returned (.int .u32 (gnuB s)) ∧ w' = w := by
  have hl : s.data.toList.length = s.size := by simp
  obtain ⟨r, HR⟩ : ∃ r, Hid (gnuB s = r) := ⟨_, ⟨rfl⟩⟩
  rw [HR.out]
  go_enter Tryd.func30, Tryd.ntmps30
  go_wp2
  go_loop [7, 3] (fun i h => ∃ k : Nat, ∃ x : Int, k ≤ s.size ∧ i = .int .i64 k ∧ h = .int .u32 x ∧ 0 ≤ x ∧ x < 4294967296 ∧ Hid (x = gnuL (s.data.toList.take k))) (fun i h => s.size - (intOf i).toNat)
  case atStart => exact ⟨0, 5381, by omega, rfl, rfl, by omega, by omega, ⟨by simp [gnuL]⟩⟩
  case round =>
    obtain ⟨k, x, hk, rfl, rfl, hx0, hx1, hall⟩ := hrel
    by_cases hlt : k < s.size
    · have hc := s[k].toNat_lt
      go_wp2
      go_round
      case rel =>
        refine ⟨k + 1, (33 * x + s[k].toNat) % 4294967296, hlt, by go_num, ?_, by omega, by omega, ⟨by rw [take_succ_get s k hlt, gnuL_snoc, hall.out]⟩⟩
        go_num
      case measure => simp [intOf]; omega
    · obtain rfl : k = s.size := by omega
      have he : Hid (r = x) := ⟨by rw [← HR.out, hall.out, List.take_of_length_le (by omega)]; rfl⟩
      go_wp2
      go_ret
      exact ⟨ret_int he.out.symm, rfl⟩
end Go.Proofs.YtpdcbokcoaienaaDoor
