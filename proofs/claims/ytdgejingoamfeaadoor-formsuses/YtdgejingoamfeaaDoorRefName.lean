/- The document's name, of whatever text. -/
import Derived.Test.YtdgejingoamfeaaDoorRefSmall
namespace Go.Proofs.YtdgejingoamfeaaDoor
open Go.ChangeShapes Go.WideShapes Go.ChangeAt Go.RowKit
set_option linter.unusedVariables false

theorem bar_cases (c : UInt8) (h : barL.contains c = true) : c.toNat = 40 ∨ c.toNat = 41 ∨ c.toNat = 44 ∨ c.toNat = 64 ∨ c.toNat = 36 ∨ c.toNat = 37 ∨ c.toNat = 42 ∨ c.toNat = 35 ∨ c.toNat = 59 ∨ c.toNat = 58 ∨ c.toNat = 34 ∨ c.toNat = 39 := by
  have : ∀ n : Fin 256, barL.contains (UInt8.ofNat n.val) = true → (UInt8.ofNat n.val).toNat = 40 ∨ (UInt8.ofNat n.val).toNat = 41 ∨ (UInt8.ofNat n.val).toNat = 44 ∨ (UInt8.ofNat n.val).toNat = 64 ∨ (UInt8.ofNat n.val).toNat = 36 ∨ (UInt8.ofNat n.val).toNat = 37 ∨ (UInt8.ofNat n.val).toNat = 42 ∨ (UInt8.ofNat n.val).toNat = 35 ∨ (UInt8.ofNat n.val).toNat = 59 ∨ (UInt8.ofNat n.val).toNat = 58 ∨ (UInt8.ofNat n.val).toNat = 34 ∨ (UInt8.ofNat n.val).toNat = 39 := by decide +kernel
  have := this ⟨c.toNat, c.toNat_lt⟩ (by simpa using h)
  simpa using this
theorem bar_not (c : UInt8) (h : barL.contains c = false) : c.toNat ≠ 40 ∧ c.toNat ≠ 41 ∧ c.toNat ≠ 44 ∧ c.toNat ≠ 64 ∧ c.toNat ≠ 36 ∧ c.toNat ≠ 37 ∧ c.toNat ≠ 42 ∧ c.toNat ≠ 35 ∧ c.toNat ≠ 59 ∧ c.toNat ≠ 58 ∧ c.toNat ≠ 34 ∧ c.toNat ≠ 39 := by
  have : ∀ n : Fin 256, barL.contains (UInt8.ofNat n.val) = false → (UInt8.ofNat n.val).toNat ≠ 40 ∧ (UInt8.ofNat n.val).toNat ≠ 41 ∧ (UInt8.ofNat n.val).toNat ≠ 44 ∧ (UInt8.ofNat n.val).toNat ≠ 64 ∧ (UInt8.ofNat n.val).toNat ≠ 36 ∧ (UInt8.ofNat n.val).toNat ≠ 37 ∧ (UInt8.ofNat n.val).toNat ≠ 42 ∧ (UInt8.ofNat n.val).toNat ≠ 35 ∧ (UInt8.ofNat n.val).toNat ≠ 59 ∧ (UInt8.ofNat n.val).toNat ≠ 58 ∧ (UInt8.ofNat n.val).toNat ≠ 34 ∧ (UInt8.ofNat n.val).toNat ≠ 39 := by decide +kernel
  have := this ⟨c.toNat, c.toNat_lt⟩ (by simpa using h)
  simpa using this

set_option maxHeartbeats 4000000 in
theorem refName_any (s : ByteArray) (w : World) (hs : s.size ≤ 9223372036854775807) :
    Calls Tryd.prog 99 #[.string s] w fun e w' => e = .returned (.bool (isNameB s)) ∧ w' = w := by
  have hl : s.data.toList.length = s.size := by simp
  obtain ⟨r, HR⟩ : ∃ r, Hid (isNameB s = r) := ⟨_, ⟨rfl⟩⟩
  rw [HR.out]
  go_enter Tryd.func99, Tryd.ntmps99
  go_wp2
  go_loop [3] (fun i => ∃ k : Nat, k ≤ s.size ∧ i = .int .i64 k ∧ Hid ((s.data.toList.take k).all byteB = true)) (fun i => s.size - (intOf i).toNat)
  case atStart => exact ⟨0, by omega, rfl, ⟨by simp⟩⟩
  case round =>
    obtain ⟨k, hk, rfl, hall⟩ := hrel
    by_cases hlt : k < s.size
    · have hget : s.data.toList[k]'(by omega) = s[k] := by rw [Array.getElem_toList]; rfl
      have hs2 := all_take_succ s.data.toList k (by omega)
      rw [hget, hall.out, Bool.true_and] at hs2
      have HS : Hid (byteB s[k] = false → r = false) := ⟨fun hb => by
        rw [← HR.out]
        have : s.data.toList.all byteB = false := by
          rw [List.all_eq_false]; exact ⟨s.data.toList[k]'(by omega), List.getElem_mem .., by rw [hget, hb]; simp⟩
        unfold isNameB; rw [this]; simp⟩
      have HT : Hid ((s.data.toList.take (k + 1)).all byteB = byteB s[k]) := ⟨hs2⟩
      clear hs2 hget hall
      cases hbar : barL.contains s[k]
      · obtain ⟨n40, n41, n44, n64, n36, n37, n42, n35, n59, n58, n34, n39⟩ := bar_not _ hbar
        have m40 : ((s[k].toNat : Int) == 40) = false := by simp; omega
        have m41 : ((s[k].toNat : Int) == 41) = false := by simp; omega
        have m44 : ((s[k].toNat : Int) == 44) = false := by simp; omega
        have m64 : ((s[k].toNat : Int) == 64) = false := by simp; omega
        have m36 : ((s[k].toNat : Int) == 36) = false := by simp; omega
        have m37 : ((s[k].toNat : Int) == 37) = false := by simp; omega
        have m42 : ((s[k].toNat : Int) == 42) = false := by simp; omega
        have m35 : ((s[k].toNat : Int) == 35) = false := by simp; omega
        have m59 : ((s[k].toNat : Int) == 59) = false := by simp; omega
        have m58 : ((s[k].toNat : Int) == 58) = false := by simp; omega
        have m34 : ((s[k].toNat : Int) == 34) = false := by simp; omega
        have m39 : ((s[k].toNat : Int) == 39) = false := by simp; omega
        by_cases g1 : s[k].toNat < 33
        · have hb : Hid (byteB s[k] = false) := ⟨by unfold byteB; simp [g1]⟩
          clear hbar
          go_wp2
          go_ret
          exact ⟨ret_bool (HS.out hb.out).symm, rfl⟩
        · by_cases g2 : 126 < s[k].toNat
          · have hb : Hid (byteB s[k] = false) := ⟨by unfold byteB; simp [g2]⟩
            clear hbar
            go_wp2
            go_ret
            exact ⟨ret_bool (HS.out hb.out).symm, rfl⟩
          · have hb : Hid (byteB s[k] = true) := ⟨by unfold byteB; rw [decide_eq_false g1, decide_eq_false g2, show [40, 41, 44, 64, 36, 37, 42, 35, 59, 58, 34, 39].contains s[k] = false from hbar]; rfl⟩
            clear hbar
            go_wp2
            go_round
            case rel => exact ⟨k + 1, hlt, by go_num, ⟨by rw [HT.out, hb.out]⟩⟩
            case measure => simp [intOf]; omega
      · have hb : Hid (byteB s[k] = false) := ⟨by unfold byteB; rw [show [40, 41, 44, 64, 36, 37, 42, 35, 59, 58, 34, 39].contains s[k] = true from hbar]; simp⟩
        have hc := bar_cases _ hbar
        clear hbar
        rcases hc with hc | hc | hc | hc | hc | hc | hc | hc | hc | hc | hc | hc
        all_goals
          go_wp2
          go_ret
          exact ⟨ret_bool (HS.out hb.out).symm, rfl⟩
    · have hk' : k = s.size := by omega
      subst hk'
      have he : Hid (s.data.toList.all byteB = true) := ⟨by
        have := hall.out
        rwa [List.take_of_length_le (by omega)] at this⟩
      by_cases g1 : 1 ≤ s.size
      · by_cases g2 : s.size ≤ 255
        · have HE : Hid (r = true) := ⟨by rw [← HR.out]; unfold isNameB; rw [he.out, hl]; simp [g1, g2]⟩
          go_wp2
          go_ret
          exact ⟨ret_bool (by rw [HE.out]; simp; try omega), rfl⟩
        · have HE : Hid (r = false) := ⟨by rw [← HR.out]; unfold isNameB; rw [he.out, hl]; simp [g2]⟩
          go_wp2
          go_ret
          exact ⟨ret_bool (by rw [HE.out]; simp; try omega), rfl⟩
      · have HE : Hid (r = false) := ⟨by rw [← HR.out]; unfold isNameB; rw [hl]; simp [g1]⟩
        go_wp2
        go_ret
        exact ⟨ret_bool HE.out.symm, rfl⟩
end Go.Proofs.YtdgejingoamfeaaDoor
