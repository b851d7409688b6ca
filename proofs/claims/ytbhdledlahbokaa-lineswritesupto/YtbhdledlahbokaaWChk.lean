/- The document's Check. -/
import Derived.Test.YtbhdledlahbokaaLOpen
namespace Go.Proofs.Ytbhdledlahbokaa
open Go.ChangeShapes Go.WideShapes Go.ChangeAt Go.RowKit Go.Conc
set_option linter.unusedVariables false
set_option linter.unusedSimpArgs false

/-- No byte 0 among the first k. -/
theorem zeroB_next (s : ByteArray) (k : Nat) (hk : k < s.size) (h : (s.data.toList.take k).any (· == 0) = false) (hz : ¬ (s[k].toNat : Int) = 0) : (s.data.toList.take (k + 1)).any (· == 0) = false := by
  have hl : k < s.data.toList.length := by simpa using hk
  have e : s.data.toList.take (k + 1) = s.data.toList.take k ++ [s[k]] := by
    rw [List.take_add_one, show s[k] = s.data[k]'(by simpa using hl) from rfl]
    simp [show k < s.data.size by simpa using hl]
  rw [e, List.any_append, h]
  simp
  intro h0
  exact hz (by rw [h0]; rfl)
theorem zeroB_stop (s : ByteArray) (k : Nat) (hk : k < s.size) (hz : (s[k].toNat : Int) = 0) : zeroB s = true := by
  unfold zeroB
  rw [List.any_eq_true]
  refine ⟨s[k], ?_, ?_⟩
  · have hl : k < s.data.toList.length := by simpa using hk
    have : s.data.toList[k] ∈ s.data.toList := List.getElem_mem hl
    rw [show s[k] = s.data.toList[k] from rfl]
    exact this
  · have : s[k].toNat = 0 := by omega
    have h2 : s[k] = 0 := UInt8.toNat_inj.1 (by rw [this]; rfl)
    simp [h2]
set_option maxRecDepth 10000 in
set_option maxHeartbeats 2000000 in
theorem rfiles_any (ao : Option Addr) (c : Nat) (l : List ByteArray) (w : World) (hr : Strs w ao l) (hl : l.length ≤ 1048576) (hs : ∀ s ∈ l, s.size ≤ 9223372036854775807) :
    Calls Try.prog 29 #[.slice ao l.length c] w fun e w' => e = .returned (.bool (filesB l)) ∧ w' = w := by
  have HS : Hid _ := ⟨hs⟩
  have HR : Hid _ := ⟨hr⟩
  have HFb : Hid (filesB l = (decide (l.length ≤ 255) && l.all fileB)) := ⟨rfl⟩
  obtain ⟨B, hB⟩ : ∃ B, filesB l = B := ⟨_, rfl⟩
  rw [hB] at HFb ⊢
  clear hr hs hB
  have hl' : (l.length : Int) ≤ 1048576 := by omega
  go_enter Try.func29, Try.ntmps29
  go_wp2
  go_loopw [3] (fun iv wr => ∃ k : Nat, k ≤ l.length ∧ iv = .int .i64 k ∧ wr = w ∧ Hid ((l.take k).all fileB = true)) (fun iv _ => l.length - (intOf iv).toNat)
  case atStart => exact ⟨0, by omega, rfl, rfl, ⟨rfl⟩⟩
  case round =>
    obtain ⟨k, hk, rfl, rfl, HA⟩ := hrel
    by_cases hlt : k < l.length
    · obtain ⟨b, off, rfl, hc⟩ : ∃ b off, ao = some ⟨b, off, none⟩ ∧ ∀ i, i < l.length → wr.cell? ⟨b, off + i, none⟩ = some (.string (l.getD i ByteArray.empty)) := by
        rcases HR.out with h | h
        · omega
        · exact h
      have c0 := hc k hlt
      have q1 : (k : Int) < (l.length : Int) := by omega
      have q0 : (0 : Int) ≤ (k : Int) := by omega
      have hsz := HS.out (l.getD k ByteArray.empty) (by simp [hlt])
      have HNo : Hid (fileB (l.getD k ByteArray.empty) = false → B = false) := ⟨fun h => by rw [HFb.out, all_stop fileB l ByteArray.empty k hlt h]; simp⟩
      have HYe : Hid (fileB (l.getD k ByteArray.empty) = true → (l.take (k + 1)).all fileB = true) := ⟨fun h => by rw [all_snoc fileB l ByteArray.empty k hlt, HA.out, h]; rfl⟩
      clear hc
      generalize l.getD k ByteArray.empty = s at *
      by_cases h1 : (s.size : Int) < 1
      · obtain rfl : B = false := HNo.out (by unfold fileB inB; simp; omega)
        go_wp2
        go_ret
        exact ⟨rfl, rfl⟩
      by_cases h2 : (255 : Int) < (s.size : Int)
      · obtain rfl : B = false := HNo.out (by unfold fileB inB; simp; omega)
        go_wp2
        go_ret
        exact ⟨rfl, rfl⟩
      have HIn : Hid (inB (s.size : Int) 1 255 = true) := ⟨by unfold inB; simp; omega⟩
      go_wp2
      go_loopw [4] (fun jv wi => ∃ j : Nat, j ≤ s.size ∧ jv = .int .i64 j ∧ wi = wr ∧ Hid ((s.data.toList.take j).any (· == 0) = false)) (fun jv _ => s.size - (intOf jv).toNat)
      case atStart => exact ⟨0, by omega, rfl, rfl, ⟨rfl⟩⟩
      case round =>
        obtain ⟨j, hj, rfl, rfl, HZ⟩ := hrel
        by_cases hjl : j < s.size
        · have hcb := s[j].toNat_lt
          by_cases hz : (s[j].toNat : Int) = 0
          · obtain rfl : B = false := HNo.out (by unfold fileB; rw [zeroB_stop s j hjl hz]; simp)
            go_wp2
            go_ret
            exact ⟨rfl, rfl⟩
          · have HZ2 : Hid _ := ⟨zeroB_next s j hjl HZ.out hz⟩
            go_wp2
            go_roundw
            case rel => exact ⟨j + 1, hjl, by go_num, trivial, HZ2⟩
            case measure => simp [intOf]; omega
        · obtain rfl : j = s.size := by omega
          have HY : Hid _ := ⟨HYe.out (by
            unfold fileB zeroB
            rw [HIn.out]
            have := HZ.out
            rw [List.take_of_length_le (by simp)] at this
            rw [this]; rfl)⟩
          go_wp2
          go_roundw
          case rel => exact ⟨k + 1, hlt, by go_num, trivial, HY⟩
          case measure => simp [intOf]; omega
    · obtain rfl : k = l.length := by omega
      have HB : Hid (B = decide ((l.length : Int) ≤ 255)) := ⟨by
        rw [HFb.out]
        have := HA.out
        rw [List.take_of_length_le (Nat.le_refl _)] at this
        rw [this, Bool.and_true]
        congr 1
        apply propext
        omega⟩
      go_wp2
      go_ret
      exact ⟨ret_bool (by rw [HB.out]), rfl⟩
end Go.Proofs.Ytbhdledlahbokaa
