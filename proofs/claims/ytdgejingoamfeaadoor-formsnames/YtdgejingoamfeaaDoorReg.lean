/- The contracts of Register, baseText and withSign. -/
import Derived.Test.YtdgejingoamfeaaDoorRow
import Derived.Test.YtdgejingoamfeaaDoorItoa
import Derived.Test.YtdgejingoamfeaaDoorWhole
import Derived.Lib.ItoaLen
namespace Go.Proofs.YtdgejingoamfeaaDoor
open Go.ChangeShapes Go.WideShapes Go.ChangeAt Go.RowKit
set_option linter.unusedVariables false

/-- A register's name. -/
def regV (r s : Int) : ByteArray := if placeV s < 0 ∨ isRegB r = false then ⟨#[]⟩ else regL.getD (r.toNat * 3 + (placeV s).toNat) ⟨#[]⟩

theorem place_cases (s : Int) : placeV s = -1 ∨ placeV s = 0 ∨ placeV s = 1 ∨ placeV s = 2 := by
  unfold placeV; split
  · simp
  · split
    · simp
    · split
      · simp
      · simp

theorem isReg_iff (r : Int) : isRegB r = true ↔ 0 ≤ r ∧ r ≤ 15 := by simp [isRegB, withinB]

theorem regL_size : ∀ j, (regL.getD j ⟨#[]⟩).size ≤ 4 := by
  intro j
  by_cases h : j < 48
  · have : ∀ j : Fin 48, (regL.getD j.val ⟨#[]⟩).size ≤ 4 := by decide +kernel
    exact this ⟨j, h⟩
  · have : regL.length ≤ j := by simp [regL]; omega
    simp [List.getD, List.getElem?_eq_none this]
    decide
theorem regV_size (r s : Int) : (regV r s).size ≤ 4 := by
  unfold regV; split
  · decide
  · exact regL_size _

set_option maxHeartbeats 1000000 in
theorem register_any (r s : Int) (w : World) (hw : Gl w) :
    Calls Tryd.prog 21 #[.int .i64 r, .int .i64 s] w fun e w' => e = .returned (.string (regV r s)) ∧ Below w.heap.size w w' := by
  have HP : Hid (∀ v, Below w.heap.size w v → Calls Tryd.prog 43 #[.int .i64 s] v fun e w' => e = .returned (.int .i64 (placeV s)) ∧ Below v.heap.size v w') := ⟨fun v hv => placeOf_any s v (hw.bel hv)⟩
  have HQ : Hid (∀ v, Calls Tryd.prog 44 #[.int .i64 r] v fun e w' => e = .returned (.bool (isRegB r)) ∧ w' = v) := ⟨fun v => isReg_any r v⟩
  have HV : regV r s = if placeV s < 0 ∨ isRegB r = false then ⟨#[]⟩ else regL.getD (r.toNat * 3 + (placeV s).toNat) ⟨#[]⟩ := rfl
  have HB := isReg_iff r
  have HC := place_cases s
  have HW : Hid (Gl w) := ⟨hw⟩
  rw [HV]
  clear HV hw
  generalize placeV s = p at *
  generalize isRegB r = q at *
  by_cases hp : p < 0
  · rw [if_pos (.inl hp)]
    clear HC HB
    go_enter Tryd.func21, Tryd.ntmps21
    go_wp2_with (go_at_call 43; refine (HP.out _ (Below.refl _ _)).mono ?_; rintro e w1 ⟨rfl, hb⟩)
    go_ret
    exact ⟨rfl, hb⟩
  · rcases q with _ | _
    · rw [if_pos (.inr rfl)]
      clear HC HB
      go_enter Tryd.func21, Tryd.ntmps21
      go_wp2_with (first | (go_at_call 43; refine (HP.out _ (Below.refl _ _)).mono ?_; rintro e w1 ⟨rfl, hb⟩) | (go_at_call 44; refine (HQ.out _).mono ?_; rintro e w2 ⟨rfl, hw2⟩; subst w2))
      go_ret
      exact ⟨rfl, hb⟩
    · rw [if_neg (by simp [hp])]
      obtain ⟨h0, h1⟩ := HB.1 rfl
      have h2 : p ≤ 2 := by omega
      have h3 : 0 ≤ p := by omega
      obtain ⟨a, rfl⟩ := Int.eq_ofNat_of_zero_le h0
      obtain ⟨b, rfl⟩ := Int.eq_ofNat_of_zero_le h3
      have HT : Hid (∀ v, Below w.heap.size w v → v.cell? ⟨0, a * 3 + b, none⟩ = some (.string (regL.getD ((a : Int).toNat * 3 + (b : Int).toNat) ⟨#[]⟩))) := ⟨fun v hv => (HW.out.bel hv).regs _ (by omega)⟩
      generalize regL.getD ((a : Int).toNat * 3 + (b : Int).toNat) ⟨#[]⟩ = t at *
      clear HB HC
      go_enter Tryd.func21, Tryd.ntmps21
      go_wp2_with (first | (go_at_call 43; refine (HP.out _ (Below.refl _ _)).mono ?_; rintro e w1 ⟨rfl, hb⟩; have ht := HT.out _ hb) | (go_at_call 44; refine (HQ.out _).mono ?_; rintro e w2 ⟨rfl, hw2⟩; subst w2))
      go_ret
      exact ⟨rfl, hb⟩
end Go.Proofs.YtdgejingoamfeaaDoor
