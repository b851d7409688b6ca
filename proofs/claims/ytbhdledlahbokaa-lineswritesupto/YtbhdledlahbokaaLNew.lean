/- A new state. -/
import Derived.Test.YtbhdledlahbokaaLRunX
namespace Go.Proofs.Ytbhdledlahbokaa
open Go.ChangeShapes Go.WideShapes Go.ChangeAt Go.RowKit Go.Conc
set_option linter.unusedVariables false
set_option linter.unusedSimpArgs false

def Ms.new : Ms := ⟨0, ⟨0, 0, 0, 0⟩, 0, 0, 0, true, []⟩
theorem infoEv : (Try.prog.info? 131).map (·.bytes) = some 56 := by kernel_rfl
theorem mkC (n : Nat) (hn : n ≤ 256064) (w : World) : (Instr.makeChan 106 (.int .i64 (n : Int))).run Try.prog w = .ok (.chan (some w.heap.size)) (w.alloc (.chan n #[] false 0 0 false)) := by
  obtain ⟨i, hi, hb⟩ := Option.map_eq_some_iff.1 infoEv
  exact run_makeChan (P := Try.prog) (w := w) Try.underlying106 hi .i64 n (by omega) (by rw [hb]; omega)
theorem newState_ok (g off len cp : Nat) (hl : len ≤ 1048576) (w : World) : Calls Try.prog 51 #[.slice (some ⟨g, off, none⟩) len cp] w fun e w' => e = .returned (.pointer (some ⟨w.heap.size + 1, 0, none⟩)) ∧ SA (w.heap.size + 1, w.heap.size) w' w' (w.heap.size + 1) w.heap.size (.slice (some ⟨g, off, none⟩) len cp) Ms.new (min len 256064) ∧ Below w.heap.size w w' := by
  have HMc : Hid _ := ⟨mkC (min len 256064) (by omega) w⟩
  have HM : Hid ((if (256064 : Int) < (len : Int) then (256064 : Int) else (len : Int)) = ((min len 256064 : Nat) : Int)) := ⟨by split <;> omega⟩
  clear hl
  generalize min len 256064 = C at *
  go_enter Try.func51, Try.ntmps51
  go_upto_region 2 with (fail)
  rw [HM.out]
  have hmc := HMc.out
  clear HM HMc
  go_wp2
  go_ret
  refine ⟨by simp, ⟨Fr.refl _ _, ⟨?_⟩, ?_, rfl, rfl⟩, ((Below.refl _ w).alloc (Nat.le_refl _) _).alloc (by simp) _⟩
  · have := heap_alloc_new (w.alloc (.chan C #[] false 0 0 false)) (.cells (sC (.slice (some ⟨g, off, none⟩) len cp) Ms.new w.heap.size) 108)
    rw [show (w.alloc (.chan C #[] false 0 0 false)).heap.size = w.heap.size + 1 by simp] at this
    exact this
  · rw [heap_alloc_old _ _ (by simp)]
    exact heap_alloc_new w _
end Go.Proofs.Ytbhdledlahbokaa
