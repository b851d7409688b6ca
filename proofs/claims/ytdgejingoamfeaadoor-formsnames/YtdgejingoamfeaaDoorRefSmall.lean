/- The document's small calls: int32, name, none, reg, imm, Short. -/
import Derived.Test.YtdgejingoamfeaaDoorMay
namespace Go.Proofs.YtdgejingoamfeaaDoor
open Go.ChangeShapes Go.WideShapes Go.ChangeAt Go.RowKit
set_option linter.unusedVariables false

theorem refFits_any (n : Int) (w : World) :
    Calls Tryd.prog 90 #[.int .i64 n, .int .i64 32, .bool true] w fun e w' => e = .returned (.bool (fitsSB n)) ∧ w' = w := by
  by_cases h : -2147483648 ≤ n
  · have HR : Hid (fitsSB n = decide (n < 2147483648)) := ⟨by unfold fitsSB withinB; simp [h]; omega⟩
    go_enter Tryd.func90, Tryd.ntmps90
    go_wp2
    go_ret
    exact ⟨ret_bool HR.out.symm, rfl⟩
  · have HR : Hid (fitsSB n = false) := ⟨by unfold fitsSB withinB; simp [h]⟩
    go_enter Tryd.func90, Tryd.ntmps90
    go_wp2
    go_ret
    exact ⟨ret_bool HR.out.symm, rfl⟩

theorem int32_any (n : Int) (w : World) :
    Calls Tryd.prog 67 #[.int .i64 n] w fun e w' => e = .returned (.bool (fitsSB n)) ∧ w' = w := by
  go_enter Tryd.func67, Tryd.ntmps67
  go_wp2_with (go_at_call 90; refine (refFits_any _ _).mono ?_; rintro e w1 ⟨rfl, hw⟩; subst w1)
  go_ret
  exact ⟨rfl, rfl⟩

theorem refShort_any (n s : Int) (w : World) :
    Calls Tryd.prog 88 #[.int .i64 n, .int .i64 s] w fun e w' => e = .returned (.bool (fitsB n s)) ∧ w' = w := by
  obtain ⟨a, ha⟩ : ∃ x, (s == 1) = x := ⟨_, rfl⟩
  obtain ⟨b, hb⟩ : ∃ x, (s == 4) = x := ⟨_, rfl⟩
  rcases a with _ | _
  · rcases b with _ | _
    · have HR : Hid (fitsB n s = fitsSB n) := ⟨by simp at ha hb; simp [fitsB, ha, hb]⟩
      go_enter Tryd.func88, Tryd.ntmps88
      go_wp2_with (go_at_call 67; refine (int32_any _ _).mono ?_; rintro e w1 ⟨rfl, hw⟩; subst w1)
      go_ret
      exact ⟨ret_bool HR.out.symm, rfl⟩
    · by_cases h : -2147483648 ≤ n
      · have HR : Hid (fitsB n s = decide (n < 4294967296)) := ⟨by simp at ha hb; simp [fitsB, hb, withinB, h]; omega⟩
        go_enter Tryd.func88, Tryd.ntmps88
        go_wp2
        go_ret
        exact ⟨ret_bool HR.out.symm, rfl⟩
      · have HR : Hid (fitsB n s = false) := ⟨by simp at ha hb; simp [fitsB, hb, withinB, h]⟩
        go_enter Tryd.func88, Tryd.ntmps88
        go_wp2
        go_ret
        exact ⟨ret_bool HR.out.symm, rfl⟩
  · by_cases h : -128 ≤ n
    · have HR : Hid (fitsB n s = decide (n ≤ 255)) := ⟨by simp at ha; simp [fitsB, ha, withinB, h]⟩
      go_enter Tryd.func88, Tryd.ntmps88
      go_wp2
      go_ret
      exact ⟨ret_bool HR.out.symm, rfl⟩
    · have HR : Hid (fitsB n s = false) := ⟨by simp at ha; simp [fitsB, ha, withinB, h]⟩
      go_enter Tryd.func88, Tryd.ntmps88
      go_wp2
      go_ret
      exact ⟨ret_bool HR.out.symm, rfl⟩

/-- Which operand it is. -/
def noneB (o : O) : Bool := o.same zeroO
def regB (o : O) : Bool := o.same ⟨1, o.r, 0, 0, 0, false, false, 0, ⟨#[]⟩, 0⟩ && isRegB o.r
def immB (o : O) : Bool := o.same ⟨2, 0, 0, 0, 0, false, false, o.n, ⟨#[]⟩, 0⟩

theorem refNone_any (o : O) (w : World) :
    Calls Tryd.prog 29 #[o.val] w fun e w' => e = .returned (.bool (noneB o)) ∧ Below w.heap.size w w' := by
  have FE : ∀ v, Sem.run Tryd.prog (binOp .eql 23 o.val (O.val zeroO)) v = .ok (.bool (noneB o)) v := fun v => opd_eq _ _ v
  simp only [O.val, zeroO] at FE
  unfold O.val
  go_enter Tryd.func29, Tryd.ntmps29
  go_wp2
  go_ret
  exact ⟨rfl, bel_alloc (Below.refl _ _) _⟩

theorem refImm_any (o : O) (w : World) :
    Calls Tryd.prog 63 #[o.val] w fun e w' => e = .returned (.bool (immB o)) ∧ Below w.heap.size w w' := by
  have FE : ∀ v, Sem.run Tryd.prog (binOp .eql 23 o.val (O.val ⟨2, 0, 0, 0, 0, false, false, o.n, ⟨#[]⟩, 0⟩)) v = .ok (.bool (immB o)) v := fun v => opd_eq _ _ v
  simp only [O.val] at FE
  unfold O.val
  go_enter Tryd.func63, Tryd.ntmps63
  go_wp2
  go_ret
  exact ⟨rfl, bel_alloc (Below.refl _ _) _⟩

theorem refReg_any (o : O) (w : World) :
    Calls Tryd.prog 62 #[o.val] w fun e w' => e = .returned (.bool (regB o)) ∧ Below w.heap.size w w' := by
  have FE : ∀ v, Sem.run Tryd.prog (binOp .eql 23 o.val (O.val ⟨1, o.r, 0, 0, 0, false, false, 0, ⟨#[]⟩, 0⟩)) v = .ok (.bool (o.same ⟨1, o.r, 0, 0, 0, false, false, 0, ⟨#[]⟩, 0⟩)) v := fun v => opd_eq _ _ v
  simp only [O.val] at FE
  unfold regB
  generalize o.same ⟨1, o.r, 0, 0, 0, false, false, 0, ⟨#[]⟩, 0⟩ = c at *
  unfold O.val
  by_cases h0 : 0 ≤ o.r
  · by_cases h1 : o.r < 16
    · have HR : Hid (isRegB o.r = true) := ⟨by simp [isRegB, withinB, h0]; omega⟩
      go_enter Tryd.func62, Tryd.ntmps62
      go_wp2
      go_ret
      exact ⟨ret_bool (by rw [HR.out]; simp), bel_alloc (Below.refl _ _) _⟩
    · have HR : Hid (isRegB o.r = false) := ⟨by simp [isRegB, withinB]; omega⟩
      go_enter Tryd.func62, Tryd.ntmps62
      go_wp2
      go_ret
      exact ⟨ret_bool (by rw [HR.out]; simp), bel_alloc (Below.refl _ _) _⟩
  · have HR : Hid (isRegB o.r = false) := ⟨by simp [isRegB, withinB]; omega⟩
    go_enter Tryd.func62, Tryd.ntmps62
    go_wp2
    go_ret
    exact ⟨ret_bool (by rw [HR.out]; simp), bel_alloc (Below.refl _ _) _⟩
end Go.Proofs.YtdgejingoamfeaaDoor
