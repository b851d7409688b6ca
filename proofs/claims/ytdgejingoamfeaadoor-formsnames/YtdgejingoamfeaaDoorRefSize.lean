/- The document's size and cond. -/
import Derived.Test.YtdgejingoamfeaaDoorRow
namespace Go.Proofs.YtdgejingoamfeaaDoor
open Go.ChangeShapes Go.WideShapes Go.ChangeAt Go.RowKit
set_option linter.unusedVariables false

/-- Which sizes an op has. -/
def sizeG (op : Int) : Nat :=
  if [1, 3, 4, 5, 6, 7, 8, 9, 10, 11, 13, 14, 15, 16, 17, 18, 19].contains op then 0 else if [2, 12, 28, 29, 30, 31].contains op then 1 else if [20, 21, 22, 23, 24].contains op then 2 else if op = 27 then 3 else 4
def sizeRB (op s : Int) : Bool :=
  if sizeG op = 0 then s == 1 || (s == 4 || s == 8) else if sizeG op = 1 then s == 4 || s == 8 else if sizeG op = 2 then s == 8 else if sizeG op = 3 then s == 1 else s == 0
def condRB (op c : Int) : Bool := if op = 24 ∨ op = 27 ∨ op = 28 then decide (0 ≤ c) && decide (c < 16) else c == 0

set_option maxHeartbeats 8000000 in
theorem refSize_any (op s : Int) (w : World) (h0 : 1 ≤ op) (h1 : op ≤ 35) :
    Calls Tryd.prog 35 #[.int .i64 op, .int .i64 s] w fun e w' => e = .returned (.bool (sizeRB op s)) ∧ w' = w := by
  obtain ⟨a, ha⟩ : ∃ x, (s == 1) = x := ⟨_, rfl⟩
  obtain ⟨b, hb⟩ : ∃ x, (s == 4) = x := ⟨_, rfl⟩
  have HR : Hid (sizeRB op s = if sizeG op = 0 then a || (b || s == 8) else if sizeG op = 1 then b || s == 8 else if sizeG op = 2 then s == 8 else if sizeG op = 3 then a else s == 0) := ⟨by unfold sizeRB; rw [ha, hb]⟩
  generalize sizeRB op s = z at *
  rcases op_cases h0 h1 with rfl | rfl | rfl | rfl | rfl | rfl | rfl | rfl | rfl | rfl | rfl | rfl | rfl | rfl | rfl | rfl | rfl | rfl | rfl | rfl | rfl | rfl | rfl | rfl | rfl | rfl | rfl | rfl | rfl | rfl | rfl | rfl | rfl | rfl | rfl
  all_goals
    clear h0 h1
    rcases a with _ | _ <;> rcases b with _ | _
    all_goals
      go_enter Tryd.func35, Tryd.ntmps35
      go_wp2
      go_ret
      exact ⟨ret_bool (by rw [HR.out]; rfl), rfl⟩

set_option maxHeartbeats 2000000 in
theorem refSize_no (op s : Int) (w : World) (h : ¬ (1 ≤ op ∧ op ≤ 35)) :
    Calls Tryd.prog 35 #[.int .i64 op, .int .i64 s] w fun e w' => e = .returned (.bool false) ∧ w' = w := by
  have e1 : (op == 1) = false := by simp; omega
  have e2 : (op == 2) = false := by simp; omega
  have e3 : (op == 3) = false := by simp; omega
  have e4 : (op == 4) = false := by simp; omega
  have e5 : (op == 5) = false := by simp; omega
  have e6 : (op == 6) = false := by simp; omega
  have e7 : (op == 7) = false := by simp; omega
  have e8 : (op == 8) = false := by simp; omega
  have e9 : (op == 9) = false := by simp; omega
  have e10 : (op == 10) = false := by simp; omega
  have e11 : (op == 11) = false := by simp; omega
  have e12 : (op == 12) = false := by simp; omega
  have e13 : (op == 13) = false := by simp; omega
  have e14 : (op == 14) = false := by simp; omega
  have e15 : (op == 15) = false := by simp; omega
  have e16 : (op == 16) = false := by simp; omega
  have e17 : (op == 17) = false := by simp; omega
  have e18 : (op == 18) = false := by simp; omega
  have e19 : (op == 19) = false := by simp; omega
  have e20 : (op == 20) = false := by simp; omega
  have e21 : (op == 21) = false := by simp; omega
  have e22 : (op == 22) = false := by simp; omega
  have e23 : (op == 23) = false := by simp; omega
  have e24 : (op == 24) = false := by simp; omega
  have e25 : (op == 25) = false := by simp; omega
  have e26 : (op == 26) = false := by simp; omega
  have e27 : (op == 27) = false := by simp; omega
  have e28 : (op == 28) = false := by simp; omega
  have e29 : (op == 29) = false := by simp; omega
  have e30 : (op == 30) = false := by simp; omega
  have e31 : (op == 31) = false := by simp; omega
  have e32 : (op == 32) = false := by simp; omega
  have e33 : (op == 33) = false := by simp; omega
  have e34 : (op == 34) = false := by simp; omega
  have e35 : (op == 35) = false := by simp; omega
  clear h
  go_enter Tryd.func35, Tryd.ntmps35
  go_wp2
  go_ret
  exact ⟨rfl, rfl⟩

set_option maxHeartbeats 2000000 in
theorem refCond_any (op c : Int) (w : World) :
    Calls Tryd.prog 36 #[.int .i64 op, .int .i64 c] w fun e w' => e = .returned (.bool (condRB op c)) ∧ w' = w := by
  by_cases h : op = 24 ∨ op = 27 ∨ op = 28
  · by_cases h0 : 0 ≤ c
    · have HR : Hid (condRB op c = decide (c < 16)) := ⟨by unfold condRB; rw [if_pos h]; simp [h0]⟩
      obtain ⟨a, ha⟩ : ∃ x, (op == 24) = x := ⟨_, rfl⟩
      obtain ⟨b, hb⟩ : ∃ x, (op == 27) = x := ⟨_, rfl⟩
      have hd : a = false → b = false → (op == 28) = true := by intro x y; subst x y; simp at ha hb; simp; omega
      generalize condRB op c = z at *
      clear h
      rcases a with _ | _
      case' false => rcases b with _ | _
      case' false.false => have hd := hd rfl rfl
      all_goals
        go_enter Tryd.func36, Tryd.ntmps36
        go_wp2
        go_ret
        exact ⟨ret_bool HR.out.symm, rfl⟩
    · have HR : Hid (condRB op c = false) := ⟨by unfold condRB; rw [if_pos h]; simp [h0]⟩
      obtain ⟨a, ha⟩ : ∃ x, (op == 24) = x := ⟨_, rfl⟩
      obtain ⟨b, hb⟩ : ∃ x, (op == 27) = x := ⟨_, rfl⟩
      have hd : a = false → b = false → (op == 28) = true := by intro x y; subst x y; simp at ha hb; simp; omega
      generalize condRB op c = z at *
      clear h
      rcases a with _ | _
      case' false => rcases b with _ | _
      case' false.false => have hd := hd rfl rfl
      all_goals
        go_enter Tryd.func36, Tryd.ntmps36
        go_wp2
        go_ret
        exact ⟨ret_bool HR.out.symm, rfl⟩
  · have HR : Hid (condRB op c = (c == 0)) := ⟨by unfold condRB; rw [if_neg h]⟩
    have e1 : (op == 24) = false := by simp; omega
    have e2 : (op == 27) = false := by simp; omega
    have e3 : (op == 28) = false := by simp; omega
    generalize condRB op c = z at *
    clear h
    go_enter Tryd.func36, Tryd.ntmps36
    go_wp2
    go_ret
    exact ⟨ret_bool HR.out.symm, rfl⟩
end Go.Proofs.YtdgejingoamfeaaDoor
