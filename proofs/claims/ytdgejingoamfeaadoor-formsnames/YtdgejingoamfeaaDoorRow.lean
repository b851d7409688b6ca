/- The contracts of placeOf, rowOf, has and reaches. -/
import Derived.Test.YtdgejingoamfeaaDoorTable
import Derived.Laws.EntriesVeiled
namespace Go.Proofs.YtdgejingoamfeaaDoor
open Go.ChangeShapes Go.WideShapes Go.ChangeAt Go.RowKit
set_option linter.unusedVariables false

theorem at0 (w : World) : (Instr.index 82 (.agg #[.int .i64 8, .string ⟨#[113]⟩, .int .i64 4, .string ⟨#[108]⟩, .int .i64 1, .string ⟨#[98]⟩]) (.int .i64 0)).run Tryd.prog w = .ok (.agg #[.int .i64 8, .string ⟨#[113]⟩]) w := by kernel_rfl
theorem at1 (w : World) : (Instr.index 82 (.agg #[.int .i64 8, .string ⟨#[113]⟩, .int .i64 4, .string ⟨#[108]⟩, .int .i64 1, .string ⟨#[98]⟩]) (.int .i64 1)).run Tryd.prog w = .ok (.agg #[.int .i64 4, .string ⟨#[108]⟩]) w := by kernel_rfl
theorem at2 (w : World) : (Instr.index 82 (.agg #[.int .i64 8, .string ⟨#[113]⟩, .int .i64 4, .string ⟨#[108]⟩, .int .i64 1, .string ⟨#[98]⟩]) (.int .i64 2)).run Tryd.prog w = .ok (.agg #[.int .i64 1, .string ⟨#[98]⟩]) w := by kernel_rfl

set_option maxHeartbeats 1000000 in
set_option maxRecDepth 4000 in
theorem placeOf_any (s : Int) (w : World) (h : Gl w) :
    Calls Tryd.prog 43 #[.int .i64 s] w fun e w' => e = .returned (.int .i64 (placeV s)) ∧ Below w.heap.size w w' := by
  obtain ⟨hz, _, c0, c1, c2, c3, c4, c5, _, _, _⟩ := h
  have i0 := at0
  have i1 := at1
  have i2 := at2
  obtain ⟨a8, h8⟩ : ∃ x, ((8 : Int) == s) = x := ⟨_, rfl⟩
  obtain ⟨a4, h4⟩ : ∃ x, ((4 : Int) == s) = x := ⟨_, rfl⟩
  obtain ⟨a1, h1⟩ : ∃ x, ((1 : Int) == s) = x := ⟨_, rfl⟩
  have HR : Hid (placeV s = if a8 then 0 else if a4 then 1 else if a1 then 2 else -1) := ⟨by
    rw [← h8, ← h4, ← h1]; unfold placeV
    by_cases e8 : s = 8
    · subst e8; rfl
    · by_cases e4 : s = 4
      · subst e4; rfl
      · by_cases e1 : s = 1
        · subst e1; rfl
        · rw [if_neg e8, if_neg e4, if_neg e1]
          simp [show ¬ (8 : Int) = s from fun e => e8 e.symm, show ¬ (4 : Int) = s from fun e => e4 e.symm, show ¬ (1 : Int) = s from fun e => e1 e.symm]⟩
  rcases a8 with _ | _
  case' false => rcases a4 with _ | _
  case' false.false => rcases a1 with _ | _
  all_goals
    go_enter Tryd.func43, Tryd.ntmps43
    go_wp2
    clear c0 c1 c2 c3 c4 c5
    refine wp_loop_rounds 4 ?_
    repeat (rw [rounds_succ]; go_wp2)
    go_ret
    refine ⟨ret_int (by rw [HR.out]; rfl), ?_⟩
    repeat (first | (with_reducible exact Below.refl _ _) | (with_reducible refine bel_alloc ?_ _))

/-- The row of an op. -/
def rowL (op : Int) : R := rowsL.getD (op.toNat - 1) ⟨⟨#[]⟩, 0, false, false, false, 0, 0, 0, 0⟩
abbrev zeroV : Value := .agg #[.string ⟨#[]⟩, .int .i64 0, .bool false, .bool false, .bool false, .nilFunc, .int .i64 0, .int .i64 0, .int .i64 0]

theorem op_cases {op : Int} (h0 : 1 ≤ op) (h1 : op ≤ 35) : op = 1 ∨ op = 2 ∨ op = 3 ∨ op = 4 ∨ op = 5 ∨ op = 6 ∨ op = 7 ∨ op = 8 ∨ op = 9 ∨ op = 10 ∨ op = 11 ∨ op = 12 ∨ op = 13 ∨ op = 14 ∨ op = 15 ∨ op = 16 ∨ op = 17 ∨ op = 18 ∨ op = 19 ∨ op = 20 ∨ op = 21 ∨ op = 22 ∨ op = 23 ∨ op = 24 ∨ op = 25 ∨ op = 26 ∨ op = 27 ∨ op = 28 ∨ op = 29 ∨ op = 30 ∨ op = 31 ∨ op = 32 ∨ op = 33 ∨ op = 34 ∨ op = 35 := by omega

theorem at_row (op : Int) (h0 : 1 ≤ op) (h1 : op ≤ 35) (w : World) : (Instr.index 75 (.agg tabD) (.int .i64 op)).run Tryd.prog w = .ok (rowL op).val w := by
  rcases op_cases h0 h1 with rfl | rfl | rfl | rfl | rfl | rfl | rfl | rfl | rfl | rfl | rfl | rfl | rfl | rfl | rfl | rfl | rfl | rfl | rfl | rfl | rfl | rfl | rfl | rfl | rfl | rfl | rfl | rfl | rfl | rfl | rfl | rfl | rfl | rfl | rfl
  all_goals kernel_rfl
theorem at_row0 (w : World) : (Instr.index 75 (.agg tabD) (.int .i64 0)).run Tryd.prog w = .ok zeroV w := by kernel_rfl

theorem rowOf_yes (op : Int) (w : World) (h0 : 1 ≤ op) (h1 : op ≤ 35) :
    Calls Tryd.prog 31 #[.int .i64 op] w fun e w' => e = .returned (rowL op).val ∧ Below w.heap.size w w' := by
  have IX := at_row op h0 h1
  have TB : Hid (∀ v, Calls Tryd.prog 56 #[] v fun e w' => e = .returned (.agg tabD) ∧ w' = v.alloc (.cells tabD 75)) := ⟨table_any⟩
  generalize rowL op = r at *
  generalize tabD = T at *
  simp only [R.val] at *
  have g0 : ¬ op < 0 := by omega
  have g1 : ¬ 35 < op := by omega
  go_enter Tryd.func31, Tryd.ntmps31
  go_wp2_with (go_at_call 56; refine (TB.out _).mono ?_; rintro e w1 ⟨rfl, hw⟩; subst w1)
  refine bodyPost_ret (v := .agg #[.string r.stem, .int .i64 r.sizes, .bool r.lettered, .bool r.conditional, .bool r.short, .func (.func r.f) #[] #[], .int .i64 r.to, .int .i64 r.uses, .int .i64 r.sets]) (by simp [results, Tryd.results31, go_sem]) rfl ⟨rfl, ?_⟩
  repeat (first | (with_reducible exact Below.refl _ _) | (with_reducible refine bel_alloc ?_ _))

theorem rowOf_no (op : Int) (w : World) (h : op < 1 ∨ 35 < op) :
    Calls Tryd.prog 31 #[.int .i64 op] w fun e w' => e = .returned zeroV ∧ Below w.heap.size w w' := by
  by_cases h0 : op = 0
  · subst h0
    have IX := at_row0
    have TB : Hid (∀ v, Calls Tryd.prog 56 #[] v fun e w' => e = .returned (.agg tabD) ∧ w' = v.alloc (.cells tabD 75)) := ⟨table_any⟩
    generalize tabD = T at *
    clear h
    go_enter Tryd.func31, Tryd.ntmps31
    go_wp2_with (go_at_call 56; refine (TB.out _).mono ?_; rintro e w1 ⟨rfl, hw⟩; subst w1)
    refine bodyPost_ret (v := zeroV) (by simp [results, Tryd.results31, go_sem]) rfl ⟨rfl, ?_⟩
    repeat (first | (with_reducible exact Below.refl _ _) | (with_reducible refine bel_alloc ?_ _))
  · rcases (show op < 0 ∨ 35 < op by omega) with g | g
    · clear h
      go_enter Tryd.func31, Tryd.ntmps31
      go_wp2
      refine bodyPost_ret (v := zeroV) (by simp [results, Tryd.results31, go_sem]) rfl ⟨rfl, ?_⟩
      repeat (first | (with_reducible exact Below.refl _ _) | (with_reducible refine bel_alloc ?_ _))
    · have g' : ¬ op < 0 := by omega
      clear h
      go_enter Tryd.func31, Tryd.ntmps31
      go_wp2
      refine bodyPost_ret (v := zeroV) (by simp [results, Tryd.results31, go_sem]) rfl ⟨rfl, ?_⟩
      repeat (first | (with_reducible exact Below.refl _ _) | (with_reducible refine bel_alloc ?_ _))
end Go.Proofs.YtdgejingoamfeaaDoor
