/- The contract of the law's live, and when two flags are the same. -/
import Derived.Test.YtbfkmnlbmlpogaaDoorCalls
namespace Go.Proofs.YtbfkmnlbmlpogaaDoor
open Go.ChangeShapes Go.WideShapes Go.ChangeAt Go.RowKit
set_option linter.unusedVariables false

theorem flags_eq (a b c d e : Bool) (w : World) : Sem.run Tryd.prog (binOp .eql 24 (.agg #[.bool a, .bool b, .bool c, .bool d, .bool e]) (.agg #[.bool a, .bool b, .bool c, .bool d, .bool e])) w = .ok (.bool true) w := by
  cases a <;> cases b <;> cases c <;> cases d <;> cases e <;> kernel_rfl

theorem live_add (w : World) (hw : Wd w) :
    Calls Tryd.prog 9 #[.int .u64 255, .int .u64 1, .bool false, .int .i64 1] w fun e w' => e = .returned (.tuple #[.int .u64 0, .agg #[.bool true, .bool true, .bool true, .bool false, .bool false], .int .i64 0]) ∧ Below w.heap.size w w' := by
  have h := add_yes 255 1 false 1 8 31 w (.inl ⟨rfl, rfl, rfl⟩) hw
  exact h
theorem live_sub (w : World) (hw : Wd w) :
    Calls Tryd.prog 11 #[.int .u64 0, .int .u64 1, .bool false, .int .i64 4] w fun e w' => e = .returned (.tuple #[.int .u64 4294967295, .agg #[.bool true, .bool true, .bool false, .bool true, .bool false], .int .i64 0]) ∧ Below w.heap.size w w' := by
  have h := sub_yes 0 1 false 4 32 31 w (.inr (.inl ⟨rfl, rfl, rfl⟩)) hw
  exact h

set_option maxRecDepth 4000 in
theorem live_any (w : World) (hw : Wd w) :
    Calls Tryd.prog 18 #[] w fun e w' => e = .returned (.bool true) ∧ Below w.heap.size w w' := by
  have HW : Hid (Wd w) := hw
  clear hw
  have fe := flags_eq
  go_enter Tryd.func18, Tryd.ntmps18
  go_wp2_with (first
    | (go_at_call 9; refine (live_add _ HW.out).mono ?_; rintro e w1 ⟨rfl, hb⟩; have W1 : Hid (Wd w1) := HW.out.bel hb)
    | (go_at_call 11; refine (live_sub _ (W1.out.alloc _)).mono ?_; rintro e w2 ⟨rfl, hb2⟩; obtain ⟨hc2, hf2⟩ := bcell hb2; have hz : w1.heap.size < w2.heap.size := (by have := hb2.size; simp at this; omega))
    | (go_at_call 17; refine (num_any _ _).mono ?_; rintro e w3 ⟨rfl, rfl⟩))
  go_ret
  exact ⟨rfl, bel_alloc (bel_trans (bel_alloc hb _) hb2) _⟩
end Go.Proofs.YtbfkmnlbmlpogaaDoor
