/- The document's target. -/
import Derived.Test.YtdgejingoamfeaaDoorRefName
namespace Go.Proofs.YtdgejingoamfeaaDoor
open Go.ChangeShapes Go.WideShapes Go.ChangeAt Go.RowKit
set_option linter.unusedVariables false

def targetRB (o : O) : Bool :=
  if empB o.nm then fitsSB o.n && o.same ⟨4, 0, 0, 0, 0, false, false, o.n, ⟨#[]⟩, 0⟩
  else (isNameB o.nm && (o.m == 0 || o.m == 1)) && o.same ⟨4, 0, 0, 0, 0, false, false, 0, o.nm, o.m⟩

set_option maxHeartbeats 2000000 in
theorem refTarget_any (o : O) (w : World) (hs : o.nm.size ≤ 9223372036854775807) :
    Calls Tryd.prog 87 #[o.val] w fun e w' => e = .returned (.bool (targetRB o)) ∧ Below w.heap.size w w' := by
  cases he : o.nm.toList.isEmpty
  · have FE : ∀ v, Sem.run Tryd.prog (binOp .eql 23 o.val (O.val ⟨4, 0, 0, 0, 0, false, false, 0, o.nm, o.m⟩)) v = .ok (.bool (o.same ⟨4, 0, 0, 0, 0, false, false, 0, o.nm, o.m⟩)) v := fun v => opd_eq _ _ v
    simp only [O.val] at FE
    have CN : Hid (∀ v, Calls Tryd.prog 99 #[.string o.nm] v fun e w' => e = .returned (.bool (isNameB o.nm)) ∧ w' = v) := ⟨fun v => refName_any o.nm v hs⟩
    obtain ⟨a, ha⟩ : ∃ x, (o.m == 0) = x := ⟨_, rfl⟩
    obtain ⟨b, hb⟩ : ∃ x, (o.m == 1) = x := ⟨_, rfl⟩
    have HR : Hid (targetRB o = ((isNameB o.nm && (a || b)) && o.same ⟨4, 0, 0, 0, 0, false, false, 0, o.nm, o.m⟩)) := ⟨by unfold targetRB empB; rw [he, ha, hb]; rfl⟩
    generalize o.same ⟨4, 0, 0, 0, 0, false, false, 0, o.nm, o.m⟩ = c at *
    generalize isNameB o.nm = x at *
    generalize targetRB o = z at *
    unfold O.val
    clear hs
    rcases x with _ | _
    case' true => rcases a with _ | _
    case' true.false => rcases b with _ | _
    all_goals
      go_enter Tryd.func87, Tryd.ntmps87
      go_wp2_with (go_at_call 99; refine (CN.out _).mono ?_; rintro e w1 ⟨rfl, hw⟩; subst w1)
      go_ret
      exact ⟨ret_bool (by rw [HR.out]; rfl), bel_alloc (Below.refl _ _) _⟩
  · have FE : ∀ v, Sem.run Tryd.prog (binOp .eql 23 o.val (O.val ⟨4, 0, 0, 0, 0, false, false, o.n, ⟨#[]⟩, 0⟩)) v = .ok (.bool (o.same ⟨4, 0, 0, 0, 0, false, false, o.n, ⟨#[]⟩, 0⟩)) v := fun v => opd_eq _ _ v
    simp only [O.val] at FE
    have HR : Hid (targetRB o = (fitsSB o.n && o.same ⟨4, 0, 0, 0, 0, false, false, o.n, ⟨#[]⟩, 0⟩)) := ⟨by unfold targetRB empB; rw [he]; rfl⟩
    have CI : Hid (∀ v, Calls Tryd.prog 67 #[.int .i64 o.n] v fun e w' => e = .returned (.bool (fitsSB o.n)) ∧ w' = v) := ⟨fun v => int32_any o.n v⟩
    generalize o.same ⟨4, 0, 0, 0, 0, false, false, o.n, ⟨#[]⟩, 0⟩ = c at *
    generalize fitsSB o.n = y at *
    generalize targetRB o = z at *
    unfold O.val
    clear hs
    rcases y with _ | _
    all_goals
      go_enter Tryd.func87, Tryd.ntmps87
      go_wp2_with (go_at_call 67; refine (CI.out _).mono ?_; rintro e w1 ⟨rfl, hw⟩; subst w1)
      go_ret
      exact ⟨ret_bool (by rw [HR.out]; rfl), bel_alloc (Below.refl _ _) _⟩
end Go.Proofs.YtdgejingoamfeaaDoor
