/- The contract of shifted; the table's shapes by their number. -/
import Derived.Test.YtdgejingoamfeaaDoorShapes
import Derived.Shelf.Abstract
namespace Go.Proofs.YtdgejingoamfeaaDoor
open Go.ChangeShapes Go.WideShapes Go.ChangeAt Go.RowKit Go.Shelf
set_option linter.unusedVariables false

set_option maxHeartbeats 2000000 in
theorem shifted_any (z : Int) (t f : O) (w : World) :
    Calls Tryd.prog 78 #[.int .i64 z, t.val, f.val] w fun e w' => e = .returned (.bool (shiftedB z t f)) ∧ Below w.heap.size w w' := by
  obtain ⟨a, ha⟩ : ∃ x, (z == 8) = x := ⟨_, rfl⟩
  obtain ⟨b, hb⟩ : ∃ x, (f.k == 2) = x := ⟨_, rfl⟩
  obtain ⟨c, hc⟩ : ∃ x, (f.k == 1) = x := ⟨_, rfl⟩
  obtain ⟨p, hp⟩ : ∃ x, isPlaceB t = x := ⟨_, rfl⟩
  obtain ⟨d, hd⟩ : ∃ x, withinB f.n 0 (if a then 63 else 31) = x := ⟨_, rfl⟩
  have HR : Hid (shiftedB z t f = (p && ((b && d) || (c && f.r == 1)))) := ⟨by
    have hm : mostV z = if a then 63 else 31 := by rw [← ha]; unfold mostV; by_cases h : z = 8 <;> simp [h]
    unfold shiftedB; rw [hm, hp, hb, hc, hd]⟩
  have CP : Hid (∀ v, Calls Tryd.prog 51 #[.agg #[.int .i64 t.k, .int .i64 t.r, .int .i64 t.b, .int .i64 t.x, .int .i64 t.s, .bool t.rip, .bool t.fs, .int .i64 t.n, .string t.nm, .int .i64 t.m]] v fun e w' => e = .returned (.bool p) ∧ Below v.heap.size v w') := ⟨fun v => hp ▸ isPlace_any t v⟩
  have CW : Hid (∀ v, Calls Tryd.prog 59 #[.int .i64 f.n, .int .i64 0, .int .i64 (if a then 63 else 31)] v fun e w' => e = .returned (.bool d) ∧ w' = v) := ⟨fun v => hd ▸ within_any f.n 0 (if a then 63 else 31) v⟩
  unfold O.val
  clear hp hd
  rcases a with _ | _ <;> rcases p with _ | _ <;> rcases b with _ | _
  case' false.true.false | true.true.false => rcases c with _ | _
  case' false.true.true | true.true.true => rcases d with _ | _
  case' false.true.true.false | true.true.true.false => rcases c with _ | _
  all_goals
    (try simp only [if_true, Bool.false_eq_true, if_false] at CW)
    go_enter Tryd.func78, Tryd.ntmps78
    go_wp2_with (first
      | (go_at_call 59; refine (CW.out _).mono ?_; rintro e w1 ⟨rfl, hw⟩; subst w1)
      | (go_at_call 51; refine (CP.out _).mono ?_; rintro e w2 ⟨rfl, hb2⟩; obtain ⟨hcl, hfl⟩ := bcell hb2))
    go_ret
    exact ⟨ret_bool (by rw [HR.out]; rfl), bel_trans (bel_alloc (bel_alloc (Below.refl _ _) _) _) hb2⟩

/-- What a row takes, by its function's number. -/
def takesB (g : Nat) (z : Int) (t f : O) : Bool :=
  if g = 72 then movedB z t f else
  if g = 73 then locatedB t f else
  if g = 74 then combinedB z t f else
  if g = 75 then testedB z t f else
  if g = 76 then loadedB t f else
  if g = 77 then singleB t f else
  if g = 78 then shiftedB z t f else
  if g = 79 then pushedB t f else
  if g = 80 then calledB t f else
  if g = 81 then aimedB t f else
  if g = 82 then bareB t f else
  if g = 83 then storedB t f else
  false

def shapesL : List Nat := [72, 73, 74, 75, 76, 77, 78, 79, 80, 81, 82, 83]

theorem takes_any (g : Nat) (hg : g ∈ shapesL) (z : Int) (t f : O) (w : World) :
    Calls Tryd.prog g #[.int .i64 z, t.val, f.val] w fun e w' => e = .returned (.bool (takesB g z t f)) ∧ Below w.heap.size w w' := by
  simp only [shapesL, List.mem_cons, List.not_mem_nil, or_false] at hg
  rcases hg with rfl | rfl | rfl | rfl | rfl | rfl | rfl | rfl | rfl | rfl | rfl | rfl
  · exact moved_any z t f w
  · exact located_any z t f w
  · exact combined_any z t f w
  · exact tested_any z t f w
  · exact loaded_any z t f w
  · exact single_any z t f w
  · exact shifted_any z t f w
  · exact pushed_any z t f w
  · exact called_any z t f w
  · exact aimed_any z t f w
  · exact bare_any z t f w
  · exact stored_any z t f w

theorem takes_enters (g : Nat) (hg : g ∈ shapesL) : ∀ args w, (callFunc g args).run Tryd.prog w = .ok (.enter g args) w := by
  simp only [shapesL, List.mem_cons, List.not_mem_nil, or_false] at hg
  rcases hg with rfl | rfl | rfl | rfl | rfl | rfl | rfl | rfl | rfl | rfl | rfl | rfl
  · exact enters_of Tryd.func72 (by kernel_rfl) rfl
  · exact enters_of Tryd.func73 (by kernel_rfl) rfl
  · exact enters_of Tryd.func74 (by kernel_rfl) rfl
  · exact enters_of Tryd.func75 (by kernel_rfl) rfl
  · exact enters_of Tryd.func76 (by kernel_rfl) rfl
  · exact enters_of Tryd.func77 (by kernel_rfl) rfl
  · exact enters_of Tryd.func78 (by kernel_rfl) rfl
  · exact enters_of Tryd.func79 (by kernel_rfl) rfl
  · exact enters_of Tryd.func80 (by kernel_rfl) rfl
  · exact enters_of Tryd.func81 (by kernel_rfl) rfl
  · exact enters_of Tryd.func82 (by kernel_rfl) rfl
  · exact enters_of Tryd.func83 (by kernel_rfl) rfl
end Go.Proofs.YtdgejingoamfeaaDoor
