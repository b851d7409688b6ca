/- The contract of Strings. -/
import Derived.Test.YtojiomkinhnodaaSPlace
import Derived.OwnWalk
namespace Go.Proofs.Ytojiomkinhnodaa
open Go.ChangeShapes Go.WideShapes Go.ChangeAt Go.RowKit Go.Maps
set_option linter.unusedVariables false
set_option linter.unusedSimpArgs false

/-- Names, one behind the other, into a table. -/
def strF : List ByteArray → TB → List Int → Option (TB × List Int)
  | [], T, A => some (T, A)
  | s :: r, T, A => if 1048576 < (T.put s).b.length then none else strF r (T.put s) (A ++ [T.at' s])
def strM (l : List ByteArray) : Except Int (List Int × List Int) :=
  if l.any zeroB then .error 80 else if l.any longB then .error 6 else
  match strF l T0 [] with
  | none => .error 6
  | some p => .ok (p.1.b, p.2)

theorem put_len (T : TB) (s : ByteArray) : T.b.length ≤ (T.put s).b.length := by
  unfold TB.put; split
  · exact Nat.le_refl _
  · simp

/-- How Strings ends. -/
def SEnds (m : Except Int (List Int × List Int)) (w : World) (e : Ending) (w' : World) : Prop :=
  match m with
  | .error x => e = .returned (.tuple #[.slice none 0 0, .slice none 0 0, .int .i64 x]) ∧ Below w.heap.size w w'
  | .ok p => ∃ vb va, e = .returned (.tuple #[vb, va, .int .i64 0]) ∧ Own w' w.heap.size vb p.1 ∧ OwnI w' w.heap.size va p.2 ∧ Below w.heap.size w w'

end Go.Proofs.Ytojiomkinhnodaa
