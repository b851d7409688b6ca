/- The contract of table. -/
import Derived.Test.YtdgejingoamfeaaDoorSmall
import Derived.Laws.Tables
import Derived.Laws.Rows
import Derived.Deep.WholeRow
namespace Go.Proofs.YtdgejingoamfeaaDoor
open Go.ChangeShapes Go.WideShapes Go.ChangeAt Go.RowKit
set_option linter.unusedVariables false

/-- The rows of the table, from op 1 on. -/
def rowsL : List R := [
  ⟨⟨#[109, 111, 118]⟩, 13, true, false, false, 72, 1, 0, 0⟩,
  ⟨⟨#[108, 101, 97]⟩, 12, true, false, false, 73, 1, 0, 0⟩,
  ⟨⟨#[97, 100, 100]⟩, 13, true, false, false, 74, 0, 0, 0⟩,
  ⟨⟨#[111, 114]⟩, 13, true, false, false, 74, 0, 0, 0⟩,
  ⟨⟨#[97, 100, 99]⟩, 13, true, false, false, 74, 0, 0, 0⟩,
  ⟨⟨#[115, 98, 98]⟩, 13, true, false, false, 74, 0, 0, 0⟩,
  ⟨⟨#[97, 110, 100]⟩, 13, true, false, false, 74, 0, 0, 0⟩,
  ⟨⟨#[115, 117, 98]⟩, 13, true, false, false, 74, 0, 0, 0⟩,
  ⟨⟨#[120, 111, 114]⟩, 13, true, false, false, 74, 0, 0, 0⟩,
  ⟨⟨#[99, 109, 112]⟩, 13, true, false, false, 74, 2, 0, 0⟩,
  ⟨⟨#[116, 101, 115, 116]⟩, 13, true, false, false, 75, 2, 0, 0⟩,
  ⟨⟨#[105, 109, 117, 108]⟩, 12, true, false, false, 76, 0, 0, 0⟩,
  ⟨⟨#[110, 101, 103]⟩, 13, true, false, false, 77, 0, 0, 0⟩,
  ⟨⟨#[110, 111, 116]⟩, 13, true, false, false, 77, 0, 0, 0⟩,
  ⟨⟨#[105, 110, 99]⟩, 13, true, false, false, 77, 0, 0, 0⟩,
  ⟨⟨#[100, 101, 99]⟩, 13, true, false, false, 77, 0, 0, 0⟩,
  ⟨⟨#[115, 104, 108]⟩, 13, true, false, false, 78, 0, 0, 0⟩,
  ⟨⟨#[115, 104, 114]⟩, 13, true, false, false, 78, 0, 0, 0⟩,
  ⟨⟨#[115, 97, 114]⟩, 13, true, false, false, 78, 0, 0, 0⟩,
  ⟨⟨#[112, 117, 115, 104]⟩, 8, true, false, false, 79, 0, 16, 16⟩,
  ⟨⟨#[112, 111, 112]⟩, 8, true, false, false, 77, 1, 16, 16⟩,
  ⟨⟨#[99, 97, 108, 108]⟩, 8, false, false, false, 80, 2, 16, 16⟩,
  ⟨⟨#[106, 109, 112]⟩, 8, false, false, true, 80, 2, 0, 0⟩,
  ⟨⟨#[106]⟩, 8, false, true, true, 81, 0, 0, 0⟩,
  ⟨⟨#[114, 101, 116]⟩, 0, false, false, false, 82, 0, 16, 16⟩,
  ⟨⟨#[108, 101, 97, 118, 101]⟩, 0, false, false, false, 82, 0, 32, 48⟩,
  ⟨⟨#[115, 101, 116]⟩, 1, false, true, false, 77, 0, 0, 0⟩,
  ⟨⟨#[99, 109, 111, 118]⟩, 12, true, true, false, 76, 0, 0, 0⟩,
  ⟨⟨#[109, 111, 118, 122, 98]⟩, 12, true, false, false, 76, 1, 0, 0⟩,
  ⟨⟨#[109, 111, 118, 115, 98]⟩, 12, true, false, false, 76, 1, 0, 0⟩,
  ⟨⟨#[120, 99, 104, 103]⟩, 12, true, false, false, 83, 0, 0, 0⟩,
  ⟨⟨#[99, 113, 116, 111]⟩, 0, false, false, false, 82, 0, 1, 4⟩,
  ⟨⟨#[110, 111, 112]⟩, 0, false, false, false, 82, 0, 0, 0⟩,
  ⟨⟨#[117, 100, 50]⟩, 0, false, false, false, 82, 0, 0, 0⟩,
  ⟨⟨#[115, 121, 115, 99, 97, 108, 108]⟩, 0, false, false, false, 82, 0, 197, 2051⟩]

def R.cells (r : R) : List Value := [.string r.stem, .int .i64 r.sizes, .bool r.lettered, .bool r.conditional, .bool r.short, .func (.func r.f) #[] #[], .int .i64 r.to, .int .i64 r.uses, .int .i64 r.sets]

def zeroRow : List Value := [.string ⟨#[]⟩, .int .i64 0, .bool false, .bool false, .bool false, .nilFunc, .int .i64 0, .int .i64 0, .int .i64 0]
def tabD : Array Value := (zeroRow ++ rowsL.flatMap R.cells).toArray
def rowC (k : Nat) : Array Value := ((rowsL.map R.cells).getD k []).toArray

theorem wpList_build_is {P : Program} {ops : Array Oper} {rest : List Oper} {o : Oper} {a : Act} {w : World} {Q : Exit → Act → World → Prop} (hg : o.guard = none) (t : TypeId) (parts : Array (Nat × Operand)) (ho : o.op = .build t parts) (cells : Array Value)
    (hf : P.built t (parts.map fun (i, x) => (i, a.eval x)).toList = some cells)
    (h : wpList P ops Q rest (a.put o.dst (.agg cells)) w) : wpList P ops Q (o :: rest) a w :=
  wpList_build hg t parts ho (by rw [hf]; rfl) (by rw [hf]; exact h)

theorem table_any (w : World) :
    Calls Tryd.prog 56 #[] w fun e w' => e = .returned (.agg tabD) ∧ w' = w.alloc (.cells tabD 75) := by
  go_enter Tryd.func56, Tryd.ntmps56
  iterate 9 go_step
  iterate 2 go_step
  refine wpList_build_is rfl _ _ rfl (rowC 0) (by kernel_rfl) ?_
  refine wpList_build_is rfl _ _ rfl (rowC 1) (by kernel_rfl) ?_
  refine wpList_build_is rfl _ _ rfl (rowC 2) (by kernel_rfl) ?_
  refine wpList_build_is rfl _ _ rfl (rowC 3) (by kernel_rfl) ?_
  refine wpList_build_is rfl _ _ rfl (rowC 4) (by kernel_rfl) ?_
  refine wpList_build_is rfl _ _ rfl (rowC 5) (by kernel_rfl) ?_
  refine wpList_build_is rfl _ _ rfl (rowC 6) (by kernel_rfl) ?_
  refine wpList_build_is rfl _ _ rfl (rowC 7) (by kernel_rfl) ?_
  refine wpList_build_is rfl _ _ rfl (rowC 8) (by kernel_rfl) ?_
  refine wpList_build_is rfl _ _ rfl (rowC 9) (by kernel_rfl) ?_
  refine wpList_build_is rfl _ _ rfl (rowC 10) (by kernel_rfl) ?_
  refine wpList_build_is rfl _ _ rfl (rowC 11) (by kernel_rfl) ?_
  refine wpList_build_is rfl _ _ rfl (rowC 12) (by kernel_rfl) ?_
  refine wpList_build_is rfl _ _ rfl (rowC 13) (by kernel_rfl) ?_
  refine wpList_build_is rfl _ _ rfl (rowC 14) (by kernel_rfl) ?_
  refine wpList_build_is rfl _ _ rfl (rowC 15) (by kernel_rfl) ?_
  refine wpList_build_is rfl _ _ rfl (rowC 16) (by kernel_rfl) ?_
  refine wpList_build_is rfl _ _ rfl (rowC 17) (by kernel_rfl) ?_
  refine wpList_build_is rfl _ _ rfl (rowC 18) (by kernel_rfl) ?_
  refine wpList_build_is rfl _ _ rfl (rowC 19) (by kernel_rfl) ?_
  refine wpList_build_is rfl _ _ rfl (rowC 20) (by kernel_rfl) ?_
  refine wpList_build_is rfl _ _ rfl (rowC 21) (by kernel_rfl) ?_
  refine wpList_build_is rfl _ _ rfl (rowC 22) (by kernel_rfl) ?_
  refine wpList_build_is rfl _ _ rfl (rowC 23) (by kernel_rfl) ?_
  refine wpList_build_is rfl _ _ rfl (rowC 24) (by kernel_rfl) ?_
  refine wpList_build_is rfl _ _ rfl (rowC 25) (by kernel_rfl) ?_
  refine wpList_build_is rfl _ _ rfl (rowC 26) (by kernel_rfl) ?_
  refine wpList_build_is rfl _ _ rfl (rowC 27) (by kernel_rfl) ?_
  refine wpList_build_is rfl _ _ rfl (rowC 28) (by kernel_rfl) ?_
  refine wpList_build_is rfl _ _ rfl (rowC 29) (by kernel_rfl) ?_
  refine wpList_build_is rfl _ _ rfl (rowC 30) (by kernel_rfl) ?_
  refine wpList_build_is rfl _ _ rfl (rowC 31) (by kernel_rfl) ?_
  refine wpList_build_is rfl _ _ rfl (rowC 32) (by kernel_rfl) ?_
  refine wpList_build_is rfl _ _ rfl (rowC 33) (by kernel_rfl) ?_
  refine wpList_build_is rfl _ _ rfl (rowC 34) (by kernel_rfl) ?_
  refine wpList_build_is rfl _ _ rfl tabD (by kernel_rfl) ?_
  refine wpList_store_row rfl _ _ _ rfl w.heap.size tabD (by kernel_rfl) (by kernel_rfl) 75 Tryd.zeroCells75 (by exact heap_alloc_last w _) (by kernel_rfl) (by kernel_rfl) (by kernel_rfl) ?_
  rw [World.setRow_alloc_new]
  refine wpList_nil ?_
  iterate 3 go_step
  exact bodyPost_ret (v := .agg tabD) (results_cell_row (p := 0) (ty := 75) Tryd.results56 _ _ w.heap.size 75 tabD (0, 0) _ (by kernel_rfl) (heap_alloc_last w _) Tryd.underlying75 rfl (by kernel_rfl)) (by kernel_rfl) ⟨rfl, rfl⟩
end Go.Proofs.YtdgejingoamfeaaDoor
