/- The contract of table. -/
import Derived.Test.YtjbepojopfbajaaDPlain
import Derived.Laws.Tables
import Derived.Laws.Rows
import Derived.Deep.WholeRow
namespace Go.Proofs.Ytjbepojopfbajaa
open Go.ChangeShapes Go.WideShapes Go.ChangeAt Go.RowKit
set_option linter.unusedVariables false
set_option linter.unusedSimpArgs false

/-- The rows of the table. -/
def rowsQ : List Q := [
  ⟨0, 57, 3, 4, 5, 6, 7, 8, 9, 10, (-1), 23, 76⟩,
  ⟨2, 57, 3, 4, 5, 6, 7, 8, 9, 10, (-1), 7, 77⟩,
  ⟨80, 7, 20, 0, 0, 0, 0, 0, 0, 0, 8, 1, 78⟩,
  ⟨88, 7, 21, 0, 0, 0, 0, 0, 0, 0, 8, 1, 79⟩,
  ⟨104, 0, 20, 0, 0, 0, 0, 0, 0, 0, 8, 0, 80⟩,
  ⟨106, 0, 20, 0, 0, 0, 0, 0, 0, 0, 8, 0, 81⟩,
  ⟨112, 15, 24, 0, 0, 0, 0, 0, 0, 0, 8, 0, 82⟩,
  ⟨128, 0, 3, 4, 5, 6, 7, 8, 9, 10, 1, 19, 83⟩,
  ⟨129, 0, 3, 4, 5, 6, 7, 8, 9, 10, 4, 19, 84⟩,
  ⟨131, 0, 3, 4, 5, 6, 7, 8, 9, 10, 4, 19, 85⟩,
  ⟨132, 1, 11, 0, 0, 0, 0, 0, 0, 0, (-1), 23, 76⟩,
  ⟨135, 0, 31, 0, 0, 0, 0, 0, 0, 0, 4, 23, 76⟩,
  ⟨136, 1, 1, 0, 0, 0, 0, 0, 0, 0, (-1), 23, 76⟩,
  ⟨138, 1, 1, 0, 0, 0, 0, 0, 0, 0, (-1), 7, 77⟩,
  ⟨141, 0, 2, 0, 0, 0, 0, 0, 0, 0, 4, 71, 77⟩,
  ⟨143, 0, 21, 0, 0, 0, 0, 0, 0, 0, 8, 3, 86⟩,
  ⟨144, 0, 33, 0, 0, 0, 0, 0, 0, 0, 0, 0, 87⟩,
  ⟨153, 0, 32, 0, 0, 0, 0, 0, 0, 0, 4, 0, 88⟩,
  ⟨176, 7, 1, 0, 0, 0, 0, 0, 0, 0, 1, 1, 89⟩,
  ⟨184, 7, 1, 0, 0, 0, 0, 0, 0, 0, 4, 1, 90⟩,
  ⟨192, 1, 0, 0, 0, 0, 17, 18, 0, 19, (-1), 19, 91⟩,
  ⟨195, 0, 25, 0, 0, 0, 0, 0, 0, 0, 0, 0, 87⟩,
  ⟨198, 0, 1, 0, 0, 0, 0, 0, 0, 0, 1, 3, 83⟩,
  ⟨199, 0, 1, 0, 0, 0, 0, 0, 0, 0, 4, 19, 92⟩,
  ⟨201, 0, 26, 0, 0, 0, 0, 0, 0, 0, 0, 0, 87⟩,
  ⟨210, 1, 0, 0, 0, 0, 17, 18, 0, 19, (-1), 19, 93⟩,
  ⟨232, 0, 22, 0, 0, 0, 0, 0, 0, 0, 8, 0, 94⟩,
  ⟨233, 0, 23, 0, 0, 0, 0, 0, 0, 0, 8, 0, 94⟩,
  ⟨235, 0, 23, 0, 0, 0, 0, 0, 0, 0, 8, 0, 82⟩,
  ⟨246, 1, 11, 0, 14, 13, 0, 0, 0, 0, (-1), 19, 95⟩,
  ⟨254, 0, 15, 16, 0, 0, 0, 0, 0, 0, 1, 19, 86⟩,
  ⟨255, 0, 15, 16, 22, 0, 23, 0, 20, 0, 4, 19, 96⟩,
  ⟨3845, 0, 35, 0, 0, 0, 0, 0, 0, 0, 0, 0, 87⟩,
  ⟨3851, 0, 34, 0, 0, 0, 0, 0, 0, 0, 0, 0, 87⟩,
  ⟨3904, 15, 28, 0, 0, 0, 0, 0, 0, 0, 4, 23, 77⟩,
  ⟨3968, 15, 24, 0, 0, 0, 0, 0, 0, 0, 8, 0, 94⟩,
  ⟨3984, 15, 27, 0, 0, 0, 0, 0, 0, 0, 1, 19, 86⟩,
  ⟨4015, 0, 12, 0, 0, 0, 0, 0, 0, 0, 4, 23, 77⟩,
  ⟨4022, 0, 29, 0, 0, 0, 0, 0, 0, 0, 4, 55, 77⟩,
  ⟨4030, 0, 30, 0, 0, 0, 0, 0, 0, 0, 4, 55, 77⟩]

def Q.cells (q : Q) : List Value := [.int .i64 q.code, .int .i64 q.vr, .int .u8 q.o0, .int .u8 q.o1, .int .u8 q.o2, .int .u8 q.o3, .int .u8 q.o4, .int .u8 q.o5, .int .u8 q.o6, .int .u8 q.o7, .int .i64 q.size, .int .i64 q.bes, .func (.func q.f) #[] #[]]
def tabD : Array Value := (rowsQ.flatMap Q.cells).toArray
def rowC (k : Nat) : Array Value := ((rowsQ.map Q.cells).getD k []).toArray
def eight (a b c d e f g h : Int) : Array Value := #[.int .u8 a, .int .u8 b, .int .u8 c, .int .u8 d, .int .u8 e, .int .u8 f, .int .u8 g, .int .u8 h]

theorem wpList_build_is {P : Program} {ops : Array Oper} {rest : List Oper} {o : Oper} {a : Act} {w : World} {Q : Exit → Act → World → Prop} (hg : o.guard = none) (t : TypeId) (parts : Array (Nat × Operand)) (ho : o.op = .build t parts) (cells : Array Value)
    (hf : P.built t (parts.map fun (i, x) => (i, a.eval x)).toList = some cells)
    (h : wpList P ops Q rest (a.put o.dst (.agg cells)) w) : wpList P ops Q (o :: rest) a w :=
  wpList_build hg t parts ho (by rw [hf]; rfl) (by rw [hf]; exact h)

/-- The law of a load whose value is known. -/
theorem wpList_load_of {ops : Array Oper} {rest : List Oper} {o : Oper} {a : Act} {w : World} {Q : Exit → Act → World → Prop} {t : TypeId} {x : Operand} {p : Addr} {v : Value} (ho : o.op = .load t x)
    (hw : Region.wanted o (yielded ops a.tmps) = true) (hx : a.eval x = .pointer (some p)) (hl : (loadVar t p).run Try.prog w = .ok v w)
    (h : wpList Try.prog ops Q rest (a.put o.dst v) w) : wpList Try.prog ops Q (o :: rest) a w := by
  refine BigFrame.wpList_want hw fun K hK => ?_
  unfold Oper.wp execOp
  simp only [ho, hx, Instr.loadAt, Instr.sureAddr, Sem.run_bind, Sem.run_pure, Result.andThen_ok, hl]
  exact hK _ _ h

theorem three_blocks (w : World) (x y z : Obj) : ((w.alloc x).alloc y).alloc z = ((w.alloc x).alloc y).alloc z ∧ Below w.heap.size w (((w.alloc x).alloc y).alloc z) ∧ (((w.alloc x).alloc y).alloc z).heap[w.heap.size]? = some x
    ∧ (((w.alloc x).alloc y).alloc z).heap[w.heap.size + 1]? = some y ∧ (((w.alloc x).alloc y).alloc z).heap[w.heap.size + 1 + 1]? = some z := by
  refine ⟨rfl, bel_alloc (bel_alloc (bel_alloc (Below.refl _ _) _) _) _, ?_, ?_, ?_⟩
  · rw [Below.heap_alloc _ _ _ (by simp; omega), Below.heap_alloc _ _ _ (by simp)]; exact heap_alloc_last w _
  · rw [Below.heap_alloc _ _ _ (by simp)]
    have e : w.heap.size + 1 = (w.alloc x).heap.size := by simp
    rw [e]; exact heap_alloc_last _ _
  · have e : w.heap.size + 1 + 1 = ((w.alloc x).alloc y).heap.size := by simp
    rw [e]; exact heap_alloc_last _ _

set_option maxHeartbeats 8000000 in
theorem table_any (w : World) :
    Calls Try.prog 68 #[] w fun e w' => e = .returned (.agg tabD) ∧ Below w.heap.size w w' := by
  go_enter Try.func68, Try.ntmps68
  iterate 39 go_step
  obtain ⟨-, hB, h0, h1, h2⟩ := three_blocks w (.cells Try.zeroCells103 103) (.cells #[.int .u8 3, .int .u8 4, .int .u8 5, .int .u8 6, .int .u8 7, .int .u8 8, .int .u8 9, .int .u8 10] 92) (.cells #[.int .u8 0, .int .u8 0, .int .u8 0, .int .u8 0, .int .u8 17, .int .u8 18, .int .u8 0, .int .u8 19] 92)
  generalize ((w.alloc (.cells Try.zeroCells103 103)).alloc (.cells #[.int .u8 3, .int .u8 4, .int .u8 5, .int .u8 6, .int .u8 7, .int .u8 8, .int .u8 9, .int .u8 10] 92)).alloc (.cells #[.int .u8 0, .int .u8 0, .int .u8 0, .int .u8 0, .int .u8 17, .int .u8 18, .int .u8 0, .int .u8 19] 92) = W at *
  have l1 := run_loadVar_row (P := Try.prog) W (w.heap.size + 1) 92 92 _ _ _ h1 Try.underlying92 rfl (by kernel_rfl)
  have l2 := run_loadVar_row (P := Try.prog) W (w.heap.size + 1 + 1) 92 92 _ _ _ h2 Try.underlying92 rfl (by kernel_rfl)
  refine wpList_load_of (p := ⟨w.heap.size + 1, 0, none⟩) rfl (by kernel_rfl) (by kernel_rfl) l1 ?_
  refine wpList_build_is rfl _ _ rfl (rowC 0) (by kernel_rfl) ?_
  refine wpList_load_of (p := ⟨w.heap.size + 1, 0, none⟩) rfl (by kernel_rfl) (by kernel_rfl) l1 ?_
  refine wpList_build_is rfl _ _ rfl (rowC 1) (by kernel_rfl) ?_
  refine wpList_build_is rfl _ _ rfl (eight 20 0 0 0 0 0 0 0) (by kernel_rfl) ?_
  refine wpList_build_is rfl _ _ rfl (rowC 2) (by kernel_rfl) ?_
  refine wpList_build_is rfl _ _ rfl (eight 21 0 0 0 0 0 0 0) (by kernel_rfl) ?_
  refine wpList_build_is rfl _ _ rfl (rowC 3) (by kernel_rfl) ?_
  refine wpList_build_is rfl _ _ rfl (eight 20 0 0 0 0 0 0 0) (by kernel_rfl) ?_
  refine wpList_build_is rfl _ _ rfl (rowC 4) (by kernel_rfl) ?_
  refine wpList_build_is rfl _ _ rfl (eight 20 0 0 0 0 0 0 0) (by kernel_rfl) ?_
  refine wpList_build_is rfl _ _ rfl (rowC 5) (by kernel_rfl) ?_
  refine wpList_build_is rfl _ _ rfl (eight 24 0 0 0 0 0 0 0) (by kernel_rfl) ?_
  refine wpList_build_is rfl _ _ rfl (rowC 6) (by kernel_rfl) ?_
  refine wpList_load_of (p := ⟨w.heap.size + 1, 0, none⟩) rfl (by kernel_rfl) (by kernel_rfl) l1 ?_
  refine wpList_build_is rfl _ _ rfl (rowC 7) (by kernel_rfl) ?_
  refine wpList_load_of (p := ⟨w.heap.size + 1, 0, none⟩) rfl (by kernel_rfl) (by kernel_rfl) l1 ?_
  refine wpList_build_is rfl _ _ rfl (rowC 8) (by kernel_rfl) ?_
  refine wpList_load_of (p := ⟨w.heap.size + 1, 0, none⟩) rfl (by kernel_rfl) (by kernel_rfl) l1 ?_
  refine wpList_build_is rfl _ _ rfl (rowC 9) (by kernel_rfl) ?_
  refine wpList_build_is rfl _ _ rfl (eight 11 0 0 0 0 0 0 0) (by kernel_rfl) ?_
  refine wpList_build_is rfl _ _ rfl (rowC 10) (by kernel_rfl) ?_
  refine wpList_build_is rfl _ _ rfl (eight 31 0 0 0 0 0 0 0) (by kernel_rfl) ?_
  refine wpList_build_is rfl _ _ rfl (rowC 11) (by kernel_rfl) ?_
  refine wpList_build_is rfl _ _ rfl (eight 1 0 0 0 0 0 0 0) (by kernel_rfl) ?_
  refine wpList_build_is rfl _ _ rfl (rowC 12) (by kernel_rfl) ?_
  refine wpList_build_is rfl _ _ rfl (eight 1 0 0 0 0 0 0 0) (by kernel_rfl) ?_
  refine wpList_build_is rfl _ _ rfl (rowC 13) (by kernel_rfl) ?_
  refine wpList_build_is rfl _ _ rfl (eight 2 0 0 0 0 0 0 0) (by kernel_rfl) ?_
  refine wpList_build_is rfl _ _ rfl (rowC 14) (by kernel_rfl) ?_
  refine wpList_build_is rfl _ _ rfl (eight 21 0 0 0 0 0 0 0) (by kernel_rfl) ?_
  refine wpList_build_is rfl _ _ rfl (rowC 15) (by kernel_rfl) ?_
  refine wpList_build_is rfl _ _ rfl (eight 33 0 0 0 0 0 0 0) (by kernel_rfl) ?_
  refine wpList_build_is rfl _ _ rfl (rowC 16) (by kernel_rfl) ?_
  refine wpList_build_is rfl _ _ rfl (eight 32 0 0 0 0 0 0 0) (by kernel_rfl) ?_
  refine wpList_build_is rfl _ _ rfl (rowC 17) (by kernel_rfl) ?_
  refine wpList_build_is rfl _ _ rfl (eight 1 0 0 0 0 0 0 0) (by kernel_rfl) ?_
  refine wpList_build_is rfl _ _ rfl (rowC 18) (by kernel_rfl) ?_
  refine wpList_build_is rfl _ _ rfl (eight 1 0 0 0 0 0 0 0) (by kernel_rfl) ?_
  refine wpList_build_is rfl _ _ rfl (rowC 19) (by kernel_rfl) ?_
  refine wpList_load_of (p := ⟨w.heap.size + 1 + 1, 0, none⟩) rfl (by kernel_rfl) (by kernel_rfl) l2 ?_
  refine wpList_build_is rfl _ _ rfl (rowC 20) (by kernel_rfl) ?_
  refine wpList_build_is rfl _ _ rfl (eight 25 0 0 0 0 0 0 0) (by kernel_rfl) ?_
  refine wpList_build_is rfl _ _ rfl (rowC 21) (by kernel_rfl) ?_
  refine wpList_build_is rfl _ _ rfl (eight 1 0 0 0 0 0 0 0) (by kernel_rfl) ?_
  refine wpList_build_is rfl _ _ rfl (rowC 22) (by kernel_rfl) ?_
  refine wpList_build_is rfl _ _ rfl (eight 1 0 0 0 0 0 0 0) (by kernel_rfl) ?_
  refine wpList_build_is rfl _ _ rfl (rowC 23) (by kernel_rfl) ?_
  refine wpList_build_is rfl _ _ rfl (eight 26 0 0 0 0 0 0 0) (by kernel_rfl) ?_
  refine wpList_build_is rfl _ _ rfl (rowC 24) (by kernel_rfl) ?_
  refine wpList_load_of (p := ⟨w.heap.size + 1 + 1, 0, none⟩) rfl (by kernel_rfl) (by kernel_rfl) l2 ?_
  refine wpList_build_is rfl _ _ rfl (rowC 25) (by kernel_rfl) ?_
  refine wpList_build_is rfl _ _ rfl (eight 22 0 0 0 0 0 0 0) (by kernel_rfl) ?_
  refine wpList_build_is rfl _ _ rfl (rowC 26) (by kernel_rfl) ?_
  refine wpList_build_is rfl _ _ rfl (eight 23 0 0 0 0 0 0 0) (by kernel_rfl) ?_
  refine wpList_build_is rfl _ _ rfl (rowC 27) (by kernel_rfl) ?_
  refine wpList_build_is rfl _ _ rfl (eight 23 0 0 0 0 0 0 0) (by kernel_rfl) ?_
  refine wpList_build_is rfl _ _ rfl (rowC 28) (by kernel_rfl) ?_
  refine wpList_build_is rfl _ _ rfl (eight 11 0 14 13 0 0 0 0) (by kernel_rfl) ?_
  refine wpList_build_is rfl _ _ rfl (rowC 29) (by kernel_rfl) ?_
  refine wpList_build_is rfl _ _ rfl (eight 15 16 0 0 0 0 0 0) (by kernel_rfl) ?_
  refine wpList_build_is rfl _ _ rfl (rowC 30) (by kernel_rfl) ?_
  refine wpList_build_is rfl _ _ rfl (eight 15 16 22 0 23 0 20 0) (by kernel_rfl) ?_
  refine wpList_build_is rfl _ _ rfl (rowC 31) (by kernel_rfl) ?_
  refine wpList_build_is rfl _ _ rfl (eight 35 0 0 0 0 0 0 0) (by kernel_rfl) ?_
  refine wpList_build_is rfl _ _ rfl (rowC 32) (by kernel_rfl) ?_
  refine wpList_build_is rfl _ _ rfl (eight 34 0 0 0 0 0 0 0) (by kernel_rfl) ?_
  refine wpList_build_is rfl _ _ rfl (rowC 33) (by kernel_rfl) ?_
  refine wpList_build_is rfl _ _ rfl (eight 28 0 0 0 0 0 0 0) (by kernel_rfl) ?_
  refine wpList_build_is rfl _ _ rfl (rowC 34) (by kernel_rfl) ?_
  refine wpList_build_is rfl _ _ rfl (eight 24 0 0 0 0 0 0 0) (by kernel_rfl) ?_
  refine wpList_build_is rfl _ _ rfl (rowC 35) (by kernel_rfl) ?_
  refine wpList_build_is rfl _ _ rfl (eight 27 0 0 0 0 0 0 0) (by kernel_rfl) ?_
  refine wpList_build_is rfl _ _ rfl (rowC 36) (by kernel_rfl) ?_
  refine wpList_build_is rfl _ _ rfl (eight 12 0 0 0 0 0 0 0) (by kernel_rfl) ?_
  refine wpList_build_is rfl _ _ rfl (rowC 37) (by kernel_rfl) ?_
  refine wpList_build_is rfl _ _ rfl (eight 29 0 0 0 0 0 0 0) (by kernel_rfl) ?_
  refine wpList_build_is rfl _ _ rfl (rowC 38) (by kernel_rfl) ?_
  refine wpList_build_is rfl _ _ rfl (eight 30 0 0 0 0 0 0 0) (by kernel_rfl) ?_
  refine wpList_build_is rfl _ _ rfl (rowC 39) (by kernel_rfl) ?_
  refine wpList_build_is rfl _ _ rfl tabD (by kernel_rfl) ?_
  refine wpList_store_row rfl _ _ _ rfl w.heap.size tabD (by kernel_rfl) (by kernel_rfl) 103 Try.zeroCells103 h0 (by kernel_rfl) (by kernel_rfl) (by kernel_rfl) ?_
  refine wpList_nil ?_
  iterate 3 go_step
  have h3 := setRow_heap W w.heap.size _ tabD _ _ h0
  refine bodyPost_ret (v := .agg tabD) (results_cell_row (p := 0) (ty := 103) Try.results68 _ _ w.heap.size 103 tabD (0, 0) _ (by kernel_rfl) h3 Try.underlying103 rfl (by kernel_rfl)) (by kernel_rfl) ⟨rfl, ?_⟩
  exact hB.trans ⟨rfl, rfl, rfl, by simp, fun k hk => setRow_other W w.heap.size k tabD (by omega)⟩
end Go.Proofs.Ytjbepojopfbajaa
