/- What the law's own calls know: num and knows. -/
import Derived.Test.YtbcfcbnlfbhgjaaDOne5
namespace Go.Proofs.Ytbcfcbnlfbhgjaa
open Go.ChangeShapes Go.WideShapes Go.ChangeAt Go.RowKit
set_option linter.unusedVariables false
set_option linter.unusedSimpArgs false

theorem num_any (n : Int) (w : World) :
    Calls Try.prog 9 #[.int .i64 n] w fun e w' => e = .returned (.int .i64 n) ∧ w' = w := by
  go_enter Try.func9, Try.ntmps9
  go_wp2
  go_ret
  exact ⟨rfl, rfl⟩

/-- The bytes of a move. -/
def mvB (i : Nat) : Int := [72, 137, 195].getD i 0
theorem mvB_in (i : Nat) : 0 ≤ mvB i ∧ mvB i < 256 := by
  unfold mvB
  match i with
  | 0 => decide
  | 1 => decide
  | 2 => decide
  | n + 3 => simp
theorem mv_one : oneM 3 mvB 0 = (⟨1, 8, 0, regO 3, regO 0, false⟩, 3, 0) := by kernel_rfl


/-- The law of an operation whose value is known. -/
theorem wpList_val {ops : Array Oper} {rest : List Oper} {o : Oper} {a : Act} {w : World} {Q : Exit → Act → World → Prop} {v : Value} (hw : Region.wanted o (yielded ops a.tmps) = true)
    (hx : (execOp a.eval o).run Try.prog w = .ok (.value v) w) (h : wpList Try.prog ops Q rest (a.put o.dst v) w) : wpList Try.prog ops Q (o :: rest) a w := by
  refine BigFrame.wpList_want hw fun K hK => ?_
  unfold Oper.wp
  rw [hx, Oper.upon_value]
  exact hK _ _ h
/-- The law of a call that only answers. -/
theorem wpList_ask {ops : Array Oper} {rest : List Oper} {o : Oper} {a : Act} {w : World} {Q : Exit → Act → World → Prop} {f : FuncId} {args : Array Value} {v : Value} (hw : Region.wanted o (yielded ops a.tmps) = true)
    (hx : (execOp a.eval o).run Try.prog w = .ok (.enter f args) w) (hc : Calls Try.prog f args w fun e w' => e = .returned v ∧ w' = w) (h : wpList Try.prog ops Q rest (a.put o.dst v) w) : wpList Try.prog ops Q (o :: rest) a w := by
  refine BigFrame.wpList_want hw fun K hK => ?_
  unfold Oper.wp
  rw [hx, Oper.upon_enter]
  refine hc.mono ?_
  rintro e w' ⟨rfl, rfl⟩
  exact hK _ _ h

set_option maxHeartbeats 1000000 in
theorem knows_any (w : World) :
    Calls Try.prog 11 #[] w fun e w' => e = .returned (.bool true) ∧ Below w.heap.size w w' := by
  obtain ⟨V, hV, hVs, hV1⟩ : ∃ V : Array Value, V = #[.int .i64 1, .int .i64 8, .int .i64 0, .int .i64 1, .int .i64 3, .int .i64 0, .int .i64 0, .int .i64 0, .bool false, .bool false, .int .i64 0, .string ⟨#[]⟩, .int .i64 0, .int .i64 1, .int .i64 0, .int .i64 0, .int .i64 0, .int .i64 0, .bool false, .bool false, .int .i64 0, .string ⟨#[]⟩, .int .i64 0, .bool false] ∧ V.size = 24 ∧ V.all (·.oneCell') = true := ⟨_, rfl, rfl, by kernel_rfl⟩
  have HO : Hid (∀ v b, (∀ i, i < 3 → v.cell? ⟨b, i, none⟩ = some (.int .u8 (mvB i))) → Calls Try.prog 7 #[.slice (some ⟨b, 0, none⟩) 3 3, .int .i64 0] v fun e w' => e = .returned (.tuple #[.agg V, .int .i64 3, .int .i64 0]) ∧ Below v.heap.size v w') := ⟨fun v b h => by
    have := one_any (some ⟨b, 0, none⟩) 3 3 mvB 0 v (.inr ⟨b, 0, rfl, fun i hi => by rw [Nat.zero_add]; exact h i hi⟩) mvB_in (fun h => by cases h) (fun a h => ⟨b, 0, (Option.some.inj h).symm⟩) (by omega) (by omega) (by omega)
    rw [mv_one] at this
    rw [hV]
    exact this⟩
  have ST : ∀ u : World, Sem.run Try.prog (storeCells ⟨u.heap.size, 0, none⟩ V.toList) (u.alloc (.cells #[.int .i64 0, .int .i64 0, .int .i64 0, .int .i64 0, .int .i64 0, .int .i64 0, .int .i64 0, .int .i64 0, .bool false, .bool false, .int .i64 0, .string ⟨#[]⟩, .int .i64 0, .int .i64 0, .int .i64 0, .int .i64 0, .int .i64 0, .int .i64 0, .bool false, .bool false, .int .i64 0, .string ⟨#[]⟩, .int .i64 0, .bool false] 27)) = .ok () (u.alloc (.cells V 27)) := fun u => by
    rw [store_row27 (heap_alloc_last u _) rfl hVs hV1, World.setRow_alloc_new]
  have HC : ∀ i, i < 3 → (w.alloc (.cells #[.int .u8 72, .int .u8 137, .int .u8 195] 5)).cell? ⟨w.heap.size, i, none⟩ = some (.int .u8 (mvB i)) := fun i hi => by
    have : i = 0 ∨ i = 1 ∨ i = 2 := by omega
    rcases this with rfl | rfl | rfl <;> simp [mvB]
  have HV : Hid (V = #[.int .i64 1, .int .i64 8, .int .i64 0, .int .i64 1, .int .i64 3, .int .i64 0, .int .i64 0, .int .i64 0, .bool false, .bool false, .int .i64 0, .string ⟨#[]⟩, .int .i64 0, .int .i64 1, .int .i64 0, .int .i64 0, .int .i64 0, .int .i64 0, .bool false, .bool false, .int .i64 0, .string ⟨#[]⟩, .int .i64 0, .bool false]) := ⟨hV⟩
  clear hV
  go_enter Try.func11, Try.ntmps11
  go_upto_region 2 with (go_at_call 7; refine (HO.out _ _ HC).mono ?_; rintro e w1 ⟨rfl, hb⟩)
  have hx : (w1.alloc (.cells V 27)).heap[w1.heap.size]? = some (.cells V 27 (0, 0)) := heap_alloc_last w1 _
  have bx : Below w.heap.size w (w1.alloc (.cells V 27)) := bel_alloc (bel_trans (bel_alloc (Below.refl _ _) _) hb) _
  have ld := run_loadVar_row (P := Try.prog) _ w1.heap.size 27 27 V (0, 0) _ hx under_inst rfl (by rw [hVs]; exact size_inst)
  generalize w1.alloc (.cells V 27) = x at *
  clear hx ST HC
  iterate 1 go_step
  refine wpList_val (v := .int .i64 0) (by kernel_rfl) (by kernel_rfl) ?_
  simp only [Act.put, List.getElem_toArray, List.getElem_cons_succ, List.getElem_cons_zero, List.setIfInBounds_toArray, List.set_cons_zero, List.set_cons_succ]
  refine wpList_ask (f := 9) (args := #[.int .i64 0]) (v := .int .i64 0) (by kernel_rfl) (by kernel_rfl) (num_any 0 x) ?_
  simp only [Act.put, List.getElem_toArray, List.getElem_cons_succ, List.getElem_cons_zero, List.setIfInBounds_toArray, List.set_cons_zero, List.set_cons_succ]
  refine wpList_val (v := .bool true) (by kernel_rfl) (by kernel_rfl) ?_
  simp only [Act.put, List.getElem_toArray, List.getElem_cons_succ, List.getElem_cons_zero, List.setIfInBounds_toArray, List.set_cons_zero, List.set_cons_succ]
  refine wpList_val (v := .bool true) (by kernel_rfl) (by kernel_rfl) ?_
  simp only [Act.put, List.getElem_toArray, List.getElem_cons_succ, List.getElem_cons_zero, List.setIfInBounds_toArray, List.set_cons_zero, List.set_cons_succ]
  refine wpList_val (v := .int .i64 3) (by kernel_rfl) (by kernel_rfl) ?_
  simp only [Act.put, List.getElem_toArray, List.getElem_cons_succ, List.getElem_cons_zero, List.setIfInBounds_toArray, List.set_cons_zero, List.set_cons_succ]
  refine wpList_val (v := .bool true) (by kernel_rfl) (by kernel_rfl) ?_
  simp only [Act.put, List.getElem_toArray, List.getElem_cons_succ, List.getElem_cons_zero, List.setIfInBounds_toArray, List.set_cons_zero, List.set_cons_succ]
  refine wpList_val (v := .bool true) (by kernel_rfl) (by kernel_rfl) ?_
  simp only [Act.put, List.getElem_toArray, List.getElem_cons_succ, List.getElem_cons_zero, List.setIfInBounds_toArray, List.set_cons_zero, List.set_cons_succ]
  refine wpList_val (v := .bool true) (by kernel_rfl) (by kernel_rfl) ?_
  simp only [Act.put, List.getElem_toArray, List.getElem_cons_succ, List.getElem_cons_zero, List.setIfInBounds_toArray, List.set_cons_zero, List.set_cons_succ]
  refine wpList_val (v := .agg V) (by kernel_rfl) (exec_loadV (t := 27) (x := .tmp 1) (p := ⟨w1.heap.size, 0, none⟩) rfl (by kernel_rfl) ld) ?_
  simp only [Act.put, List.getElem_toArray, List.getElem_cons_succ, List.getElem_cons_zero, List.setIfInBounds_toArray, List.set_cons_zero, List.set_cons_succ]
  refine wpList_val (v := .agg #[.int .i64 1, .int .i64 3, .int .i64 0, .int .i64 0, .int .i64 0, .bool false, .bool false, .int .i64 0, .string ⟨#[]⟩, .int .i64 0]) (by kernel_rfl) (by kernel_rfl) ?_
  simp only [Act.put, List.getElem_toArray, List.getElem_cons_succ, List.getElem_cons_zero, List.setIfInBounds_toArray, List.set_cons_zero, List.set_cons_succ]
  refine wpList_val (v := .agg #[.int .i64 1, .int .i64 0, .int .i64 0, .int .i64 0, .int .i64 0, .bool false, .bool false, .int .i64 0, .string ⟨#[]⟩, .int .i64 0]) (by kernel_rfl) (by kernel_rfl) ?_
  simp only [Act.put, List.getElem_toArray, List.getElem_cons_succ, List.getElem_cons_zero, List.setIfInBounds_toArray, List.set_cons_zero, List.set_cons_succ]
  refine wpList_val (v := .agg #[.int .i64 1, .int .i64 8, .int .i64 0, .int .i64 1, .int .i64 3, .int .i64 0, .int .i64 0, .int .i64 0, .bool false, .bool false, .int .i64 0, .string ⟨#[]⟩, .int .i64 0, .int .i64 1, .int .i64 0, .int .i64 0, .int .i64 0, .int .i64 0, .bool false, .bool false, .int .i64 0, .string ⟨#[]⟩, .int .i64 0, .bool false]) (by kernel_rfl) (by kernel_rfl) ?_
  simp only [Act.put, List.getElem_toArray, List.getElem_cons_succ, List.getElem_cons_zero, List.setIfInBounds_toArray, List.set_cons_zero, List.set_cons_succ]
  obtain rfl := HV.out
  refine wpList_val (v := .bool true) (by kernel_rfl) (by kernel_rfl) ?_
  simp only [Act.put, List.getElem_toArray, List.getElem_cons_succ, List.getElem_cons_zero, List.setIfInBounds_toArray, List.set_cons_zero, List.set_cons_succ]
  refine wpList_val (v := .bool true) (by kernel_rfl) (by kernel_rfl) ?_
  simp only [Act.put, List.getElem_toArray, List.getElem_cons_succ, List.getElem_cons_zero, List.setIfInBounds_toArray, List.set_cons_zero, List.set_cons_succ]
  refine wpList_val (v := .bool true) (by kernel_rfl) (by kernel_rfl) ?_
  simp only [Act.put, List.getElem_toArray, List.getElem_cons_succ, List.getElem_cons_zero, List.setIfInBounds_toArray, List.set_cons_zero, List.set_cons_succ]
  refine wpList_nil ?_
  go_wp2
  go_ret
  exact ⟨rfl, bx⟩
end Go.Proofs.Ytbcfcbnlfbhgjaa
