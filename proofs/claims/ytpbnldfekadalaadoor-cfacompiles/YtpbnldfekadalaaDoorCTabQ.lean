/- The table's beginning; which ops may be; what does an op. -/
import Derived.Test.YtpbnldfekadalaaDoorCTabP
namespace Go.Proofs.YtpbnldfekadalaaDoor
open Go.ChangeShapes Go.WideShapes Go.ChangeAt Go.RowKit
set_option linter.unusedVariables false
set_option linter.unusedSimpArgs false
variable {X : Nat → Option Obj}

theorem wpList_val {ops : Array Oper} {rest : List Oper} {o : Oper} {a : Act} {w w' : World} {Q : Exit → Act → World → Prop} {v : Value} (hw : Region.wanted o (yielded ops a.tmps) = true)
    (hx : (execOp a.eval o).run Tryd.prog w = .ok (.value v) w') (h : wpList Tryd.prog ops Q rest (a.put o.dst v) w') : wpList Tryd.prog ops Q (o :: rest) a w := by
  refine BigFrame.wpList_want hw fun K hK => ?_
  unfold Oper.wp
  rw [hx, Oper.upon_value]
  exact hK _ _ h
theorem tC_new (size : Int) : (tC false (tbNew size) (.slice none 0 0) (.slice none 0 0)).toArray = #[.int .i64 size, .bool false, .int .i64 0, .int .i64 0, .int .i64 0, .int .i64 0, .int .i64 0, .int .i64 0, .int .i64 0, .int .i64 0, .int .i64 0, .int .i64 0, .int .i64 0, .int .i64 0, .int .i64 0, .int .i64 0, .int .i64 0, .int .i64 0, .int .i64 0, .int .i64 0, .int .i64 0, .int .i64 0, .int .i64 0, .int .i64 0, .int .i64 0, .int .i64 0, .int .i64 0, .int .i64 0, .int .i64 0, .int .i64 0, .int .i64 0, .int .i64 0, .int .i64 0, .int .i64 0, .int .i64 0, .int .i64 0, .int .i64 0, .int .i64 0, .int .i64 0, .int .i64 0, .int .i64 (-1), .int .i64 0, .int .i64 0, .int .i64 0, .int .i64 0, .int .i64 0, .int .i64 0, .int .i64 0, .int .i64 0, .int .i64 0, .int .i64 0, .int .i64 0, .int .i64 0, .int .i64 0, .int .i64 0, .int .i64 0, .int .i64 0, .int .i64 0, .int .i64 0, .int .i64 0, .int .i64 0, .int .i64 0, .int .i64 0, .int .i64 0, .int .i64 0, .int .i64 0, .int .i64 0, .int .i64 0, .int .i64 0, .int .i64 0, .int .i64 0, .int .i64 0, .int .i64 0, .int .i64 0, .int .i64 0, .int .i64 0, .slice none 0 0, .slice none 0 0] := rfl
set_option maxRecDepth 20000 in
/-- A table that begins. -/
theorem newTable_any (size : Int) (w : World) :
    Calls Tryd.prog 21 #[.int .i64 size] w fun e w' => ∃ tb, e = .returned (.pointer (some ⟨tb, 0, none⟩)) ∧ TA nX w.heap.size w' tb false (tbNew size) (.slice none 0 0) (.slice none 0 0) ∧ Below w.heap.size w w' := by
  have hn := tC_new size
  go_enter Tryd.func21, Tryd.ntmps21
  go_upto_region 1 with fail
  iterate 1 go_step
  refine wpList_val (v := .int .i64 size) (w' := w) (by kernel_rfl) (by kernel_rfl) ?_
  simp only [Act.put, List.getElem_toArray, List.getElem_cons_succ, List.getElem_cons_zero, List.setIfInBounds_toArray, List.set_cons_zero, List.set_cons_succ]
  refine wpList_val (v := .agg #[.int .i64 0, .int .i64 (-1), .int .i64 0, .int .i64 0, .int .i64 0, .int .i64 0, .int .i64 0, .int .i64 0, .int .i64 0, .int .i64 0, .int .i64 0, .int .i64 0, .int .i64 0, .int .i64 0, .int .i64 0, .int .i64 0, .int .i64 0, .int .i64 0, .int .i64 0, .int .i64 0, .int .i64 0, .int .i64 0, .int .i64 0, .int .i64 0, .int .i64 0, .int .i64 0, .int .i64 0, .int .i64 0, .int .i64 0, .int .i64 0, .int .i64 0, .int .i64 0, .int .i64 0, .int .i64 0, .int .i64 0, .int .i64 0, .int .i64 0]) (w' := w) (by kernel_rfl) (by kernel_rfl) ?_
  simp only [Act.put, List.getElem_toArray, List.getElem_cons_succ, List.getElem_cons_zero, List.setIfInBounds_toArray, List.set_cons_zero, List.set_cons_succ]
  refine wpList_val (v := .agg #[.int .i64 size, .bool false, .int .i64 0, .int .i64 0, .int .i64 0, .int .i64 0, .int .i64 0, .int .i64 0, .int .i64 0, .int .i64 0, .int .i64 0, .int .i64 0, .int .i64 0, .int .i64 0, .int .i64 0, .int .i64 0, .int .i64 0, .int .i64 0, .int .i64 0, .int .i64 0, .int .i64 0, .int .i64 0, .int .i64 0, .int .i64 0, .int .i64 0, .int .i64 0, .int .i64 0, .int .i64 0, .int .i64 0, .int .i64 0, .int .i64 0, .int .i64 0, .int .i64 0, .int .i64 0, .int .i64 0, .int .i64 0, .int .i64 0, .int .i64 0, .int .i64 0, .int .i64 0, .int .i64 (-1), .int .i64 0, .int .i64 0, .int .i64 0, .int .i64 0, .int .i64 0, .int .i64 0, .int .i64 0, .int .i64 0, .int .i64 0, .int .i64 0, .int .i64 0, .int .i64 0, .int .i64 0, .int .i64 0, .int .i64 0, .int .i64 0, .int .i64 0, .int .i64 0, .int .i64 0, .int .i64 0, .int .i64 0, .int .i64 0, .int .i64 0, .int .i64 0, .int .i64 0, .int .i64 0, .int .i64 0, .int .i64 0, .int .i64 0, .int .i64 0, .int .i64 0, .int .i64 0, .int .i64 0, .int .i64 0, .int .i64 0, .slice none 0 0, .slice none 0 0]) (w' := w) (by kernel_rfl) (by kernel_rfl) ?_
  simp only [Act.put, List.getElem_toArray, List.getElem_cons_succ, List.getElem_cons_zero, List.setIfInBounds_toArray, List.set_cons_zero, List.set_cons_succ]
  refine wpList_val (v := .pointer (some ⟨w.heap.size, 0, none⟩)) (w' := w.alloc (.cells (tC false (tbNew size) (.slice none 0 0) (.slice none 0 0)).toArray 80)) (by kernel_rfl) (by kernel_rfl) ?_
  simp only [Act.put, List.getElem_toArray, List.getElem_cons_succ, List.getElem_cons_zero, List.setIfInBounds_toArray, List.set_cons_zero, List.set_cons_succ]
  clear hn
  have H1 : TA nX w.heap.size (w.alloc (.cells (tC false (tbNew size) (.slice none 0 0) (.slice none 0 0)).toArray 80)) w.heap.size false (tbNew size) (.slice none 0 0) (.slice none 0 0) := ⟨Bk.new w _ _, Nat.le_refl _, OwnW.nil _ _, OwnW.nil _ _, by simp [Value.ownBlock], by simp [Value.ownBlock], fun b hb => by simp [Value.ownBlock] at hb, tw_new size, Fx.nil _ _ _ _⟩
  have B1 : Below w.heap.size w (w.alloc (.cells (tC false (tbNew size) (.slice none 0 0) (.slice none 0 0)).toArray 80)) := (Below.refl _ _).alloc (Nat.le_refl _) _
  generalize w.alloc (.cells (tC false (tbNew size) (.slice none 0 0) (.slice none 0 0)).toArray 80) = W at *
  refine wpList_val (v := .pointer (some ⟨w.heap.size, 0, none⟩)) (w' := W) (by kernel_rfl) (by kernel_rfl) ?_
  simp only [Act.put, List.getElem_toArray, List.getElem_cons_succ, List.getElem_cons_zero, List.setIfInBounds_toArray, List.set_cons_zero, List.set_cons_succ]
  refine wpList_nil ?_
  go_wp2_with fail
  go_ret
  exact ⟨w.heap.size, rfl, H1, B1⟩

set_option maxRecDepth 20000 in
/-- What was told is the first row. -/
theorem begin_any {base tb : Nat} {w : World} {bg : Bool} {t : Tb} {vr vk : Value} (h : TA X base w tb bg t vr vk) :
    Calls Tryd.prog 23 #[.pointer (some ⟨tb, 0, none⟩)] w fun e w' => e = .returned (.bool (t.now.r != -1)) ∧ TA X base w' tb true ⟨t.L, t.now, t.now, t.kept, t.size⟩ vr vk ∧ Below base w w' := by
  generalize hr : (t.now.r != -1) = r
  have H1 : TA X base (w.setRow tb (putAt (tC bg t vr vk).toArray 2 t.now.cells)) tb bg ⟨t.L, t.now, t.now, t.kept, t.size⟩ vr vk := h.put (t' := ⟨t.L, t.now, t.now, t.kept, t.size⟩) rfl rfl ⟨h.wf.L, h.wf.now, h.wf.now, h.wf.kept⟩ (put_first h.wf _ h.wf.now)
  have B1 := below_set w tb (putAt (tC bg t vr vk).toArray 2 t.now.cells) h.lo
  have hc := h.wf.now
  go_enter Tryd.func23, Tryd.ntmps23
  go_upto_region 2 with (first
    | (refine wpList_load_mid rfl 71 _ rfl tb 39 (by rfl) t.now.cells _ h.rnow Tryd.underlying71 rfl (by rw [sizeRow, Rw.cells_len hc]) ?_)
    | (refine wpList_part (g := tb) (off := 2) (val := .agg t.now.cells.toArray) rfl rfl (by rfl) (by rfl) h.bk (by rw [sizeRow]; simp [Value.cells, Rw.cells_len hc]) (by rw [h.len]; simp [Value.cells, Rw.cells_len hc]) (by simpa [Value.cells] using rw_one t.now) rfl ?_)
    | (refine wpList_part (g := tb) (off := 1) (val := .bool true) rfl rfl (by rfl) (by rfl) H1.bk (by rw [sizeBool]; rfl) (by rw [H1.len]; show 1 + 1 ≤ 78; omega) (fun u hu => by simp [Value.cells] at hu; subst hu; rfl) rfl ?_))
  have ev : (Value.bool true).cells.toList = [.bool true] := rfl
  rw [ev]
  clear ev
  have H2 : TA X base ((w.setRow tb (putAt (tC bg t vr vk).toArray 2 t.now.cells)).setRow tb (putAt (tC bg ⟨t.L, t.now, t.now, t.kept, t.size⟩ vr vk).toArray 1 [.bool true])) tb true ⟨t.L, t.now, t.now, t.kept, t.size⟩ vr vk := H1.put (bg' := true) (t' := ⟨t.L, t.now, t.now, t.kept, t.size⟩) rfl rfl H1.wf (put_bg true)
  have B2 := B1.trans (below_set (w.setRow tb (putAt (tC bg t vr vk).toArray 2 t.now.cells)) tb (putAt (tC bg ⟨t.L, t.now, t.now, t.kept, t.size⟩ vr vk).toArray 1 [.bool true]) h.lo)
  generalize (w.setRow tb (putAt (tC bg t vr vk).toArray 2 t.now.cells)).setRow tb (putAt (tC bg ⟨t.L, t.now, t.now, t.kept, t.size⟩ vr vk).toArray 1 [.bool true]) = W2 at *
  have HF : Hid _ := ⟨hasFrame_any H2⟩
  have HH : Hid _ := ⟨H2⟩
  have HB : Hid _ := ⟨B2⟩
  clear H1 B1 H2 B2 h hc
  dsimp only at HF
  rw [hr] at HF
  go_wp2_with (go_at_call 29; (with_reducible refine HF.out.mono ?_); rintro e wn ⟨he, hwn⟩; subst he; subst wn)
  go_ret
  exact ⟨rfl, HH.out, HB.out⟩

/-! Which ops may be. -/
theorem isWithin_any (n lo hi : Int) (w : World) : Calls Tryd.prog 20 #[.int .i64 n, .int .i64 lo, .int .i64 hi] w fun e w' => e = .returned (.bool (decide (lo ≤ n) && decide (n ≤ hi))) ∧ w' = w := by
  by_cases h : lo ≤ n
  · have h1 : decide (lo ≤ n) = true := by simpa using h
    rw [h1, Bool.true_and]
    generalize hb : decide (n ≤ hi) = b
    go_enter Tryd.func20, Tryd.ntmps20
    go_wp2
    go_ret
    exact ⟨by simp [hb], rfl⟩
  · have h1 : decide (lo ≤ n) = false := by simpa using h
    rw [h1, Bool.false_and]
    go_enter Tryd.func20, Tryd.ntmps20
    go_wp2
    go_ret
    exact ⟨rfl, rfl⟩
theorem isSize_any (n : Int) (w : World) : Calls Tryd.prog 11 #[.int .i64 n] w fun e w' => e = .returned (.bool (decide (0 ≤ n) && decide (n ≤ 1048576))) ∧ w' = w := by
  have HW : Hid _ := ⟨isWithin_any n 0 1048576 w⟩
  generalize (decide (0 ≤ n) && decide (n ≤ 1048576)) = b at *
  go_enter Tryd.func11, Tryd.ntmps11
  go_wp2_with (go_at_call 20; (with_reducible refine HW.out.mono ?_); rintro e wn ⟨he, hwn⟩; subst he; subst wn)
  go_ret
  exact ⟨rfl, rfl⟩
end Go.Proofs.YtpbnldfekadalaaDoor
