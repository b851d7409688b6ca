/- code, num; knows. -/
import Derived.Test.YtibmblojannlcaaYNamed
namespace Go.Proofs.Ytibmblojannlcaa
open Go.ChangeShapes Go.WideShapes Go.ChangeAt Go.RowKit Go.Maps
set_option linter.unusedVariables false
set_option linter.unusedSimpArgs false

theorem num_any (n : Int) (w : World) : Calls Try.prog 12 #[.int .i64 n] w fun e w' => e = .returned (.int .i64 n) ∧ w' = w := by
  go_enter Try.func12, Try.ntmps12
  go_wp2
  go_ret
  first | exact ⟨rfl, rfl⟩ | trace_state
theorem mk3 (W : World) : (Instr.makeSlice 49 (.int .i64 3) (.int .i64 3)).run Try.prog W = .ok (.slice (some ⟨W.heap.size, 0, none⟩) 3 3) (W.alloc (.cells #[.int .u8 0, .int .u8 0, .int .u8 0] 5)) := by kernel_rfl
theorem mk5 (W : World) : (Instr.makeSlice 49 (.int .i64 5) (.int .i64 5)).run Try.prog W = .ok (.slice (some ⟨W.heap.size, 0, none⟩) 5 5) (W.alloc (.cells #[.int .u8 0, .int .u8 0, .int .u8 0, .int .u8 0, .int .u8 0] 5)) := by kernel_rfl
set_option maxHeartbeats 4000000 in
set_option maxRecDepth 20000 in
theorem code_any (n : Nat) (hn : n = 3 ∨ n = 5) (w : World) : Calls Try.prog 30 #[.int .i64 n] w fun e w' => ∃ g, e = .returned (kS n (some ⟨g, 0, none⟩)).val ∧ Below w.heap.size w w' := by
  obtain ⟨B, hB⟩ : ∃ B, w.heap.size = B := ⟨_, rfl⟩
  rcases hn with rfl | rfl
  · have hmk := mk3
    have K1 : Bk ((w.alloc (.cells #[.string ⟨#[]⟩, .int .i64 0, .int .i64 0, .int .i64 0, .slice none 0 0, .int .i64 0, .slice none 0 0] 52)).alloc (.cells #[.int .u8 0, .int .u8 0, .int .u8 0] 5)) B 52 #[.string ⟨#[]⟩, .int .i64 0, .int .i64 0, .int .i64 0, .slice none 0 0, .int .i64 0, .slice none 0 0] := by rw [← hB]; exact (Bk.new _ _ _).alloc _
    have HB2 : Hid (Below B w ((w.alloc (.cells #[.string ⟨#[]⟩, .int .i64 0, .int .i64 0, .int .i64 0, .slice none 0 0, .int .i64 0, .slice none 0 0] 52)).alloc (.cells #[.int .u8 0, .int .u8 0, .int .u8 0] 5))) := ⟨by rw [← hB]; exact ((Below.refl _ _).alloc (Nat.le_refl _) _).alloc (by simp) _⟩
    have hz1 : (w.alloc (.cells #[.string ⟨#[]⟩, .int .i64 0, .int .i64 0, .int .i64 0, .slice none 0 0, .int .i64 0, .slice none 0 0] 52)).heap.size = B + 1 := by simp [hB]
    go_enter Try.func30, Try.ntmps30
    go_upto_region 1 with (fail)
    iterate 1 go_step
    refine wpList_val (v := .int .i64 3) (by kernel_rfl) (by kernel_rfl) ?_
    try simp only [Act.put, List.getElem_toArray, List.getElem_cons_succ, List.getElem_cons_zero, List.setIfInBounds_toArray, List.set_cons_zero, List.set_cons_succ]
    iterate 3 go_step
    refine wpList_val (v := .int .i64 3) (by kernel_rfl) (by kernel_rfl) ?_
    try simp only [Act.put, List.getElem_toArray, List.getElem_cons_succ, List.getElem_cons_zero, List.setIfInBounds_toArray, List.set_cons_zero, List.set_cons_succ]
    refine wpList_val (v := (kS 3 (some ⟨B + 1, 0, none⟩)).val) (by kernel_rfl) (by kernel_rfl) ?_
    try simp only [Act.put, List.getElem_toArray, List.getElem_cons_succ, List.getElem_cons_zero, List.setIfInBounds_toArray, List.set_cons_zero, List.set_cons_succ]
    have KE := K1.setR (encS (kS 3 (some ⟨B + 1, 0, none⟩))).toArray
    have HFB : Hid (Below w.heap.size w (((w.alloc (.cells #[.string ⟨#[]⟩, .int .i64 0, .int .i64 0, .int .i64 0, .slice none 0 0, .int .i64 0, .slice none 0 0] 52)).alloc (.cells #[.int .u8 0, .int .u8 0, .int .u8 0] 5)).setRow B (encS (kS 3 (some ⟨B + 1, 0, none⟩))).toArray)) := ⟨by rw [hB]; exact bel_setR HB2.out B (Nat.le_refl _) _⟩
    refine wpList_part (g := B) (off := 0) (val := (kS 3 (some ⟨B + 1, 0, none⟩)).val) (new := (encS (kS 3 (some ⟨B + 1, 0, none⟩))).toArray) rfl rfl (by kernel_rfl) (by kernel_rfl) K1 (by kernel_rfl) (Nat.le_of_ble_eq_true (by kernel_rfl)) (oneAll (by kernel_rfl)) (by kernel_rfl) ?_
    try simp only [Act.put, List.getElem_toArray, List.getElem_cons_succ, List.getElem_cons_zero, List.setIfInBounds_toArray, List.set_cons_zero, List.set_cons_succ]
    refine wpList_nil ?_
    go_wp2_with fail
    exact bodyPost_ret (v := (kS 3 (some ⟨B + 1, 0, none⟩)).val) (results_cell_row (p := 2) (ty := 52) (by kernel_rfl) _ _ B 52 _ (0, 0) _ (by kernel_rfl) KE.hp Try.underlying52 rfl (by kernel_rfl)) rfl ⟨B + 1, rfl, HFB.out⟩
  · have hmk := mk5
    have K1 : Bk ((w.alloc (.cells #[.string ⟨#[]⟩, .int .i64 0, .int .i64 0, .int .i64 0, .slice none 0 0, .int .i64 0, .slice none 0 0] 52)).alloc (.cells #[.int .u8 0, .int .u8 0, .int .u8 0, .int .u8 0, .int .u8 0] 5)) B 52 #[.string ⟨#[]⟩, .int .i64 0, .int .i64 0, .int .i64 0, .slice none 0 0, .int .i64 0, .slice none 0 0] := by rw [← hB]; exact (Bk.new _ _ _).alloc _
    have HB2 : Hid (Below B w ((w.alloc (.cells #[.string ⟨#[]⟩, .int .i64 0, .int .i64 0, .int .i64 0, .slice none 0 0, .int .i64 0, .slice none 0 0] 52)).alloc (.cells #[.int .u8 0, .int .u8 0, .int .u8 0, .int .u8 0, .int .u8 0] 5))) := ⟨by rw [← hB]; exact ((Below.refl _ _).alloc (Nat.le_refl _) _).alloc (by simp) _⟩
    have hz1 : (w.alloc (.cells #[.string ⟨#[]⟩, .int .i64 0, .int .i64 0, .int .i64 0, .slice none 0 0, .int .i64 0, .slice none 0 0] 52)).heap.size = B + 1 := by simp [hB]
    go_enter Try.func30, Try.ntmps30
    go_upto_region 1 with (fail)
    iterate 1 go_step
    refine wpList_val (v := .int .i64 5) (by kernel_rfl) (by kernel_rfl) ?_
    try simp only [Act.put, List.getElem_toArray, List.getElem_cons_succ, List.getElem_cons_zero, List.setIfInBounds_toArray, List.set_cons_zero, List.set_cons_succ]
    iterate 3 go_step
    refine wpList_val (v := .int .i64 5) (by kernel_rfl) (by kernel_rfl) ?_
    try simp only [Act.put, List.getElem_toArray, List.getElem_cons_succ, List.getElem_cons_zero, List.setIfInBounds_toArray, List.set_cons_zero, List.set_cons_succ]
    refine wpList_val (v := (kS 5 (some ⟨B + 1, 0, none⟩)).val) (by kernel_rfl) (by kernel_rfl) ?_
    try simp only [Act.put, List.getElem_toArray, List.getElem_cons_succ, List.getElem_cons_zero, List.setIfInBounds_toArray, List.set_cons_zero, List.set_cons_succ]
    have KE := K1.setR (encS (kS 5 (some ⟨B + 1, 0, none⟩))).toArray
    have HFB : Hid (Below w.heap.size w (((w.alloc (.cells #[.string ⟨#[]⟩, .int .i64 0, .int .i64 0, .int .i64 0, .slice none 0 0, .int .i64 0, .slice none 0 0] 52)).alloc (.cells #[.int .u8 0, .int .u8 0, .int .u8 0, .int .u8 0, .int .u8 0] 5)).setRow B (encS (kS 5 (some ⟨B + 1, 0, none⟩))).toArray)) := ⟨by rw [hB]; exact bel_setR HB2.out B (Nat.le_refl _) _⟩
    refine wpList_part (g := B) (off := 0) (val := (kS 5 (some ⟨B + 1, 0, none⟩)).val) (new := (encS (kS 5 (some ⟨B + 1, 0, none⟩))).toArray) rfl rfl (by kernel_rfl) (by kernel_rfl) K1 (by kernel_rfl) (Nat.le_of_ble_eq_true (by kernel_rfl)) (oneAll (by kernel_rfl)) (by kernel_rfl) ?_
    try simp only [Act.put, List.getElem_toArray, List.getElem_cons_succ, List.getElem_cons_zero, List.setIfInBounds_toArray, List.set_cons_zero, List.set_cons_succ]
    refine wpList_nil ?_
    go_wp2_with fail
    exact bodyPost_ret (v := (kS 5 (some ⟨B + 1, 0, none⟩)).val) (results_cell_row (p := 2) (ty := 52) (by kernel_rfl) _ _ B 52 _ (0, 0) _ (by kernel_rfl) KE.hp Try.underlying52 rfl (by kernel_rfl)) rfl ⟨B + 1, rfl, HFB.out⟩
end Go.Proofs.Ytibmblojannlcaa
