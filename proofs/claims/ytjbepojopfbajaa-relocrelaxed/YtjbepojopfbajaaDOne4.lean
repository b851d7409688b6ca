/- The contract of One, where the place is none. -/
import Derived.Test.YtjbepojopfbajaaDOne3
namespace Go.Proofs.Ytjbepojopfbajaa
open Go.ChangeShapes Go.WideShapes Go.ChangeAt Go.RowKit
set_option linter.unusedVariables false
set_option linter.unusedSimpArgs false

theorem one_range (ao : Option Addr) (len cap : Nat) (t : Int) (w : World) (h : t < 0 ∨ (len : Int) < t) (hl : len ≤ 140737488355328) :
    Calls Try.prog 28 #[.slice ao len cap, .int .i64 t] w fun e w' => e = .returned (.tuple #[.agg ZZ27, .int .i64 0, .int .i64 11]) ∧ Below w.heap.size w w' := by
  have e2 : ((w.alloc zI.box).alloc (.cells #[.int .i64 0] 3)).heap.size = w.heap.size + 1 + 1 := by simp
  have e1 : (w.alloc zI.box).heap.size = w.heap.size + 1 := by simp
  have hB : Below w.heap.size w (((w.alloc zI.box).alloc (.cells #[.int .i64 0] 3)).alloc (.cells #[.int .i64 0] 24)) := bel_alloc (bel_alloc (bel_alloc (Below.refl _ _) _) _) _
  have h1 : (((w.alloc zI.box).alloc (.cells #[.int .i64 0] 3)).alloc (.cells #[.int .i64 0] 24)).heap[w.heap.size]? = some zI.box := by
    rw [Below.heap_alloc _ _ _ (by simp; omega), Below.heap_alloc _ _ _ (by simp)]; exact heap_alloc_last w _
  have h2 : (((w.alloc zI.box).alloc (.cells #[.int .i64 0] 3)).alloc (.cells #[.int .i64 0] 24)).cell? ⟨w.heap.size + 1, 0, none⟩ = some (.int .i64 0) := to_bel (bel_alloc (Below.refl _ _) _) (v := (w.alloc zI.box).alloc (.cells #[.int .i64 0] 3)) (cell_at e1 rfl)
  have h3 : (((w.alloc zI.box).alloc (.cells #[.int .i64 0] 3)).alloc (.cells #[.int .i64 0] 24)).cell? ⟨w.heap.size + 1 + 1, 0, none⟩ = some (.int .i64 0) := cell_at e2 rfl
  have z2 := fz_new ((w.alloc zI.box).alloc (.cells #[.int .i64 0] 3)) #[.int .i64 0] 24 0
  rw [e2] at z2
  have z1 := fz_new (w.alloc zI.box) #[.int .i64 0] 3 0
  rw [e1] at z1
  have z3 := fz_bel (bel_alloc (Below.refl _ _) (.cells #[.int .i64 0] 24)) (v := (w.alloc zI.box).alloc (.cells #[.int .i64 0] 3)) (a := ⟨w.heap.size + 1, 0, none⟩) (by simp) z1
  have hh : t < 0 ∨ (¬ t < 0 ∧ (len : Int) < t) := by omega
  clear h
  rcases hh with g | ⟨g1, g2⟩
  all_goals
    go_enter_defers Try.func28, Try.ntmps28
    go_upto_region 2 with (fail)
    generalize ((w.alloc zI.box).alloc (.cells #[.int .i64 0] 3)).alloc (.cells #[.int .i64 0] 24) = v at *
    iterate 1 go_step
    refine wpList_build_is rfl _ _ rfl ZZ27 (by kernel_rfl) ?_
    refine wpList_store_row rfl _ _ _ rfl w.heap.size ZZ27 (by kernel_rfl) (by kernel_rfl) 56 _ h1 (by kernel_rfl) (by kernel_rfl) (by kernel_rfl) ?_
    have j1 := setRow_heap v w.heap.size _ ZZ27 _ _ h1
    have j2 : (v.setRow w.heap.size ZZ27).cell? ⟨w.heap.size + 1, 0, none⟩ = some (.int .i64 0) := (cell_setRow_other _ _ _ _ (by show w.heap.size + 1 ≠ w.heap.size; omega)).trans h2
    have j3 : (v.setRow w.heap.size ZZ27).cell? ⟨w.heap.size + 1 + 1, 0, none⟩ = some (.int .i64 0) := (cell_setRow_other _ _ _ _ (by show w.heap.size + 1 + 1 ≠ w.heap.size; omega)).trans h3
    have j4 : (v.setRow w.heap.size ZZ27).frozen? ⟨w.heap.size + 1, 0, none⟩ = false := (World.frozen?_of_block (w := v) (setRow_other _ _ _ _ (by show w.heap.size + 1 ≠ w.heap.size; omega))).trans z3
    have j5 : (v.setRow w.heap.size ZZ27).frozen? ⟨w.heap.size + 1 + 1, 0, none⟩ = false := (World.frozen?_of_block (w := v) (setRow_other _ _ _ _ (by show w.heap.size + 1 + 1 ≠ w.heap.size; omega))).trans z2
    have b2 : Below w.heap.size w (v.setRow w.heap.size ZZ27) := hB.trans ⟨rfl, rfl, rfl, by simp, fun j hj => setRow_other _ w.heap.size j _ (by omega)⟩
    generalize v.setRow w.heap.size ZZ27 = x at *
    simp only [Act.put, List.getElem_toArray, List.getElem_cons_succ, List.getElem_cons_zero, List.setIfInBounds_toArray, List.set_cons_zero, List.set_cons_succ]
    have k1 : ((x.setCell ⟨w.heap.size + 1, 0, none⟩ (.int .i64 0)).setCell ⟨w.heap.size + 1 + 1, 0, none⟩ (.int .i64 11)).heap[w.heap.size]? = some (.cells ZZ27 56 (0, 0)) := by
      rw [Below.heap_setCell _ _ _ _ (by show w.heap.size ≠ w.heap.size + 1 + 1; omega), Below.heap_setCell _ _ _ _ (by show w.heap.size ≠ w.heap.size + 1; omega)]; exact j1
    have k2 : ((x.setCell ⟨w.heap.size + 1, 0, none⟩ (.int .i64 0)).setCell ⟨w.heap.size + 1 + 1, 0, none⟩ (.int .i64 11)).cell? ⟨w.heap.size + 1, 0, none⟩ = some (.int .i64 0) := by simp [go_sem, j2]
    have k3 : ((x.setCell ⟨w.heap.size + 1, 0, none⟩ (.int .i64 0)).setCell ⟨w.heap.size + 1 + 1, 0, none⟩ (.int .i64 11)).cell? ⟨w.heap.size + 1 + 1, 0, none⟩ = some (.int .i64 11) := by simp [go_sem, j3]
    have b3 : Below w.heap.size w ((x.setCell ⟨w.heap.size + 1, 0, none⟩ (.int .i64 0)).setCell ⟨w.heap.size + 1 + 1, 0, none⟩ (.int .i64 11)) := (b2.setCell (by show w.heap.size ≤ w.heap.size + 1; omega) _).setCell (by show w.heap.size ≤ w.heap.size + 1 + 1; omega) _
    have hR : Hid (_ ∧ _ ∧ _ ∧ _) := ⟨k1, k2, k3, b3⟩
    clear k1 k2 k3 b3
    go_wp2
    exact ⟨_, res_one _ _ w.heap.size (w.heap.size + 1) (w.heap.size + 1 + 1) ZZ27 0 11 (by kernel_rfl) (by kernel_rfl) (by kernel_rfl) hR.out.1 rfl hR.out.2.1 hR.out.2.2.1, rfl, hR.out.2.2.2⟩
end Go.Proofs.Ytjbepojopfbajaa
