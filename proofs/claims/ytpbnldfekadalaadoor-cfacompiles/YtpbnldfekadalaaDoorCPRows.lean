/- The program's Rows, Check, Usual and Find. -/
import Derived.Test.YtpbnldfekadalaaDoorCBuiltX
import Derived.Test.YtpbnldfekadalaaDoorCKnowsX
namespace Go.Proofs.YtpbnldfekadalaaDoor
open Go.ChangeShapes Go.WideShapes Go.ChangeAt Go.RowKit
set_option linter.unusedVariables false
set_option linter.unusedSimpArgs false

set_option maxRecDepth 10000 in
set_option maxHeartbeats 1000000 in
theorem prows : PRows := by
  intro a1 c1 i a2 c2 l size w h1 h2 hs hI1 hI2 hf
  have HBu : Hid _ := ⟨built_any a1 c1 i a2 c2 l size w h1 h2 hs hI1.ops hI2.ops hf⟩
  obtain ⟨E, hE⟩ : ∃ E, rowsE i l size = E := ⟨_, rfl⟩
  obtain ⟨R, hR⟩ : ∃ R, rowsL i l size = R := ⟨_, rfl⟩
  rw [hE] at HBu
  rw [hE, hR]
  by_cases e0 : E = 0
  rotate_left
  · have b1 : (E != 0) = true := by simpa using e0
    obtain rfl : R = [] := by rw [← hR]; exact rows_no (by rw [hE]; exact e0)
    clear hE hR
    go_enter Tryd.func18, Tryd.ntmps18
    go_wp2_with (go_at_call 27; (with_reducible refine HBu.out.mono ?_); rintro e w1 ⟨v1, he, hB1⟩; subst he; have HB1 : Hid _ := ⟨hB1⟩; clear hB1)
    go_ret2
    exact ⟨_, rfl, OwnW.nil _ _, HB1.out.bel⟩
  subst e0
  have HE : Hid (rowsE i l size = 0 ∧ rowsL i l size = R) := ⟨hE, hR⟩
  clear hE hR
  go_enter Tryd.func18, Tryd.ntmps18
  go_upto_region 2 with (go_at_call 27; (with_reducible refine HBu.out.mono ?_); rintro e w1 ⟨v1, he, hB1⟩; subst he; have HB1 : Hid _ := ⟨hB1⟩; clear hB1)
  obtain ⟨tb, t, vr, vk, hv1, hT, hTA, h8⟩ := HB1.out.ok HE.out.1
  subst hv1
  have hRR : R = t.L ++ [t.now] := by
    obtain ⟨t', h1', h2', _⟩ := rows_ok HE.out.1
    rw [hT] at h1'
    cases h1'
    rw [← HE.out.2]; exact h2'
  have hBB := HB1.out.bel
  clear HBu HB1 HE
  go_upto_region 4 with fail
  have H4 := hTA.bel ((Below.refl w1.heap.size w1).drew)
  have B4 := hBB.trans ((Below.refl w.heap.size w1).drew)
  obtain ⟨ar, cr, hvr, _⟩ := hTA.L.any
  refine wp_region_held_drew (S := fun u => u.cell? ⟨tb, 76, none⟩ = some (.slice ar t.L.length cr) ∧ u.rangeAt tb 39 t.now.cells) (by kernel_rfl) ⟨hvr ▸ H4.rows, H4.rnow⟩ (fun hS => ?_)
  generalize w1.drew = W4 at *
  refine wpAnyH_take (i := 0) (v := .pointer (some ⟨tb, 0, none⟩)) rfl (by kernel_rfl) (by kernel_rfl) (by kernel_rfl) (fun _ _ _ h => h) (Or.inl ⟨by kernel_rfl, fun u hu => by kernel_rfl⟩) hS ?_
  simp only [Act.put, List.getElem_toArray, List.getElem_cons_succ, List.getElem_cons_zero, List.setIfInBounds_toArray, List.set_cons_zero, List.set_cons_succ]
  refine wpAnyH_take (i := 1) (v := .pointer (some ⟨tb, 0, none⟩)) rfl (by kernel_rfl) (by kernel_rfl) (by kernel_rfl) (fun _ _ _ h => h) (Or.inl ⟨by kernel_rfl, fun u hu => by kernel_rfl⟩) hS ?_
  simp only [Act.put, List.getElem_toArray, List.getElem_cons_succ, List.getElem_cons_zero, List.setIfInBounds_toArray, List.set_cons_zero, List.set_cons_succ]
  refine wpAnyH_take (i := 2) (v := .pointer (some ⟨tb, 76, none⟩)) rfl (by kernel_rfl) (by kernel_rfl) (by kernel_rfl) (fun _ _ _ h => h) (Or.inl ⟨by kernel_rfl, fun u hu => by kernel_rfl⟩) hS ?_
  simp only [Act.put, List.getElem_toArray, List.getElem_cons_succ, List.getElem_cons_zero, List.setIfInBounds_toArray, List.set_cons_zero, List.set_cons_succ]
  refine wpAnyH_take (i := 3) (v := .slice ar t.L.length cr) rfl (by kernel_rfl) (by kernel_rfl) (by kernel_rfl) (fun _ _ _ h => h) (Or.inl ⟨by kernel_rfl, fun u hu => exec_loadV (t := 65) (p := ⟨tb, 76, none⟩) rfl (by kernel_rfl) (load_rows hu.1)⟩) hS ?_
  simp only [Act.put, List.getElem_toArray, List.getElem_cons_succ, List.getElem_cons_zero, List.setIfInBounds_toArray, List.set_cons_zero, List.set_cons_succ]
  refine wpAnyH_take (i := 4) (v := .pointer (some ⟨tb, 0, none⟩)) rfl (by kernel_rfl) (by kernel_rfl) (by kernel_rfl) (fun _ _ _ h => h) (Or.inl ⟨by kernel_rfl, fun u hu => by kernel_rfl⟩) hS ?_
  simp only [Act.put, List.getElem_toArray, List.getElem_cons_succ, List.getElem_cons_zero, List.setIfInBounds_toArray, List.set_cons_zero, List.set_cons_succ]
  refine wpAnyH_take (i := 5) (v := .pointer (some ⟨tb, 0, none⟩)) rfl (by kernel_rfl) (by kernel_rfl) (by kernel_rfl) (fun _ _ _ h => h) (Or.inl ⟨by kernel_rfl, fun u hu => by kernel_rfl⟩) hS ?_
  simp only [Act.put, List.getElem_toArray, List.getElem_cons_succ, List.getElem_cons_zero, List.setIfInBounds_toArray, List.set_cons_zero, List.set_cons_succ]
  refine wpAnyH_take (i := 6) (v := .pointer (some ⟨tb, 39, none⟩)) rfl (by kernel_rfl) (by kernel_rfl) (by kernel_rfl) (fun _ _ _ h => h) (Or.inl ⟨by kernel_rfl, fun u hu => by kernel_rfl⟩) hS ?_
  simp only [Act.put, List.getElem_toArray, List.getElem_cons_succ, List.getElem_cons_zero, List.setIfInBounds_toArray, List.set_cons_zero, List.set_cons_succ]
  refine wpAnyH_take (i := 7) (v := .agg t.now.cells.toArray) rfl (by kernel_rfl) (by kernel_rfl) (by kernel_rfl) (fun _ _ _ h => h) (Or.inl ⟨by kernel_rfl, fun u hu => exec_loadV (t := 71) (p := ⟨tb, 39, none⟩) rfl (by kernel_rfl) (load_row hTA.wf.now hu.2)⟩) hS ?_
  simp only [Act.put, List.getElem_toArray, List.getElem_cons_succ, List.getElem_cons_zero, List.setIfInBounds_toArray, List.set_cons_zero, List.set_cons_succ]
  have B5 : Below W4.heap.size W4 (W4.alloc (.cells t.now.cells.toArray 71)) := (Below.refl _ _).alloc (Nat.le_refl _) _
  have H5 := H4.bel B5
  have N5 : Bk (W4.alloc (.cells t.now.cells.toArray 71)) W4.heap.size 71 t.now.cells.toArray := Bk.new _ _ _
  have hb4 : w.heap.size ≤ W4.heap.size := B4.size
  have hb5 : w.heap.size ≤ (W4.alloc (.cells t.now.cells.toArray 71)).heap.size := Nat.le_trans hb4 B5.size
  refine wpAnyH_ready (rs := [8]) (by kernel_rfl) (by simp) ?_
  refine AllReadyH.cons rfl (fun K hK => ?_) AllReadyH.nil
  simp only [List.getElem_toArray, List.getElem_cons_succ, List.getElem_cons_zero]
  refine wp_if (by kernel_rfl) ?_
  refine wp_val (v := .slice (some ⟨W4.heap.size, 0, none⟩) 1 1) (exec_build_row W4 t.now hTA.wf.now rfl (by kernel_rfl)) ?_
  refine hK.out _ _ ⟨hvr ▸ H5.rows, H5.rnow⟩ (fun hS => ?_)
  clear hK
  simp only [Act.put, List.getElem_toArray, List.getElem_cons_succ, List.getElem_cons_zero, List.setIfInBounds_toArray, List.set_cons_zero, List.set_cons_succ]
  refine wpAnyH_ready (rs := [9]) (by kernel_rfl) (by simp) ?_
  refine AllReadyH.cons rfl (fun K hK => ?_) AllReadyH.nil
  simp only [List.getElem_toArray, List.getElem_cons_succ, List.getElem_cons_zero]
  refine wp_if (by kernel_rfl) ?_
  refine wp_append_row rfl H5.L (by rw [hvr]; rfl) (by kernel_rfl) N5 hTA.wf.now (by omega) hb5 (fun v6 w6 ho6 hg hbk => ?_)
  have B6 : Below w.heap.size w w6 := (B4.trans (B5.mono hb4)).trans (bel_grown hg (fun k hk => (hTA.L.2.lt k hk).1) hb5)
  refine hK.out _ _ ⟨hvr ▸ (World.cell?_of_block (a := ⟨tb, 76, none⟩) (hg.block tb H5.bk.lt (Ne.symm hTA.nr))).trans H5.rows, rnow_grown H5 hg hTA.nr⟩ (fun hS => ?_)
  clear hK
  simp only [Act.put, List.getElem_toArray, List.getElem_cons_succ, List.getElem_cons_zero, List.setIfInBounds_toArray, List.set_cons_zero, List.set_cons_succ]
  refine wpAnyH_take (i := 10) (v := v6) rfl (by kernel_rfl) (by kernel_rfl) (by kernel_rfl) (fun _ _ _ h => h) (Or.inl ⟨by kernel_rfl, fun u hu => by kernel_rfl⟩) hS ?_
  simp only [Act.put, List.getElem_toArray, List.getElem_cons_succ, List.getElem_cons_zero, List.setIfInBounds_toArray, List.set_cons_zero, List.set_cons_succ]
  refine wpAnyH_take (i := 11) (v := .int .i64 0) rfl (by kernel_rfl) (by kernel_rfl) (by kernel_rfl) (fun _ _ _ h => h) (Or.inl ⟨by kernel_rfl, fun u hu => by kernel_rfl⟩) hS ?_
  simp only [Act.put, List.getElem_toArray, List.getElem_cons_succ, List.getElem_cons_zero, List.setIfInBounds_toArray, List.set_cons_zero, List.set_cons_succ]
  refine wpAnyH_done (by kernel_rfl) ?_ _
  have HO6 : Hid _ := ⟨ho6⟩
  have HB6 : Hid _ := ⟨B6⟩
  clear hS hvr ho6 B6
  go_wp2_with fail
  go_ret2
  refine ⟨_, rfl, ?_, HB6.out⟩
  rw [hRR]
  exact HO6.out
theorem pusual : PUsual := by
  intro w
  go_enter Tryd.func8, Tryd.ntmps8
  go_wp2
  go_ret
  refine ⟨_, rfl, ?_, (Below.refl _ _).alloc (Nat.le_refl _) _⟩
  exact ⟨rfl, .inr ⟨w.heap.size, 2, _, rfl, Nat.le_refl _, heap_alloc_new w _, by decide, by decide, rfl, rfl⟩⟩
end Go.Proofs.YtpbnldfekadalaaDoor
