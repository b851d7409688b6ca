/- The document's One: remember, recall. -/
import Derived.Test.YtpbnldfekadalaaDoorCD2
namespace Go.Proofs.YtpbnldfekadalaaDoor
open Go.ChangeShapes Go.WideShapes Go.ChangeAt Go.RowKit
set_option linter.unusedVariables false
set_option linter.unusedSimpArgs false
variable {X : Nat → Option Obj}

set_option maxRecDepth 10000 in
set_option maxHeartbeats 1000000 in
theorem tone_9 {base tb : Nat} {w : World} {t : Tb} {vL vK : Value} (h : TD X base w tb t vL vK) (r n : Int) (hm : mayB ⟨9, r, n⟩ = true) (hk64 : t.kept.length ≤ 64) :
    Calls Tryd.prog 16 #[.pointer (some ⟨tb, 0, none⟩), .agg (oqD 9 r n), .bool false] w fun e w' => e = .returned (.bool (decide (t.kept.length + 1 ≤ 64))) ∧ Below base w w' ∧ ∃ vL vK, TD X base w' tb ⟨t.L, t.now, t.first, t.kept ++ [t.now], t.size⟩ vL vK := by
  have HB : Below w.heap.size w (w.alloc (.cells (oqD 9 r n) 52)) := (Below.refl _ _).alloc (Nat.le_refl _) _
  have H1 := h.bel HB
  have O1 : Bk (w.alloc (.cells (oqD 9 r n) 52)) w.heap.size 52 (oqD 9 r n) := Bk.new w _ _
  have hne : w.heap.size ≠ tb := by have := h.bk.lt; omega
  have hbs : base ≤ w.heap.size := Nat.le_trans h.lo (Nat.le_of_lt h.bk.lt)
  have HBb := HB.mono hbs
  have hnrW : vL.ownBlock ≠ some w.heap.size := fun e => by have := ownV_lt h.L e; omega
  have hnkW : vK.ownBlock ≠ some w.heap.size := fun e => by have := ownV_lt h.K e; omega
  obtain ⟨bb, hbb⟩ : ∃ bb, decide (t.kept.length + 1 ≤ 64) = bb := ⟨_, rfl⟩
  rw [hbb]
  have HBB : Hid (decide (t.kept.length + 1 ≤ 64) = bb) := ⟨hbb⟩
  clear hbb
  obtain ⟨ar, cr, hvr, _⟩ := h.K.any
  have hLn : t.kept.length ≤ 100000 := by omega
  have HM : Hid (∀ W : World, Calls Tryd.prog 26 #[.agg (oqD 9 r n)] W fun e w' => e = .returned (.bool (mayB ⟨9, r, n⟩)) ∧ Below W.heap.size W w') := ⟨fun W => may_any 9 r n W⟩
  rw [hm] at HM
  go_enter Tryd.func16, Tryd.ntmps16
  go_upto_region 1 with fail
  have HH1 : Hid _ := ⟨H1⟩
  have HO1 : Hid _ := ⟨O1⟩
  have HBB1 : Hid _ := ⟨HBb⟩
  have d0 := O1.cell 0 rfl
  have d1 := O1.cell 1 rfl
  have d2 := O1.cell 2 rfl
  clear H1 O1 HBb HB
  generalize w.alloc (.cells (oqD 9 r n) 52) = W1 at *
  go_upto_region 3 with (go_at_call 26; (with_reducible refine (HM.out _).mono ?_); rintro e w2 ⟨he, hb2⟩; subst he; have HB2 : Hid _ := ⟨hb2⟩; have d0 := (HO1.out.bel hb2 HO1.out.lt).cell 0 rfl; clear hb2)
  have T2 := HH1.out.bel HB2.out
  have O2 := HO1.out.bel HB2.out HO1.out.lt
  have hb1s : base ≤ W1.heap.size := Nat.le_trans hbs (Nat.le_of_lt HO1.out.lt)
  have B2 := HBB1.out.trans (HB2.out.mono hb1s)
  have e0 := O2.cell 0 rfl
  have e1 := O2.cell 1 rfl
  have e2 := O2.cell 2 rfl
  clear HM HH1 HO1 HBB1 HB2 d0 d1 d2
  go_upto_region 28 with fail
  have H4 := T2.bel ((Below.refl w2.heap.size w2).drew)
  have B4 := B2.trans ((Below.refl base w2).drew)
  have O4 : Bk w2.drew w.heap.size 52 (oqD 9 r n) := O2.of rfl
  have hb4 : base ≤ w2.drew.heap.size := Nat.le_trans h.lo (Nat.le_of_lt H4.bk.lt)
  refine wp_region_held_drew (S := fun u => u.rangeAt tb 1 t.now.cells) (by kernel_rfl) H4.rnow (fun hS => ?_)
  clear e0 e1 e2 T2 B2 O2
  generalize w2.drew = W4 at *
  have B5 : Below W4.heap.size W4 (W4.alloc (.cells t.now.cells.toArray 60)) := (Below.refl _ _).alloc (Nat.le_refl _) _
  have H5 := H4.bel B5
  have N5 : Bk (W4.alloc (.cells t.now.cells.toArray 60)) W4.heap.size 60 t.now.cells.toArray := Bk.new _ _ _
  have hb5 : base ≤ (W4.alloc (.cells t.now.cells.toArray 60)).heap.size := Nat.le_trans hb4 B5.size
  refine wpAnyH_take (i := 0) (v := .pointer (some ⟨tb, 0, none⟩)) rfl (by kernel_rfl) (by kernel_rfl) (by kernel_rfl) (fun _ _ _ h => h) (Or.inl ⟨by kernel_rfl, fun u hu => by kernel_rfl⟩) hS ?_
  simp only [Act.put, List.getElem_toArray, List.getElem_cons_succ, List.getElem_cons_zero, List.setIfInBounds_toArray, List.set_cons_zero, List.set_cons_succ]
  refine wpAnyH_take (i := 1) (v := .pointer (some ⟨tb, 0, none⟩)) rfl (by kernel_rfl) (by kernel_rfl) (by kernel_rfl) (fun _ _ _ h => h) (Or.inl ⟨by kernel_rfl, fun u hu => by kernel_rfl⟩) hS ?_
  simp only [Act.put, List.getElem_toArray, List.getElem_cons_succ, List.getElem_cons_zero, List.setIfInBounds_toArray, List.set_cons_zero, List.set_cons_succ]
  refine wpAnyH_take (i := 2) (v := .pointer (some ⟨tb, 0, none⟩)) rfl (by kernel_rfl) (by kernel_rfl) (by kernel_rfl) (fun _ _ _ h => h) (Or.inl ⟨by kernel_rfl, fun u hu => by kernel_rfl⟩) hS ?_
  simp only [Act.put, List.getElem_toArray, List.getElem_cons_succ, List.getElem_cons_zero, List.setIfInBounds_toArray, List.set_cons_zero, List.set_cons_succ]
  refine wpAnyH_take (i := 3) (v := .pointer (some ⟨tb, 75, none⟩)) rfl (by kernel_rfl) (by kernel_rfl) (by kernel_rfl) (fun _ _ _ h => h) (Or.inl ⟨by kernel_rfl, fun u hu => by kernel_rfl⟩) hS ?_
  simp only [Act.put, List.getElem_toArray, List.getElem_cons_succ, List.getElem_cons_zero, List.setIfInBounds_toArray, List.set_cons_zero, List.set_cons_succ]
  refine wpAnyH_take (i := 5) (v := .pointer (some ⟨tb, 0, none⟩)) rfl (by kernel_rfl) (by kernel_rfl) (by kernel_rfl) (fun _ _ _ h => h) (Or.inl ⟨by kernel_rfl, fun u hu => by kernel_rfl⟩) hS ?_
  simp only [Act.put, List.getElem_toArray, List.getElem_cons_succ, List.getElem_cons_zero, List.setIfInBounds_toArray, List.set_cons_zero, List.set_cons_succ]
  refine wpAnyH_take (i := 6) (v := .pointer (some ⟨tb, 0, none⟩)) rfl (by kernel_rfl) (by kernel_rfl) (by kernel_rfl) (fun _ _ _ h => h) (Or.inl ⟨by kernel_rfl, fun u hu => by kernel_rfl⟩) hS ?_
  simp only [Act.put, List.getElem_toArray, List.getElem_cons_succ, List.getElem_cons_zero, List.setIfInBounds_toArray, List.set_cons_zero, List.set_cons_succ]
  refine wpAnyH_take (i := 7) (v := .pointer (some ⟨tb, 1, none⟩)) rfl (by kernel_rfl) (by kernel_rfl) (by kernel_rfl) (fun _ _ _ h => h) (Or.inl ⟨by kernel_rfl, fun u hu => by kernel_rfl⟩) hS ?_
  simp only [Act.put, List.getElem_toArray, List.getElem_cons_succ, List.getElem_cons_zero, List.setIfInBounds_toArray, List.set_cons_zero, List.set_cons_succ]
  refine wpAnyH_take (i := 8) (v := .agg t.now.cells.toArray) rfl (by kernel_rfl) (by kernel_rfl) (by kernel_rfl) (fun _ _ _ h => h) (Or.inl ⟨by kernel_rfl, fun u hu => exec_loadV (t := 60) (p := ⟨tb, 1, none⟩) rfl (by kernel_rfl) (load_rowD h.wf.now hu)⟩) hS ?_
  simp only [Act.put, List.getElem_toArray, List.getElem_cons_succ, List.getElem_cons_zero, List.setIfInBounds_toArray, List.set_cons_zero, List.set_cons_succ]
  refine wpAnyH_ready (rs := [4, 9]) (by kernel_rfl) (by simp) ?_
  refine AllReadyH.cons rfl (fun K hK => ?_) (AllReadyH.cons rfl (fun K hK => ?_) AllReadyH.nil)
  · simp only [List.getElem_toArray, List.getElem_cons_succ, List.getElem_cons_zero]
    refine wp_if (by kernel_rfl) ?_
    refine wp_val (v := .slice ar t.kept.length cr) (exec_loadV (t := 61) (p := ⟨tb, 75, none⟩) rfl (by kernel_rfl) (load_rowsD (H4.kept1 hvr))) ?_
    refine hK.out _ _ H4.rnow (fun hS => ?_)
    clear hK
    simp only [Act.put, List.getElem_toArray, List.getElem_cons_succ, List.getElem_cons_zero, List.setIfInBounds_toArray, List.set_cons_zero, List.set_cons_succ]
    refine wpAnyH_ready (rs := [9]) (by kernel_rfl) (by simp) ?_
    refine AllReadyH.cons rfl (fun K hK => ?_) AllReadyH.nil
    simp only [List.getElem_toArray, List.getElem_cons_succ, List.getElem_cons_zero]
    refine wp_if (by kernel_rfl) ?_
    refine wp_val (v := .slice (some ⟨W4.heap.size, 0, none⟩) 1 1) (exec_build_rowD W4 t.now h.wf.now rfl (by kernel_rfl)) ?_
    refine hK.out _ _ H5.rnow (fun hS => ?_)
    clear hK
    simp only [Act.put, List.getElem_toArray, List.getElem_cons_succ, List.getElem_cons_zero, List.setIfInBounds_toArray, List.set_cons_zero, List.set_cons_succ]
    refine wpAnyH_ready (rs := [10]) (by kernel_rfl) (by simp) ?_
    refine AllReadyH.cons rfl (fun K hK => ?_) AllReadyH.nil
    simp only [List.getElem_toArray, List.getElem_cons_succ, List.getElem_cons_zero]
    refine wp_if (by kernel_rfl) ?_
    refine wp_append_rowD rfl H5.K (by rw [hvr]; rfl) (by kernel_rfl) N5 h.wf.now hLn hb5 (fun v6 w6 ho6 hg hbk => ?_)
    have hnr : vK.ownBlock ≠ some tb := h.nk
    have bk6 : Bk w6 tb 63 (dC t vL vK).toArray := H5.bk.of (hg.block tb H5.bk.lt (Ne.symm hnr))
    have H7 := H4.growK B5 hg ho6 hbk
    have B7 : Below base w (w6.setRow tb (putAt (dC t vL vK).toArray 75 [v6])) := (B4.trans (B5.mono hb4)).trans ((bel_grown hg (fun k hk => (h.K.2.lt k hk).1) hb5).trans (below_set _ tb _ h.lo))
    have O7 : Bk (w6.setRow tb (putAt (dC t vL vK).toArray 75 [v6])) w.heap.size 52 (oqD 9 r n) := ((O4.bel B5 O4.lt).of (hg.block _ (by have := B5.size; have := O4.lt; omega) (Ne.symm hnkW))).setO hne _
    refine hK.out _ _ (rnow_grownD H5 hg hnr) (fun hS => ?_)
    clear hK
    simp only [Act.put, List.getElem_toArray, List.getElem_cons_succ, List.getElem_cons_zero, List.setIfInBounds_toArray, List.set_cons_zero, List.set_cons_succ]
    refine wpAnyH_take (i := 11) (v := .pointer (some ⟨tb, 0, none⟩)) rfl (by kernel_rfl) (by kernel_rfl) (by kernel_rfl) (fun _ _ _ h => h) (Or.inl ⟨by kernel_rfl, fun u hu => by kernel_rfl⟩) hS ?_
    simp only [Act.put, List.getElem_toArray, List.getElem_cons_succ, List.getElem_cons_zero, List.setIfInBounds_toArray, List.set_cons_zero, List.set_cons_succ]
    refine wpAnyH_take (i := 12) (v := .pointer (some ⟨tb, 75, none⟩)) rfl (by kernel_rfl) (by kernel_rfl) (by kernel_rfl) (fun _ _ _ h => h) (Or.inl ⟨by kernel_rfl, fun u hu => by kernel_rfl⟩) hS ?_
    simp only [Act.put, List.getElem_toArray, List.getElem_cons_succ, List.getElem_cons_zero, List.setIfInBounds_toArray, List.set_cons_zero, List.set_cons_succ]
    refine wpAnyH_ready (rs := [13]) (by kernel_rfl) (by simp) ?_
    refine AllReadyH.cons rfl (fun K hK => ?_) AllReadyH.nil
    simp only [List.getElem_toArray, List.getElem_cons_succ, List.getElem_cons_zero]
    refine wp_if (by kernel_rfl) ?_
    obtain ⟨a6, c6, hv6, _⟩ := ho6.any
    refine wp_part (g := tb) (off := 75) (val := v6) rfl (by kernel_rfl) (by kernel_rfl) bk6 (by rw [hv6, sizeRwsD]; rfl) (by rw [H5.len, hv6]; show 75 + 1 ≤ 77; omega) (by rw [hv6]; exact slice_one _ _ _) rfl ?_
    have ev : v6.cells.toList = [v6] := by rw [hv6]; rfl
    rw [ev]
    refine hK.out _ _ H7.rnow (fun _ => ?_)
    clear hK
    simp only [Act.put, List.getElem_toArray, List.getElem_cons_succ, List.getElem_cons_zero, List.setIfInBounds_toArray, List.set_cons_zero, List.set_cons_succ]
    refine wpAnyH_done (by kernel_rfl) ?_ _
    have HH7 : Hid _ := ⟨H7⟩
    have HB7 : Hid _ := ⟨B7⟩
    have ck := H7.kept1 hv6
    have hl6 : (t.kept ++ [t.now]).length = t.kept.length + 1 := by simp
    rw [hl6] at ck
    have hkI : (t.kept.length : Int) ≤ 64 := by omega
    clear ev hv6 H7 B7 O7 bk6 hl6
    generalize w6.setRow tb (putAt (dC t vL vK).toArray 75 [v6]) = W7 at *
    generalize t.kept.length = kl at *
    have hdd : decide ((kl : Int) + 1 ≤ 64) = bb := by rw [← HBB.out]; exact decide_eq_decide.2 (by omega)
    have HDD : Hid _ := ⟨hdd⟩
    clear hdd
    go_wp2_with fail
    go_ret
    refine ⟨?_, HB7.out, _, _, HH7.out⟩
    show Ending.returned (.bool (decide ((kl : Int) + 1 ≤ 64))) = _
    rw [HDD.out]
  · simp only [List.getElem_toArray, List.getElem_cons_succ, List.getElem_cons_zero]
    refine wp_if (by kernel_rfl) ?_
    refine wp_val (v := .slice (some ⟨W4.heap.size, 0, none⟩) 1 1) (exec_build_rowD W4 t.now h.wf.now rfl (by kernel_rfl)) ?_
    refine hK.out _ _ H5.rnow (fun hS => ?_)
    clear hK
    simp only [Act.put, List.getElem_toArray, List.getElem_cons_succ, List.getElem_cons_zero, List.setIfInBounds_toArray, List.set_cons_zero, List.set_cons_succ]
    refine wpAnyH_ready (rs := [4]) (by kernel_rfl) (by simp) ?_
    refine AllReadyH.cons rfl (fun K hK => ?_) AllReadyH.nil
    simp only [List.getElem_toArray, List.getElem_cons_succ, List.getElem_cons_zero]
    refine wp_if (by kernel_rfl) ?_
    refine wp_val (v := .slice ar t.kept.length cr) (exec_loadV (t := 61) (p := ⟨tb, 75, none⟩) rfl (by kernel_rfl) (load_rowsD (H5.kept1 hvr))) ?_
    refine hK.out _ _ H5.rnow (fun hS => ?_)
    clear hK
    simp only [Act.put, List.getElem_toArray, List.getElem_cons_succ, List.getElem_cons_zero, List.setIfInBounds_toArray, List.set_cons_zero, List.set_cons_succ]
    refine wpAnyH_ready (rs := [10]) (by kernel_rfl) (by simp) ?_
    refine AllReadyH.cons rfl (fun K hK => ?_) AllReadyH.nil
    simp only [List.getElem_toArray, List.getElem_cons_succ, List.getElem_cons_zero]
    refine wp_if (by kernel_rfl) ?_
    refine wp_append_rowD rfl H5.K (by rw [hvr]; rfl) (by kernel_rfl) N5 h.wf.now hLn hb5 (fun v6 w6 ho6 hg hbk => ?_)
    have hnr : vK.ownBlock ≠ some tb := h.nk
    have bk6 : Bk w6 tb 63 (dC t vL vK).toArray := H5.bk.of (hg.block tb H5.bk.lt (Ne.symm hnr))
    have H7 := H4.growK B5 hg ho6 hbk
    have B7 : Below base w (w6.setRow tb (putAt (dC t vL vK).toArray 75 [v6])) := (B4.trans (B5.mono hb4)).trans ((bel_grown hg (fun k hk => (h.K.2.lt k hk).1) hb5).trans (below_set _ tb _ h.lo))
    have O7 : Bk (w6.setRow tb (putAt (dC t vL vK).toArray 75 [v6])) w.heap.size 52 (oqD 9 r n) := ((O4.bel B5 O4.lt).of (hg.block _ (by have := B5.size; have := O4.lt; omega) (Ne.symm hnkW))).setO hne _
    refine hK.out _ _ (rnow_grownD H5 hg hnr) (fun hS => ?_)
    clear hK
    simp only [Act.put, List.getElem_toArray, List.getElem_cons_succ, List.getElem_cons_zero, List.setIfInBounds_toArray, List.set_cons_zero, List.set_cons_succ]
    refine wpAnyH_take (i := 11) (v := .pointer (some ⟨tb, 0, none⟩)) rfl (by kernel_rfl) (by kernel_rfl) (by kernel_rfl) (fun _ _ _ h => h) (Or.inl ⟨by kernel_rfl, fun u hu => by kernel_rfl⟩) hS ?_
    simp only [Act.put, List.getElem_toArray, List.getElem_cons_succ, List.getElem_cons_zero, List.setIfInBounds_toArray, List.set_cons_zero, List.set_cons_succ]
    refine wpAnyH_take (i := 12) (v := .pointer (some ⟨tb, 75, none⟩)) rfl (by kernel_rfl) (by kernel_rfl) (by kernel_rfl) (fun _ _ _ h => h) (Or.inl ⟨by kernel_rfl, fun u hu => by kernel_rfl⟩) hS ?_
    simp only [Act.put, List.getElem_toArray, List.getElem_cons_succ, List.getElem_cons_zero, List.setIfInBounds_toArray, List.set_cons_zero, List.set_cons_succ]
    refine wpAnyH_ready (rs := [13]) (by kernel_rfl) (by simp) ?_
    refine AllReadyH.cons rfl (fun K hK => ?_) AllReadyH.nil
    simp only [List.getElem_toArray, List.getElem_cons_succ, List.getElem_cons_zero]
    refine wp_if (by kernel_rfl) ?_
    obtain ⟨a6, c6, hv6, _⟩ := ho6.any
    refine wp_part (g := tb) (off := 75) (val := v6) rfl (by kernel_rfl) (by kernel_rfl) bk6 (by rw [hv6, sizeRwsD]; rfl) (by rw [H5.len, hv6]; show 75 + 1 ≤ 77; omega) (by rw [hv6]; exact slice_one _ _ _) rfl ?_
    have ev : v6.cells.toList = [v6] := by rw [hv6]; rfl
    rw [ev]
    refine hK.out _ _ H7.rnow (fun _ => ?_)
    clear hK
    simp only [Act.put, List.getElem_toArray, List.getElem_cons_succ, List.getElem_cons_zero, List.setIfInBounds_toArray, List.set_cons_zero, List.set_cons_succ]
    refine wpAnyH_done (by kernel_rfl) ?_ _
    have HH7 : Hid _ := ⟨H7⟩
    have HB7 : Hid _ := ⟨B7⟩
    have ck := H7.kept1 hv6
    have hl6 : (t.kept ++ [t.now]).length = t.kept.length + 1 := by simp
    rw [hl6] at ck
    have hkI : (t.kept.length : Int) ≤ 64 := by omega
    clear ev hv6 H7 B7 O7 bk6 hl6
    generalize w6.setRow tb (putAt (dC t vL vK).toArray 75 [v6]) = W7 at *
    generalize t.kept.length = kl at *
    have hdd : decide ((kl : Int) + 1 ≤ 64) = bb := by rw [← HBB.out]; exact decide_eq_decide.2 (by omega)
    have HDD : Hid _ := ⟨hdd⟩
    clear hdd
    go_wp2_with fail
    go_ret
    refine ⟨?_, HB7.out, _, _, HH7.out⟩
    show Ending.returned (.bool (decide ((kl : Int) + 1 ≤ 64))) = _
    rw [HDD.out]

set_option maxRecDepth 10000 in
set_option maxHeartbeats 1000000 in
theorem tone_10n {base tb : Nat} {w : World} {t : Tb} {vL vK : Value} (h : TD X base w tb t vL vK) (r n : Int) (hm : mayB ⟨10, r, n⟩ = true) (hk : t.kept = []) :
    Calls Tryd.prog 16 #[.pointer (some ⟨tb, 0, none⟩), .agg (oqD 10 r n), .bool false] w fun e w' => e = .returned (.bool false) ∧ Below base w w' := by
  have HB : Below w.heap.size w (w.alloc (.cells (oqD 10 r n) 52)) := (Below.refl _ _).alloc (Nat.le_refl _) _
  have H1 := h.bel HB
  have O1 : Bk (w.alloc (.cells (oqD 10 r n) 52)) w.heap.size 52 (oqD 10 r n) := Bk.new w _ _
  have hne : w.heap.size ≠ tb := by have := h.bk.lt; omega
  have hbs : base ≤ w.heap.size := Nat.le_trans h.lo (Nat.le_of_lt h.bk.lt)
  have HBb := HB.mono hbs
  have hnrW : vL.ownBlock ≠ some w.heap.size := fun e => by have := ownV_lt h.L e; omega
  have hnkW : vK.ownBlock ≠ some w.heap.size := fun e => by have := ownV_lt h.K e; omega
  obtain ⟨ar, cr, hvr, _⟩ := h.K.any
  have HM : Hid (∀ W : World, Calls Tryd.prog 26 #[.agg (oqD 10 r n)] W fun e w' => e = .returned (.bool (mayB ⟨10, r, n⟩)) ∧ Below W.heap.size W w') := ⟨fun W => may_any 10 r n W⟩
  rw [hm] at HM
  go_enter Tryd.func16, Tryd.ntmps16
  go_upto_region 1 with fail
  have HH1 : Hid _ := ⟨H1⟩
  have HO1 : Hid _ := ⟨O1⟩
  have HBB1 : Hid _ := ⟨HBb⟩
  have d0 := O1.cell 0 rfl
  have d1 := O1.cell 1 rfl
  have d2 := O1.cell 2 rfl
  clear H1 O1 HBb HB
  generalize w.alloc (.cells (oqD 10 r n) 52) = W1 at *
  go_upto_region 3 with (go_at_call 26; (with_reducible refine (HM.out _).mono ?_); rintro e w2 ⟨he, hb2⟩; subst he; have HB2 : Hid _ := ⟨hb2⟩; have d0 := (HO1.out.bel hb2 HO1.out.lt).cell 0 rfl; clear hb2)
  have T2 := HH1.out.bel HB2.out
  have O2 := HO1.out.bel HB2.out HO1.out.lt
  have hb1s : base ≤ W1.heap.size := Nat.le_trans hbs (Nat.le_of_lt HO1.out.lt)
  have B2 := HBB1.out.trans (HB2.out.mono hb1s)
  have e0 := O2.cell 0 rfl
  have e1 := O2.cell 1 rfl
  have e2 := O2.cell 2 rfl
  clear HM HH1 HO1 HBB1 HB2 d0 d1 d2
  have c2 := T2.kept1 hvr
  rw [hk] at c2
  simp only [List.length_nil] at c2
  go_wp2_with fail
  go_ret
  exact ⟨rfl, B2⟩

theorem sub_oneD {w : World} {a : Act} {o : Oper} {x : Operand} {n m : Nat} (ho : o.op = .binOp .sub 3 x (.const (.int .i64 1)) 3) (hx : a.eval x = .int .i64 (n : Int)) (hc : a.eval (.const (.int .i64 1)) = .int .i64 1) (hn : n = m + 1) (h1 : n ≤ 9000) : (execOp a.eval o).run Tryd.prog w = .ok (.value (.int .i64 (m : Int))) w := by
  have := exec_sub (w := w) ho hx hc (by omega) (by omega)
  rwa [show (n : Int) - 1 = (m : Int) by omega] at this

set_option maxRecDepth 10000 in
set_option maxHeartbeats 1000000 in
theorem tone_10s {base tb : Nat} {w : World} {t : Tb} {vL vK : Value} (h : TD X base w tb t vL vK) (r n : Int) (hm : mayB ⟨10, r, n⟩ = true) (l : List Rw) (q : Rw) (hk : t.kept = l ++ [q]) (hk64 : t.kept.length ≤ 64) :
    Calls Tryd.prog 16 #[.pointer (some ⟨tb, 0, none⟩), .agg (oqD 10 r n), .bool false] w fun e w' => e = .returned (.bool true) ∧ Below base w w' ∧ ∃ vL vK, TD X base w' tb ⟨t.L, ⟨t.now.p, q.r, q.n, q.z⟩, t.first, l, t.size⟩ vL vK := by
  have HB : Below w.heap.size w (w.alloc (.cells (oqD 10 r n) 52)) := (Below.refl _ _).alloc (Nat.le_refl _) _
  have H1 := h.bel HB
  have O1 : Bk (w.alloc (.cells (oqD 10 r n) 52)) w.heap.size 52 (oqD 10 r n) := Bk.new w _ _
  have hne : w.heap.size ≠ tb := by have := h.bk.lt; omega
  have hbs : base ≤ w.heap.size := Nat.le_trans h.lo (Nat.le_of_lt h.bk.lt)
  have HBb := HB.mono hbs
  have hnrW : vL.ownBlock ≠ some w.heap.size := fun e => by have := ownV_lt h.L e; omega
  have hnkW : vK.ownBlock ≠ some w.heap.size := fun e => by have := ownV_lt h.K e; omega
  have hq : Wf q := h.wf.kept q (by rw [hk]; simp)
  obtain ⟨g, cr, hvr, hcap⟩ : ∃ g cr, vK = .slice (some ⟨g, 0, none⟩) (l ++ [q]).length cr ∧ (l ++ [q]).length ≤ cr := by
    rcases h.K.2.2 with ⟨_, hn⟩ | ⟨g, cap, cur, hv, _, hg, h1, h2, _⟩
    · rw [hk] at hn; simp at hn
    · rw [hk] at hv h1; exact ⟨g, cap, hv, h1⟩
  have hlen : l.length + 1 ≤ 64 := by rw [hk] at hk64; simpa using hk64
  subst hvr
  have hgt : g ≠ tb := fun e => h.nk (by rw [← e]; rfl)
  have hll : (l ++ [q]).length = l.length + 1 := by simp
  have HM : Hid (∀ W : World, Calls Tryd.prog 26 #[.agg (oqD 10 r n)] W fun e w' => e = .returned (.bool (mayB ⟨10, r, n⟩)) ∧ Below W.heap.size W w') := ⟨fun W => may_any 10 r n W⟩
  rw [hm] at HM
  go_enter Tryd.func16, Tryd.ntmps16
  go_upto_region 1 with fail
  have HH1 : Hid _ := ⟨H1⟩
  have HO1 : Hid _ := ⟨O1⟩
  have HBB1 : Hid _ := ⟨HBb⟩
  have d0 := O1.cell 0 rfl
  have d1 := O1.cell 1 rfl
  have d2 := O1.cell 2 rfl
  clear H1 O1 HBb HB
  generalize w.alloc (.cells (oqD 10 r n) 52) = W1 at *
  go_upto_region 3 with (go_at_call 26; (with_reducible refine (HM.out _).mono ?_); rintro e w2 ⟨he, hb2⟩; subst he; have HB2 : Hid _ := ⟨hb2⟩; have d0 := (HO1.out.bel hb2 HO1.out.lt).cell 0 rfl; clear hb2)
  have T2 := HH1.out.bel HB2.out
  have O2 := HO1.out.bel HB2.out HO1.out.lt
  have hb1s : base ≤ W1.heap.size := Nat.le_trans hbs (Nat.le_of_lt HO1.out.lt)
  have B2 := HBB1.out.trans (HB2.out.mono hb1s)
  have e0 := O2.cell 0 rfl
  have e1 := O2.cell 1 rfl
  have e2 := O2.cell 2 rfl
  clear HM HH1 HO1 HBB1 HB2 d0 d1 d2
  have c2 := T2.keptc
  have c3 := T2.p
  rw [hll] at c2
  have hK2 := T2.K
  rw [hk] at hK2
  have hR2 := hK2.last
  have hcc := c2
  go_upto_region 35 with fail
  iterate 1 go_step
  refine wpList_val (v := .pointer (some ⟨tb, 0, none⟩)) (w' := w2) (by kernel_rfl) (by kernel_rfl) ?_
  simp only [Act.put, List.getElem_toArray, List.getElem_cons_succ, List.getElem_cons_zero, List.setIfInBounds_toArray, List.set_cons_zero, List.set_cons_succ]
  refine wpList_val (v := .pointer (some ⟨tb, 0, none⟩)) (w' := w2) (by kernel_rfl) (by kernel_rfl) ?_
  simp only [Act.put, List.getElem_toArray, List.getElem_cons_succ, List.getElem_cons_zero, List.setIfInBounds_toArray, List.set_cons_zero, List.set_cons_succ]
  refine wpList_val (v := .pointer (some ⟨tb, 0, none⟩)) (w' := w2) (by kernel_rfl) (by kernel_rfl) ?_
  simp only [Act.put, List.getElem_toArray, List.getElem_cons_succ, List.getElem_cons_zero, List.setIfInBounds_toArray, List.set_cons_zero, List.set_cons_succ]
  refine wpList_val (v := .pointer (some ⟨tb, 75, none⟩)) (w' := w2) (by kernel_rfl) (by kernel_rfl) ?_
  simp only [Act.put, List.getElem_toArray, List.getElem_cons_succ, List.getElem_cons_zero, List.setIfInBounds_toArray, List.set_cons_zero, List.set_cons_succ]
  refine wpList_val (v := .slice (some ⟨g, 0, none⟩) (l.length + 1) cr) (w' := w2) (by kernel_rfl) (exec_loadV (t := 61) (p := ⟨tb, 75, none⟩) rfl (by kernel_rfl) (load_rowsD hcc)) ?_
  simp only [Act.put, List.getElem_toArray, List.getElem_cons_succ, List.getElem_cons_zero, List.setIfInBounds_toArray, List.set_cons_zero, List.set_cons_succ]
  refine wpList_val (v := .int .i64 ((l.length + 1 : Nat) : Int)) (w' := w2) (by kernel_rfl) (by kernel_rfl) ?_
  simp only [Act.put, List.getElem_toArray, List.getElem_cons_succ, List.getElem_cons_zero, List.setIfInBounds_toArray, List.set_cons_zero, List.set_cons_succ]
  refine wpList_val (v := .int .i64 (l.length : Int)) (w' := w2) (by kernel_rfl) (sub_oneD (n := l.length + 1) (m := l.length) rfl (by kernel_rfl) (by kernel_rfl) rfl (by omega)) ?_
  simp only [Act.put, List.getElem_toArray, List.getElem_cons_succ, List.getElem_cons_zero, List.setIfInBounds_toArray, List.set_cons_zero, List.set_cons_succ]
  refine wpList_val (v := .pointer (some ⟨g, l.length * 37, none⟩)) (w' := w2) (by kernel_rfl) (exec_ix rfl (by kernel_rfl) (by kernel_rfl) (ix_rowD g (l.length + 1) cr l.length (by omega) w2)) ?_
  simp only [Act.put, List.getElem_toArray, List.getElem_cons_succ, List.getElem_cons_zero, List.setIfInBounds_toArray, List.set_cons_zero, List.set_cons_succ]
  refine wpList_val (v := .agg q.cells.toArray) (w' := w2) (by kernel_rfl) (exec_loadV (t := 60) (p := ⟨g, l.length * 37, none⟩) rfl (by kernel_rfl) (load_rowD hq hR2)) ?_
  simp only [Act.put, List.getElem_toArray, List.getElem_cons_succ, List.getElem_cons_zero, List.setIfInBounds_toArray, List.set_cons_zero, List.set_cons_succ]
  refine wpList_val (v := .pointer (some ⟨tb, 0, none⟩)) (w' := w2) (by kernel_rfl) (by kernel_rfl) ?_
  simp only [Act.put, List.getElem_toArray, List.getElem_cons_succ, List.getElem_cons_zero, List.setIfInBounds_toArray, List.set_cons_zero, List.set_cons_succ]
  refine wpList_val (v := .pointer (some ⟨tb, 1, none⟩)) (w' := w2) (by kernel_rfl) (by kernel_rfl) ?_
  simp only [Act.put, List.getElem_toArray, List.getElem_cons_succ, List.getElem_cons_zero, List.setIfInBounds_toArray, List.set_cons_zero, List.set_cons_succ]
  refine wpList_part (g := tb) (off := 1) (val := .agg q.cells.toArray) rfl rfl (by kernel_rfl) (by kernel_rfl) T2.bk (by rw [sizeRowD]; simp [Value.cells, Rw.cells_len hq]) (by rw [T2.len]; simp [Value.cells, Rw.cells_len hq]) (by simpa [Value.cells] using rw_one q) rfl ?_
  have ev : (Value.agg q.cells.toArray).cells.toList = q.cells := rfl
  rw [ev]
  clear ev
  simp only [Act.put, List.getElem_toArray, List.getElem_cons_succ, List.getElem_cons_zero, List.setIfInBounds_toArray, List.set_cons_zero, List.set_cons_succ]
  have T3 := T2.setRowW q hq
  have B3 := B2.trans (below_set w2 tb (putAt (dC t vL (.slice (some ⟨g, 0, none⟩) (l ++ [q]).length cr)).toArray 1 q.cells) h.lo)
  refine wpList_nil ?_
  clear e0 e1 e2 c2 c3 hcc hR2 hK2 T2 B2 O2
  generalize w2.setRow tb (putAt (dC t vL (.slice (some ⟨g, 0, none⟩) (l ++ [q]).length cr)).toArray 1 q.cells) = W3 at *
  have T4 := T3.setP t.now.p
  have B4 := B3.trans (below_set W3 tb (putAt (dC ⟨t.L, q, t.first, t.kept, t.size⟩ vL (.slice (some ⟨g, 0, none⟩) (l ++ [q]).length cr)).toArray 1 [.int .i64 t.now.p]) h.lo)
  go_upto_region 37 with (refine wpList_part (g := tb) (off := 1) (val := .int .i64 t.now.p) rfl rfl (by rfl) (by rfl) T3.bk (by rw [sizeInt]; rfl) (by rw [T3.len]; show 1 + 1 ≤ 77; omega) (one_cells _) rfl ?_)
  have ev : (Value.int .i64 t.now.p).cells.toList = [.int .i64 t.now.p] := rfl
  rw [ev]
  clear ev T3 B3
  generalize W3.setRow tb (putAt (dC ⟨t.L, q, t.first, t.kept, t.size⟩ vL (.slice (some ⟨g, 0, none⟩) (l ++ [q]).length cr)).toArray 1 [.int .i64 t.now.p]) = W4 at *
  have hcc : W4.cell? ⟨tb, 75, none⟩ = some (.slice (some ⟨g, 0, none⟩) (l.length + 1) cr) := by rw [← hll]; exact T4.keptc
  iterate 1 go_step
  refine wpList_val (v := .pointer (some ⟨tb, 0, none⟩)) (w' := W4) (by kernel_rfl) (by kernel_rfl) ?_
  simp only [Act.put, List.getElem_toArray, List.getElem_cons_succ, List.getElem_cons_zero, List.setIfInBounds_toArray, List.set_cons_zero, List.set_cons_succ]
  refine wpList_val (v := .pointer (some ⟨tb, 0, none⟩)) (w' := W4) (by kernel_rfl) (by kernel_rfl) ?_
  simp only [Act.put, List.getElem_toArray, List.getElem_cons_succ, List.getElem_cons_zero, List.setIfInBounds_toArray, List.set_cons_zero, List.set_cons_succ]
  refine wpList_val (v := .pointer (some ⟨tb, 0, none⟩)) (w' := W4) (by kernel_rfl) (by kernel_rfl) ?_
  simp only [Act.put, List.getElem_toArray, List.getElem_cons_succ, List.getElem_cons_zero, List.setIfInBounds_toArray, List.set_cons_zero, List.set_cons_succ]
  refine wpList_val (v := .pointer (some ⟨tb, 75, none⟩)) (w' := W4) (by kernel_rfl) (by kernel_rfl) ?_
  simp only [Act.put, List.getElem_toArray, List.getElem_cons_succ, List.getElem_cons_zero, List.setIfInBounds_toArray, List.set_cons_zero, List.set_cons_succ]
  refine wpList_val (v := .slice (some ⟨g, 0, none⟩) (l.length + 1) cr) (w' := W4) (by kernel_rfl) (exec_loadV (t := 61) (p := ⟨tb, 75, none⟩) rfl (by kernel_rfl) (load_rowsD hcc)) ?_
  simp only [Act.put, List.getElem_toArray, List.getElem_cons_succ, List.getElem_cons_zero, List.setIfInBounds_toArray, List.set_cons_zero, List.set_cons_succ]
  refine wpList_val (v := .int .i64 ((l.length + 1 : Nat) : Int)) (w' := W4) (by kernel_rfl) (by kernel_rfl) ?_
  simp only [Act.put, List.getElem_toArray, List.getElem_cons_succ, List.getElem_cons_zero, List.setIfInBounds_toArray, List.set_cons_zero, List.set_cons_succ]
  refine wpList_val (v := .int .i64 (l.length : Int)) (w' := W4) (by kernel_rfl) (sub_oneD (n := l.length + 1) (m := l.length) rfl (by kernel_rfl) (by kernel_rfl) rfl (by omega)) ?_
  simp only [Act.put, List.getElem_toArray, List.getElem_cons_succ, List.getElem_cons_zero, List.setIfInBounds_toArray, List.set_cons_zero, List.set_cons_succ]
  refine wpList_val (v := .slice (some ⟨g, 0, none⟩) l.length cr) (w' := W4) (by kernel_rfl) (exec_cutD g (l.length + 1) cr l.length (by omega) (by omega) rfl (by kernel_rfl) (by kernel_rfl)) ?_
  simp only [Act.put, List.getElem_toArray, List.getElem_cons_succ, List.getElem_cons_zero, List.setIfInBounds_toArray, List.set_cons_zero, List.set_cons_succ]
  refine wpList_val (v := .pointer (some ⟨tb, 0, none⟩)) (w' := W4) (by kernel_rfl) (by kernel_rfl) ?_
  simp only [Act.put, List.getElem_toArray, List.getElem_cons_succ, List.getElem_cons_zero, List.setIfInBounds_toArray, List.set_cons_zero, List.set_cons_succ]
  refine wpList_val (v := .pointer (some ⟨tb, 75, none⟩)) (w' := W4) (by kernel_rfl) (by kernel_rfl) ?_
  simp only [Act.put, List.getElem_toArray, List.getElem_cons_succ, List.getElem_cons_zero, List.setIfInBounds_toArray, List.set_cons_zero, List.set_cons_succ]
  refine wpList_part (g := tb) (off := 75) (val := .slice (some ⟨g, 0, none⟩) l.length cr) rfl rfl (by kernel_rfl) (by kernel_rfl) T4.bk (by rw [sizeRwsD]; rfl) (by rw [T4.len]; show 75 + 1 ≤ 77; omega) (slice_one _ _ _) rfl ?_
  have ev : (Value.slice (some ⟨g, 0, none⟩) l.length cr).cells.toList = [.slice (some ⟨g, 0, none⟩) l.length cr] := rfl
  rw [ev]
  clear ev
  simp only [Act.put, List.getElem_toArray, List.getElem_cons_succ, List.getElem_cons_zero, List.setIfInBounds_toArray, List.set_cons_zero, List.set_cons_succ]
  have T5 := T4.setK hk
  have B5 := B4.trans (below_set W4 tb (putAt (dC ⟨t.L, ⟨t.now.p, q.r, q.n, q.z⟩, t.first, t.kept, t.size⟩ vL (.slice (some ⟨g, 0, none⟩) (l ++ [q]).length cr)).toArray 75 [.slice (some ⟨g, 0, none⟩) l.length cr]) h.lo)
  refine wpList_nil ?_
  generalize W4.setRow tb (putAt (dC ⟨t.L, ⟨t.now.p, q.r, q.n, q.z⟩, t.first, t.kept, t.size⟩ vL (.slice (some ⟨g, 0, none⟩) (l ++ [q]).length cr)).toArray 75 [.slice (some ⟨g, 0, none⟩) l.length cr]) = W5 at *
  clear hcc
  go_wp2_with fail
  go_ret
  exact ⟨rfl, B5, _, _, T5⟩

end Go.Proofs.YtpbnldfekadalaaDoor
