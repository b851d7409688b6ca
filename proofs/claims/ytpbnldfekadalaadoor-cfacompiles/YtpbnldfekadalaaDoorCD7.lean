/- The document's One: advance. -/
import Derived.Test.YtpbnldfekadalaaDoorCD2
namespace Go.Proofs.YtpbnldfekadalaaDoor
open Go.ChangeShapes Go.WideShapes Go.ChangeAt Go.RowKit
set_option linter.unusedVariables false
set_option linter.unusedSimpArgs false
variable {X : Nat → Option Obj}

set_option maxRecDepth 10000 in
set_option maxHeartbeats 1000000 in
theorem tone_1p {base tb : Nat} {w : World} {t : Tb} {vL vK : Value} (h : TD X base w tb t vL vK) (r n : Int) (hm : mayB ⟨1, r, n⟩ = true) (hpos : 0 < n) (hn1 : n < 2147483648) (hp0 : 0 ≤ t.now.p) (hp1 : t.now.p ≤ 1048576) (hLn : t.L.length ≤ 100000) :
    Calls Tryd.prog 16 #[.pointer (some ⟨tb, 0, none⟩), .agg (oqD 1 r n), .bool false] w fun e w' => e = .returned (.bool (decide (t.now.p + n ≤ t.size))) ∧ Below base w w' ∧ ∃ vL vK, TD X base w' tb ⟨t.L ++ [t.now], ⟨t.now.p + n, t.now.r, t.now.n, t.now.z⟩, t.first, t.kept, t.size⟩ vL vK := by
  have HB : Below w.heap.size w (w.alloc (.cells (oqD 1 r n) 52)) := (Below.refl _ _).alloc (Nat.le_refl _) _
  have H1 := h.bel HB
  have O1 : Bk (w.alloc (.cells (oqD 1 r n) 52)) w.heap.size 52 (oqD 1 r n) := Bk.new w _ _
  have hne : w.heap.size ≠ tb := by have := h.bk.lt; omega
  have hbs : base ≤ w.heap.size := Nat.le_trans h.lo (Nat.le_of_lt h.bk.lt)
  have HBb := HB.mono hbs
  have hnrW : vL.ownBlock ≠ some w.heap.size := fun e => by have := ownV_lt h.L e; omega
  have hnkW : vK.ownBlock ≠ some w.heap.size := fun e => by have := ownV_lt h.K e; omega
  obtain ⟨ar, cr, hvr, _⟩ := h.L.any
  have HM : Hid (∀ W : World, Calls Tryd.prog 26 #[.agg (oqD 1 r n)] W fun e w' => e = .returned (.bool (mayB ⟨1, r, n⟩)) ∧ Below W.heap.size W w') := ⟨fun W => may_any 1 r n W⟩
  rw [hm] at HM
  go_enter Tryd.func16, Tryd.ntmps16
  go_upto_region 1 with fail
  have HH1 : Hid _ := ⟨H1⟩
  have HO1 : Hid _ := ⟨O1⟩
  have HBB1 : Hid _ := ⟨HBb⟩
  have d0 := O1.cell 0 rfl
  have d1 := O1.cell 1 rfl
  have d2 := O1.cell 2 rfl
  clear H1 O1 HBb HB
  generalize w.alloc (.cells (oqD 1 r n) 52) = W1 at *
  go_upto_region 3 with (go_at_call 26; (with_reducible refine (HM.out _).mono ?_); rintro e w2 ⟨he, hb2⟩; subst he; have HB2 : Hid _ := ⟨hb2⟩; have d0 := (HO1.out.bel hb2 HO1.out.lt).cell 0 rfl; clear hb2)
  have T2 := HH1.out.bel HB2.out
  have O2 := HO1.out.bel HB2.out HO1.out.lt
  have hb1s : base ≤ W1.heap.size := Nat.le_trans hbs (Nat.le_of_lt HO1.out.lt)
  have B2 := HBB1.out.trans (HB2.out.mono hb1s)
  have e0 := O2.cell 0 rfl
  have e1 := O2.cell 1 rfl
  have e2 := O2.cell 2 rfl
  clear HM HH1 HO1 HBB1 HB2 d0 d1 d2
  go_upto_region 6 with fail
  have H4 := T2.bel ((Below.refl w2.heap.size w2).drew)
  have B4 := B2.trans ((Below.refl base w2).drew)
  have O4 : Bk w2.drew w.heap.size 52 (oqD 1 r n) := O2.of rfl
  have hb4 : base ≤ w2.drew.heap.size := Nat.le_trans h.lo (Nat.le_of_lt H4.bk.lt)
  refine wp_region_held_drew (S := fun u => u.rangeAt tb 1 t.now.cells) (by kernel_rfl) H4.rnow (fun hS => ?_)
  clear e0 e1 e2 T2 B2 O2
  generalize w2.drew = W4 at *
  have B5 : Below W4.heap.size W4 (W4.alloc (.cells t.now.cells.toArray 60)) := (Below.refl _ _).alloc (Nat.le_refl _) _
  have H5 := H4.bel B5
  have N5 : Bk (W4.alloc (.cells t.now.cells.toArray 60)) W4.heap.size 60 t.now.cells.toArray := Bk.new _ _ _
  have hb5 : base ≤ (W4.alloc (.cells t.now.cells.toArray 60)).heap.size := Nat.le_trans hb4 B5.size
  refine wpAnyH_take (i := 0) (v := .pointer (some ⟨tb, 0, none⟩)) rfl (by kernel_rfl) (by kernel_rfl) (by kernel_rfl) (fun _ _ _ h => h) (Or.inl ⟨by kernel_rfl, fun u hu => by kernel_rfl⟩) hS ?_
  simp only [Act.put, List.getElem_toArray, List.getElem_cons_succ, List.getElem_cons_zero, List.setIfInBounds_toArray, List.set_cons_zero, List.set_cons_succ]
  refine wpAnyH_take (i := 1) (v := .pointer (some ⟨tb, 0, none⟩)) rfl (by kernel_rfl) (by kernel_rfl) (by kernel_rfl) (fun _ _ _ h => h) (Or.inl ⟨by kernel_rfl, fun u hu => by kernel_rfl⟩) hS ?_
  simp only [Act.put, List.getElem_toArray, List.getElem_cons_succ, List.getElem_cons_zero, List.setIfInBounds_toArray, List.set_cons_zero, List.set_cons_succ]
  refine wpAnyH_take (i := 2) (v := .pointer (some ⟨tb, 0, none⟩)) rfl (by kernel_rfl) (by kernel_rfl) (by kernel_rfl) (fun _ _ _ h => h) (Or.inl ⟨by kernel_rfl, fun u hu => by kernel_rfl⟩) hS ?_
  simp only [Act.put, List.getElem_toArray, List.getElem_cons_succ, List.getElem_cons_zero, List.setIfInBounds_toArray, List.set_cons_zero, List.set_cons_succ]
  refine wpAnyH_take (i := 3) (v := .pointer (some ⟨tb, 0, none⟩)) rfl (by kernel_rfl) (by kernel_rfl) (by kernel_rfl) (fun _ _ _ h => h) (Or.inl ⟨by kernel_rfl, fun u hu => by kernel_rfl⟩) hS ?_
  simp only [Act.put, List.getElem_toArray, List.getElem_cons_succ, List.getElem_cons_zero, List.setIfInBounds_toArray, List.set_cons_zero, List.set_cons_succ]
  refine wpAnyH_take (i := 5) (v := .pointer (some ⟨tb, 0, none⟩)) rfl (by kernel_rfl) (by kernel_rfl) (by kernel_rfl) (fun _ _ _ h => h) (Or.inl ⟨by kernel_rfl, fun u hu => by kernel_rfl⟩) hS ?_
  simp only [Act.put, List.getElem_toArray, List.getElem_cons_succ, List.getElem_cons_zero, List.setIfInBounds_toArray, List.set_cons_zero, List.set_cons_succ]
  refine wpAnyH_take (i := 6) (v := .pointer (some ⟨tb, 0, none⟩)) rfl (by kernel_rfl) (by kernel_rfl) (by kernel_rfl) (fun _ _ _ h => h) (Or.inl ⟨by kernel_rfl, fun u hu => by kernel_rfl⟩) hS ?_
  simp only [Act.put, List.getElem_toArray, List.getElem_cons_succ, List.getElem_cons_zero, List.setIfInBounds_toArray, List.set_cons_zero, List.set_cons_succ]
  refine wpAnyH_take (i := 7) (v := .pointer (some ⟨tb, 1, none⟩)) rfl (by kernel_rfl) (by kernel_rfl) (by kernel_rfl) (fun _ _ _ h => h) (Or.inl ⟨by kernel_rfl, fun u hu => by kernel_rfl⟩) hS ?_
  simp only [Act.put, List.getElem_toArray, List.getElem_cons_succ, List.getElem_cons_zero, List.setIfInBounds_toArray, List.set_cons_zero, List.set_cons_succ]
  refine wpAnyH_take (i := 8) (v := .agg t.now.cells.toArray) rfl (by kernel_rfl) (by kernel_rfl) (by kernel_rfl) (fun _ _ _ h => h) (Or.inl ⟨by kernel_rfl, fun u hu => exec_loadV (t := 60) (p := ⟨tb, 1, none⟩) rfl (by kernel_rfl) (load_rowD h.wf.now hu)⟩) hS ?_
  simp only [Act.put, List.getElem_toArray, List.getElem_cons_succ, List.getElem_cons_zero, List.setIfInBounds_toArray, List.set_cons_zero, List.set_cons_succ]
  refine wpAnyH_ready (rs := [4, 9]) (by kernel_rfl) (by simp) ?_
  refine AllReadyH.cons rfl (fun K hK => ?_) (AllReadyH.cons rfl (fun K hK => ?_) AllReadyH.nil)
  · simp only [List.getElem_toArray, List.getElem_cons_succ, List.getElem_cons_zero]
    refine wp_if (by kernel_rfl) ?_
    refine wp_val (v := .slice ar t.L.length cr) (exec_loadV (t := 61) (p := ⟨tb, 0, none⟩) rfl (by kernel_rfl) (load_rowsD (H4.rows1 hvr))) ?_
    refine hK.out _ _ H4.rnow (fun hS => ?_)
    clear hK
    simp only [Act.put, List.getElem_toArray, List.getElem_cons_succ, List.getElem_cons_zero, List.setIfInBounds_toArray, List.set_cons_zero, List.set_cons_succ]
    refine wpAnyH_ready (rs := [9]) (by kernel_rfl) (by simp) ?_
    refine AllReadyH.cons rfl (fun K hK => ?_) AllReadyH.nil
    simp only [List.getElem_toArray, List.getElem_cons_succ, List.getElem_cons_zero]
    refine wp_if (by kernel_rfl) ?_
    refine wp_val (v := .slice (some ⟨W4.heap.size, 0, none⟩) 1 1) (exec_build_rowD W4 t.now h.wf.now rfl (by kernel_rfl)) ?_
    refine hK.out _ _ H5.rnow (fun hS => ?_)
    clear hK
    simp only [Act.put, List.getElem_toArray, List.getElem_cons_succ, List.getElem_cons_zero, List.setIfInBounds_toArray, List.set_cons_zero, List.set_cons_succ]
    refine wpAnyH_ready (rs := [10]) (by kernel_rfl) (by simp) ?_
    refine AllReadyH.cons rfl (fun K hK => ?_) AllReadyH.nil
    simp only [List.getElem_toArray, List.getElem_cons_succ, List.getElem_cons_zero]
    refine wp_if (by kernel_rfl) ?_
    refine wp_append_rowD rfl H5.L (by rw [hvr]; rfl) (by kernel_rfl) N5 h.wf.now hLn hb5 (fun v6 w6 ho6 hg hbk => ?_)
    have hnr : vL.ownBlock ≠ some tb := h.nr
    have bk6 : Bk w6 tb 63 (dC t vL vK).toArray := H5.bk.of (hg.block tb H5.bk.lt (Ne.symm hnr))
    have H7 := H4.grow B5 hg ho6 hbk
    have B7 : Below base w (w6.setRow tb (putAt (dC t vL vK).toArray 0 [v6])) := (B4.trans (B5.mono hb4)).trans ((bel_grown hg (fun k hk => (h.L.2.lt k hk).1) hb5).trans (below_set _ tb _ h.lo))
    have O7 : Bk (w6.setRow tb (putAt (dC t vL vK).toArray 0 [v6])) w.heap.size 52 (oqD 1 r n) := ((O4.bel B5 O4.lt).of (hg.block _ (by have := B5.size; have := O4.lt; omega) (Ne.symm hnrW))).setO hne _
    refine hK.out _ _ (rnow_grownD H5 hg hnr) (fun hS => ?_)
    clear hK
    simp only [Act.put, List.getElem_toArray, List.getElem_cons_succ, List.getElem_cons_zero, List.setIfInBounds_toArray, List.set_cons_zero, List.set_cons_succ]
    refine wpAnyH_take (i := 11) (v := .pointer (some ⟨tb, 0, none⟩)) rfl (by kernel_rfl) (by kernel_rfl) (by kernel_rfl) (fun _ _ _ h => h) (Or.inl ⟨by kernel_rfl, fun u hu => by kernel_rfl⟩) hS ?_
    simp only [Act.put, List.getElem_toArray, List.getElem_cons_succ, List.getElem_cons_zero, List.setIfInBounds_toArray, List.set_cons_zero, List.set_cons_succ]
    refine wpAnyH_take (i := 12) (v := .pointer (some ⟨tb, 0, none⟩)) rfl (by kernel_rfl) (by kernel_rfl) (by kernel_rfl) (fun _ _ _ h => h) (Or.inl ⟨by kernel_rfl, fun u hu => by kernel_rfl⟩) hS ?_
    simp only [Act.put, List.getElem_toArray, List.getElem_cons_succ, List.getElem_cons_zero, List.setIfInBounds_toArray, List.set_cons_zero, List.set_cons_succ]
    refine wpAnyH_ready (rs := [13]) (by kernel_rfl) (by simp) ?_
    refine AllReadyH.cons rfl (fun K hK => ?_) AllReadyH.nil
    simp only [List.getElem_toArray, List.getElem_cons_succ, List.getElem_cons_zero]
    refine wp_if (by kernel_rfl) ?_
    obtain ⟨a6, c6, hv6, _⟩ := ho6.any
    refine wp_part (g := tb) (off := 0) (val := v6) rfl (by kernel_rfl) (by kernel_rfl) bk6 (by rw [hv6, sizeRwsD]; rfl) (by rw [H5.len, hv6]; show 0 + 1 ≤ 77; omega) (by rw [hv6]; exact slice_one _ _ _) rfl ?_
    have ev : v6.cells.toList = [v6] := by rw [hv6]; rfl
    rw [ev]
    refine hK.out _ _ H7.rnow (fun _ => ?_)
    clear hK
    simp only [Act.put, List.getElem_toArray, List.getElem_cons_succ, List.getElem_cons_zero, List.setIfInBounds_toArray, List.set_cons_zero, List.set_cons_succ]
    refine wpAnyH_done (by kernel_rfl) ?_ _
    clear ev hv6 bk6
    have HH7 : Hid _ := ⟨H7⟩
    generalize w6.setRow tb (putAt (dC t vL vK).toArray 0 [v6]) = W7 at *
    go_upto_region 7 with fail
    have TD7 := H7.bel ((Below.refl W7.heap.size W7).drew)
    have BD7 := B7.trans ((Below.refl base W7).drew)
    have OD7 : Bk W7.drew w.heap.size 52 (oqD 1 r n) := O7.of rfl
    refine wp_region_held_drew (S := fun u => Bk u w.heap.size 52 (oqD 1 r n)) (by kernel_rfl) OD7 (fun hS => ?_)
    generalize W7.drew = W9 at *
    refine wpAnyH_take (i := 0) (v := .pointer (some ⟨tb, 0, none⟩)) rfl (by kernel_rfl) (by kernel_rfl) (by kernel_rfl) (fun _ _ _ h => h) (Or.inl ⟨by kernel_rfl, fun u hu => by kernel_rfl⟩) hS ?_
    simp only [Act.put, List.getElem_toArray, List.getElem_cons_succ, List.getElem_cons_zero, List.setIfInBounds_toArray, List.set_cons_zero, List.set_cons_succ]
    refine wpAnyH_take (i := 1) (v := .pointer (some ⟨tb, 0, none⟩)) rfl (by kernel_rfl) (by kernel_rfl) (by kernel_rfl) (fun _ _ _ h => h) (Or.inl ⟨by kernel_rfl, fun u hu => by kernel_rfl⟩) hS ?_
    simp only [Act.put, List.getElem_toArray, List.getElem_cons_succ, List.getElem_cons_zero, List.setIfInBounds_toArray, List.set_cons_zero, List.set_cons_succ]
    refine wpAnyH_take (i := 2) (v := .pointer (some ⟨tb, 0, none⟩)) rfl (by kernel_rfl) (by kernel_rfl) (by kernel_rfl) (fun _ _ _ h => h) (Or.inl ⟨by kernel_rfl, fun u hu => by kernel_rfl⟩) hS ?_
    simp only [Act.put, List.getElem_toArray, List.getElem_cons_succ, List.getElem_cons_zero, List.setIfInBounds_toArray, List.set_cons_zero, List.set_cons_succ]
    refine wpAnyH_take (i := 3) (v := .pointer (some ⟨tb, 1, none⟩)) rfl (by kernel_rfl) (by kernel_rfl) (by kernel_rfl) (fun _ _ _ h => h) (Or.inl ⟨by kernel_rfl, fun u hu => by kernel_rfl⟩) hS ?_
    simp only [Act.put, List.getElem_toArray, List.getElem_cons_succ, List.getElem_cons_zero, List.setIfInBounds_toArray, List.set_cons_zero, List.set_cons_succ]
    refine wpAnyH_take (i := 4) (v := .pointer (some ⟨tb, 1, none⟩)) rfl (by kernel_rfl) (by kernel_rfl) (by kernel_rfl) (fun _ _ _ h => h) (Or.inl ⟨by kernel_rfl, fun u hu => by kernel_rfl⟩) hS ?_
    simp only [Act.put, List.getElem_toArray, List.getElem_cons_succ, List.getElem_cons_zero, List.setIfInBounds_toArray, List.set_cons_zero, List.set_cons_succ]
    refine wpAnyH_take (i := 6) (v := .pointer (some ⟨w.heap.size, 2, none⟩)) rfl (by kernel_rfl) (by kernel_rfl) (by kernel_rfl) (fun _ _ _ h => h) (Or.inl ⟨by kernel_rfl, fun u hu => by kernel_rfl⟩) hS ?_
    simp only [Act.put, List.getElem_toArray, List.getElem_cons_succ, List.getElem_cons_zero, List.setIfInBounds_toArray, List.set_cons_zero, List.set_cons_succ]
    refine wpAnyH_take (i := 7) (v := .int .i64 n) rfl (by kernel_rfl) (by kernel_rfl) (by kernel_rfl) (fun _ _ _ h => h) (Or.inl ⟨by kernel_rfl, fun u hu => exec_loadV (t := 3) (p := ⟨w.heap.size, 2, none⟩) rfl (by kernel_rfl) (load_i64 (hu.cell 2 rfl))⟩) hS ?_
    simp only [Act.put, List.getElem_toArray, List.getElem_cons_succ, List.getElem_cons_zero, List.setIfInBounds_toArray, List.set_cons_zero, List.set_cons_succ]
    refine wpAnyH_ready (rs := [5]) (by kernel_rfl) (by simp) ?_
    refine AllReadyH.cons rfl (fun K hK => ?_) AllReadyH.nil
    simp only [List.getElem_toArray, List.getElem_cons_succ, List.getElem_cons_zero]
    refine wp_if (by kernel_rfl) ?_
    refine wp_val (v := .int .i64 t.now.p) (exec_loadV (t := 3) (p := ⟨tb, 1, none⟩) rfl (by kernel_rfl) (load_i64 TD7.p)) ?_
    refine hK.out _ _ OD7 (fun hS => ?_)
    clear hK
    simp only [Act.put, List.getElem_toArray, List.getElem_cons_succ, List.getElem_cons_zero, List.setIfInBounds_toArray, List.set_cons_zero, List.set_cons_succ]
    refine wpAnyH_take (i := 8) (v := .int .i64 (t.now.p + n)) rfl (by kernel_rfl) (by kernel_rfl) (by kernel_rfl) (fun _ _ _ h => h) (Or.inl ⟨by kernel_rfl, fun u hu => exec_add rfl (by kernel_rfl) (by kernel_rfl) (by omega) (by omega)⟩) hS ?_
    simp only [Act.put, List.getElem_toArray, List.getElem_cons_succ, List.getElem_cons_zero, List.setIfInBounds_toArray, List.set_cons_zero, List.set_cons_succ]
    refine wpAnyH_take (i := 9) (v := .pointer (some ⟨tb, 0, none⟩)) rfl (by kernel_rfl) (by kernel_rfl) (by kernel_rfl) (fun _ _ _ h => h) (Or.inl ⟨by kernel_rfl, fun u hu => by kernel_rfl⟩) hS ?_
    simp only [Act.put, List.getElem_toArray, List.getElem_cons_succ, List.getElem_cons_zero, List.setIfInBounds_toArray, List.set_cons_zero, List.set_cons_succ]
    refine wpAnyH_take (i := 10) (v := .pointer (some ⟨tb, 1, none⟩)) rfl (by kernel_rfl) (by kernel_rfl) (by kernel_rfl) (fun _ _ _ h => h) (Or.inl ⟨by kernel_rfl, fun u hu => by kernel_rfl⟩) hS ?_
    simp only [Act.put, List.getElem_toArray, List.getElem_cons_succ, List.getElem_cons_zero, List.setIfInBounds_toArray, List.set_cons_zero, List.set_cons_succ]
    refine wpAnyH_take (i := 11) (v := .pointer (some ⟨tb, 1, none⟩)) rfl (by kernel_rfl) (by kernel_rfl) (by kernel_rfl) (fun _ _ _ h => h) (Or.inl ⟨by kernel_rfl, fun u hu => by kernel_rfl⟩) hS ?_
    simp only [Act.put, List.getElem_toArray, List.getElem_cons_succ, List.getElem_cons_zero, List.setIfInBounds_toArray, List.set_cons_zero, List.set_cons_succ]
    refine wpAnyH_ready (rs := [12]) (by kernel_rfl) (by simp) ?_
    refine AllReadyH.cons rfl (fun K hK => ?_) AllReadyH.nil
    simp only [List.getElem_toArray, List.getElem_cons_succ, List.getElem_cons_zero]
    refine wp_if (by kernel_rfl) ?_
    refine wp_part (g := tb) (off := 1) (val := .int .i64 (t.now.p + n)) rfl (by kernel_rfl) (by kernel_rfl) TD7.bk (by rw [sizeInt]; rfl) (by rw [TD7.len]; show 1 + 1 ≤ 77; omega) (one_cells _) rfl ?_
    have ev : (Value.int .i64 (t.now.p + n)).cells.toList = [.int .i64 (t.now.p + n)] := rfl
    rw [ev]
    clear ev
    have TD9 := TD7.setP (t.now.p + n)
    have BD9 := BD7.trans (below_set W9 tb (putAt (dC ⟨t.L ++ [t.now], t.now, t.first, t.kept, t.size⟩ v6 vK).toArray 1 [.int .i64 (t.now.p + n)]) h.lo)
    refine hK.out _ _ (OD7.setO hne _) (fun _ => ?_)
    clear hK
    simp only [Act.put, List.getElem_toArray, List.getElem_cons_succ, List.getElem_cons_zero, List.setIfInBounds_toArray, List.set_cons_zero, List.set_cons_succ]
    refine wpAnyH_done (by kernel_rfl) ?_ _
    clear hS OD7 TD7 BD7 O7 H7 B7
    generalize W9.setRow tb (putAt (dC ⟨t.L ++ [t.now], t.now, t.first, t.kept, t.size⟩ v6 vK).toArray 1 [.int .i64 (t.now.p + n)]) = W10 at *
    go_upto_region 8 with fail
    have T8 := TD9.bel ((Below.refl W10.heap.size W10).drew)
    have B8 := BD9.trans ((Below.refl base W10).drew)
    have c8 := T8.p
    have s8 := T8.size
    try dsimp only at c8 s8
    refine wp_region_held_drew (S := fun u => u.cell? ⟨tb, 1, none⟩ = some (.int .i64 (t.now.p + n)) ∧ u.cell? ⟨tb, 76, none⟩ = some (.int .i64 t.size)) (by kernel_rfl) ⟨c8, s8⟩ (fun hS => ?_)
    generalize W10.drew = W8 at *
    refine wpAnyH_take (i := 0) (v := .pointer (some ⟨tb, 0, none⟩)) rfl (by kernel_rfl) (by kernel_rfl) (by kernel_rfl) (fun _ _ _ h => h) (Or.inl ⟨by kernel_rfl, fun u hu => by kernel_rfl⟩) hS ?_
    simp only [Act.put, List.getElem_toArray, List.getElem_cons_succ, List.getElem_cons_zero, List.setIfInBounds_toArray, List.set_cons_zero, List.set_cons_succ]
    refine wpAnyH_take (i := 1) (v := .pointer (some ⟨tb, 0, none⟩)) rfl (by kernel_rfl) (by kernel_rfl) (by kernel_rfl) (fun _ _ _ h => h) (Or.inl ⟨by kernel_rfl, fun u hu => by kernel_rfl⟩) hS ?_
    simp only [Act.put, List.getElem_toArray, List.getElem_cons_succ, List.getElem_cons_zero, List.setIfInBounds_toArray, List.set_cons_zero, List.set_cons_succ]
    refine wpAnyH_take (i := 2) (v := .pointer (some ⟨tb, 1, none⟩)) rfl (by kernel_rfl) (by kernel_rfl) (by kernel_rfl) (fun _ _ _ h => h) (Or.inl ⟨by kernel_rfl, fun u hu => by kernel_rfl⟩) hS ?_
    simp only [Act.put, List.getElem_toArray, List.getElem_cons_succ, List.getElem_cons_zero, List.setIfInBounds_toArray, List.set_cons_zero, List.set_cons_succ]
    refine wpAnyH_take (i := 3) (v := .pointer (some ⟨tb, 1, none⟩)) rfl (by kernel_rfl) (by kernel_rfl) (by kernel_rfl) (fun _ _ _ h => h) (Or.inl ⟨by kernel_rfl, fun u hu => by kernel_rfl⟩) hS ?_
    simp only [Act.put, List.getElem_toArray, List.getElem_cons_succ, List.getElem_cons_zero, List.setIfInBounds_toArray, List.set_cons_zero, List.set_cons_succ]
    refine wpAnyH_take (i := 4) (v := .int .i64 (t.now.p + n)) rfl (by kernel_rfl) (by kernel_rfl) (by kernel_rfl) (fun _ _ _ h => h) (Or.inl ⟨by kernel_rfl, fun u hu => exec_loadV (t := 3) (p := ⟨tb, 1, none⟩) rfl (by kernel_rfl) (load_i64 hu.1)⟩) hS ?_
    simp only [Act.put, List.getElem_toArray, List.getElem_cons_succ, List.getElem_cons_zero, List.setIfInBounds_toArray, List.set_cons_zero, List.set_cons_succ]
    refine wpAnyH_take (i := 5) (v := .pointer (some ⟨tb, 0, none⟩)) rfl (by kernel_rfl) (by kernel_rfl) (by kernel_rfl) (fun _ _ _ h => h) (Or.inl ⟨by kernel_rfl, fun u hu => by kernel_rfl⟩) hS ?_
    simp only [Act.put, List.getElem_toArray, List.getElem_cons_succ, List.getElem_cons_zero, List.setIfInBounds_toArray, List.set_cons_zero, List.set_cons_succ]
    refine wpAnyH_take (i := 6) (v := .pointer (some ⟨tb, 0, none⟩)) rfl (by kernel_rfl) (by kernel_rfl) (by kernel_rfl) (fun _ _ _ h => h) (Or.inl ⟨by kernel_rfl, fun u hu => by kernel_rfl⟩) hS ?_
    simp only [Act.put, List.getElem_toArray, List.getElem_cons_succ, List.getElem_cons_zero, List.setIfInBounds_toArray, List.set_cons_zero, List.set_cons_succ]
    refine wpAnyH_take (i := 7) (v := .pointer (some ⟨tb, 76, none⟩)) rfl (by kernel_rfl) (by kernel_rfl) (by kernel_rfl) (fun _ _ _ h => h) (Or.inl ⟨by kernel_rfl, fun u hu => by kernel_rfl⟩) hS ?_
    simp only [Act.put, List.getElem_toArray, List.getElem_cons_succ, List.getElem_cons_zero, List.setIfInBounds_toArray, List.set_cons_zero, List.set_cons_succ]
    refine wpAnyH_take (i := 8) (v := .int .i64 t.size) rfl (by kernel_rfl) (by kernel_rfl) (by kernel_rfl) (fun _ _ _ h => h) (Or.inl ⟨by kernel_rfl, fun u hu => exec_loadV (t := 3) (p := ⟨tb, 76, none⟩) rfl (by kernel_rfl) (load_i64 hu.2)⟩) hS ?_
    simp only [Act.put, List.getElem_toArray, List.getElem_cons_succ, List.getElem_cons_zero, List.setIfInBounds_toArray, List.set_cons_zero, List.set_cons_succ]
    refine wpAnyH_take (i := 9) (v := .bool (decide ((t.now.p + n) ≤ t.size))) rfl (by kernel_rfl) (by kernel_rfl) (by kernel_rfl) (fun _ _ _ h => h) (Or.inl ⟨by kernel_rfl, fun u hu => by kernel_rfl⟩) hS ?_
    simp only [Act.put, List.getElem_toArray, List.getElem_cons_succ, List.getElem_cons_zero, List.setIfInBounds_toArray, List.set_cons_zero, List.set_cons_succ]
    refine wpAnyH_take (i := 10) (v := .bool (decide ((t.now.p + n) ≤ t.size))) rfl (by kernel_rfl) (by kernel_rfl) (by kernel_rfl) (fun _ _ _ h => h) (Or.inl ⟨by kernel_rfl, fun u hu => by kernel_rfl⟩) hS ?_
    simp only [Act.put, List.getElem_toArray, List.getElem_cons_succ, List.getElem_cons_zero, List.setIfInBounds_toArray, List.set_cons_zero, List.set_cons_succ]
    refine wpAnyH_done (by kernel_rfl) ?_ _
    have HT8 : Hid _ := ⟨T8⟩
    have HB8 : Hid _ := ⟨B8⟩
    clear T8 B8 c8 s8 hS
    go_wp2_with fail
    go_ret
    exact ⟨rfl, HB8.out, _, _, HT8.out⟩
  · simp only [List.getElem_toArray, List.getElem_cons_succ, List.getElem_cons_zero]
    refine wp_if (by kernel_rfl) ?_
    refine wp_val (v := .slice (some ⟨W4.heap.size, 0, none⟩) 1 1) (exec_build_rowD W4 t.now h.wf.now rfl (by kernel_rfl)) ?_
    refine hK.out _ _ H5.rnow (fun hS => ?_)
    clear hK
    simp only [Act.put, List.getElem_toArray, List.getElem_cons_succ, List.getElem_cons_zero, List.setIfInBounds_toArray, List.set_cons_zero, List.set_cons_succ]
    refine wpAnyH_ready (rs := [4]) (by kernel_rfl) (by simp) ?_
    refine AllReadyH.cons rfl (fun K hK => ?_) AllReadyH.nil
    simp only [List.getElem_toArray, List.getElem_cons_succ, List.getElem_cons_zero]
    refine wp_if (by kernel_rfl) ?_
    refine wp_val (v := .slice ar t.L.length cr) (exec_loadV (t := 61) (p := ⟨tb, 0, none⟩) rfl (by kernel_rfl) (load_rowsD (H5.rows1 hvr))) ?_
    refine hK.out _ _ H5.rnow (fun hS => ?_)
    clear hK
    simp only [Act.put, List.getElem_toArray, List.getElem_cons_succ, List.getElem_cons_zero, List.setIfInBounds_toArray, List.set_cons_zero, List.set_cons_succ]
    refine wpAnyH_ready (rs := [10]) (by kernel_rfl) (by simp) ?_
    refine AllReadyH.cons rfl (fun K hK => ?_) AllReadyH.nil
    simp only [List.getElem_toArray, List.getElem_cons_succ, List.getElem_cons_zero]
    refine wp_if (by kernel_rfl) ?_
    refine wp_append_rowD rfl H5.L (by rw [hvr]; rfl) (by kernel_rfl) N5 h.wf.now hLn hb5 (fun v6 w6 ho6 hg hbk => ?_)
    have hnr : vL.ownBlock ≠ some tb := h.nr
    have bk6 : Bk w6 tb 63 (dC t vL vK).toArray := H5.bk.of (hg.block tb H5.bk.lt (Ne.symm hnr))
    have H7 := H4.grow B5 hg ho6 hbk
    have B7 : Below base w (w6.setRow tb (putAt (dC t vL vK).toArray 0 [v6])) := (B4.trans (B5.mono hb4)).trans ((bel_grown hg (fun k hk => (h.L.2.lt k hk).1) hb5).trans (below_set _ tb _ h.lo))
    have O7 : Bk (w6.setRow tb (putAt (dC t vL vK).toArray 0 [v6])) w.heap.size 52 (oqD 1 r n) := ((O4.bel B5 O4.lt).of (hg.block _ (by have := B5.size; have := O4.lt; omega) (Ne.symm hnrW))).setO hne _
    refine hK.out _ _ (rnow_grownD H5 hg hnr) (fun hS => ?_)
    clear hK
    simp only [Act.put, List.getElem_toArray, List.getElem_cons_succ, List.getElem_cons_zero, List.setIfInBounds_toArray, List.set_cons_zero, List.set_cons_succ]
    refine wpAnyH_take (i := 11) (v := .pointer (some ⟨tb, 0, none⟩)) rfl (by kernel_rfl) (by kernel_rfl) (by kernel_rfl) (fun _ _ _ h => h) (Or.inl ⟨by kernel_rfl, fun u hu => by kernel_rfl⟩) hS ?_
    simp only [Act.put, List.getElem_toArray, List.getElem_cons_succ, List.getElem_cons_zero, List.setIfInBounds_toArray, List.set_cons_zero, List.set_cons_succ]
    refine wpAnyH_take (i := 12) (v := .pointer (some ⟨tb, 0, none⟩)) rfl (by kernel_rfl) (by kernel_rfl) (by kernel_rfl) (fun _ _ _ h => h) (Or.inl ⟨by kernel_rfl, fun u hu => by kernel_rfl⟩) hS ?_
    simp only [Act.put, List.getElem_toArray, List.getElem_cons_succ, List.getElem_cons_zero, List.setIfInBounds_toArray, List.set_cons_zero, List.set_cons_succ]
    refine wpAnyH_ready (rs := [13]) (by kernel_rfl) (by simp) ?_
    refine AllReadyH.cons rfl (fun K hK => ?_) AllReadyH.nil
    simp only [List.getElem_toArray, List.getElem_cons_succ, List.getElem_cons_zero]
    refine wp_if (by kernel_rfl) ?_
    obtain ⟨a6, c6, hv6, _⟩ := ho6.any
    refine wp_part (g := tb) (off := 0) (val := v6) rfl (by kernel_rfl) (by kernel_rfl) bk6 (by rw [hv6, sizeRwsD]; rfl) (by rw [H5.len, hv6]; show 0 + 1 ≤ 77; omega) (by rw [hv6]; exact slice_one _ _ _) rfl ?_
    have ev : v6.cells.toList = [v6] := by rw [hv6]; rfl
    rw [ev]
    refine hK.out _ _ H7.rnow (fun _ => ?_)
    clear hK
    simp only [Act.put, List.getElem_toArray, List.getElem_cons_succ, List.getElem_cons_zero, List.setIfInBounds_toArray, List.set_cons_zero, List.set_cons_succ]
    refine wpAnyH_done (by kernel_rfl) ?_ _
    clear ev hv6 bk6
    have HH7 : Hid _ := ⟨H7⟩
    generalize w6.setRow tb (putAt (dC t vL vK).toArray 0 [v6]) = W7 at *
    go_upto_region 7 with fail
    have TD7 := H7.bel ((Below.refl W7.heap.size W7).drew)
    have BD7 := B7.trans ((Below.refl base W7).drew)
    have OD7 : Bk W7.drew w.heap.size 52 (oqD 1 r n) := O7.of rfl
    refine wp_region_held_drew (S := fun u => Bk u w.heap.size 52 (oqD 1 r n)) (by kernel_rfl) OD7 (fun hS => ?_)
    generalize W7.drew = W9 at *
    refine wpAnyH_take (i := 0) (v := .pointer (some ⟨tb, 0, none⟩)) rfl (by kernel_rfl) (by kernel_rfl) (by kernel_rfl) (fun _ _ _ h => h) (Or.inl ⟨by kernel_rfl, fun u hu => by kernel_rfl⟩) hS ?_
    simp only [Act.put, List.getElem_toArray, List.getElem_cons_succ, List.getElem_cons_zero, List.setIfInBounds_toArray, List.set_cons_zero, List.set_cons_succ]
    refine wpAnyH_take (i := 1) (v := .pointer (some ⟨tb, 0, none⟩)) rfl (by kernel_rfl) (by kernel_rfl) (by kernel_rfl) (fun _ _ _ h => h) (Or.inl ⟨by kernel_rfl, fun u hu => by kernel_rfl⟩) hS ?_
    simp only [Act.put, List.getElem_toArray, List.getElem_cons_succ, List.getElem_cons_zero, List.setIfInBounds_toArray, List.set_cons_zero, List.set_cons_succ]
    refine wpAnyH_take (i := 2) (v := .pointer (some ⟨tb, 0, none⟩)) rfl (by kernel_rfl) (by kernel_rfl) (by kernel_rfl) (fun _ _ _ h => h) (Or.inl ⟨by kernel_rfl, fun u hu => by kernel_rfl⟩) hS ?_
    simp only [Act.put, List.getElem_toArray, List.getElem_cons_succ, List.getElem_cons_zero, List.setIfInBounds_toArray, List.set_cons_zero, List.set_cons_succ]
    refine wpAnyH_take (i := 3) (v := .pointer (some ⟨tb, 1, none⟩)) rfl (by kernel_rfl) (by kernel_rfl) (by kernel_rfl) (fun _ _ _ h => h) (Or.inl ⟨by kernel_rfl, fun u hu => by kernel_rfl⟩) hS ?_
    simp only [Act.put, List.getElem_toArray, List.getElem_cons_succ, List.getElem_cons_zero, List.setIfInBounds_toArray, List.set_cons_zero, List.set_cons_succ]
    refine wpAnyH_take (i := 4) (v := .pointer (some ⟨tb, 1, none⟩)) rfl (by kernel_rfl) (by kernel_rfl) (by kernel_rfl) (fun _ _ _ h => h) (Or.inl ⟨by kernel_rfl, fun u hu => by kernel_rfl⟩) hS ?_
    simp only [Act.put, List.getElem_toArray, List.getElem_cons_succ, List.getElem_cons_zero, List.setIfInBounds_toArray, List.set_cons_zero, List.set_cons_succ]
    refine wpAnyH_take (i := 6) (v := .pointer (some ⟨w.heap.size, 2, none⟩)) rfl (by kernel_rfl) (by kernel_rfl) (by kernel_rfl) (fun _ _ _ h => h) (Or.inl ⟨by kernel_rfl, fun u hu => by kernel_rfl⟩) hS ?_
    simp only [Act.put, List.getElem_toArray, List.getElem_cons_succ, List.getElem_cons_zero, List.setIfInBounds_toArray, List.set_cons_zero, List.set_cons_succ]
    refine wpAnyH_take (i := 7) (v := .int .i64 n) rfl (by kernel_rfl) (by kernel_rfl) (by kernel_rfl) (fun _ _ _ h => h) (Or.inl ⟨by kernel_rfl, fun u hu => exec_loadV (t := 3) (p := ⟨w.heap.size, 2, none⟩) rfl (by kernel_rfl) (load_i64 (hu.cell 2 rfl))⟩) hS ?_
    simp only [Act.put, List.getElem_toArray, List.getElem_cons_succ, List.getElem_cons_zero, List.setIfInBounds_toArray, List.set_cons_zero, List.set_cons_succ]
    refine wpAnyH_ready (rs := [5]) (by kernel_rfl) (by simp) ?_
    refine AllReadyH.cons rfl (fun K hK => ?_) AllReadyH.nil
    simp only [List.getElem_toArray, List.getElem_cons_succ, List.getElem_cons_zero]
    refine wp_if (by kernel_rfl) ?_
    refine wp_val (v := .int .i64 t.now.p) (exec_loadV (t := 3) (p := ⟨tb, 1, none⟩) rfl (by kernel_rfl) (load_i64 TD7.p)) ?_
    refine hK.out _ _ OD7 (fun hS => ?_)
    clear hK
    simp only [Act.put, List.getElem_toArray, List.getElem_cons_succ, List.getElem_cons_zero, List.setIfInBounds_toArray, List.set_cons_zero, List.set_cons_succ]
    refine wpAnyH_take (i := 8) (v := .int .i64 (t.now.p + n)) rfl (by kernel_rfl) (by kernel_rfl) (by kernel_rfl) (fun _ _ _ h => h) (Or.inl ⟨by kernel_rfl, fun u hu => exec_add rfl (by kernel_rfl) (by kernel_rfl) (by omega) (by omega)⟩) hS ?_
    simp only [Act.put, List.getElem_toArray, List.getElem_cons_succ, List.getElem_cons_zero, List.setIfInBounds_toArray, List.set_cons_zero, List.set_cons_succ]
    refine wpAnyH_take (i := 9) (v := .pointer (some ⟨tb, 0, none⟩)) rfl (by kernel_rfl) (by kernel_rfl) (by kernel_rfl) (fun _ _ _ h => h) (Or.inl ⟨by kernel_rfl, fun u hu => by kernel_rfl⟩) hS ?_
    simp only [Act.put, List.getElem_toArray, List.getElem_cons_succ, List.getElem_cons_zero, List.setIfInBounds_toArray, List.set_cons_zero, List.set_cons_succ]
    refine wpAnyH_take (i := 10) (v := .pointer (some ⟨tb, 1, none⟩)) rfl (by kernel_rfl) (by kernel_rfl) (by kernel_rfl) (fun _ _ _ h => h) (Or.inl ⟨by kernel_rfl, fun u hu => by kernel_rfl⟩) hS ?_
    simp only [Act.put, List.getElem_toArray, List.getElem_cons_succ, List.getElem_cons_zero, List.setIfInBounds_toArray, List.set_cons_zero, List.set_cons_succ]
    refine wpAnyH_take (i := 11) (v := .pointer (some ⟨tb, 1, none⟩)) rfl (by kernel_rfl) (by kernel_rfl) (by kernel_rfl) (fun _ _ _ h => h) (Or.inl ⟨by kernel_rfl, fun u hu => by kernel_rfl⟩) hS ?_
    simp only [Act.put, List.getElem_toArray, List.getElem_cons_succ, List.getElem_cons_zero, List.setIfInBounds_toArray, List.set_cons_zero, List.set_cons_succ]
    refine wpAnyH_ready (rs := [12]) (by kernel_rfl) (by simp) ?_
    refine AllReadyH.cons rfl (fun K hK => ?_) AllReadyH.nil
    simp only [List.getElem_toArray, List.getElem_cons_succ, List.getElem_cons_zero]
    refine wp_if (by kernel_rfl) ?_
    refine wp_part (g := tb) (off := 1) (val := .int .i64 (t.now.p + n)) rfl (by kernel_rfl) (by kernel_rfl) TD7.bk (by rw [sizeInt]; rfl) (by rw [TD7.len]; show 1 + 1 ≤ 77; omega) (one_cells _) rfl ?_
    have ev : (Value.int .i64 (t.now.p + n)).cells.toList = [.int .i64 (t.now.p + n)] := rfl
    rw [ev]
    clear ev
    have TD9 := TD7.setP (t.now.p + n)
    have BD9 := BD7.trans (below_set W9 tb (putAt (dC ⟨t.L ++ [t.now], t.now, t.first, t.kept, t.size⟩ v6 vK).toArray 1 [.int .i64 (t.now.p + n)]) h.lo)
    refine hK.out _ _ (OD7.setO hne _) (fun _ => ?_)
    clear hK
    simp only [Act.put, List.getElem_toArray, List.getElem_cons_succ, List.getElem_cons_zero, List.setIfInBounds_toArray, List.set_cons_zero, List.set_cons_succ]
    refine wpAnyH_done (by kernel_rfl) ?_ _
    clear hS OD7 TD7 BD7 O7 H7 B7
    generalize W9.setRow tb (putAt (dC ⟨t.L ++ [t.now], t.now, t.first, t.kept, t.size⟩ v6 vK).toArray 1 [.int .i64 (t.now.p + n)]) = W10 at *
    go_upto_region 8 with fail
    have T8 := TD9.bel ((Below.refl W10.heap.size W10).drew)
    have B8 := BD9.trans ((Below.refl base W10).drew)
    have c8 := T8.p
    have s8 := T8.size
    try dsimp only at c8 s8
    refine wp_region_held_drew (S := fun u => u.cell? ⟨tb, 1, none⟩ = some (.int .i64 (t.now.p + n)) ∧ u.cell? ⟨tb, 76, none⟩ = some (.int .i64 t.size)) (by kernel_rfl) ⟨c8, s8⟩ (fun hS => ?_)
    generalize W10.drew = W8 at *
    refine wpAnyH_take (i := 0) (v := .pointer (some ⟨tb, 0, none⟩)) rfl (by kernel_rfl) (by kernel_rfl) (by kernel_rfl) (fun _ _ _ h => h) (Or.inl ⟨by kernel_rfl, fun u hu => by kernel_rfl⟩) hS ?_
    simp only [Act.put, List.getElem_toArray, List.getElem_cons_succ, List.getElem_cons_zero, List.setIfInBounds_toArray, List.set_cons_zero, List.set_cons_succ]
    refine wpAnyH_take (i := 1) (v := .pointer (some ⟨tb, 0, none⟩)) rfl (by kernel_rfl) (by kernel_rfl) (by kernel_rfl) (fun _ _ _ h => h) (Or.inl ⟨by kernel_rfl, fun u hu => by kernel_rfl⟩) hS ?_
    simp only [Act.put, List.getElem_toArray, List.getElem_cons_succ, List.getElem_cons_zero, List.setIfInBounds_toArray, List.set_cons_zero, List.set_cons_succ]
    refine wpAnyH_take (i := 2) (v := .pointer (some ⟨tb, 1, none⟩)) rfl (by kernel_rfl) (by kernel_rfl) (by kernel_rfl) (fun _ _ _ h => h) (Or.inl ⟨by kernel_rfl, fun u hu => by kernel_rfl⟩) hS ?_
    simp only [Act.put, List.getElem_toArray, List.getElem_cons_succ, List.getElem_cons_zero, List.setIfInBounds_toArray, List.set_cons_zero, List.set_cons_succ]
    refine wpAnyH_take (i := 3) (v := .pointer (some ⟨tb, 1, none⟩)) rfl (by kernel_rfl) (by kernel_rfl) (by kernel_rfl) (fun _ _ _ h => h) (Or.inl ⟨by kernel_rfl, fun u hu => by kernel_rfl⟩) hS ?_
    simp only [Act.put, List.getElem_toArray, List.getElem_cons_succ, List.getElem_cons_zero, List.setIfInBounds_toArray, List.set_cons_zero, List.set_cons_succ]
    refine wpAnyH_take (i := 4) (v := .int .i64 (t.now.p + n)) rfl (by kernel_rfl) (by kernel_rfl) (by kernel_rfl) (fun _ _ _ h => h) (Or.inl ⟨by kernel_rfl, fun u hu => exec_loadV (t := 3) (p := ⟨tb, 1, none⟩) rfl (by kernel_rfl) (load_i64 hu.1)⟩) hS ?_
    simp only [Act.put, List.getElem_toArray, List.getElem_cons_succ, List.getElem_cons_zero, List.setIfInBounds_toArray, List.set_cons_zero, List.set_cons_succ]
    refine wpAnyH_take (i := 5) (v := .pointer (some ⟨tb, 0, none⟩)) rfl (by kernel_rfl) (by kernel_rfl) (by kernel_rfl) (fun _ _ _ h => h) (Or.inl ⟨by kernel_rfl, fun u hu => by kernel_rfl⟩) hS ?_
    simp only [Act.put, List.getElem_toArray, List.getElem_cons_succ, List.getElem_cons_zero, List.setIfInBounds_toArray, List.set_cons_zero, List.set_cons_succ]
    refine wpAnyH_take (i := 6) (v := .pointer (some ⟨tb, 0, none⟩)) rfl (by kernel_rfl) (by kernel_rfl) (by kernel_rfl) (fun _ _ _ h => h) (Or.inl ⟨by kernel_rfl, fun u hu => by kernel_rfl⟩) hS ?_
    simp only [Act.put, List.getElem_toArray, List.getElem_cons_succ, List.getElem_cons_zero, List.setIfInBounds_toArray, List.set_cons_zero, List.set_cons_succ]
    refine wpAnyH_take (i := 7) (v := .pointer (some ⟨tb, 76, none⟩)) rfl (by kernel_rfl) (by kernel_rfl) (by kernel_rfl) (fun _ _ _ h => h) (Or.inl ⟨by kernel_rfl, fun u hu => by kernel_rfl⟩) hS ?_
    simp only [Act.put, List.getElem_toArray, List.getElem_cons_succ, List.getElem_cons_zero, List.setIfInBounds_toArray, List.set_cons_zero, List.set_cons_succ]
    refine wpAnyH_take (i := 8) (v := .int .i64 t.size) rfl (by kernel_rfl) (by kernel_rfl) (by kernel_rfl) (fun _ _ _ h => h) (Or.inl ⟨by kernel_rfl, fun u hu => exec_loadV (t := 3) (p := ⟨tb, 76, none⟩) rfl (by kernel_rfl) (load_i64 hu.2)⟩) hS ?_
    simp only [Act.put, List.getElem_toArray, List.getElem_cons_succ, List.getElem_cons_zero, List.setIfInBounds_toArray, List.set_cons_zero, List.set_cons_succ]
    refine wpAnyH_take (i := 9) (v := .bool (decide ((t.now.p + n) ≤ t.size))) rfl (by kernel_rfl) (by kernel_rfl) (by kernel_rfl) (fun _ _ _ h => h) (Or.inl ⟨by kernel_rfl, fun u hu => by kernel_rfl⟩) hS ?_
    simp only [Act.put, List.getElem_toArray, List.getElem_cons_succ, List.getElem_cons_zero, List.setIfInBounds_toArray, List.set_cons_zero, List.set_cons_succ]
    refine wpAnyH_take (i := 10) (v := .bool (decide ((t.now.p + n) ≤ t.size))) rfl (by kernel_rfl) (by kernel_rfl) (by kernel_rfl) (fun _ _ _ h => h) (Or.inl ⟨by kernel_rfl, fun u hu => by kernel_rfl⟩) hS ?_
    simp only [Act.put, List.getElem_toArray, List.getElem_cons_succ, List.getElem_cons_zero, List.setIfInBounds_toArray, List.set_cons_zero, List.set_cons_succ]
    refine wpAnyH_done (by kernel_rfl) ?_ _
    have HT8 : Hid _ := ⟨T8⟩
    have HB8 : Hid _ := ⟨B8⟩
    clear T8 B8 c8 s8 hS
    go_wp2_with fail
    go_ret
    exact ⟨rfl, HB8.out, _, _, HT8.out⟩

set_option maxRecDepth 10000 in
set_option maxHeartbeats 1000000 in
theorem tone_1z {base tb : Nat} {w : World} {t : Tb} {vL vK : Value} (h : TD X base w tb t vL vK) (r n : Int) (hm : mayB ⟨1, r, n⟩ = true) (hz : n = 0) :
    Calls Tryd.prog 16 #[.pointer (some ⟨tb, 0, none⟩), .agg (oqD 1 r n), .bool false] w fun e w' => e = .returned (.bool (decide (t.now.p ≤ t.size))) ∧ Below base w w' ∧ ∃ vL vK, TD X base w' tb t vL vK := by
  have HB : Below w.heap.size w (w.alloc (.cells (oqD 1 r n) 52)) := (Below.refl _ _).alloc (Nat.le_refl _) _
  have H1 := h.bel HB
  have O1 : Bk (w.alloc (.cells (oqD 1 r n) 52)) w.heap.size 52 (oqD 1 r n) := Bk.new w _ _
  have hne : w.heap.size ≠ tb := by have := h.bk.lt; omega
  have hbs : base ≤ w.heap.size := Nat.le_trans h.lo (Nat.le_of_lt h.bk.lt)
  have HBb := HB.mono hbs
  have hnrW : vL.ownBlock ≠ some w.heap.size := fun e => by have := ownV_lt h.L e; omega
  have hnkW : vK.ownBlock ≠ some w.heap.size := fun e => by have := ownV_lt h.K e; omega
  subst hz
  have HM : Hid (∀ W : World, Calls Tryd.prog 26 #[.agg (oqD 1 r 0)] W fun e w' => e = .returned (.bool (mayB ⟨1, r, 0⟩)) ∧ Below W.heap.size W w') := ⟨fun W => may_any 1 r 0 W⟩
  rw [hm] at HM
  go_enter Tryd.func16, Tryd.ntmps16
  go_upto_region 1 with fail
  have HH1 : Hid _ := ⟨H1⟩
  have HO1 : Hid _ := ⟨O1⟩
  have HBB1 : Hid _ := ⟨HBb⟩
  have d0 := O1.cell 0 rfl
  have d1 := O1.cell 1 rfl
  have d2 := O1.cell 2 rfl
  clear H1 O1 HBb HB
  generalize w.alloc (.cells (oqD 1 r 0) 52) = W1 at *
  go_upto_region 3 with (go_at_call 26; (with_reducible refine (HM.out _).mono ?_); rintro e w2 ⟨he, hb2⟩; subst he; have HB2 : Hid _ := ⟨hb2⟩; have d0 := (HO1.out.bel hb2 HO1.out.lt).cell 0 rfl; clear hb2)
  have T2 := HH1.out.bel HB2.out
  have O2 := HO1.out.bel HB2.out HO1.out.lt
  have hb1s : base ≤ W1.heap.size := Nat.le_trans hbs (Nat.le_of_lt HO1.out.lt)
  have B2 := HBB1.out.trans (HB2.out.mono hb1s)
  have e0 := O2.cell 0 rfl
  have e1 := O2.cell 1 rfl
  have e2 := O2.cell 2 rfl
  clear HM HH1 HO1 HBB1 HB2 d0 d1 d2
  go_upto_region 8 with fail
  have T8 := T2.bel ((Below.refl w2.heap.size w2).drew)
  have B8 := B2.trans ((Below.refl base w2).drew)
  have c8 := T8.p
  have s8 := T8.size
  try dsimp only at c8 s8
  refine wp_region_held_drew (S := fun u => u.cell? ⟨tb, 1, none⟩ = some (.int .i64 t.now.p) ∧ u.cell? ⟨tb, 76, none⟩ = some (.int .i64 t.size)) (by kernel_rfl) ⟨c8, s8⟩ (fun hS => ?_)
  generalize w2.drew = W8 at *
  refine wpAnyH_take (i := 0) (v := .pointer (some ⟨tb, 0, none⟩)) rfl (by kernel_rfl) (by kernel_rfl) (by kernel_rfl) (fun _ _ _ h => h) (Or.inl ⟨by kernel_rfl, fun u hu => by kernel_rfl⟩) hS ?_
  simp only [Act.put, List.getElem_toArray, List.getElem_cons_succ, List.getElem_cons_zero, List.setIfInBounds_toArray, List.set_cons_zero, List.set_cons_succ]
  refine wpAnyH_take (i := 1) (v := .pointer (some ⟨tb, 0, none⟩)) rfl (by kernel_rfl) (by kernel_rfl) (by kernel_rfl) (fun _ _ _ h => h) (Or.inl ⟨by kernel_rfl, fun u hu => by kernel_rfl⟩) hS ?_
  simp only [Act.put, List.getElem_toArray, List.getElem_cons_succ, List.getElem_cons_zero, List.setIfInBounds_toArray, List.set_cons_zero, List.set_cons_succ]
  refine wpAnyH_take (i := 2) (v := .pointer (some ⟨tb, 1, none⟩)) rfl (by kernel_rfl) (by kernel_rfl) (by kernel_rfl) (fun _ _ _ h => h) (Or.inl ⟨by kernel_rfl, fun u hu => by kernel_rfl⟩) hS ?_
  simp only [Act.put, List.getElem_toArray, List.getElem_cons_succ, List.getElem_cons_zero, List.setIfInBounds_toArray, List.set_cons_zero, List.set_cons_succ]
  refine wpAnyH_take (i := 3) (v := .pointer (some ⟨tb, 1, none⟩)) rfl (by kernel_rfl) (by kernel_rfl) (by kernel_rfl) (fun _ _ _ h => h) (Or.inl ⟨by kernel_rfl, fun u hu => by kernel_rfl⟩) hS ?_
  simp only [Act.put, List.getElem_toArray, List.getElem_cons_succ, List.getElem_cons_zero, List.setIfInBounds_toArray, List.set_cons_zero, List.set_cons_succ]
  refine wpAnyH_take (i := 4) (v := .int .i64 t.now.p) rfl (by kernel_rfl) (by kernel_rfl) (by kernel_rfl) (fun _ _ _ h => h) (Or.inl ⟨by kernel_rfl, fun u hu => exec_loadV (t := 3) (p := ⟨tb, 1, none⟩) rfl (by kernel_rfl) (load_i64 hu.1)⟩) hS ?_
  simp only [Act.put, List.getElem_toArray, List.getElem_cons_succ, List.getElem_cons_zero, List.setIfInBounds_toArray, List.set_cons_zero, List.set_cons_succ]
  refine wpAnyH_take (i := 5) (v := .pointer (some ⟨tb, 0, none⟩)) rfl (by kernel_rfl) (by kernel_rfl) (by kernel_rfl) (fun _ _ _ h => h) (Or.inl ⟨by kernel_rfl, fun u hu => by kernel_rfl⟩) hS ?_
  simp only [Act.put, List.getElem_toArray, List.getElem_cons_succ, List.getElem_cons_zero, List.setIfInBounds_toArray, List.set_cons_zero, List.set_cons_succ]
  refine wpAnyH_take (i := 6) (v := .pointer (some ⟨tb, 0, none⟩)) rfl (by kernel_rfl) (by kernel_rfl) (by kernel_rfl) (fun _ _ _ h => h) (Or.inl ⟨by kernel_rfl, fun u hu => by kernel_rfl⟩) hS ?_
  simp only [Act.put, List.getElem_toArray, List.getElem_cons_succ, List.getElem_cons_zero, List.setIfInBounds_toArray, List.set_cons_zero, List.set_cons_succ]
  refine wpAnyH_take (i := 7) (v := .pointer (some ⟨tb, 76, none⟩)) rfl (by kernel_rfl) (by kernel_rfl) (by kernel_rfl) (fun _ _ _ h => h) (Or.inl ⟨by kernel_rfl, fun u hu => by kernel_rfl⟩) hS ?_
  simp only [Act.put, List.getElem_toArray, List.getElem_cons_succ, List.getElem_cons_zero, List.setIfInBounds_toArray, List.set_cons_zero, List.set_cons_succ]
  refine wpAnyH_take (i := 8) (v := .int .i64 t.size) rfl (by kernel_rfl) (by kernel_rfl) (by kernel_rfl) (fun _ _ _ h => h) (Or.inl ⟨by kernel_rfl, fun u hu => exec_loadV (t := 3) (p := ⟨tb, 76, none⟩) rfl (by kernel_rfl) (load_i64 hu.2)⟩) hS ?_
  simp only [Act.put, List.getElem_toArray, List.getElem_cons_succ, List.getElem_cons_zero, List.setIfInBounds_toArray, List.set_cons_zero, List.set_cons_succ]
  refine wpAnyH_take (i := 9) (v := .bool (decide (t.now.p ≤ t.size))) rfl (by kernel_rfl) (by kernel_rfl) (by kernel_rfl) (fun _ _ _ h => h) (Or.inl ⟨by kernel_rfl, fun u hu => by kernel_rfl⟩) hS ?_
  simp only [Act.put, List.getElem_toArray, List.getElem_cons_succ, List.getElem_cons_zero, List.setIfInBounds_toArray, List.set_cons_zero, List.set_cons_succ]
  refine wpAnyH_take (i := 10) (v := .bool (decide (t.now.p ≤ t.size))) rfl (by kernel_rfl) (by kernel_rfl) (by kernel_rfl) (fun _ _ _ h => h) (Or.inl ⟨by kernel_rfl, fun u hu => by kernel_rfl⟩) hS ?_
  simp only [Act.put, List.getElem_toArray, List.getElem_cons_succ, List.getElem_cons_zero, List.setIfInBounds_toArray, List.set_cons_zero, List.set_cons_succ]
  refine wpAnyH_done (by kernel_rfl) ?_ _
  have HT8 : Hid _ := ⟨T8⟩
  have HB8 : Hid _ := ⟨B8⟩
  clear T8 B8 c8 s8 hS
  go_wp2_with fail
  go_ret
  exact ⟨rfl, HB8.out, _, _, HT8.out⟩

end Go.Proofs.YtpbnldfekadalaaDoor
