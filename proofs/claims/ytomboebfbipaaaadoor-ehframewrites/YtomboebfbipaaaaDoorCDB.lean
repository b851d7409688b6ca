/- The document's One: offsets, registers, rules. The document's One: rules. The document's One: restore, remember. The document's One: remember, recall. The document's One: advance. -/
import Derived.Test.YtomboebfbipaaaaDoorCDA
namespace Go.Proofs.YtomboebfbipaaaaDoor
open Go.ChangeShapes Go.WideShapes Go.ChangeAt Go.RowKit
set_option linter.unusedVariables false
set_option linter.unusedSimpArgs false

set_option maxRecDepth 10000 in
set_option maxHeartbeats 1000000 in
theorem tone_3 {base tb : Nat} {w : World} {t : Tb} {vL vK : Value} (h : TD base w tb t vL vK) (r n : Int) (b : Bool) (hm : mayB ⟨3, r, n⟩ = true) :
    Calls Tryd.prog 87 #[.pointer (some ⟨tb, 0, none⟩), .agg (oqD 3 r n), .bool b] w fun e w' => e = .returned (.bool (decide (0 ≤ t.now.r))) ∧ Below base w w' ∧ ∃ vL vK, TD base w' tb ⟨t.L, ⟨t.now.p, t.now.r, n, t.now.z⟩, t.first, t.kept, t.size⟩ vL vK := by
  have HB : Below w.heap.size w (w.alloc (.cells (oqD 3 r n) 103)) := (Below.refl _ _).alloc (Nat.le_refl _) _
  have H1 := h.bel HB
  have O1 : Bk (w.alloc (.cells (oqD 3 r n) 103)) w.heap.size 103 (oqD 3 r n) := Bk.new w _ _
  have hne : w.heap.size ≠ tb := by have := h.bk.lt; omega
  have hbs : base ≤ w.heap.size := Nat.le_trans h.lo (Nat.le_of_lt h.bk.lt)
  have HBb := HB.mono hbs
  have hnrW : vL.ownBlock ≠ some w.heap.size := fun e => by have := ownV_lt h.L e; omega
  have hnkW : vK.ownBlock ≠ some w.heap.size := fun e => by have := ownV_lt h.K e; omega
  cases b
  · have HM : Hid (∀ W : World, Calls Tryd.prog 82 #[.agg (oqD 3 r n)] W fun e w' => e = .returned (.bool (mayB ⟨3, r, n⟩)) ∧ Below W.heap.size W w') := ⟨fun W => may_any 3 r n W⟩
    rw [hm] at HM
    go_enter Tryd.func87, Tryd.ntmps87
    go_upto_region 1 with fail
    have HH1 : Hid _ := ⟨H1⟩
    have HO1 : Hid _ := ⟨O1⟩
    have HBB1 : Hid _ := ⟨HBb⟩
    have d0 := O1.cell 0 rfl
    have d1 := O1.cell 1 rfl
    have d2 := O1.cell 2 rfl
    clear H1 O1 HBb HB
    generalize w.alloc (.cells (oqD 3 r n) 103) = W1 at *
    go_upto_region 3 with (go_at_call 82; (with_reducible refine (HM.out _).mono ?_); rintro e w2 ⟨he, hb2⟩; subst he; have HB2 : Hid _ := ⟨hb2⟩; have d0 := (HO1.out.bel hb2 HO1.out.lt).cell 0 rfl; clear hb2)
    have T2 := HH1.out.bel HB2.out
    have O2 := HO1.out.bel HB2.out HO1.out.lt
    have hb1s : base ≤ W1.heap.size := Nat.le_trans hbs (Nat.le_of_lt HO1.out.lt)
    have B2 := HBB1.out.trans (HB2.out.mono hb1s)
    have e0 := O2.cell 0 rfl
    have e1 := O2.cell 1 rfl
    have e2 := O2.cell 2 rfl
    clear HM HH1 HO1 HBB1 HB2 d0 d1 d2
    have T3 := T2.setN n
    have B3 := B2.trans (below_set w2 tb (putAt (dC t vL vK).toArray 3 [.int .i64 n]) h.lo)
    have c2 := T3.r
    dsimp only at c2
    go_upto_region 14 with (refine wpList_part (g := tb) (off := 3) (val := .int .i64 n) rfl rfl (by rfl) (by rfl) T2.bk (by rw [sizeInt]; rfl) (by rw [T2.len]; show 3 + 1 ≤ 77; omega) (one_cells _) rfl ?_)
    have ev : (Value.int .i64 n).cells.toList = [.int .i64 n] := rfl
    rw [ev]
    clear ev
    have HT3 : Hid _ := ⟨T3⟩
    have HB3 : Hid _ := ⟨B3⟩
    clear T3 B3 T2 B2 O2 e0 e1 e2
    generalize w2.setRow tb (putAt (dC t vL vK).toArray 3 [.int .i64 n]) = W3 at *
    go_wp2
    go_ret
    exact ⟨rfl, HB3.out, _, _, HT3.out⟩
  · have HM : Hid (∀ W : World, Calls Tryd.prog 82 #[.agg (oqD 3 r n)] W fun e w' => e = .returned (.bool (mayB ⟨3, r, n⟩)) ∧ Below W.heap.size W w') := ⟨fun W => may_any 3 r n W⟩
    rw [hm] at HM
    go_enter Tryd.func87, Tryd.ntmps87
    go_upto_region 1 with fail
    have HH1 : Hid _ := ⟨H1⟩
    have HO1 : Hid _ := ⟨O1⟩
    have HBB1 : Hid _ := ⟨HBb⟩
    have d0 := O1.cell 0 rfl
    have d1 := O1.cell 1 rfl
    have d2 := O1.cell 2 rfl
    clear H1 O1 HBb HB
    generalize w.alloc (.cells (oqD 3 r n) 103) = W1 at *
    go_upto_region 3 with (go_at_call 82; (with_reducible refine (HM.out _).mono ?_); rintro e w2 ⟨he, hb2⟩; subst he; have HB2 : Hid _ := ⟨hb2⟩; have d0 := (HO1.out.bel hb2 HO1.out.lt).cell 0 rfl; clear hb2)
    have T2 := HH1.out.bel HB2.out
    have O2 := HO1.out.bel HB2.out HO1.out.lt
    have hb1s : base ≤ W1.heap.size := Nat.le_trans hbs (Nat.le_of_lt HO1.out.lt)
    have B2 := HBB1.out.trans (HB2.out.mono hb1s)
    have e0 := O2.cell 0 rfl
    have e1 := O2.cell 1 rfl
    have e2 := O2.cell 2 rfl
    clear HM HH1 HO1 HBB1 HB2 d0 d1 d2
    have T3 := T2.setN n
    have B3 := B2.trans (below_set w2 tb (putAt (dC t vL vK).toArray 3 [.int .i64 n]) h.lo)
    have c2 := T3.r
    dsimp only at c2
    go_upto_region 14 with (refine wpList_part (g := tb) (off := 3) (val := .int .i64 n) rfl rfl (by rfl) (by rfl) T2.bk (by rw [sizeInt]; rfl) (by rw [T2.len]; show 3 + 1 ≤ 77; omega) (one_cells _) rfl ?_)
    have ev : (Value.int .i64 n).cells.toList = [.int .i64 n] := rfl
    rw [ev]
    clear ev
    have HT3 : Hid _ := ⟨T3⟩
    have HB3 : Hid _ := ⟨B3⟩
    clear T3 B3 T2 B2 O2 e0 e1 e2
    generalize w2.setRow tb (putAt (dC t vL vK).toArray 3 [.int .i64 n]) = W3 at *
    go_wp2
    go_ret
    exact ⟨rfl, HB3.out, _, _, HT3.out⟩

set_option maxRecDepth 10000 in
set_option maxHeartbeats 1000000 in
theorem tone_4 {base tb : Nat} {w : World} {t : Tb} {vL vK : Value} (h : TD base w tb t vL vK) (r n : Int) (b : Bool) (hm : mayB ⟨4, r, n⟩ = true) :
    Calls Tryd.prog 87 #[.pointer (some ⟨tb, 0, none⟩), .agg (oqD 4 r n), .bool b] w fun e w' => e = .returned (.bool (decide (0 ≤ t.now.r))) ∧ Below base w w' ∧ ∃ vL vK, TD base w' tb ⟨t.L, ⟨t.now.p, r, t.now.n, t.now.z⟩, t.first, t.kept, t.size⟩ vL vK := by
  have HB : Below w.heap.size w (w.alloc (.cells (oqD 4 r n) 103)) := (Below.refl _ _).alloc (Nat.le_refl _) _
  have H1 := h.bel HB
  have O1 : Bk (w.alloc (.cells (oqD 4 r n) 103)) w.heap.size 103 (oqD 4 r n) := Bk.new w _ _
  have hne : w.heap.size ≠ tb := by have := h.bk.lt; omega
  have hbs : base ≤ w.heap.size := Nat.le_trans h.lo (Nat.le_of_lt h.bk.lt)
  have HBb := HB.mono hbs
  have hnrW : vL.ownBlock ≠ some w.heap.size := fun e => by have := ownV_lt h.L e; omega
  have hnkW : vK.ownBlock ≠ some w.heap.size := fun e => by have := ownV_lt h.K e; omega
  cases b
  · have HM : Hid (∀ W : World, Calls Tryd.prog 82 #[.agg (oqD 4 r n)] W fun e w' => e = .returned (.bool (mayB ⟨4, r, n⟩)) ∧ Below W.heap.size W w') := ⟨fun W => may_any 4 r n W⟩
    rw [hm] at HM
    go_enter Tryd.func87, Tryd.ntmps87
    go_upto_region 1 with fail
    have HH1 : Hid _ := ⟨H1⟩
    have HO1 : Hid _ := ⟨O1⟩
    have HBB1 : Hid _ := ⟨HBb⟩
    have d0 := O1.cell 0 rfl
    have d1 := O1.cell 1 rfl
    have d2 := O1.cell 2 rfl
    clear H1 O1 HBb HB
    generalize w.alloc (.cells (oqD 4 r n) 103) = W1 at *
    go_upto_region 3 with (go_at_call 82; (with_reducible refine (HM.out _).mono ?_); rintro e w2 ⟨he, hb2⟩; subst he; have HB2 : Hid _ := ⟨hb2⟩; have d0 := (HO1.out.bel hb2 HO1.out.lt).cell 0 rfl; clear hb2)
    have T2 := HH1.out.bel HB2.out
    have O2 := HO1.out.bel HB2.out HO1.out.lt
    have hb1s : base ≤ W1.heap.size := Nat.le_trans hbs (Nat.le_of_lt HO1.out.lt)
    have B2 := HBB1.out.trans (HB2.out.mono hb1s)
    have e0 := O2.cell 0 rfl
    have e1 := O2.cell 1 rfl
    have e2 := O2.cell 2 rfl
    clear HM HH1 HO1 HBB1 HB2 d0 d1 d2
    have T3 := T2.setR r
    have B3 := B2.trans (below_set w2 tb (putAt (dC t vL vK).toArray 2 [.int .i64 r]) h.lo)
    have c2 := T2.r
    go_upto_region 18 with (refine wpList_part (g := tb) (off := 2) (val := .int .i64 r) rfl rfl (by rfl) (by rfl) T2.bk (by rw [sizeInt]; rfl) (by rw [T2.len]; show 2 + 1 ≤ 77; omega) (one_cells _) rfl ?_)
    have ev : (Value.int .i64 r).cells.toList = [.int .i64 r] := rfl
    rw [ev]
    clear ev
    have HT3 : Hid _ := ⟨T3⟩
    have HB3 : Hid _ := ⟨B3⟩
    clear T3 B3 T2 B2 O2 e0 e1 e2 c2
    generalize w2.setRow tb (putAt (dC t vL vK).toArray 2 [.int .i64 r]) = W3 at *
    go_wp2
    go_ret
    exact ⟨rfl, HB3.out, _, _, HT3.out⟩
  · have HM : Hid (∀ W : World, Calls Tryd.prog 82 #[.agg (oqD 4 r n)] W fun e w' => e = .returned (.bool (mayB ⟨4, r, n⟩)) ∧ Below W.heap.size W w') := ⟨fun W => may_any 4 r n W⟩
    rw [hm] at HM
    go_enter Tryd.func87, Tryd.ntmps87
    go_upto_region 1 with fail
    have HH1 : Hid _ := ⟨H1⟩
    have HO1 : Hid _ := ⟨O1⟩
    have HBB1 : Hid _ := ⟨HBb⟩
    have d0 := O1.cell 0 rfl
    have d1 := O1.cell 1 rfl
    have d2 := O1.cell 2 rfl
    clear H1 O1 HBb HB
    generalize w.alloc (.cells (oqD 4 r n) 103) = W1 at *
    go_upto_region 3 with (go_at_call 82; (with_reducible refine (HM.out _).mono ?_); rintro e w2 ⟨he, hb2⟩; subst he; have HB2 : Hid _ := ⟨hb2⟩; have d0 := (HO1.out.bel hb2 HO1.out.lt).cell 0 rfl; clear hb2)
    have T2 := HH1.out.bel HB2.out
    have O2 := HO1.out.bel HB2.out HO1.out.lt
    have hb1s : base ≤ W1.heap.size := Nat.le_trans hbs (Nat.le_of_lt HO1.out.lt)
    have B2 := HBB1.out.trans (HB2.out.mono hb1s)
    have e0 := O2.cell 0 rfl
    have e1 := O2.cell 1 rfl
    have e2 := O2.cell 2 rfl
    clear HM HH1 HO1 HBB1 HB2 d0 d1 d2
    have T3 := T2.setR r
    have B3 := B2.trans (below_set w2 tb (putAt (dC t vL vK).toArray 2 [.int .i64 r]) h.lo)
    have c2 := T2.r
    go_upto_region 18 with (refine wpList_part (g := tb) (off := 2) (val := .int .i64 r) rfl rfl (by rfl) (by rfl) T2.bk (by rw [sizeInt]; rfl) (by rw [T2.len]; show 2 + 1 ≤ 77; omega) (one_cells _) rfl ?_)
    have ev : (Value.int .i64 r).cells.toList = [.int .i64 r] := rfl
    rw [ev]
    clear ev
    have HT3 : Hid _ := ⟨T3⟩
    have HB3 : Hid _ := ⟨B3⟩
    clear T3 B3 T2 B2 O2 e0 e1 e2 c2
    generalize w2.setRow tb (putAt (dC t vL vK).toArray 2 [.int .i64 r]) = W3 at *
    go_wp2
    go_ret
    exact ⟨rfl, HB3.out, _, _, HT3.out⟩


set_option maxRecDepth 10000 in
set_option maxHeartbeats 1000000 in
theorem tone_5 {base tb : Nat} {w : World} {t : Tb} {vL vK : Value} (h : TD base w tb t vL vK) (r n : Int) (b : Bool) (hm : mayB ⟨5, r, n⟩ = true) :
    Calls Tryd.prog 87 #[.pointer (some ⟨tb, 0, none⟩), .agg (oqD 5 r n), .bool b] w fun e w' => e = .returned (.bool true) ∧ Below base w w' ∧ ∃ vL vK, TD base w' tb ⟨t.L, t.now.set r (2, n), t.first, t.kept, t.size⟩ vL vK := by
  have HB : Below w.heap.size w (w.alloc (.cells (oqD 5 r n) 103)) := (Below.refl _ _).alloc (Nat.le_refl _) _
  have H1 := h.bel HB
  have O1 : Bk (w.alloc (.cells (oqD 5 r n) 103)) w.heap.size 103 (oqD 5 r n) := Bk.new w _ _
  have hne : w.heap.size ≠ tb := by have := h.bk.lt; omega
  have hbs : base ≤ w.heap.size := Nat.le_trans h.lo (Nat.le_of_lt h.bk.lt)
  have HBb := HB.mono hbs
  have hnrW : vL.ownBlock ≠ some w.heap.size := fun e => by have := ownV_lt h.L e; omega
  have hnkW : vK.ownBlock ≠ some w.heap.size := fun e => by have := ownV_lt h.K e; omega
  cases b
  · have HM : Hid (∀ W : World, Calls Tryd.prog 82 #[.agg (oqD 5 r n)] W fun e w' => e = .returned (.bool (mayB ⟨5, r, n⟩)) ∧ Below W.heap.size W w') := ⟨fun W => may_any 5 r n W⟩
    rw [hm] at HM
    go_enter Tryd.func87, Tryd.ntmps87
    go_upto_region 1 with fail
    have HH1 : Hid _ := ⟨H1⟩
    have HO1 : Hid _ := ⟨O1⟩
    have HBB1 : Hid _ := ⟨HBb⟩
    have d0 := O1.cell 0 rfl
    have d1 := O1.cell 1 rfl
    have d2 := O1.cell 2 rfl
    clear H1 O1 HBb HB
    generalize w.alloc (.cells (oqD 5 r n) 103) = W1 at *
    go_upto_region 3 with (go_at_call 82; (with_reducible refine (HM.out _).mono ?_); rintro e w2 ⟨he, hb2⟩; subst he; have HB2 : Hid _ := ⟨hb2⟩; have d0 := (HO1.out.bel hb2 HO1.out.lt).cell 0 rfl; clear hb2)
    have T2 := HH1.out.bel HB2.out
    have O2 := HO1.out.bel HB2.out HO1.out.lt
    have hb1s : base ≤ W1.heap.size := Nat.le_trans hbs (Nat.le_of_lt HO1.out.lt)
    have B2 := HBB1.out.trans (HB2.out.mono hb1s)
    have e0 := O2.cell 0 rfl
    have e1 := O2.cell 1 rfl
    have e2 := O2.cell 2 rfl
    clear HM HH1 HO1 HBB1 HB2 d0 d1 d2
    obtain ⟨r, rfl⟩ : ∃ q : Nat, r = (q : Int) := ⟨r.toNat, by have := (may_reg hm (.inr (.inr (.inl rfl)))).1; dsimp only at this; omega⟩
    have hr17 : r < 17 := by have := (may_reg hm (.inr (.inr (.inl rfl)))).2; dsimp only at this; omega
    go_upto_region 20 with fail
    have TD2 := T2.bel ((Below.refl w2.heap.size w2).drew)
    have BD2 := B2.trans ((Below.refl base w2).drew)
    have OD2 : Bk w2.drew w.heap.size 103 (oqD 5 (r : Int) n) := O2.of rfl
    have T3 := TD2.rule r hr17 (2, n)
    have B3 := BD2.trans (below_set w2.drew tb (putAt (dC t vL vK).toArray (4 + r * 2) [.int .i64 2, .int .i64 n]) h.lo)
    refine wp_region_held_drew (S := fun u => Bk u w.heap.size 103 (oqD 5 (r : Int) n)) (by kernel_rfl) OD2 (fun hS => ?_)
    clear e0 e1 e2 T2 B2 O2
    generalize w2.drew = W2 at *
    refine wpAnyH_take (i := 0) (v := .pointer (some ⟨tb, 0, none⟩)) rfl (by kernel_rfl) (by kernel_rfl) (by kernel_rfl) (fun _ _ _ h => h) (Or.inl ⟨by kernel_rfl, fun u hu => by kernel_rfl⟩) hS ?_
    simp only [Act.put, List.getElem_toArray, List.getElem_cons_succ, List.getElem_cons_zero, List.setIfInBounds_toArray, List.set_cons_zero, List.set_cons_succ]
    refine wpAnyH_take (i := 1) (v := .pointer (some ⟨w.heap.size, 1, none⟩)) rfl (by kernel_rfl) (by kernel_rfl) (by kernel_rfl) (fun _ _ _ h => h) (Or.inl ⟨by kernel_rfl, fun u hu => by kernel_rfl⟩) hS ?_
    simp only [Act.put, List.getElem_toArray, List.getElem_cons_succ, List.getElem_cons_zero, List.setIfInBounds_toArray, List.set_cons_zero, List.set_cons_succ]
    refine wpAnyH_take (i := 2) (v := .int .i64 (r : Int)) rfl (by kernel_rfl) (by kernel_rfl) (by kernel_rfl) (fun _ _ _ h => h) (Or.inl ⟨by kernel_rfl, fun u hu => exec_loadV (t := 3) (p := ⟨w.heap.size, 1, none⟩) rfl (by kernel_rfl) (load_i64 (hu.cell 1 rfl))⟩) hS ?_
    simp only [Act.put, List.getElem_toArray, List.getElem_cons_succ, List.getElem_cons_zero, List.setIfInBounds_toArray, List.set_cons_zero, List.set_cons_succ]
    refine wpAnyH_take (i := 3) (v := .pointer (some ⟨w.heap.size, 2, none⟩)) rfl (by kernel_rfl) (by kernel_rfl) (by kernel_rfl) (fun _ _ _ h => h) (Or.inl ⟨by kernel_rfl, fun u hu => by kernel_rfl⟩) hS ?_
    simp only [Act.put, List.getElem_toArray, List.getElem_cons_succ, List.getElem_cons_zero, List.setIfInBounds_toArray, List.set_cons_zero, List.set_cons_succ]
    refine wpAnyH_take (i := 4) (v := .int .i64 n) rfl (by kernel_rfl) (by kernel_rfl) (by kernel_rfl) (fun _ _ _ h => h) (Or.inl ⟨by kernel_rfl, fun u hu => exec_loadV (t := 3) (p := ⟨w.heap.size, 2, none⟩) rfl (by kernel_rfl) (load_i64 (hu.cell 2 rfl))⟩) hS ?_
    simp only [Act.put, List.getElem_toArray, List.getElem_cons_succ, List.getElem_cons_zero, List.setIfInBounds_toArray, List.set_cons_zero, List.set_cons_succ]
    refine wpAnyH_take (i := 5) (v := .agg #[.int .i64 2, .int .i64 n]) rfl (by kernel_rfl) (by kernel_rfl) (by kernel_rfl) (fun _ _ _ h => h) (Or.inl ⟨by kernel_rfl, fun u hu => by kernel_rfl⟩) hS ?_
    simp only [Act.put, List.getElem_toArray, List.getElem_cons_succ, List.getElem_cons_zero, List.setIfInBounds_toArray, List.set_cons_zero, List.set_cons_succ]
    refine wpAnyH_take (i := 6) (v := .pointer (some ⟨tb, 0, none⟩)) rfl (by kernel_rfl) (by kernel_rfl) (by kernel_rfl) (fun _ _ _ h => h) (Or.inl ⟨by kernel_rfl, fun u hu => by kernel_rfl⟩) hS ?_
    simp only [Act.put, List.getElem_toArray, List.getElem_cons_succ, List.getElem_cons_zero, List.setIfInBounds_toArray, List.set_cons_zero, List.set_cons_succ]
    refine wpAnyH_take (i := 7) (v := .pointer (some ⟨tb, 1, none⟩)) rfl (by kernel_rfl) (by kernel_rfl) (by kernel_rfl) (fun _ _ _ h => h) (Or.inl ⟨by kernel_rfl, fun u hu => by kernel_rfl⟩) hS ?_
    simp only [Act.put, List.getElem_toArray, List.getElem_cons_succ, List.getElem_cons_zero, List.setIfInBounds_toArray, List.set_cons_zero, List.set_cons_succ]
    refine wpAnyH_take (i := 8) (v := .pointer (some ⟨tb, 4, none⟩)) rfl (by kernel_rfl) (by kernel_rfl) (by kernel_rfl) (fun _ _ _ h => h) (Or.inl ⟨by kernel_rfl, fun u hu => by kernel_rfl⟩) hS ?_
    simp only [Act.put, List.getElem_toArray, List.getElem_cons_succ, List.getElem_cons_zero, List.setIfInBounds_toArray, List.set_cons_zero, List.set_cons_succ]
    refine wpAnyH_take (i := 9) (v := .pointer (some ⟨tb, 4 + r * 2, none⟩)) rfl (by kernel_rfl) (by kernel_rfl) (by kernel_rfl) (fun _ _ _ h => h) (Or.inl ⟨by kernel_rfl, fun u hu => exec_ix rfl (by kernel_rfl) (by kernel_rfl) (ix_ruleD tb 4 r hr17 u)⟩) hS ?_
    simp only [Act.put, List.getElem_toArray, List.getElem_cons_succ, List.getElem_cons_zero, List.setIfInBounds_toArray, List.set_cons_zero, List.set_cons_succ]
    refine wpAnyH_ready (rs := [10]) (by kernel_rfl) (by simp) ?_
    refine AllReadyH.cons rfl (fun K hK => ?_) AllReadyH.nil
    simp only [List.getElem_toArray, List.getElem_cons_succ, List.getElem_cons_zero]
    refine wp_if (by kernel_rfl) ?_
    refine wp_part (g := tb) (off := 4 + r * 2) (val := .agg #[.int .i64 2, .int .i64 n]) rfl (by kernel_rfl) (by kernel_rfl) TD2.bk (by rw [sizeRuleD]; rfl) (by rw [TD2.len]; show 4 + r * 2 + 2 ≤ 77; omega) (fun u hu => by simp [Value.cells] at hu; rcases hu with rfl | rfl <;> rfl) rfl ?_
    refine hK.out _ _ (OD2.setO hne _) (fun _ => ?_)
    clear hK
    refine wpAnyH_done (by kernel_rfl) ?_ _
    have ev : (Value.agg #[.int .i64 2, .int .i64 n]).cells.toList = [.int .i64 2, .int .i64 n] := rfl
    rw [ev]
    clear ev hS OD2 TD2 BD2
    generalize W2.setRow tb (putAt (dC t vL vK).toArray (4 + r * 2) [.int .i64 2, .int .i64 n]) = W3 at *
    go_wp2_with fail
    go_ret
    exact ⟨rfl, B3, _, _, T3⟩
  · have HM : Hid (∀ W : World, Calls Tryd.prog 82 #[.agg (oqD 5 r n)] W fun e w' => e = .returned (.bool (mayB ⟨5, r, n⟩)) ∧ Below W.heap.size W w') := ⟨fun W => may_any 5 r n W⟩
    rw [hm] at HM
    go_enter Tryd.func87, Tryd.ntmps87
    go_upto_region 1 with fail
    have HH1 : Hid _ := ⟨H1⟩
    have HO1 : Hid _ := ⟨O1⟩
    have HBB1 : Hid _ := ⟨HBb⟩
    have d0 := O1.cell 0 rfl
    have d1 := O1.cell 1 rfl
    have d2 := O1.cell 2 rfl
    clear H1 O1 HBb HB
    generalize w.alloc (.cells (oqD 5 r n) 103) = W1 at *
    go_upto_region 3 with (go_at_call 82; (with_reducible refine (HM.out _).mono ?_); rintro e w2 ⟨he, hb2⟩; subst he; have HB2 : Hid _ := ⟨hb2⟩; have d0 := (HO1.out.bel hb2 HO1.out.lt).cell 0 rfl; clear hb2)
    have T2 := HH1.out.bel HB2.out
    have O2 := HO1.out.bel HB2.out HO1.out.lt
    have hb1s : base ≤ W1.heap.size := Nat.le_trans hbs (Nat.le_of_lt HO1.out.lt)
    have B2 := HBB1.out.trans (HB2.out.mono hb1s)
    have e0 := O2.cell 0 rfl
    have e1 := O2.cell 1 rfl
    have e2 := O2.cell 2 rfl
    clear HM HH1 HO1 HBB1 HB2 d0 d1 d2
    obtain ⟨r, rfl⟩ : ∃ q : Nat, r = (q : Int) := ⟨r.toNat, by have := (may_reg hm (.inr (.inr (.inl rfl)))).1; dsimp only at this; omega⟩
    have hr17 : r < 17 := by have := (may_reg hm (.inr (.inr (.inl rfl)))).2; dsimp only at this; omega
    go_upto_region 20 with fail
    have TD2 := T2.bel ((Below.refl w2.heap.size w2).drew)
    have BD2 := B2.trans ((Below.refl base w2).drew)
    have OD2 : Bk w2.drew w.heap.size 103 (oqD 5 (r : Int) n) := O2.of rfl
    have T3 := TD2.rule r hr17 (2, n)
    have B3 := BD2.trans (below_set w2.drew tb (putAt (dC t vL vK).toArray (4 + r * 2) [.int .i64 2, .int .i64 n]) h.lo)
    refine wp_region_held_drew (S := fun u => Bk u w.heap.size 103 (oqD 5 (r : Int) n)) (by kernel_rfl) OD2 (fun hS => ?_)
    clear e0 e1 e2 T2 B2 O2
    generalize w2.drew = W2 at *
    refine wpAnyH_take (i := 0) (v := .pointer (some ⟨tb, 0, none⟩)) rfl (by kernel_rfl) (by kernel_rfl) (by kernel_rfl) (fun _ _ _ h => h) (Or.inl ⟨by kernel_rfl, fun u hu => by kernel_rfl⟩) hS ?_
    simp only [Act.put, List.getElem_toArray, List.getElem_cons_succ, List.getElem_cons_zero, List.setIfInBounds_toArray, List.set_cons_zero, List.set_cons_succ]
    refine wpAnyH_take (i := 1) (v := .pointer (some ⟨w.heap.size, 1, none⟩)) rfl (by kernel_rfl) (by kernel_rfl) (by kernel_rfl) (fun _ _ _ h => h) (Or.inl ⟨by kernel_rfl, fun u hu => by kernel_rfl⟩) hS ?_
    simp only [Act.put, List.getElem_toArray, List.getElem_cons_succ, List.getElem_cons_zero, List.setIfInBounds_toArray, List.set_cons_zero, List.set_cons_succ]
    refine wpAnyH_take (i := 2) (v := .int .i64 (r : Int)) rfl (by kernel_rfl) (by kernel_rfl) (by kernel_rfl) (fun _ _ _ h => h) (Or.inl ⟨by kernel_rfl, fun u hu => exec_loadV (t := 3) (p := ⟨w.heap.size, 1, none⟩) rfl (by kernel_rfl) (load_i64 (hu.cell 1 rfl))⟩) hS ?_
    simp only [Act.put, List.getElem_toArray, List.getElem_cons_succ, List.getElem_cons_zero, List.setIfInBounds_toArray, List.set_cons_zero, List.set_cons_succ]
    refine wpAnyH_take (i := 3) (v := .pointer (some ⟨w.heap.size, 2, none⟩)) rfl (by kernel_rfl) (by kernel_rfl) (by kernel_rfl) (fun _ _ _ h => h) (Or.inl ⟨by kernel_rfl, fun u hu => by kernel_rfl⟩) hS ?_
    simp only [Act.put, List.getElem_toArray, List.getElem_cons_succ, List.getElem_cons_zero, List.setIfInBounds_toArray, List.set_cons_zero, List.set_cons_succ]
    refine wpAnyH_take (i := 4) (v := .int .i64 n) rfl (by kernel_rfl) (by kernel_rfl) (by kernel_rfl) (fun _ _ _ h => h) (Or.inl ⟨by kernel_rfl, fun u hu => exec_loadV (t := 3) (p := ⟨w.heap.size, 2, none⟩) rfl (by kernel_rfl) (load_i64 (hu.cell 2 rfl))⟩) hS ?_
    simp only [Act.put, List.getElem_toArray, List.getElem_cons_succ, List.getElem_cons_zero, List.setIfInBounds_toArray, List.set_cons_zero, List.set_cons_succ]
    refine wpAnyH_take (i := 5) (v := .agg #[.int .i64 2, .int .i64 n]) rfl (by kernel_rfl) (by kernel_rfl) (by kernel_rfl) (fun _ _ _ h => h) (Or.inl ⟨by kernel_rfl, fun u hu => by kernel_rfl⟩) hS ?_
    simp only [Act.put, List.getElem_toArray, List.getElem_cons_succ, List.getElem_cons_zero, List.setIfInBounds_toArray, List.set_cons_zero, List.set_cons_succ]
    refine wpAnyH_take (i := 6) (v := .pointer (some ⟨tb, 0, none⟩)) rfl (by kernel_rfl) (by kernel_rfl) (by kernel_rfl) (fun _ _ _ h => h) (Or.inl ⟨by kernel_rfl, fun u hu => by kernel_rfl⟩) hS ?_
    simp only [Act.put, List.getElem_toArray, List.getElem_cons_succ, List.getElem_cons_zero, List.setIfInBounds_toArray, List.set_cons_zero, List.set_cons_succ]
    refine wpAnyH_take (i := 7) (v := .pointer (some ⟨tb, 1, none⟩)) rfl (by kernel_rfl) (by kernel_rfl) (by kernel_rfl) (fun _ _ _ h => h) (Or.inl ⟨by kernel_rfl, fun u hu => by kernel_rfl⟩) hS ?_
    simp only [Act.put, List.getElem_toArray, List.getElem_cons_succ, List.getElem_cons_zero, List.setIfInBounds_toArray, List.set_cons_zero, List.set_cons_succ]
    refine wpAnyH_take (i := 8) (v := .pointer (some ⟨tb, 4, none⟩)) rfl (by kernel_rfl) (by kernel_rfl) (by kernel_rfl) (fun _ _ _ h => h) (Or.inl ⟨by kernel_rfl, fun u hu => by kernel_rfl⟩) hS ?_
    simp only [Act.put, List.getElem_toArray, List.getElem_cons_succ, List.getElem_cons_zero, List.setIfInBounds_toArray, List.set_cons_zero, List.set_cons_succ]
    refine wpAnyH_take (i := 9) (v := .pointer (some ⟨tb, 4 + r * 2, none⟩)) rfl (by kernel_rfl) (by kernel_rfl) (by kernel_rfl) (fun _ _ _ h => h) (Or.inl ⟨by kernel_rfl, fun u hu => exec_ix rfl (by kernel_rfl) (by kernel_rfl) (ix_ruleD tb 4 r hr17 u)⟩) hS ?_
    simp only [Act.put, List.getElem_toArray, List.getElem_cons_succ, List.getElem_cons_zero, List.setIfInBounds_toArray, List.set_cons_zero, List.set_cons_succ]
    refine wpAnyH_ready (rs := [10]) (by kernel_rfl) (by simp) ?_
    refine AllReadyH.cons rfl (fun K hK => ?_) AllReadyH.nil
    simp only [List.getElem_toArray, List.getElem_cons_succ, List.getElem_cons_zero]
    refine wp_if (by kernel_rfl) ?_
    refine wp_part (g := tb) (off := 4 + r * 2) (val := .agg #[.int .i64 2, .int .i64 n]) rfl (by kernel_rfl) (by kernel_rfl) TD2.bk (by rw [sizeRuleD]; rfl) (by rw [TD2.len]; show 4 + r * 2 + 2 ≤ 77; omega) (fun u hu => by simp [Value.cells] at hu; rcases hu with rfl | rfl <;> rfl) rfl ?_
    refine hK.out _ _ (OD2.setO hne _) (fun _ => ?_)
    clear hK
    refine wpAnyH_done (by kernel_rfl) ?_ _
    have ev : (Value.agg #[.int .i64 2, .int .i64 n]).cells.toList = [.int .i64 2, .int .i64 n] := rfl
    rw [ev]
    clear ev hS OD2 TD2 BD2
    generalize W2.setRow tb (putAt (dC t vL vK).toArray (4 + r * 2) [.int .i64 2, .int .i64 n]) = W3 at *
    go_wp2_with fail
    go_ret
    exact ⟨rfl, B3, _, _, T3⟩

set_option maxRecDepth 10000 in
set_option maxHeartbeats 1000000 in
theorem tone_7 {base tb : Nat} {w : World} {t : Tb} {vL vK : Value} (h : TD base w tb t vL vK) (r n : Int) (b : Bool) (hm : mayB ⟨7, r, n⟩ = true) :
    Calls Tryd.prog 87 #[.pointer (some ⟨tb, 0, none⟩), .agg (oqD 7 r n), .bool b] w fun e w' => e = .returned (.bool true) ∧ Below base w w' ∧ ∃ vL vK, TD base w' tb ⟨t.L, t.now.set r (1, 0), t.first, t.kept, t.size⟩ vL vK := by
  have HB : Below w.heap.size w (w.alloc (.cells (oqD 7 r n) 103)) := (Below.refl _ _).alloc (Nat.le_refl _) _
  have H1 := h.bel HB
  have O1 : Bk (w.alloc (.cells (oqD 7 r n) 103)) w.heap.size 103 (oqD 7 r n) := Bk.new w _ _
  have hne : w.heap.size ≠ tb := by have := h.bk.lt; omega
  have hbs : base ≤ w.heap.size := Nat.le_trans h.lo (Nat.le_of_lt h.bk.lt)
  have HBb := HB.mono hbs
  have hnrW : vL.ownBlock ≠ some w.heap.size := fun e => by have := ownV_lt h.L e; omega
  have hnkW : vK.ownBlock ≠ some w.heap.size := fun e => by have := ownV_lt h.K e; omega
  cases b
  · have HM : Hid (∀ W : World, Calls Tryd.prog 82 #[.agg (oqD 7 r n)] W fun e w' => e = .returned (.bool (mayB ⟨7, r, n⟩)) ∧ Below W.heap.size W w') := ⟨fun W => may_any 7 r n W⟩
    rw [hm] at HM
    go_enter Tryd.func87, Tryd.ntmps87
    go_upto_region 1 with fail
    have HH1 : Hid _ := ⟨H1⟩
    have HO1 : Hid _ := ⟨O1⟩
    have HBB1 : Hid _ := ⟨HBb⟩
    have d0 := O1.cell 0 rfl
    have d1 := O1.cell 1 rfl
    have d2 := O1.cell 2 rfl
    clear H1 O1 HBb HB
    generalize w.alloc (.cells (oqD 7 r n) 103) = W1 at *
    go_upto_region 3 with (go_at_call 82; (with_reducible refine (HM.out _).mono ?_); rintro e w2 ⟨he, hb2⟩; subst he; have HB2 : Hid _ := ⟨hb2⟩; have d0 := (HO1.out.bel hb2 HO1.out.lt).cell 0 rfl; clear hb2)
    have T2 := HH1.out.bel HB2.out
    have O2 := HO1.out.bel HB2.out HO1.out.lt
    have hb1s : base ≤ W1.heap.size := Nat.le_trans hbs (Nat.le_of_lt HO1.out.lt)
    have B2 := HBB1.out.trans (HB2.out.mono hb1s)
    have e0 := O2.cell 0 rfl
    have e1 := O2.cell 1 rfl
    have e2 := O2.cell 2 rfl
    clear HM HH1 HO1 HBB1 HB2 d0 d1 d2
    obtain ⟨r, rfl⟩ : ∃ q : Nat, r = (q : Int) := ⟨r.toNat, by have := (may_reg hm (.inr (.inr (.inr (.inr (.inl rfl)))))).1; dsimp only at this; omega⟩
    have hr17 : r < 17 := by have := (may_reg hm (.inr (.inr (.inr (.inr (.inl rfl)))))).2; dsimp only at this; omega
    go_upto_region 24 with fail
    have TD2 := T2.bel ((Below.refl w2.heap.size w2).drew)
    have BD2 := B2.trans ((Below.refl base w2).drew)
    have OD2 : Bk w2.drew w.heap.size 103 (oqD 7 (r : Int) n) := O2.of rfl
    have T3 := TD2.rule r hr17 (1, 0)
    have B3 := BD2.trans (below_set w2.drew tb (putAt (dC t vL vK).toArray (4 + r * 2) [.int .i64 1, .int .i64 0]) h.lo)
    refine wp_region_held_drew (S := fun u => Bk u w.heap.size 103 (oqD 7 (r : Int) n)) (by kernel_rfl) OD2 (fun hS => ?_)
    clear e0 e1 e2 T2 B2 O2
    generalize w2.drew = W2 at *
    refine wpAnyH_take (i := 0) (v := .pointer (some ⟨tb, 0, none⟩)) rfl (by kernel_rfl) (by kernel_rfl) (by kernel_rfl) (fun _ _ _ h => h) (Or.inl ⟨by kernel_rfl, fun u hu => by kernel_rfl⟩) hS ?_
    simp only [Act.put, List.getElem_toArray, List.getElem_cons_succ, List.getElem_cons_zero, List.setIfInBounds_toArray, List.set_cons_zero, List.set_cons_succ]
    refine wpAnyH_take (i := 1) (v := .pointer (some ⟨w.heap.size, 1, none⟩)) rfl (by kernel_rfl) (by kernel_rfl) (by kernel_rfl) (fun _ _ _ h => h) (Or.inl ⟨by kernel_rfl, fun u hu => by kernel_rfl⟩) hS ?_
    simp only [Act.put, List.getElem_toArray, List.getElem_cons_succ, List.getElem_cons_zero, List.setIfInBounds_toArray, List.set_cons_zero, List.set_cons_succ]
    refine wpAnyH_take (i := 2) (v := .int .i64 (r : Int)) rfl (by kernel_rfl) (by kernel_rfl) (by kernel_rfl) (fun _ _ _ h => h) (Or.inl ⟨by kernel_rfl, fun u hu => exec_loadV (t := 3) (p := ⟨w.heap.size, 1, none⟩) rfl (by kernel_rfl) (load_i64 (hu.cell 1 rfl))⟩) hS ?_
    simp only [Act.put, List.getElem_toArray, List.getElem_cons_succ, List.getElem_cons_zero, List.setIfInBounds_toArray, List.set_cons_zero, List.set_cons_succ]
    refine wpAnyH_take (i := 3) (v := .agg #[.int .i64 1, .int .i64 0]) rfl (by kernel_rfl) (by kernel_rfl) (by kernel_rfl) (fun _ _ _ h => h) (Or.inl ⟨by kernel_rfl, fun u hu => by kernel_rfl⟩) hS ?_
    simp only [Act.put, List.getElem_toArray, List.getElem_cons_succ, List.getElem_cons_zero, List.setIfInBounds_toArray, List.set_cons_zero, List.set_cons_succ]
    refine wpAnyH_take (i := 4) (v := .pointer (some ⟨tb, 0, none⟩)) rfl (by kernel_rfl) (by kernel_rfl) (by kernel_rfl) (fun _ _ _ h => h) (Or.inl ⟨by kernel_rfl, fun u hu => by kernel_rfl⟩) hS ?_
    simp only [Act.put, List.getElem_toArray, List.getElem_cons_succ, List.getElem_cons_zero, List.setIfInBounds_toArray, List.set_cons_zero, List.set_cons_succ]
    refine wpAnyH_take (i := 5) (v := .pointer (some ⟨tb, 1, none⟩)) rfl (by kernel_rfl) (by kernel_rfl) (by kernel_rfl) (fun _ _ _ h => h) (Or.inl ⟨by kernel_rfl, fun u hu => by kernel_rfl⟩) hS ?_
    simp only [Act.put, List.getElem_toArray, List.getElem_cons_succ, List.getElem_cons_zero, List.setIfInBounds_toArray, List.set_cons_zero, List.set_cons_succ]
    refine wpAnyH_take (i := 6) (v := .pointer (some ⟨tb, 4, none⟩)) rfl (by kernel_rfl) (by kernel_rfl) (by kernel_rfl) (fun _ _ _ h => h) (Or.inl ⟨by kernel_rfl, fun u hu => by kernel_rfl⟩) hS ?_
    simp only [Act.put, List.getElem_toArray, List.getElem_cons_succ, List.getElem_cons_zero, List.setIfInBounds_toArray, List.set_cons_zero, List.set_cons_succ]
    refine wpAnyH_take (i := 7) (v := .pointer (some ⟨tb, 4 + r * 2, none⟩)) rfl (by kernel_rfl) (by kernel_rfl) (by kernel_rfl) (fun _ _ _ h => h) (Or.inl ⟨by kernel_rfl, fun u hu => exec_ix rfl (by kernel_rfl) (by kernel_rfl) (ix_ruleD tb 4 r hr17 u)⟩) hS ?_
    simp only [Act.put, List.getElem_toArray, List.getElem_cons_succ, List.getElem_cons_zero, List.setIfInBounds_toArray, List.set_cons_zero, List.set_cons_succ]
    refine wpAnyH_ready (rs := [8]) (by kernel_rfl) (by simp) ?_
    refine AllReadyH.cons rfl (fun K hK => ?_) AllReadyH.nil
    simp only [List.getElem_toArray, List.getElem_cons_succ, List.getElem_cons_zero]
    refine wp_if (by kernel_rfl) ?_
    refine wp_part (g := tb) (off := 4 + r * 2) (val := .agg #[.int .i64 1, .int .i64 0]) rfl (by kernel_rfl) (by kernel_rfl) TD2.bk (by rw [sizeRuleD]; rfl) (by rw [TD2.len]; show 4 + r * 2 + 2 ≤ 77; omega) (fun u hu => by simp [Value.cells] at hu; rcases hu with rfl | rfl <;> rfl) rfl ?_
    refine hK.out _ _ (OD2.setO hne _) (fun _ => ?_)
    clear hK
    refine wpAnyH_done (by kernel_rfl) ?_ _
    have ev : (Value.agg #[.int .i64 1, .int .i64 0]).cells.toList = [.int .i64 1, .int .i64 0] := rfl
    rw [ev]
    clear ev hS OD2 TD2 BD2
    generalize W2.setRow tb (putAt (dC t vL vK).toArray (4 + r * 2) [.int .i64 1, .int .i64 0]) = W3 at *
    go_wp2_with fail
    go_ret
    exact ⟨rfl, B3, _, _, T3⟩
  · have HM : Hid (∀ W : World, Calls Tryd.prog 82 #[.agg (oqD 7 r n)] W fun e w' => e = .returned (.bool (mayB ⟨7, r, n⟩)) ∧ Below W.heap.size W w') := ⟨fun W => may_any 7 r n W⟩
    rw [hm] at HM
    go_enter Tryd.func87, Tryd.ntmps87
    go_upto_region 1 with fail
    have HH1 : Hid _ := ⟨H1⟩
    have HO1 : Hid _ := ⟨O1⟩
    have HBB1 : Hid _ := ⟨HBb⟩
    have d0 := O1.cell 0 rfl
    have d1 := O1.cell 1 rfl
    have d2 := O1.cell 2 rfl
    clear H1 O1 HBb HB
    generalize w.alloc (.cells (oqD 7 r n) 103) = W1 at *
    go_upto_region 3 with (go_at_call 82; (with_reducible refine (HM.out _).mono ?_); rintro e w2 ⟨he, hb2⟩; subst he; have HB2 : Hid _ := ⟨hb2⟩; have d0 := (HO1.out.bel hb2 HO1.out.lt).cell 0 rfl; clear hb2)
    have T2 := HH1.out.bel HB2.out
    have O2 := HO1.out.bel HB2.out HO1.out.lt
    have hb1s : base ≤ W1.heap.size := Nat.le_trans hbs (Nat.le_of_lt HO1.out.lt)
    have B2 := HBB1.out.trans (HB2.out.mono hb1s)
    have e0 := O2.cell 0 rfl
    have e1 := O2.cell 1 rfl
    have e2 := O2.cell 2 rfl
    clear HM HH1 HO1 HBB1 HB2 d0 d1 d2
    obtain ⟨r, rfl⟩ : ∃ q : Nat, r = (q : Int) := ⟨r.toNat, by have := (may_reg hm (.inr (.inr (.inr (.inr (.inl rfl)))))).1; dsimp only at this; omega⟩
    have hr17 : r < 17 := by have := (may_reg hm (.inr (.inr (.inr (.inr (.inl rfl)))))).2; dsimp only at this; omega
    go_upto_region 24 with fail
    have TD2 := T2.bel ((Below.refl w2.heap.size w2).drew)
    have BD2 := B2.trans ((Below.refl base w2).drew)
    have OD2 : Bk w2.drew w.heap.size 103 (oqD 7 (r : Int) n) := O2.of rfl
    have T3 := TD2.rule r hr17 (1, 0)
    have B3 := BD2.trans (below_set w2.drew tb (putAt (dC t vL vK).toArray (4 + r * 2) [.int .i64 1, .int .i64 0]) h.lo)
    refine wp_region_held_drew (S := fun u => Bk u w.heap.size 103 (oqD 7 (r : Int) n)) (by kernel_rfl) OD2 (fun hS => ?_)
    clear e0 e1 e2 T2 B2 O2
    generalize w2.drew = W2 at *
    refine wpAnyH_take (i := 0) (v := .pointer (some ⟨tb, 0, none⟩)) rfl (by kernel_rfl) (by kernel_rfl) (by kernel_rfl) (fun _ _ _ h => h) (Or.inl ⟨by kernel_rfl, fun u hu => by kernel_rfl⟩) hS ?_
    simp only [Act.put, List.getElem_toArray, List.getElem_cons_succ, List.getElem_cons_zero, List.setIfInBounds_toArray, List.set_cons_zero, List.set_cons_succ]
    refine wpAnyH_take (i := 1) (v := .pointer (some ⟨w.heap.size, 1, none⟩)) rfl (by kernel_rfl) (by kernel_rfl) (by kernel_rfl) (fun _ _ _ h => h) (Or.inl ⟨by kernel_rfl, fun u hu => by kernel_rfl⟩) hS ?_
    simp only [Act.put, List.getElem_toArray, List.getElem_cons_succ, List.getElem_cons_zero, List.setIfInBounds_toArray, List.set_cons_zero, List.set_cons_succ]
    refine wpAnyH_take (i := 2) (v := .int .i64 (r : Int)) rfl (by kernel_rfl) (by kernel_rfl) (by kernel_rfl) (fun _ _ _ h => h) (Or.inl ⟨by kernel_rfl, fun u hu => exec_loadV (t := 3) (p := ⟨w.heap.size, 1, none⟩) rfl (by kernel_rfl) (load_i64 (hu.cell 1 rfl))⟩) hS ?_
    simp only [Act.put, List.getElem_toArray, List.getElem_cons_succ, List.getElem_cons_zero, List.setIfInBounds_toArray, List.set_cons_zero, List.set_cons_succ]
    refine wpAnyH_take (i := 3) (v := .agg #[.int .i64 1, .int .i64 0]) rfl (by kernel_rfl) (by kernel_rfl) (by kernel_rfl) (fun _ _ _ h => h) (Or.inl ⟨by kernel_rfl, fun u hu => by kernel_rfl⟩) hS ?_
    simp only [Act.put, List.getElem_toArray, List.getElem_cons_succ, List.getElem_cons_zero, List.setIfInBounds_toArray, List.set_cons_zero, List.set_cons_succ]
    refine wpAnyH_take (i := 4) (v := .pointer (some ⟨tb, 0, none⟩)) rfl (by kernel_rfl) (by kernel_rfl) (by kernel_rfl) (fun _ _ _ h => h) (Or.inl ⟨by kernel_rfl, fun u hu => by kernel_rfl⟩) hS ?_
    simp only [Act.put, List.getElem_toArray, List.getElem_cons_succ, List.getElem_cons_zero, List.setIfInBounds_toArray, List.set_cons_zero, List.set_cons_succ]
    refine wpAnyH_take (i := 5) (v := .pointer (some ⟨tb, 1, none⟩)) rfl (by kernel_rfl) (by kernel_rfl) (by kernel_rfl) (fun _ _ _ h => h) (Or.inl ⟨by kernel_rfl, fun u hu => by kernel_rfl⟩) hS ?_
    simp only [Act.put, List.getElem_toArray, List.getElem_cons_succ, List.getElem_cons_zero, List.setIfInBounds_toArray, List.set_cons_zero, List.set_cons_succ]
    refine wpAnyH_take (i := 6) (v := .pointer (some ⟨tb, 4, none⟩)) rfl (by kernel_rfl) (by kernel_rfl) (by kernel_rfl) (fun _ _ _ h => h) (Or.inl ⟨by kernel_rfl, fun u hu => by kernel_rfl⟩) hS ?_
    simp only [Act.put, List.getElem_toArray, List.getElem_cons_succ, List.getElem_cons_zero, List.setIfInBounds_toArray, List.set_cons_zero, List.set_cons_succ]
    refine wpAnyH_take (i := 7) (v := .pointer (some ⟨tb, 4 + r * 2, none⟩)) rfl (by kernel_rfl) (by kernel_rfl) (by kernel_rfl) (fun _ _ _ h => h) (Or.inl ⟨by kernel_rfl, fun u hu => exec_ix rfl (by kernel_rfl) (by kernel_rfl) (ix_ruleD tb 4 r hr17 u)⟩) hS ?_
    simp only [Act.put, List.getElem_toArray, List.getElem_cons_succ, List.getElem_cons_zero, List.setIfInBounds_toArray, List.set_cons_zero, List.set_cons_succ]
    refine wpAnyH_ready (rs := [8]) (by kernel_rfl) (by simp) ?_
    refine AllReadyH.cons rfl (fun K hK => ?_) AllReadyH.nil
    simp only [List.getElem_toArray, List.getElem_cons_succ, List.getElem_cons_zero]
    refine wp_if (by kernel_rfl) ?_
    refine wp_part (g := tb) (off := 4 + r * 2) (val := .agg #[.int .i64 1, .int .i64 0]) rfl (by kernel_rfl) (by kernel_rfl) TD2.bk (by rw [sizeRuleD]; rfl) (by rw [TD2.len]; show 4 + r * 2 + 2 ≤ 77; omega) (fun u hu => by simp [Value.cells] at hu; rcases hu with rfl | rfl <;> rfl) rfl ?_
    refine hK.out _ _ (OD2.setO hne _) (fun _ => ?_)
    clear hK
    refine wpAnyH_done (by kernel_rfl) ?_ _
    have ev : (Value.agg #[.int .i64 1, .int .i64 0]).cells.toList = [.int .i64 1, .int .i64 0] := rfl
    rw [ev]
    clear ev hS OD2 TD2 BD2
    generalize W2.setRow tb (putAt (dC t vL vK).toArray (4 + r * 2) [.int .i64 1, .int .i64 0]) = W3 at *
    go_wp2_with fail
    go_ret
    exact ⟨rfl, B3, _, _, T3⟩

set_option maxRecDepth 10000 in
set_option maxHeartbeats 1000000 in
theorem tone_8 {base tb : Nat} {w : World} {t : Tb} {vL vK : Value} (h : TD base w tb t vL vK) (r n : Int) (b : Bool) (hm : mayB ⟨8, r, n⟩ = true) :
    Calls Tryd.prog 87 #[.pointer (some ⟨tb, 0, none⟩), .agg (oqD 8 r n), .bool b] w fun e w' => e = .returned (.bool true) ∧ Below base w w' ∧ ∃ vL vK, TD base w' tb ⟨t.L, t.now.set r (0, 0), t.first, t.kept, t.size⟩ vL vK := by
  have HB : Below w.heap.size w (w.alloc (.cells (oqD 8 r n) 103)) := (Below.refl _ _).alloc (Nat.le_refl _) _
  have H1 := h.bel HB
  have O1 : Bk (w.alloc (.cells (oqD 8 r n) 103)) w.heap.size 103 (oqD 8 r n) := Bk.new w _ _
  have hne : w.heap.size ≠ tb := by have := h.bk.lt; omega
  have hbs : base ≤ w.heap.size := Nat.le_trans h.lo (Nat.le_of_lt h.bk.lt)
  have HBb := HB.mono hbs
  have hnrW : vL.ownBlock ≠ some w.heap.size := fun e => by have := ownV_lt h.L e; omega
  have hnkW : vK.ownBlock ≠ some w.heap.size := fun e => by have := ownV_lt h.K e; omega
  cases b
  · have HM : Hid (∀ W : World, Calls Tryd.prog 82 #[.agg (oqD 8 r n)] W fun e w' => e = .returned (.bool (mayB ⟨8, r, n⟩)) ∧ Below W.heap.size W w') := ⟨fun W => may_any 8 r n W⟩
    rw [hm] at HM
    go_enter Tryd.func87, Tryd.ntmps87
    go_upto_region 1 with fail
    have HH1 : Hid _ := ⟨H1⟩
    have HO1 : Hid _ := ⟨O1⟩
    have HBB1 : Hid _ := ⟨HBb⟩
    have d0 := O1.cell 0 rfl
    have d1 := O1.cell 1 rfl
    have d2 := O1.cell 2 rfl
    clear H1 O1 HBb HB
    generalize w.alloc (.cells (oqD 8 r n) 103) = W1 at *
    go_upto_region 3 with (go_at_call 82; (with_reducible refine (HM.out _).mono ?_); rintro e w2 ⟨he, hb2⟩; subst he; have HB2 : Hid _ := ⟨hb2⟩; have d0 := (HO1.out.bel hb2 HO1.out.lt).cell 0 rfl; clear hb2)
    have T2 := HH1.out.bel HB2.out
    have O2 := HO1.out.bel HB2.out HO1.out.lt
    have hb1s : base ≤ W1.heap.size := Nat.le_trans hbs (Nat.le_of_lt HO1.out.lt)
    have B2 := HBB1.out.trans (HB2.out.mono hb1s)
    have e0 := O2.cell 0 rfl
    have e1 := O2.cell 1 rfl
    have e2 := O2.cell 2 rfl
    clear HM HH1 HO1 HBB1 HB2 d0 d1 d2
    obtain ⟨r, rfl⟩ : ∃ q : Nat, r = (q : Int) := ⟨r.toNat, by have := (may_reg hm (.inr (.inr (.inr (.inr (.inr rfl)))))).1; dsimp only at this; omega⟩
    have hr17 : r < 17 := by have := (may_reg hm (.inr (.inr (.inr (.inr (.inr rfl)))))).2; dsimp only at this; omega
    go_upto_region 26 with fail
    have TD2 := T2.bel ((Below.refl w2.heap.size w2).drew)
    have BD2 := B2.trans ((Below.refl base w2).drew)
    have OD2 : Bk w2.drew w.heap.size 103 (oqD 8 (r : Int) n) := O2.of rfl
    have T3 := TD2.rule r hr17 (0, 0)
    have B3 := BD2.trans (below_set w2.drew tb (putAt (dC t vL vK).toArray (4 + r * 2) [.int .i64 0, .int .i64 0]) h.lo)
    refine wp_region_held_drew (S := fun u => Bk u w.heap.size 103 (oqD 8 (r : Int) n)) (by kernel_rfl) OD2 (fun hS => ?_)
    clear e0 e1 e2 T2 B2 O2
    generalize w2.drew = W2 at *
    refine wpAnyH_take (i := 0) (v := .pointer (some ⟨tb, 0, none⟩)) rfl (by kernel_rfl) (by kernel_rfl) (by kernel_rfl) (fun _ _ _ h => h) (Or.inl ⟨by kernel_rfl, fun u hu => by kernel_rfl⟩) hS ?_
    simp only [Act.put, List.getElem_toArray, List.getElem_cons_succ, List.getElem_cons_zero, List.setIfInBounds_toArray, List.set_cons_zero, List.set_cons_succ]
    refine wpAnyH_take (i := 1) (v := .pointer (some ⟨w.heap.size, 1, none⟩)) rfl (by kernel_rfl) (by kernel_rfl) (by kernel_rfl) (fun _ _ _ h => h) (Or.inl ⟨by kernel_rfl, fun u hu => by kernel_rfl⟩) hS ?_
    simp only [Act.put, List.getElem_toArray, List.getElem_cons_succ, List.getElem_cons_zero, List.setIfInBounds_toArray, List.set_cons_zero, List.set_cons_succ]
    refine wpAnyH_take (i := 2) (v := .int .i64 (r : Int)) rfl (by kernel_rfl) (by kernel_rfl) (by kernel_rfl) (fun _ _ _ h => h) (Or.inl ⟨by kernel_rfl, fun u hu => exec_loadV (t := 3) (p := ⟨w.heap.size, 1, none⟩) rfl (by kernel_rfl) (load_i64 (hu.cell 1 rfl))⟩) hS ?_
    simp only [Act.put, List.getElem_toArray, List.getElem_cons_succ, List.getElem_cons_zero, List.setIfInBounds_toArray, List.set_cons_zero, List.set_cons_succ]
    refine wpAnyH_take (i := 3) (v := .agg #[.int .i64 0, .int .i64 0]) rfl (by kernel_rfl) (by kernel_rfl) (by kernel_rfl) (fun _ _ _ h => h) (Or.inl ⟨by kernel_rfl, fun u hu => by kernel_rfl⟩) hS ?_
    simp only [Act.put, List.getElem_toArray, List.getElem_cons_succ, List.getElem_cons_zero, List.setIfInBounds_toArray, List.set_cons_zero, List.set_cons_succ]
    refine wpAnyH_take (i := 4) (v := .pointer (some ⟨tb, 0, none⟩)) rfl (by kernel_rfl) (by kernel_rfl) (by kernel_rfl) (fun _ _ _ h => h) (Or.inl ⟨by kernel_rfl, fun u hu => by kernel_rfl⟩) hS ?_
    simp only [Act.put, List.getElem_toArray, List.getElem_cons_succ, List.getElem_cons_zero, List.setIfInBounds_toArray, List.set_cons_zero, List.set_cons_succ]
    refine wpAnyH_take (i := 5) (v := .pointer (some ⟨tb, 1, none⟩)) rfl (by kernel_rfl) (by kernel_rfl) (by kernel_rfl) (fun _ _ _ h => h) (Or.inl ⟨by kernel_rfl, fun u hu => by kernel_rfl⟩) hS ?_
    simp only [Act.put, List.getElem_toArray, List.getElem_cons_succ, List.getElem_cons_zero, List.setIfInBounds_toArray, List.set_cons_zero, List.set_cons_succ]
    refine wpAnyH_take (i := 6) (v := .pointer (some ⟨tb, 4, none⟩)) rfl (by kernel_rfl) (by kernel_rfl) (by kernel_rfl) (fun _ _ _ h => h) (Or.inl ⟨by kernel_rfl, fun u hu => by kernel_rfl⟩) hS ?_
    simp only [Act.put, List.getElem_toArray, List.getElem_cons_succ, List.getElem_cons_zero, List.setIfInBounds_toArray, List.set_cons_zero, List.set_cons_succ]
    refine wpAnyH_take (i := 7) (v := .pointer (some ⟨tb, 4 + r * 2, none⟩)) rfl (by kernel_rfl) (by kernel_rfl) (by kernel_rfl) (fun _ _ _ h => h) (Or.inl ⟨by kernel_rfl, fun u hu => exec_ix rfl (by kernel_rfl) (by kernel_rfl) (ix_ruleD tb 4 r hr17 u)⟩) hS ?_
    simp only [Act.put, List.getElem_toArray, List.getElem_cons_succ, List.getElem_cons_zero, List.setIfInBounds_toArray, List.set_cons_zero, List.set_cons_succ]
    refine wpAnyH_ready (rs := [8]) (by kernel_rfl) (by simp) ?_
    refine AllReadyH.cons rfl (fun K hK => ?_) AllReadyH.nil
    simp only [List.getElem_toArray, List.getElem_cons_succ, List.getElem_cons_zero]
    refine wp_if (by kernel_rfl) ?_
    refine wp_part (g := tb) (off := 4 + r * 2) (val := .agg #[.int .i64 0, .int .i64 0]) rfl (by kernel_rfl) (by kernel_rfl) TD2.bk (by rw [sizeRuleD]; rfl) (by rw [TD2.len]; show 4 + r * 2 + 2 ≤ 77; omega) (fun u hu => by simp [Value.cells] at hu; rcases hu with rfl | rfl <;> rfl) rfl ?_
    refine hK.out _ _ (OD2.setO hne _) (fun _ => ?_)
    clear hK
    refine wpAnyH_done (by kernel_rfl) ?_ _
    have ev : (Value.agg #[.int .i64 0, .int .i64 0]).cells.toList = [.int .i64 0, .int .i64 0] := rfl
    rw [ev]
    clear ev hS OD2 TD2 BD2
    generalize W2.setRow tb (putAt (dC t vL vK).toArray (4 + r * 2) [.int .i64 0, .int .i64 0]) = W3 at *
    go_wp2_with fail
    go_ret
    exact ⟨rfl, B3, _, _, T3⟩
  · have HM : Hid (∀ W : World, Calls Tryd.prog 82 #[.agg (oqD 8 r n)] W fun e w' => e = .returned (.bool (mayB ⟨8, r, n⟩)) ∧ Below W.heap.size W w') := ⟨fun W => may_any 8 r n W⟩
    rw [hm] at HM
    go_enter Tryd.func87, Tryd.ntmps87
    go_upto_region 1 with fail
    have HH1 : Hid _ := ⟨H1⟩
    have HO1 : Hid _ := ⟨O1⟩
    have HBB1 : Hid _ := ⟨HBb⟩
    have d0 := O1.cell 0 rfl
    have d1 := O1.cell 1 rfl
    have d2 := O1.cell 2 rfl
    clear H1 O1 HBb HB
    generalize w.alloc (.cells (oqD 8 r n) 103) = W1 at *
    go_upto_region 3 with (go_at_call 82; (with_reducible refine (HM.out _).mono ?_); rintro e w2 ⟨he, hb2⟩; subst he; have HB2 : Hid _ := ⟨hb2⟩; have d0 := (HO1.out.bel hb2 HO1.out.lt).cell 0 rfl; clear hb2)
    have T2 := HH1.out.bel HB2.out
    have O2 := HO1.out.bel HB2.out HO1.out.lt
    have hb1s : base ≤ W1.heap.size := Nat.le_trans hbs (Nat.le_of_lt HO1.out.lt)
    have B2 := HBB1.out.trans (HB2.out.mono hb1s)
    have e0 := O2.cell 0 rfl
    have e1 := O2.cell 1 rfl
    have e2 := O2.cell 2 rfl
    clear HM HH1 HO1 HBB1 HB2 d0 d1 d2
    obtain ⟨r, rfl⟩ : ∃ q : Nat, r = (q : Int) := ⟨r.toNat, by have := (may_reg hm (.inr (.inr (.inr (.inr (.inr rfl)))))).1; dsimp only at this; omega⟩
    have hr17 : r < 17 := by have := (may_reg hm (.inr (.inr (.inr (.inr (.inr rfl)))))).2; dsimp only at this; omega
    go_upto_region 26 with fail
    have TD2 := T2.bel ((Below.refl w2.heap.size w2).drew)
    have BD2 := B2.trans ((Below.refl base w2).drew)
    have OD2 : Bk w2.drew w.heap.size 103 (oqD 8 (r : Int) n) := O2.of rfl
    have T3 := TD2.rule r hr17 (0, 0)
    have B3 := BD2.trans (below_set w2.drew tb (putAt (dC t vL vK).toArray (4 + r * 2) [.int .i64 0, .int .i64 0]) h.lo)
    refine wp_region_held_drew (S := fun u => Bk u w.heap.size 103 (oqD 8 (r : Int) n)) (by kernel_rfl) OD2 (fun hS => ?_)
    clear e0 e1 e2 T2 B2 O2
    generalize w2.drew = W2 at *
    refine wpAnyH_take (i := 0) (v := .pointer (some ⟨tb, 0, none⟩)) rfl (by kernel_rfl) (by kernel_rfl) (by kernel_rfl) (fun _ _ _ h => h) (Or.inl ⟨by kernel_rfl, fun u hu => by kernel_rfl⟩) hS ?_
    simp only [Act.put, List.getElem_toArray, List.getElem_cons_succ, List.getElem_cons_zero, List.setIfInBounds_toArray, List.set_cons_zero, List.set_cons_succ]
    refine wpAnyH_take (i := 1) (v := .pointer (some ⟨w.heap.size, 1, none⟩)) rfl (by kernel_rfl) (by kernel_rfl) (by kernel_rfl) (fun _ _ _ h => h) (Or.inl ⟨by kernel_rfl, fun u hu => by kernel_rfl⟩) hS ?_
    simp only [Act.put, List.getElem_toArray, List.getElem_cons_succ, List.getElem_cons_zero, List.setIfInBounds_toArray, List.set_cons_zero, List.set_cons_succ]
    refine wpAnyH_take (i := 2) (v := .int .i64 (r : Int)) rfl (by kernel_rfl) (by kernel_rfl) (by kernel_rfl) (fun _ _ _ h => h) (Or.inl ⟨by kernel_rfl, fun u hu => exec_loadV (t := 3) (p := ⟨w.heap.size, 1, none⟩) rfl (by kernel_rfl) (load_i64 (hu.cell 1 rfl))⟩) hS ?_
    simp only [Act.put, List.getElem_toArray, List.getElem_cons_succ, List.getElem_cons_zero, List.setIfInBounds_toArray, List.set_cons_zero, List.set_cons_succ]
    refine wpAnyH_take (i := 3) (v := .agg #[.int .i64 0, .int .i64 0]) rfl (by kernel_rfl) (by kernel_rfl) (by kernel_rfl) (fun _ _ _ h => h) (Or.inl ⟨by kernel_rfl, fun u hu => by kernel_rfl⟩) hS ?_
    simp only [Act.put, List.getElem_toArray, List.getElem_cons_succ, List.getElem_cons_zero, List.setIfInBounds_toArray, List.set_cons_zero, List.set_cons_succ]
    refine wpAnyH_take (i := 4) (v := .pointer (some ⟨tb, 0, none⟩)) rfl (by kernel_rfl) (by kernel_rfl) (by kernel_rfl) (fun _ _ _ h => h) (Or.inl ⟨by kernel_rfl, fun u hu => by kernel_rfl⟩) hS ?_
    simp only [Act.put, List.getElem_toArray, List.getElem_cons_succ, List.getElem_cons_zero, List.setIfInBounds_toArray, List.set_cons_zero, List.set_cons_succ]
    refine wpAnyH_take (i := 5) (v := .pointer (some ⟨tb, 1, none⟩)) rfl (by kernel_rfl) (by kernel_rfl) (by kernel_rfl) (fun _ _ _ h => h) (Or.inl ⟨by kernel_rfl, fun u hu => by kernel_rfl⟩) hS ?_
    simp only [Act.put, List.getElem_toArray, List.getElem_cons_succ, List.getElem_cons_zero, List.setIfInBounds_toArray, List.set_cons_zero, List.set_cons_succ]
    refine wpAnyH_take (i := 6) (v := .pointer (some ⟨tb, 4, none⟩)) rfl (by kernel_rfl) (by kernel_rfl) (by kernel_rfl) (fun _ _ _ h => h) (Or.inl ⟨by kernel_rfl, fun u hu => by kernel_rfl⟩) hS ?_
    simp only [Act.put, List.getElem_toArray, List.getElem_cons_succ, List.getElem_cons_zero, List.setIfInBounds_toArray, List.set_cons_zero, List.set_cons_succ]
    refine wpAnyH_take (i := 7) (v := .pointer (some ⟨tb, 4 + r * 2, none⟩)) rfl (by kernel_rfl) (by kernel_rfl) (by kernel_rfl) (fun _ _ _ h => h) (Or.inl ⟨by kernel_rfl, fun u hu => exec_ix rfl (by kernel_rfl) (by kernel_rfl) (ix_ruleD tb 4 r hr17 u)⟩) hS ?_
    simp only [Act.put, List.getElem_toArray, List.getElem_cons_succ, List.getElem_cons_zero, List.setIfInBounds_toArray, List.set_cons_zero, List.set_cons_succ]
    refine wpAnyH_ready (rs := [8]) (by kernel_rfl) (by simp) ?_
    refine AllReadyH.cons rfl (fun K hK => ?_) AllReadyH.nil
    simp only [List.getElem_toArray, List.getElem_cons_succ, List.getElem_cons_zero]
    refine wp_if (by kernel_rfl) ?_
    refine wp_part (g := tb) (off := 4 + r * 2) (val := .agg #[.int .i64 0, .int .i64 0]) rfl (by kernel_rfl) (by kernel_rfl) TD2.bk (by rw [sizeRuleD]; rfl) (by rw [TD2.len]; show 4 + r * 2 + 2 ≤ 77; omega) (fun u hu => by simp [Value.cells] at hu; rcases hu with rfl | rfl <;> rfl) rfl ?_
    refine hK.out _ _ (OD2.setO hne _) (fun _ => ?_)
    clear hK
    refine wpAnyH_done (by kernel_rfl) ?_ _
    have ev : (Value.agg #[.int .i64 0, .int .i64 0]).cells.toList = [.int .i64 0, .int .i64 0] := rfl
    rw [ev]
    clear ev hS OD2 TD2 BD2
    generalize W2.setRow tb (putAt (dC t vL vK).toArray (4 + r * 2) [.int .i64 0, .int .i64 0]) = W3 at *
    go_wp2_with fail
    go_ret
    exact ⟨rfl, B3, _, _, T3⟩


set_option maxRecDepth 10000 in
set_option maxHeartbeats 1000000 in
theorem tone_6 {base tb : Nat} {w : World} {t : Tb} {vL vK : Value} (h : TD base w tb t vL vK) (r n : Int) (hm : mayB ⟨6, r, n⟩ = true) :
    Calls Tryd.prog 87 #[.pointer (some ⟨tb, 0, none⟩), .agg (oqD 6 r n), .bool false] w fun e w' => e = .returned (.bool true) ∧ Below base w w' ∧ ∃ vL vK, TD base w' tb ⟨t.L, t.now.set r (t.first.z.getD r.toNat (0, 0)), t.first, t.kept, t.size⟩ vL vK := by
  have HB : Below w.heap.size w (w.alloc (.cells (oqD 6 r n) 103)) := (Below.refl _ _).alloc (Nat.le_refl _) _
  have H1 := h.bel HB
  have O1 : Bk (w.alloc (.cells (oqD 6 r n) 103)) w.heap.size 103 (oqD 6 r n) := Bk.new w _ _
  have hne : w.heap.size ≠ tb := by have := h.bk.lt; omega
  have hbs : base ≤ w.heap.size := Nat.le_trans h.lo (Nat.le_of_lt h.bk.lt)
  have HBb := HB.mono hbs
  have hnrW : vL.ownBlock ≠ some w.heap.size := fun e => by have := ownV_lt h.L e; omega
  have hnkW : vK.ownBlock ≠ some w.heap.size := fun e => by have := ownV_lt h.K e; omega
  obtain ⟨r, rfl⟩ : ∃ q : Nat, r = (q : Int) := ⟨r.toNat, by have := (may_reg hm (.inr (.inr (.inr (.inl rfl))))).1; dsimp only at this; omega⟩
  have hr17 : r < 17 := by have := (may_reg hm (.inr (.inr (.inr (.inl rfl))))).2; dsimp only at this; omega
  rw [Int.toNat_natCast]
  obtain ⟨k0, hk0⟩ : ∃ k0, (t.first.z.getD r (0, 0)).1 = k0 := ⟨_, rfl⟩
  obtain ⟨n0, hn0⟩ : ∃ n0, (t.first.z.getD r (0, 0)).2 = n0 := ⟨_, rfl⟩
  have hpair : t.first.z.getD r (0, 0) = (k0, n0) := by rw [← hk0, ← hn0]
  rw [hpair]
  have HM : Hid (∀ W : World, Calls Tryd.prog 82 #[.agg (oqD 6 (r : Int) n)] W fun e w' => e = .returned (.bool (mayB ⟨6, (r : Int), n⟩)) ∧ Below W.heap.size W w') := ⟨fun W => may_any 6 r n W⟩
  rw [hm] at HM
  go_enter Tryd.func87, Tryd.ntmps87
  go_upto_region 1 with fail
  have HH1 : Hid _ := ⟨H1⟩
  have HO1 : Hid _ := ⟨O1⟩
  have HBB1 : Hid _ := ⟨HBb⟩
  have d0 := O1.cell 0 rfl
  have d1 := O1.cell 1 rfl
  have d2 := O1.cell 2 rfl
  clear H1 O1 HBb HB
  generalize w.alloc (.cells (oqD 6 (r : Int) n) 103) = W1 at *
  go_upto_region 3 with (go_at_call 82; (with_reducible refine (HM.out _).mono ?_); rintro e w2 ⟨he, hb2⟩; subst he; have HB2 : Hid _ := ⟨hb2⟩; have d0 := (HO1.out.bel hb2 HO1.out.lt).cell 0 rfl; clear hb2)
  have T2 := HH1.out.bel HB2.out
  have O2 := HO1.out.bel HB2.out HO1.out.lt
  have hb1s : base ≤ W1.heap.size := Nat.le_trans hbs (Nat.le_of_lt HO1.out.lt)
  have B2 := HBB1.out.trans (HB2.out.mono hb1s)
  have e0 := O2.cell 0 rfl
  have e1 := O2.cell 1 rfl
  have e2 := O2.cell 2 rfl
  clear HM HH1 HO1 HBB1 HB2 d0 d1 d2
  go_upto_region 22 with fail
  have TD2 := T2.bel ((Below.refl w2.heap.size w2).drew)
  have BD2 := B2.trans ((Below.refl base w2).drew)
  have OD2 : Bk w2.drew w.heap.size 103 (oqD 6 (r : Int) n) := O2.of rfl
  have FR2 := TD2.frule r hr17
  rw [hk0, hn0] at FR2
  have T3 := TD2.rule r hr17 (k0, n0)
  have B3 := BD2.trans (below_set w2.drew tb (putAt (dC t vL vK).toArray (4 + r * 2) [.int .i64 k0, .int .i64 n0]) h.lo)
  have FR3 := T3.frule r hr17
  dsimp only at FR3
  rw [hk0, hn0] at FR3
  refine wp_region_held_drew (S := fun u => Bk u w.heap.size 103 (oqD 6 (r : Int) n) ∧ u.rangeAt tb (41 + r * 2) [.int .i64 k0, .int .i64 n0]) (by kernel_rfl) ⟨OD2, FR2⟩ (fun hS => ?_)
  clear e0 e1 e2 T2 B2 O2
  generalize w2.drew = W2 at *
  refine wpAnyH_take (i := 0) (v := .pointer (some ⟨tb, 0, none⟩)) rfl (by kernel_rfl) (by kernel_rfl) (by kernel_rfl) (fun _ _ _ h => h) (Or.inl ⟨by kernel_rfl, fun u hu => by kernel_rfl⟩) hS ?_
  simp only [Act.put, List.getElem_toArray, List.getElem_cons_succ, List.getElem_cons_zero, List.setIfInBounds_toArray, List.set_cons_zero, List.set_cons_succ]
  refine wpAnyH_take (i := 1) (v := .pointer (some ⟨w.heap.size, 1, none⟩)) rfl (by kernel_rfl) (by kernel_rfl) (by kernel_rfl) (fun _ _ _ h => h) (Or.inl ⟨by kernel_rfl, fun u hu => by kernel_rfl⟩) hS ?_
  simp only [Act.put, List.getElem_toArray, List.getElem_cons_succ, List.getElem_cons_zero, List.setIfInBounds_toArray, List.set_cons_zero, List.set_cons_succ]
  refine wpAnyH_take (i := 2) (v := .int .i64 (r : Int)) rfl (by kernel_rfl) (by kernel_rfl) (by kernel_rfl) (fun _ _ _ h => h) (Or.inl ⟨by kernel_rfl, fun u hu => exec_loadV (t := 3) (p := ⟨w.heap.size, 1, none⟩) rfl (by kernel_rfl) (load_i64 (hu.1.cell 1 rfl))⟩) hS ?_
  simp only [Act.put, List.getElem_toArray, List.getElem_cons_succ, List.getElem_cons_zero, List.setIfInBounds_toArray, List.set_cons_zero, List.set_cons_succ]
  refine wpAnyH_take (i := 3) (v := .pointer (some ⟨tb, 0, none⟩)) rfl (by kernel_rfl) (by kernel_rfl) (by kernel_rfl) (fun _ _ _ h => h) (Or.inl ⟨by kernel_rfl, fun u hu => by kernel_rfl⟩) hS ?_
  simp only [Act.put, List.getElem_toArray, List.getElem_cons_succ, List.getElem_cons_zero, List.setIfInBounds_toArray, List.set_cons_zero, List.set_cons_succ]
  refine wpAnyH_take (i := 4) (v := .pointer (some ⟨w.heap.size, 1, none⟩)) rfl (by kernel_rfl) (by kernel_rfl) (by kernel_rfl) (fun _ _ _ h => h) (Or.inl ⟨by kernel_rfl, fun u hu => by kernel_rfl⟩) hS ?_
  simp only [Act.put, List.getElem_toArray, List.getElem_cons_succ, List.getElem_cons_zero, List.setIfInBounds_toArray, List.set_cons_zero, List.set_cons_succ]
  refine wpAnyH_take (i := 5) (v := .int .i64 (r : Int)) rfl (by kernel_rfl) (by kernel_rfl) (by kernel_rfl) (fun _ _ _ h => h) (Or.inl ⟨by kernel_rfl, fun u hu => exec_loadV (t := 3) (p := ⟨w.heap.size, 1, none⟩) rfl (by kernel_rfl) (load_i64 (hu.1.cell 1 rfl))⟩) hS ?_
  simp only [Act.put, List.getElem_toArray, List.getElem_cons_succ, List.getElem_cons_zero, List.setIfInBounds_toArray, List.set_cons_zero, List.set_cons_succ]
  refine wpAnyH_take (i := 6) (v := .pointer (some ⟨tb, 0, none⟩)) rfl (by kernel_rfl) (by kernel_rfl) (by kernel_rfl) (fun _ _ _ h => h) (Or.inl ⟨by kernel_rfl, fun u hu => by kernel_rfl⟩) hS ?_
  simp only [Act.put, List.getElem_toArray, List.getElem_cons_succ, List.getElem_cons_zero, List.setIfInBounds_toArray, List.set_cons_zero, List.set_cons_succ]
  refine wpAnyH_take (i := 7) (v := .pointer (some ⟨tb, 38, none⟩)) rfl (by kernel_rfl) (by kernel_rfl) (by kernel_rfl) (fun _ _ _ h => h) (Or.inl ⟨by kernel_rfl, fun u hu => by kernel_rfl⟩) hS ?_
  simp only [Act.put, List.getElem_toArray, List.getElem_cons_succ, List.getElem_cons_zero, List.setIfInBounds_toArray, List.set_cons_zero, List.set_cons_succ]
  refine wpAnyH_take (i := 8) (v := .pointer (some ⟨tb, 41, none⟩)) rfl (by kernel_rfl) (by kernel_rfl) (by kernel_rfl) (fun _ _ _ h => h) (Or.inl ⟨by kernel_rfl, fun u hu => by kernel_rfl⟩) hS ?_
  simp only [Act.put, List.getElem_toArray, List.getElem_cons_succ, List.getElem_cons_zero, List.setIfInBounds_toArray, List.set_cons_zero, List.set_cons_succ]
  refine wpAnyH_take (i := 9) (v := .pointer (some ⟨tb, 41 + r * 2, none⟩)) rfl (by kernel_rfl) (by kernel_rfl) (by kernel_rfl) (fun _ _ _ h => h) (Or.inl ⟨by kernel_rfl, fun u hu => exec_ix rfl (by kernel_rfl) (by kernel_rfl) (ix_ruleD tb 41 r hr17 u)⟩) hS ?_
  simp only [Act.put, List.getElem_toArray, List.getElem_cons_succ, List.getElem_cons_zero, List.setIfInBounds_toArray, List.set_cons_zero, List.set_cons_succ]
  refine wpAnyH_take (i := 10) (v := .agg #[.int .i64 k0, .int .i64 n0]) rfl (by kernel_rfl) (by kernel_rfl) (by kernel_rfl) (fun _ _ _ h => h) (Or.inl ⟨by kernel_rfl, fun u hu => exec_loadV (t := 140) (p := ⟨tb, 41 + r * 2, none⟩) rfl (by kernel_rfl) (load_rmidD hu.2)⟩) hS ?_
  simp only [Act.put, List.getElem_toArray, List.getElem_cons_succ, List.getElem_cons_zero, List.setIfInBounds_toArray, List.set_cons_zero, List.set_cons_succ]
  refine wpAnyH_take (i := 11) (v := .pointer (some ⟨tb, 0, none⟩)) rfl (by kernel_rfl) (by kernel_rfl) (by kernel_rfl) (fun _ _ _ h => h) (Or.inl ⟨by kernel_rfl, fun u hu => by kernel_rfl⟩) hS ?_
  simp only [Act.put, List.getElem_toArray, List.getElem_cons_succ, List.getElem_cons_zero, List.setIfInBounds_toArray, List.set_cons_zero, List.set_cons_succ]
  refine wpAnyH_take (i := 12) (v := .pointer (some ⟨tb, 1, none⟩)) rfl (by kernel_rfl) (by kernel_rfl) (by kernel_rfl) (fun _ _ _ h => h) (Or.inl ⟨by kernel_rfl, fun u hu => by kernel_rfl⟩) hS ?_
  simp only [Act.put, List.getElem_toArray, List.getElem_cons_succ, List.getElem_cons_zero, List.setIfInBounds_toArray, List.set_cons_zero, List.set_cons_succ]
  refine wpAnyH_take (i := 13) (v := .pointer (some ⟨tb, 4, none⟩)) rfl (by kernel_rfl) (by kernel_rfl) (by kernel_rfl) (fun _ _ _ h => h) (Or.inl ⟨by kernel_rfl, fun u hu => by kernel_rfl⟩) hS ?_
  simp only [Act.put, List.getElem_toArray, List.getElem_cons_succ, List.getElem_cons_zero, List.setIfInBounds_toArray, List.set_cons_zero, List.set_cons_succ]
  refine wpAnyH_take (i := 14) (v := .pointer (some ⟨tb, 4 + r * 2, none⟩)) rfl (by kernel_rfl) (by kernel_rfl) (by kernel_rfl) (fun _ _ _ h => h) (Or.inl ⟨by kernel_rfl, fun u hu => exec_ix rfl (by kernel_rfl) (by kernel_rfl) (ix_ruleD tb 4 r hr17 u)⟩) hS ?_
  simp only [Act.put, List.getElem_toArray, List.getElem_cons_succ, List.getElem_cons_zero, List.setIfInBounds_toArray, List.set_cons_zero, List.set_cons_succ]
  refine wpAnyH_ready (rs := [15]) (by kernel_rfl) (by simp) ?_
  refine AllReadyH.cons rfl (fun K hK => ?_) AllReadyH.nil
  simp only [List.getElem_toArray, List.getElem_cons_succ, List.getElem_cons_zero]
  refine wp_if (by kernel_rfl) ?_
  refine wp_part (g := tb) (off := 4 + r * 2) (val := .agg #[.int .i64 k0, .int .i64 n0]) rfl (by kernel_rfl) (by kernel_rfl) TD2.bk (by rw [sizeRuleD]; rfl) (by rw [TD2.len]; show 4 + r * 2 + 2 ≤ 77; omega) (fun u hu => by simp [Value.cells] at hu; rcases hu with rfl | rfl <;> rfl) rfl ?_
  refine hK.out _ _ ⟨OD2.setO hne _, FR3⟩ (fun _ => ?_)
  clear hK
  refine wpAnyH_done (by kernel_rfl) ?_ _
  have ev : (Value.agg #[.int .i64 k0, .int .i64 n0]).cells.toList = [.int .i64 k0, .int .i64 n0] := rfl
  rw [ev]
  clear ev hS OD2 TD2 BD2 FR2 FR3
  generalize W2.setRow tb (putAt (dC t vL vK).toArray (4 + r * 2) [.int .i64 k0, .int .i64 n0]) = W3 at *
  go_wp2_with fail
  go_ret
  exact ⟨rfl, B3, _, _, T3⟩


set_option maxRecDepth 10000 in
set_option maxHeartbeats 1000000 in
theorem tone_9 {base tb : Nat} {w : World} {t : Tb} {vL vK : Value} (h : TD base w tb t vL vK) (r n : Int) (hm : mayB ⟨9, r, n⟩ = true) (hk64 : t.kept.length ≤ 64) :
    Calls Tryd.prog 87 #[.pointer (some ⟨tb, 0, none⟩), .agg (oqD 9 r n), .bool false] w fun e w' => e = .returned (.bool (decide (t.kept.length + 1 ≤ 64))) ∧ Below base w w' ∧ ∃ vL vK, TD base w' tb ⟨t.L, t.now, t.first, t.kept ++ [t.now], t.size⟩ vL vK := by
  have HB : Below w.heap.size w (w.alloc (.cells (oqD 9 r n) 103)) := (Below.refl _ _).alloc (Nat.le_refl _) _
  have H1 := h.bel HB
  have O1 : Bk (w.alloc (.cells (oqD 9 r n) 103)) w.heap.size 103 (oqD 9 r n) := Bk.new w _ _
  have hne : w.heap.size ≠ tb := by have := h.bk.lt; omega
  have hbs : base ≤ w.heap.size := Nat.le_trans h.lo (Nat.le_of_lt h.bk.lt)
  have HBb := HB.mono hbs
  have hnrW : vL.ownBlock ≠ some w.heap.size := fun e => by have := ownV_lt h.L e; omega
  have hnkW : vK.ownBlock ≠ some w.heap.size := fun e => by have := ownV_lt h.K e; omega
  obtain ⟨bb, hbb⟩ : ∃ bb, decide (t.kept.length + 1 ≤ 64) = bb := ⟨_, rfl⟩
  rw [hbb]
  have HBB : Hid (decide (t.kept.length + 1 ≤ 64) = bb) := ⟨hbb⟩
  clear hbb
  obtain ⟨ar, cr, hvr, _⟩ := h.K.any
  have hLn : t.kept.length ≤ 100000 := by omega
  have HM : Hid (∀ W : World, Calls Tryd.prog 82 #[.agg (oqD 9 r n)] W fun e w' => e = .returned (.bool (mayB ⟨9, r, n⟩)) ∧ Below W.heap.size W w') := ⟨fun W => may_any 9 r n W⟩
  rw [hm] at HM
  go_enter Tryd.func87, Tryd.ntmps87
  go_upto_region 1 with fail
  have HH1 : Hid _ := ⟨H1⟩
  have HO1 : Hid _ := ⟨O1⟩
  have HBB1 : Hid _ := ⟨HBb⟩
  have d0 := O1.cell 0 rfl
  have d1 := O1.cell 1 rfl
  have d2 := O1.cell 2 rfl
  clear H1 O1 HBb HB
  generalize w.alloc (.cells (oqD 9 r n) 103) = W1 at *
  go_upto_region 3 with (go_at_call 82; (with_reducible refine (HM.out _).mono ?_); rintro e w2 ⟨he, hb2⟩; subst he; have HB2 : Hid _ := ⟨hb2⟩; have d0 := (HO1.out.bel hb2 HO1.out.lt).cell 0 rfl; clear hb2)
  have T2 := HH1.out.bel HB2.out
  have O2 := HO1.out.bel HB2.out HO1.out.lt
  have hb1s : base ≤ W1.heap.size := Nat.le_trans hbs (Nat.le_of_lt HO1.out.lt)
  have B2 := HBB1.out.trans (HB2.out.mono hb1s)
  have e0 := O2.cell 0 rfl
  have e1 := O2.cell 1 rfl
  have e2 := O2.cell 2 rfl
  clear HM HH1 HO1 HBB1 HB2 d0 d1 d2
  go_upto_region 28 with fail
  have H4 := T2.bel ((Below.refl w2.heap.size w2).drew)
  have B4 := B2.trans ((Below.refl base w2).drew)
  have O4 : Bk w2.drew w.heap.size 103 (oqD 9 r n) := O2.of rfl
  have hb4 : base ≤ w2.drew.heap.size := Nat.le_trans h.lo (Nat.le_of_lt H4.bk.lt)
  refine wp_region_held_drew (S := fun u => u.rangeAt tb 1 t.now.cells) (by kernel_rfl) H4.rnow (fun hS => ?_)
  clear e0 e1 e2 T2 B2 O2
  generalize w2.drew = W4 at *
  have B5 : Below W4.heap.size W4 (W4.alloc (.cells t.now.cells.toArray 143)) := (Below.refl _ _).alloc (Nat.le_refl _) _
  have H5 := H4.bel B5
  have N5 : Bk (W4.alloc (.cells t.now.cells.toArray 143)) W4.heap.size 143 t.now.cells.toArray := Bk.new _ _ _
  have hb5 : base ≤ (W4.alloc (.cells t.now.cells.toArray 143)).heap.size := Nat.le_trans hb4 B5.size
  refine wpAnyH_take (i := 0) (v := .pointer (some ⟨tb, 0, none⟩)) rfl (by kernel_rfl) (by kernel_rfl) (by kernel_rfl) (fun _ _ _ h => h) (Or.inl ⟨by kernel_rfl, fun u hu => by kernel_rfl⟩) hS ?_
  simp only [Act.put, List.getElem_toArray, List.getElem_cons_succ, List.getElem_cons_zero, List.setIfInBounds_toArray, List.set_cons_zero, List.set_cons_succ]
  refine wpAnyH_take (i := 1) (v := .pointer (some ⟨tb, 0, none⟩)) rfl (by kernel_rfl) (by kernel_rfl) (by kernel_rfl) (fun _ _ _ h => h) (Or.inl ⟨by kernel_rfl, fun u hu => by kernel_rfl⟩) hS ?_
  simp only [Act.put, List.getElem_toArray, List.getElem_cons_succ, List.getElem_cons_zero, List.setIfInBounds_toArray, List.set_cons_zero, List.set_cons_succ]
  refine wpAnyH_take (i := 2) (v := .pointer (some ⟨tb, 0, none⟩)) rfl (by kernel_rfl) (by kernel_rfl) (by kernel_rfl) (fun _ _ _ h => h) (Or.inl ⟨by kernel_rfl, fun u hu => by kernel_rfl⟩) hS ?_
  simp only [Act.put, List.getElem_toArray, List.getElem_cons_succ, List.getElem_cons_zero, List.setIfInBounds_toArray, List.set_cons_zero, List.set_cons_succ]
  refine wpAnyH_take (i := 3) (v := .pointer (some ⟨tb, 75, none⟩)) rfl (by kernel_rfl) (by kernel_rfl) (by kernel_rfl) (fun _ _ _ h => h) (Or.inl ⟨by kernel_rfl, fun u hu => by kernel_rfl⟩) hS ?_
  simp only [Act.put, List.getElem_toArray, List.getElem_cons_succ, List.getElem_cons_zero, List.setIfInBounds_toArray, List.set_cons_zero, List.set_cons_succ]
  refine wpAnyH_take (i := 5) (v := .pointer (some ⟨tb, 0, none⟩)) rfl (by kernel_rfl) (by kernel_rfl) (by kernel_rfl) (fun _ _ _ h => h) (Or.inl ⟨by kernel_rfl, fun u hu => by kernel_rfl⟩) hS ?_
  simp only [Act.put, List.getElem_toArray, List.getElem_cons_succ, List.getElem_cons_zero, List.setIfInBounds_toArray, List.set_cons_zero, List.set_cons_succ]
  refine wpAnyH_take (i := 6) (v := .pointer (some ⟨tb, 0, none⟩)) rfl (by kernel_rfl) (by kernel_rfl) (by kernel_rfl) (fun _ _ _ h => h) (Or.inl ⟨by kernel_rfl, fun u hu => by kernel_rfl⟩) hS ?_
  simp only [Act.put, List.getElem_toArray, List.getElem_cons_succ, List.getElem_cons_zero, List.setIfInBounds_toArray, List.set_cons_zero, List.set_cons_succ]
  refine wpAnyH_take (i := 7) (v := .pointer (some ⟨tb, 1, none⟩)) rfl (by kernel_rfl) (by kernel_rfl) (by kernel_rfl) (fun _ _ _ h => h) (Or.inl ⟨by kernel_rfl, fun u hu => by kernel_rfl⟩) hS ?_
  simp only [Act.put, List.getElem_toArray, List.getElem_cons_succ, List.getElem_cons_zero, List.setIfInBounds_toArray, List.set_cons_zero, List.set_cons_succ]
  refine wpAnyH_take (i := 8) (v := .agg t.now.cells.toArray) rfl (by kernel_rfl) (by kernel_rfl) (by kernel_rfl) (fun _ _ _ h => h) (Or.inl ⟨by kernel_rfl, fun u hu => exec_loadV (t := 143) (p := ⟨tb, 1, none⟩) rfl (by kernel_rfl) (load_rowD h.wf.now hu)⟩) hS ?_
  simp only [Act.put, List.getElem_toArray, List.getElem_cons_succ, List.getElem_cons_zero, List.setIfInBounds_toArray, List.set_cons_zero, List.set_cons_succ]
  refine wpAnyH_ready (rs := [4, 9]) (by kernel_rfl) (by simp) ?_
  refine AllReadyH.cons rfl (fun K hK => ?_) (AllReadyH.cons rfl (fun K hK => ?_) AllReadyH.nil)
  · simp only [List.getElem_toArray, List.getElem_cons_succ, List.getElem_cons_zero]
    refine wp_if (by kernel_rfl) ?_
    refine wp_val (v := .slice ar t.kept.length cr) (exec_loadV (t := 109) (p := ⟨tb, 75, none⟩) rfl (by kernel_rfl) (load_rowsD (H4.kept1 hvr))) ?_
    refine hK.out _ _ H4.rnow (fun hS => ?_)
    clear hK
    simp only [Act.put, List.getElem_toArray, List.getElem_cons_succ, List.getElem_cons_zero, List.setIfInBounds_toArray, List.set_cons_zero, List.set_cons_succ]
    refine wpAnyH_ready (rs := [9]) (by kernel_rfl) (by simp) ?_
    refine AllReadyH.cons rfl (fun K hK => ?_) AllReadyH.nil
    simp only [List.getElem_toArray, List.getElem_cons_succ, List.getElem_cons_zero]
    refine wp_if (by kernel_rfl) ?_
    refine wp_val (v := .slice (some ⟨W4.heap.size, 0, none⟩) 1 1) (exec_build_rowD W4 t.now h.wf.now rfl (by kernel_rfl)) ?_
    refine hK.out _ _ H5.rnow (fun hS => ?_)
    clear hK
    simp only [Act.put, List.getElem_toArray, List.getElem_cons_succ, List.getElem_cons_zero, List.setIfInBounds_toArray, List.set_cons_zero, List.set_cons_succ]
    refine wpAnyH_ready (rs := [10]) (by kernel_rfl) (by simp) ?_
    refine AllReadyH.cons rfl (fun K hK => ?_) AllReadyH.nil
    simp only [List.getElem_toArray, List.getElem_cons_succ, List.getElem_cons_zero]
    refine wp_if (by kernel_rfl) ?_
    refine wp_append_rowD rfl H5.K (by rw [hvr]; rfl) (by kernel_rfl) N5 h.wf.now hLn hb5 (fun v6 w6 ho6 hg hbk => ?_)
    have hnr : vK.ownBlock ≠ some tb := h.nk
    have bk6 : Bk w6 tb 145 (dC t vL vK).toArray := H5.bk.of (hg.block tb H5.bk.lt (Ne.symm hnr))
    have H7 := H4.growK B5 hg ho6 hbk
    have B7 : Below base w (w6.setRow tb (putAt (dC t vL vK).toArray 75 [v6])) := (B4.trans (B5.mono hb4)).trans ((bel_grown hg (fun k hk => (h.K.2.lt k hk).1) hb5).trans (below_set _ tb _ h.lo))
    have O7 : Bk (w6.setRow tb (putAt (dC t vL vK).toArray 75 [v6])) w.heap.size 103 (oqD 9 r n) := ((O4.bel B5 O4.lt).of (hg.block _ (by have := B5.size; have := O4.lt; omega) (Ne.symm hnkW))).setO hne _
    refine hK.out _ _ (rnow_grownD H5 hg hnr) (fun hS => ?_)
    clear hK
    simp only [Act.put, List.getElem_toArray, List.getElem_cons_succ, List.getElem_cons_zero, List.setIfInBounds_toArray, List.set_cons_zero, List.set_cons_succ]
    refine wpAnyH_take (i := 11) (v := .pointer (some ⟨tb, 0, none⟩)) rfl (by kernel_rfl) (by kernel_rfl) (by kernel_rfl) (fun _ _ _ h => h) (Or.inl ⟨by kernel_rfl, fun u hu => by kernel_rfl⟩) hS ?_
    simp only [Act.put, List.getElem_toArray, List.getElem_cons_succ, List.getElem_cons_zero, List.setIfInBounds_toArray, List.set_cons_zero, List.set_cons_succ]
    refine wpAnyH_take (i := 12) (v := .pointer (some ⟨tb, 75, none⟩)) rfl (by kernel_rfl) (by kernel_rfl) (by kernel_rfl) (fun _ _ _ h => h) (Or.inl ⟨by kernel_rfl, fun u hu => by kernel_rfl⟩) hS ?_
    simp only [Act.put, List.getElem_toArray, List.getElem_cons_succ, List.getElem_cons_zero, List.setIfInBounds_toArray, List.set_cons_zero, List.set_cons_succ]
    refine wpAnyH_ready (rs := [13]) (by kernel_rfl) (by simp) ?_
    refine AllReadyH.cons rfl (fun K hK => ?_) AllReadyH.nil
    simp only [List.getElem_toArray, List.getElem_cons_succ, List.getElem_cons_zero]
    refine wp_if (by kernel_rfl) ?_
    obtain ⟨a6, c6, hv6, _⟩ := ho6.any
    refine wp_part (g := tb) (off := 75) (val := v6) rfl (by kernel_rfl) (by kernel_rfl) bk6 (by rw [hv6, sizeRwsD]; rfl) (by rw [H5.len, hv6]; show 75 + 1 ≤ 77; omega) (by rw [hv6]; exact slice_one _ _ _) rfl ?_
    have ev : v6.cells.toList = [v6] := by rw [hv6]; rfl
    rw [ev]
    refine hK.out _ _ H7.rnow (fun _ => ?_)
    clear hK
    simp only [Act.put, List.getElem_toArray, List.getElem_cons_succ, List.getElem_cons_zero, List.setIfInBounds_toArray, List.set_cons_zero, List.set_cons_succ]
    refine wpAnyH_done (by kernel_rfl) ?_ _
    have HH7 : Hid _ := ⟨H7⟩
    have HB7 : Hid _ := ⟨B7⟩
    have ck := H7.kept1 hv6
    have hl6 : (t.kept ++ [t.now]).length = t.kept.length + 1 := by simp
    rw [hl6] at ck
    have hkI : (t.kept.length : Int) ≤ 64 := by omega
    clear ev hv6 H7 B7 O7 bk6 hl6
    generalize w6.setRow tb (putAt (dC t vL vK).toArray 75 [v6]) = W7 at *
    generalize t.kept.length = kl at *
    have hdd : decide ((kl : Int) + 1 ≤ 64) = bb := by rw [← HBB.out]; exact decide_eq_decide.2 (by omega)
    have HDD : Hid _ := ⟨hdd⟩
    clear hdd
    go_wp2_with fail
    go_ret
    refine ⟨?_, HB7.out, _, _, HH7.out⟩
    show Ending.returned (.bool (decide ((kl : Int) + 1 ≤ 64))) = _
    rw [HDD.out]
  · simp only [List.getElem_toArray, List.getElem_cons_succ, List.getElem_cons_zero]
    refine wp_if (by kernel_rfl) ?_
    refine wp_val (v := .slice (some ⟨W4.heap.size, 0, none⟩) 1 1) (exec_build_rowD W4 t.now h.wf.now rfl (by kernel_rfl)) ?_
    refine hK.out _ _ H5.rnow (fun hS => ?_)
    clear hK
    simp only [Act.put, List.getElem_toArray, List.getElem_cons_succ, List.getElem_cons_zero, List.setIfInBounds_toArray, List.set_cons_zero, List.set_cons_succ]
    refine wpAnyH_ready (rs := [4]) (by kernel_rfl) (by simp) ?_
    refine AllReadyH.cons rfl (fun K hK => ?_) AllReadyH.nil
    simp only [List.getElem_toArray, List.getElem_cons_succ, List.getElem_cons_zero]
    refine wp_if (by kernel_rfl) ?_
    refine wp_val (v := .slice ar t.kept.length cr) (exec_loadV (t := 109) (p := ⟨tb, 75, none⟩) rfl (by kernel_rfl) (load_rowsD (H5.kept1 hvr))) ?_
    refine hK.out _ _ H5.rnow (fun hS => ?_)
    clear hK
    simp only [Act.put, List.getElem_toArray, List.getElem_cons_succ, List.getElem_cons_zero, List.setIfInBounds_toArray, List.set_cons_zero, List.set_cons_succ]
    refine wpAnyH_ready (rs := [10]) (by kernel_rfl) (by simp) ?_
    refine AllReadyH.cons rfl (fun K hK => ?_) AllReadyH.nil
    simp only [List.getElem_toArray, List.getElem_cons_succ, List.getElem_cons_zero]
    refine wp_if (by kernel_rfl) ?_
    refine wp_append_rowD rfl H5.K (by rw [hvr]; rfl) (by kernel_rfl) N5 h.wf.now hLn hb5 (fun v6 w6 ho6 hg hbk => ?_)
    have hnr : vK.ownBlock ≠ some tb := h.nk
    have bk6 : Bk w6 tb 145 (dC t vL vK).toArray := H5.bk.of (hg.block tb H5.bk.lt (Ne.symm hnr))
    have H7 := H4.growK B5 hg ho6 hbk
    have B7 : Below base w (w6.setRow tb (putAt (dC t vL vK).toArray 75 [v6])) := (B4.trans (B5.mono hb4)).trans ((bel_grown hg (fun k hk => (h.K.2.lt k hk).1) hb5).trans (below_set _ tb _ h.lo))
    have O7 : Bk (w6.setRow tb (putAt (dC t vL vK).toArray 75 [v6])) w.heap.size 103 (oqD 9 r n) := ((O4.bel B5 O4.lt).of (hg.block _ (by have := B5.size; have := O4.lt; omega) (Ne.symm hnkW))).setO hne _
    refine hK.out _ _ (rnow_grownD H5 hg hnr) (fun hS => ?_)
    clear hK
    simp only [Act.put, List.getElem_toArray, List.getElem_cons_succ, List.getElem_cons_zero, List.setIfInBounds_toArray, List.set_cons_zero, List.set_cons_succ]
    refine wpAnyH_take (i := 11) (v := .pointer (some ⟨tb, 0, none⟩)) rfl (by kernel_rfl) (by kernel_rfl) (by kernel_rfl) (fun _ _ _ h => h) (Or.inl ⟨by kernel_rfl, fun u hu => by kernel_rfl⟩) hS ?_
    simp only [Act.put, List.getElem_toArray, List.getElem_cons_succ, List.getElem_cons_zero, List.setIfInBounds_toArray, List.set_cons_zero, List.set_cons_succ]
    refine wpAnyH_take (i := 12) (v := .pointer (some ⟨tb, 75, none⟩)) rfl (by kernel_rfl) (by kernel_rfl) (by kernel_rfl) (fun _ _ _ h => h) (Or.inl ⟨by kernel_rfl, fun u hu => by kernel_rfl⟩) hS ?_
    simp only [Act.put, List.getElem_toArray, List.getElem_cons_succ, List.getElem_cons_zero, List.setIfInBounds_toArray, List.set_cons_zero, List.set_cons_succ]
    refine wpAnyH_ready (rs := [13]) (by kernel_rfl) (by simp) ?_
    refine AllReadyH.cons rfl (fun K hK => ?_) AllReadyH.nil
    simp only [List.getElem_toArray, List.getElem_cons_succ, List.getElem_cons_zero]
    refine wp_if (by kernel_rfl) ?_
    obtain ⟨a6, c6, hv6, _⟩ := ho6.any
    refine wp_part (g := tb) (off := 75) (val := v6) rfl (by kernel_rfl) (by kernel_rfl) bk6 (by rw [hv6, sizeRwsD]; rfl) (by rw [H5.len, hv6]; show 75 + 1 ≤ 77; omega) (by rw [hv6]; exact slice_one _ _ _) rfl ?_
    have ev : v6.cells.toList = [v6] := by rw [hv6]; rfl
    rw [ev]
    refine hK.out _ _ H7.rnow (fun _ => ?_)
    clear hK
    simp only [Act.put, List.getElem_toArray, List.getElem_cons_succ, List.getElem_cons_zero, List.setIfInBounds_toArray, List.set_cons_zero, List.set_cons_succ]
    refine wpAnyH_done (by kernel_rfl) ?_ _
    have HH7 : Hid _ := ⟨H7⟩
    have HB7 : Hid _ := ⟨B7⟩
    have ck := H7.kept1 hv6
    have hl6 : (t.kept ++ [t.now]).length = t.kept.length + 1 := by simp
    rw [hl6] at ck
    have hkI : (t.kept.length : Int) ≤ 64 := by omega
    clear ev hv6 H7 B7 O7 bk6 hl6
    generalize w6.setRow tb (putAt (dC t vL vK).toArray 75 [v6]) = W7 at *
    generalize t.kept.length = kl at *
    have hdd : decide ((kl : Int) + 1 ≤ 64) = bb := by rw [← HBB.out]; exact decide_eq_decide.2 (by omega)
    have HDD : Hid _ := ⟨hdd⟩
    clear hdd
    go_wp2_with fail
    go_ret
    refine ⟨?_, HB7.out, _, _, HH7.out⟩
    show Ending.returned (.bool (decide ((kl : Int) + 1 ≤ 64))) = _
    rw [HDD.out]

set_option maxRecDepth 10000 in
set_option maxHeartbeats 1000000 in
theorem tone_10n {base tb : Nat} {w : World} {t : Tb} {vL vK : Value} (h : TD base w tb t vL vK) (r n : Int) (hm : mayB ⟨10, r, n⟩ = true) (hk : t.kept = []) :
    Calls Tryd.prog 87 #[.pointer (some ⟨tb, 0, none⟩), .agg (oqD 10 r n), .bool false] w fun e w' => e = .returned (.bool false) ∧ Below base w w' := by
  have HB : Below w.heap.size w (w.alloc (.cells (oqD 10 r n) 103)) := (Below.refl _ _).alloc (Nat.le_refl _) _
  have H1 := h.bel HB
  have O1 : Bk (w.alloc (.cells (oqD 10 r n) 103)) w.heap.size 103 (oqD 10 r n) := Bk.new w _ _
  have hne : w.heap.size ≠ tb := by have := h.bk.lt; omega
  have hbs : base ≤ w.heap.size := Nat.le_trans h.lo (Nat.le_of_lt h.bk.lt)
  have HBb := HB.mono hbs
  have hnrW : vL.ownBlock ≠ some w.heap.size := fun e => by have := ownV_lt h.L e; omega
  have hnkW : vK.ownBlock ≠ some w.heap.size := fun e => by have := ownV_lt h.K e; omega
  obtain ⟨ar, cr, hvr, _⟩ := h.K.any
  have HM : Hid (∀ W : World, Calls Tryd.prog 82 #[.agg (oqD 10 r n)] W fun e w' => e = .returned (.bool (mayB ⟨10, r, n⟩)) ∧ Below W.heap.size W w') := ⟨fun W => may_any 10 r n W⟩
  rw [hm] at HM
  go_enter Tryd.func87, Tryd.ntmps87
  go_upto_region 1 with fail
  have HH1 : Hid _ := ⟨H1⟩
  have HO1 : Hid _ := ⟨O1⟩
  have HBB1 : Hid _ := ⟨HBb⟩
  have d0 := O1.cell 0 rfl
  have d1 := O1.cell 1 rfl
  have d2 := O1.cell 2 rfl
  clear H1 O1 HBb HB
  generalize w.alloc (.cells (oqD 10 r n) 103) = W1 at *
  go_upto_region 3 with (go_at_call 82; (with_reducible refine (HM.out _).mono ?_); rintro e w2 ⟨he, hb2⟩; subst he; have HB2 : Hid _ := ⟨hb2⟩; have d0 := (HO1.out.bel hb2 HO1.out.lt).cell 0 rfl; clear hb2)
  have T2 := HH1.out.bel HB2.out
  have O2 := HO1.out.bel HB2.out HO1.out.lt
  have hb1s : base ≤ W1.heap.size := Nat.le_trans hbs (Nat.le_of_lt HO1.out.lt)
  have B2 := HBB1.out.trans (HB2.out.mono hb1s)
  have e0 := O2.cell 0 rfl
  have e1 := O2.cell 1 rfl
  have e2 := O2.cell 2 rfl
  clear HM HH1 HO1 HBB1 HB2 d0 d1 d2
  have c2 := T2.kept1 hvr
  rw [hk] at c2
  simp only [List.length_nil] at c2
  go_wp2_with fail
  go_ret
  exact ⟨rfl, B2⟩

theorem sub_oneD {w : World} {a : Act} {o : Oper} {x : Operand} {n m : Nat} (ho : o.op = .binOp .sub 3 x (.const (.int .i64 1)) 3) (hx : a.eval x = .int .i64 (n : Int)) (hc : a.eval (.const (.int .i64 1)) = .int .i64 1) (hn : n = m + 1) (h1 : n ≤ 9000) : (execOp a.eval o).run Tryd.prog w = .ok (.value (.int .i64 (m : Int))) w := by
  have := exec_sub (w := w) ho hx hc (by omega) (by omega)
  rwa [show (n : Int) - 1 = (m : Int) by omega] at this

set_option maxRecDepth 10000 in
set_option maxHeartbeats 1000000 in
theorem tone_10s {base tb : Nat} {w : World} {t : Tb} {vL vK : Value} (h : TD base w tb t vL vK) (r n : Int) (hm : mayB ⟨10, r, n⟩ = true) (l : List Rw) (q : Rw) (hk : t.kept = l ++ [q]) (hk64 : t.kept.length ≤ 64) :
    Calls Tryd.prog 87 #[.pointer (some ⟨tb, 0, none⟩), .agg (oqD 10 r n), .bool false] w fun e w' => e = .returned (.bool true) ∧ Below base w w' ∧ ∃ vL vK, TD base w' tb ⟨t.L, ⟨t.now.p, q.r, q.n, q.z⟩, t.first, l, t.size⟩ vL vK := by
  have HB : Below w.heap.size w (w.alloc (.cells (oqD 10 r n) 103)) := (Below.refl _ _).alloc (Nat.le_refl _) _
  have H1 := h.bel HB
  have O1 : Bk (w.alloc (.cells (oqD 10 r n) 103)) w.heap.size 103 (oqD 10 r n) := Bk.new w _ _
  have hne : w.heap.size ≠ tb := by have := h.bk.lt; omega
  have hbs : base ≤ w.heap.size := Nat.le_trans h.lo (Nat.le_of_lt h.bk.lt)
  have HBb := HB.mono hbs
  have hnrW : vL.ownBlock ≠ some w.heap.size := fun e => by have := ownV_lt h.L e; omega
  have hnkW : vK.ownBlock ≠ some w.heap.size := fun e => by have := ownV_lt h.K e; omega
  have hq : Wf q := h.wf.kept q (by rw [hk]; simp)
  obtain ⟨g, cr, hvr, hcap⟩ : ∃ g cr, vK = .slice (some ⟨g, 0, none⟩) (l ++ [q]).length cr ∧ (l ++ [q]).length ≤ cr := by
    rcases h.K.2.2 with ⟨_, hn⟩ | ⟨g, cap, cur, hv, _, hg, h1, h2, _⟩
    · rw [hk] at hn; simp at hn
    · rw [hk] at hv h1; exact ⟨g, cap, hv, h1⟩
  have hlen : l.length + 1 ≤ 64 := by rw [hk] at hk64; simpa using hk64
  subst hvr
  have hgt : g ≠ tb := fun e => h.nk (by rw [← e]; rfl)
  have hll : (l ++ [q]).length = l.length + 1 := by simp
  have HM : Hid (∀ W : World, Calls Tryd.prog 82 #[.agg (oqD 10 r n)] W fun e w' => e = .returned (.bool (mayB ⟨10, r, n⟩)) ∧ Below W.heap.size W w') := ⟨fun W => may_any 10 r n W⟩
  rw [hm] at HM
  go_enter Tryd.func87, Tryd.ntmps87
  go_upto_region 1 with fail
  have HH1 : Hid _ := ⟨H1⟩
  have HO1 : Hid _ := ⟨O1⟩
  have HBB1 : Hid _ := ⟨HBb⟩
  have d0 := O1.cell 0 rfl
  have d1 := O1.cell 1 rfl
  have d2 := O1.cell 2 rfl
  clear H1 O1 HBb HB
  generalize w.alloc (.cells (oqD 10 r n) 103) = W1 at *
  go_upto_region 3 with (go_at_call 82; (with_reducible refine (HM.out _).mono ?_); rintro e w2 ⟨he, hb2⟩; subst he; have HB2 : Hid _ := ⟨hb2⟩; have d0 := (HO1.out.bel hb2 HO1.out.lt).cell 0 rfl; clear hb2)
  have T2 := HH1.out.bel HB2.out
  have O2 := HO1.out.bel HB2.out HO1.out.lt
  have hb1s : base ≤ W1.heap.size := Nat.le_trans hbs (Nat.le_of_lt HO1.out.lt)
  have B2 := HBB1.out.trans (HB2.out.mono hb1s)
  have e0 := O2.cell 0 rfl
  have e1 := O2.cell 1 rfl
  have e2 := O2.cell 2 rfl
  clear HM HH1 HO1 HBB1 HB2 d0 d1 d2
  have c2 := T2.keptc
  have c3 := T2.p
  rw [hll] at c2
  have hK2 := T2.K
  rw [hk] at hK2
  have hR2 := hK2.last
  have hcc := c2
  go_upto_region 35 with fail
  iterate 1 go_step
  refine wpList_val (v := .pointer (some ⟨tb, 0, none⟩)) (w' := w2) (by kernel_rfl) (by kernel_rfl) ?_
  simp only [Act.put, List.getElem_toArray, List.getElem_cons_succ, List.getElem_cons_zero, List.setIfInBounds_toArray, List.set_cons_zero, List.set_cons_succ]
  refine wpList_val (v := .pointer (some ⟨tb, 0, none⟩)) (w' := w2) (by kernel_rfl) (by kernel_rfl) ?_
  simp only [Act.put, List.getElem_toArray, List.getElem_cons_succ, List.getElem_cons_zero, List.setIfInBounds_toArray, List.set_cons_zero, List.set_cons_succ]
  refine wpList_val (v := .pointer (some ⟨tb, 0, none⟩)) (w' := w2) (by kernel_rfl) (by kernel_rfl) ?_
  simp only [Act.put, List.getElem_toArray, List.getElem_cons_succ, List.getElem_cons_zero, List.setIfInBounds_toArray, List.set_cons_zero, List.set_cons_succ]
  refine wpList_val (v := .pointer (some ⟨tb, 75, none⟩)) (w' := w2) (by kernel_rfl) (by kernel_rfl) ?_
  simp only [Act.put, List.getElem_toArray, List.getElem_cons_succ, List.getElem_cons_zero, List.setIfInBounds_toArray, List.set_cons_zero, List.set_cons_succ]
  refine wpList_val (v := .slice (some ⟨g, 0, none⟩) (l.length + 1) cr) (w' := w2) (by kernel_rfl) (exec_loadV (t := 109) (p := ⟨tb, 75, none⟩) rfl (by kernel_rfl) (load_rowsD hcc)) ?_
  simp only [Act.put, List.getElem_toArray, List.getElem_cons_succ, List.getElem_cons_zero, List.setIfInBounds_toArray, List.set_cons_zero, List.set_cons_succ]
  refine wpList_val (v := .int .i64 ((l.length + 1 : Nat) : Int)) (w' := w2) (by kernel_rfl) (by kernel_rfl) ?_
  simp only [Act.put, List.getElem_toArray, List.getElem_cons_succ, List.getElem_cons_zero, List.setIfInBounds_toArray, List.set_cons_zero, List.set_cons_succ]
  refine wpList_val (v := .int .i64 (l.length : Int)) (w' := w2) (by kernel_rfl) (sub_oneD (n := l.length + 1) (m := l.length) rfl (by kernel_rfl) (by kernel_rfl) rfl (by omega)) ?_
  simp only [Act.put, List.getElem_toArray, List.getElem_cons_succ, List.getElem_cons_zero, List.setIfInBounds_toArray, List.set_cons_zero, List.set_cons_succ]
  refine wpList_val (v := .pointer (some ⟨g, l.length * 37, none⟩)) (w' := w2) (by kernel_rfl) (exec_ix rfl (by kernel_rfl) (by kernel_rfl) (ix_rowD g (l.length + 1) cr l.length (by omega) w2)) ?_
  simp only [Act.put, List.getElem_toArray, List.getElem_cons_succ, List.getElem_cons_zero, List.setIfInBounds_toArray, List.set_cons_zero, List.set_cons_succ]
  refine wpList_val (v := .agg q.cells.toArray) (w' := w2) (by kernel_rfl) (exec_loadV (t := 143) (p := ⟨g, l.length * 37, none⟩) rfl (by kernel_rfl) (load_rowD hq hR2)) ?_
  simp only [Act.put, List.getElem_toArray, List.getElem_cons_succ, List.getElem_cons_zero, List.setIfInBounds_toArray, List.set_cons_zero, List.set_cons_succ]
  refine wpList_val (v := .pointer (some ⟨tb, 0, none⟩)) (w' := w2) (by kernel_rfl) (by kernel_rfl) ?_
  simp only [Act.put, List.getElem_toArray, List.getElem_cons_succ, List.getElem_cons_zero, List.setIfInBounds_toArray, List.set_cons_zero, List.set_cons_succ]
  refine wpList_val (v := .pointer (some ⟨tb, 1, none⟩)) (w' := w2) (by kernel_rfl) (by kernel_rfl) ?_
  simp only [Act.put, List.getElem_toArray, List.getElem_cons_succ, List.getElem_cons_zero, List.setIfInBounds_toArray, List.set_cons_zero, List.set_cons_succ]
  refine wpList_part (g := tb) (off := 1) (val := .agg q.cells.toArray) rfl rfl (by kernel_rfl) (by kernel_rfl) T2.bk (by rw [sizeRowD]; simp [Value.cells, Rw.cells_len hq]) (by rw [T2.len]; simp [Value.cells, Rw.cells_len hq]) (by simpa [Value.cells] using rw_one q) rfl ?_
  have ev : (Value.agg q.cells.toArray).cells.toList = q.cells := rfl
  rw [ev]
  clear ev
  simp only [Act.put, List.getElem_toArray, List.getElem_cons_succ, List.getElem_cons_zero, List.setIfInBounds_toArray, List.set_cons_zero, List.set_cons_succ]
  have T3 := T2.setRowW q hq
  have B3 := B2.trans (below_set w2 tb (putAt (dC t vL (.slice (some ⟨g, 0, none⟩) (l ++ [q]).length cr)).toArray 1 q.cells) h.lo)
  refine wpList_nil ?_
  clear e0 e1 e2 c2 c3 hcc hR2 hK2 T2 B2 O2
  generalize w2.setRow tb (putAt (dC t vL (.slice (some ⟨g, 0, none⟩) (l ++ [q]).length cr)).toArray 1 q.cells) = W3 at *
  have T4 := T3.setP t.now.p
  have B4 := B3.trans (below_set W3 tb (putAt (dC ⟨t.L, q, t.first, t.kept, t.size⟩ vL (.slice (some ⟨g, 0, none⟩) (l ++ [q]).length cr)).toArray 1 [.int .i64 t.now.p]) h.lo)
  go_upto_region 37 with (refine wpList_part (g := tb) (off := 1) (val := .int .i64 t.now.p) rfl rfl (by rfl) (by rfl) T3.bk (by rw [sizeInt]; rfl) (by rw [T3.len]; show 1 + 1 ≤ 77; omega) (one_cells _) rfl ?_)
  have ev : (Value.int .i64 t.now.p).cells.toList = [.int .i64 t.now.p] := rfl
  rw [ev]
  clear ev T3 B3
  generalize W3.setRow tb (putAt (dC ⟨t.L, q, t.first, t.kept, t.size⟩ vL (.slice (some ⟨g, 0, none⟩) (l ++ [q]).length cr)).toArray 1 [.int .i64 t.now.p]) = W4 at *
  have hcc : W4.cell? ⟨tb, 75, none⟩ = some (.slice (some ⟨g, 0, none⟩) (l.length + 1) cr) := by rw [← hll]; exact T4.keptc
  iterate 1 go_step
  refine wpList_val (v := .pointer (some ⟨tb, 0, none⟩)) (w' := W4) (by kernel_rfl) (by kernel_rfl) ?_
  simp only [Act.put, List.getElem_toArray, List.getElem_cons_succ, List.getElem_cons_zero, List.setIfInBounds_toArray, List.set_cons_zero, List.set_cons_succ]
  refine wpList_val (v := .pointer (some ⟨tb, 0, none⟩)) (w' := W4) (by kernel_rfl) (by kernel_rfl) ?_
  simp only [Act.put, List.getElem_toArray, List.getElem_cons_succ, List.getElem_cons_zero, List.setIfInBounds_toArray, List.set_cons_zero, List.set_cons_succ]
  refine wpList_val (v := .pointer (some ⟨tb, 0, none⟩)) (w' := W4) (by kernel_rfl) (by kernel_rfl) ?_
  simp only [Act.put, List.getElem_toArray, List.getElem_cons_succ, List.getElem_cons_zero, List.setIfInBounds_toArray, List.set_cons_zero, List.set_cons_succ]
  refine wpList_val (v := .pointer (some ⟨tb, 75, none⟩)) (w' := W4) (by kernel_rfl) (by kernel_rfl) ?_
  simp only [Act.put, List.getElem_toArray, List.getElem_cons_succ, List.getElem_cons_zero, List.setIfInBounds_toArray, List.set_cons_zero, List.set_cons_succ]
  refine wpList_val (v := .slice (some ⟨g, 0, none⟩) (l.length + 1) cr) (w' := W4) (by kernel_rfl) (exec_loadV (t := 109) (p := ⟨tb, 75, none⟩) rfl (by kernel_rfl) (load_rowsD hcc)) ?_
  simp only [Act.put, List.getElem_toArray, List.getElem_cons_succ, List.getElem_cons_zero, List.setIfInBounds_toArray, List.set_cons_zero, List.set_cons_succ]
  refine wpList_val (v := .int .i64 ((l.length + 1 : Nat) : Int)) (w' := W4) (by kernel_rfl) (by kernel_rfl) ?_
  simp only [Act.put, List.getElem_toArray, List.getElem_cons_succ, List.getElem_cons_zero, List.setIfInBounds_toArray, List.set_cons_zero, List.set_cons_succ]
  refine wpList_val (v := .int .i64 (l.length : Int)) (w' := W4) (by kernel_rfl) (sub_oneD (n := l.length + 1) (m := l.length) rfl (by kernel_rfl) (by kernel_rfl) rfl (by omega)) ?_
  simp only [Act.put, List.getElem_toArray, List.getElem_cons_succ, List.getElem_cons_zero, List.setIfInBounds_toArray, List.set_cons_zero, List.set_cons_succ]
  refine wpList_val (v := .slice (some ⟨g, 0, none⟩) l.length cr) (w' := W4) (by kernel_rfl) (exec_cutD g (l.length + 1) cr l.length (by omega) (by omega) rfl (by kernel_rfl) (by kernel_rfl)) ?_
  simp only [Act.put, List.getElem_toArray, List.getElem_cons_succ, List.getElem_cons_zero, List.setIfInBounds_toArray, List.set_cons_zero, List.set_cons_succ]
  refine wpList_val (v := .pointer (some ⟨tb, 0, none⟩)) (w' := W4) (by kernel_rfl) (by kernel_rfl) ?_
  simp only [Act.put, List.getElem_toArray, List.getElem_cons_succ, List.getElem_cons_zero, List.setIfInBounds_toArray, List.set_cons_zero, List.set_cons_succ]
  refine wpList_val (v := .pointer (some ⟨tb, 75, none⟩)) (w' := W4) (by kernel_rfl) (by kernel_rfl) ?_
  simp only [Act.put, List.getElem_toArray, List.getElem_cons_succ, List.getElem_cons_zero, List.setIfInBounds_toArray, List.set_cons_zero, List.set_cons_succ]
  refine wpList_part (g := tb) (off := 75) (val := .slice (some ⟨g, 0, none⟩) l.length cr) rfl rfl (by kernel_rfl) (by kernel_rfl) T4.bk (by rw [sizeRwsD]; rfl) (by rw [T4.len]; show 75 + 1 ≤ 77; omega) (slice_one _ _ _) rfl ?_
  have ev : (Value.slice (some ⟨g, 0, none⟩) l.length cr).cells.toList = [.slice (some ⟨g, 0, none⟩) l.length cr] := rfl
  rw [ev]
  clear ev
  simp only [Act.put, List.getElem_toArray, List.getElem_cons_succ, List.getElem_cons_zero, List.setIfInBounds_toArray, List.set_cons_zero, List.set_cons_succ]
  have T5 := T4.setK hk
  have B5 := B4.trans (below_set W4 tb (putAt (dC ⟨t.L, ⟨t.now.p, q.r, q.n, q.z⟩, t.first, t.kept, t.size⟩ vL (.slice (some ⟨g, 0, none⟩) (l ++ [q]).length cr)).toArray 75 [.slice (some ⟨g, 0, none⟩) l.length cr]) h.lo)
  refine wpList_nil ?_
  generalize W4.setRow tb (putAt (dC ⟨t.L, ⟨t.now.p, q.r, q.n, q.z⟩, t.first, t.kept, t.size⟩ vL (.slice (some ⟨g, 0, none⟩) (l ++ [q]).length cr)).toArray 75 [.slice (some ⟨g, 0, none⟩) l.length cr]) = W5 at *
  clear hcc
  go_wp2_with fail
  go_ret
  exact ⟨rfl, B5, _, _, T5⟩


set_option maxRecDepth 10000 in
set_option maxHeartbeats 1000000 in
theorem tone_1p {base tb : Nat} {w : World} {t : Tb} {vL vK : Value} (h : TD base w tb t vL vK) (r n : Int) (hm : mayB ⟨1, r, n⟩ = true) (hpos : 0 < n) (hn1 : n < 2147483648) (hp0 : 0 ≤ t.now.p) (hp1 : t.now.p ≤ 1048576) (hLn : t.L.length ≤ 100000) :
    Calls Tryd.prog 87 #[.pointer (some ⟨tb, 0, none⟩), .agg (oqD 1 r n), .bool false] w fun e w' => e = .returned (.bool (decide (t.now.p + n ≤ t.size))) ∧ Below base w w' ∧ ∃ vL vK, TD base w' tb ⟨t.L ++ [t.now], ⟨t.now.p + n, t.now.r, t.now.n, t.now.z⟩, t.first, t.kept, t.size⟩ vL vK := by
  have HB : Below w.heap.size w (w.alloc (.cells (oqD 1 r n) 103)) := (Below.refl _ _).alloc (Nat.le_refl _) _
  have H1 := h.bel HB
  have O1 : Bk (w.alloc (.cells (oqD 1 r n) 103)) w.heap.size 103 (oqD 1 r n) := Bk.new w _ _
  have hne : w.heap.size ≠ tb := by have := h.bk.lt; omega
  have hbs : base ≤ w.heap.size := Nat.le_trans h.lo (Nat.le_of_lt h.bk.lt)
  have HBb := HB.mono hbs
  have hnrW : vL.ownBlock ≠ some w.heap.size := fun e => by have := ownV_lt h.L e; omega
  have hnkW : vK.ownBlock ≠ some w.heap.size := fun e => by have := ownV_lt h.K e; omega
  obtain ⟨ar, cr, hvr, _⟩ := h.L.any
  have HM : Hid (∀ W : World, Calls Tryd.prog 82 #[.agg (oqD 1 r n)] W fun e w' => e = .returned (.bool (mayB ⟨1, r, n⟩)) ∧ Below W.heap.size W w') := ⟨fun W => may_any 1 r n W⟩
  rw [hm] at HM
  go_enter Tryd.func87, Tryd.ntmps87
  go_upto_region 1 with fail
  have HH1 : Hid _ := ⟨H1⟩
  have HO1 : Hid _ := ⟨O1⟩
  have HBB1 : Hid _ := ⟨HBb⟩
  have d0 := O1.cell 0 rfl
  have d1 := O1.cell 1 rfl
  have d2 := O1.cell 2 rfl
  clear H1 O1 HBb HB
  generalize w.alloc (.cells (oqD 1 r n) 103) = W1 at *
  go_upto_region 3 with (go_at_call 82; (with_reducible refine (HM.out _).mono ?_); rintro e w2 ⟨he, hb2⟩; subst he; have HB2 : Hid _ := ⟨hb2⟩; have d0 := (HO1.out.bel hb2 HO1.out.lt).cell 0 rfl; clear hb2)
  have T2 := HH1.out.bel HB2.out
  have O2 := HO1.out.bel HB2.out HO1.out.lt
  have hb1s : base ≤ W1.heap.size := Nat.le_trans hbs (Nat.le_of_lt HO1.out.lt)
  have B2 := HBB1.out.trans (HB2.out.mono hb1s)
  have e0 := O2.cell 0 rfl
  have e1 := O2.cell 1 rfl
  have e2 := O2.cell 2 rfl
  clear HM HH1 HO1 HBB1 HB2 d0 d1 d2
  go_upto_region 6 with fail
  have H4 := T2.bel ((Below.refl w2.heap.size w2).drew)
  have B4 := B2.trans ((Below.refl base w2).drew)
  have O4 : Bk w2.drew w.heap.size 103 (oqD 1 r n) := O2.of rfl
  have hb4 : base ≤ w2.drew.heap.size := Nat.le_trans h.lo (Nat.le_of_lt H4.bk.lt)
  refine wp_region_held_drew (S := fun u => u.rangeAt tb 1 t.now.cells) (by kernel_rfl) H4.rnow (fun hS => ?_)
  clear e0 e1 e2 T2 B2 O2
  generalize w2.drew = W4 at *
  have B5 : Below W4.heap.size W4 (W4.alloc (.cells t.now.cells.toArray 143)) := (Below.refl _ _).alloc (Nat.le_refl _) _
  have H5 := H4.bel B5
  have N5 : Bk (W4.alloc (.cells t.now.cells.toArray 143)) W4.heap.size 143 t.now.cells.toArray := Bk.new _ _ _
  have hb5 : base ≤ (W4.alloc (.cells t.now.cells.toArray 143)).heap.size := Nat.le_trans hb4 B5.size
  refine wpAnyH_take (i := 0) (v := .pointer (some ⟨tb, 0, none⟩)) rfl (by kernel_rfl) (by kernel_rfl) (by kernel_rfl) (fun _ _ _ h => h) (Or.inl ⟨by kernel_rfl, fun u hu => by kernel_rfl⟩) hS ?_
  simp only [Act.put, List.getElem_toArray, List.getElem_cons_succ, List.getElem_cons_zero, List.setIfInBounds_toArray, List.set_cons_zero, List.set_cons_succ]
  refine wpAnyH_take (i := 1) (v := .pointer (some ⟨tb, 0, none⟩)) rfl (by kernel_rfl) (by kernel_rfl) (by kernel_rfl) (fun _ _ _ h => h) (Or.inl ⟨by kernel_rfl, fun u hu => by kernel_rfl⟩) hS ?_
  simp only [Act.put, List.getElem_toArray, List.getElem_cons_succ, List.getElem_cons_zero, List.setIfInBounds_toArray, List.set_cons_zero, List.set_cons_succ]
  refine wpAnyH_take (i := 2) (v := .pointer (some ⟨tb, 0, none⟩)) rfl (by kernel_rfl) (by kernel_rfl) (by kernel_rfl) (fun _ _ _ h => h) (Or.inl ⟨by kernel_rfl, fun u hu => by kernel_rfl⟩) hS ?_
  simp only [Act.put, List.getElem_toArray, List.getElem_cons_succ, List.getElem_cons_zero, List.setIfInBounds_toArray, List.set_cons_zero, List.set_cons_succ]
  refine wpAnyH_take (i := 3) (v := .pointer (some ⟨tb, 0, none⟩)) rfl (by kernel_rfl) (by kernel_rfl) (by kernel_rfl) (fun _ _ _ h => h) (Or.inl ⟨by kernel_rfl, fun u hu => by kernel_rfl⟩) hS ?_
  simp only [Act.put, List.getElem_toArray, List.getElem_cons_succ, List.getElem_cons_zero, List.setIfInBounds_toArray, List.set_cons_zero, List.set_cons_succ]
  refine wpAnyH_take (i := 5) (v := .pointer (some ⟨tb, 0, none⟩)) rfl (by kernel_rfl) (by kernel_rfl) (by kernel_rfl) (fun _ _ _ h => h) (Or.inl ⟨by kernel_rfl, fun u hu => by kernel_rfl⟩) hS ?_
  simp only [Act.put, List.getElem_toArray, List.getElem_cons_succ, List.getElem_cons_zero, List.setIfInBounds_toArray, List.set_cons_zero, List.set_cons_succ]
  refine wpAnyH_take (i := 6) (v := .pointer (some ⟨tb, 0, none⟩)) rfl (by kernel_rfl) (by kernel_rfl) (by kernel_rfl) (fun _ _ _ h => h) (Or.inl ⟨by kernel_rfl, fun u hu => by kernel_rfl⟩) hS ?_
  simp only [Act.put, List.getElem_toArray, List.getElem_cons_succ, List.getElem_cons_zero, List.setIfInBounds_toArray, List.set_cons_zero, List.set_cons_succ]
  refine wpAnyH_take (i := 7) (v := .pointer (some ⟨tb, 1, none⟩)) rfl (by kernel_rfl) (by kernel_rfl) (by kernel_rfl) (fun _ _ _ h => h) (Or.inl ⟨by kernel_rfl, fun u hu => by kernel_rfl⟩) hS ?_
  simp only [Act.put, List.getElem_toArray, List.getElem_cons_succ, List.getElem_cons_zero, List.setIfInBounds_toArray, List.set_cons_zero, List.set_cons_succ]
  refine wpAnyH_take (i := 8) (v := .agg t.now.cells.toArray) rfl (by kernel_rfl) (by kernel_rfl) (by kernel_rfl) (fun _ _ _ h => h) (Or.inl ⟨by kernel_rfl, fun u hu => exec_loadV (t := 143) (p := ⟨tb, 1, none⟩) rfl (by kernel_rfl) (load_rowD h.wf.now hu)⟩) hS ?_
  simp only [Act.put, List.getElem_toArray, List.getElem_cons_succ, List.getElem_cons_zero, List.setIfInBounds_toArray, List.set_cons_zero, List.set_cons_succ]
  refine wpAnyH_ready (rs := [4, 9]) (by kernel_rfl) (by simp) ?_
  refine AllReadyH.cons rfl (fun K hK => ?_) (AllReadyH.cons rfl (fun K hK => ?_) AllReadyH.nil)
  · simp only [List.getElem_toArray, List.getElem_cons_succ, List.getElem_cons_zero]
    refine wp_if (by kernel_rfl) ?_
    refine wp_val (v := .slice ar t.L.length cr) (exec_loadV (t := 109) (p := ⟨tb, 0, none⟩) rfl (by kernel_rfl) (load_rowsD (H4.rows1 hvr))) ?_
    refine hK.out _ _ H4.rnow (fun hS => ?_)
    clear hK
    simp only [Act.put, List.getElem_toArray, List.getElem_cons_succ, List.getElem_cons_zero, List.setIfInBounds_toArray, List.set_cons_zero, List.set_cons_succ]
    refine wpAnyH_ready (rs := [9]) (by kernel_rfl) (by simp) ?_
    refine AllReadyH.cons rfl (fun K hK => ?_) AllReadyH.nil
    simp only [List.getElem_toArray, List.getElem_cons_succ, List.getElem_cons_zero]
    refine wp_if (by kernel_rfl) ?_
    refine wp_val (v := .slice (some ⟨W4.heap.size, 0, none⟩) 1 1) (exec_build_rowD W4 t.now h.wf.now rfl (by kernel_rfl)) ?_
    refine hK.out _ _ H5.rnow (fun hS => ?_)
    clear hK
    simp only [Act.put, List.getElem_toArray, List.getElem_cons_succ, List.getElem_cons_zero, List.setIfInBounds_toArray, List.set_cons_zero, List.set_cons_succ]
    refine wpAnyH_ready (rs := [10]) (by kernel_rfl) (by simp) ?_
    refine AllReadyH.cons rfl (fun K hK => ?_) AllReadyH.nil
    simp only [List.getElem_toArray, List.getElem_cons_succ, List.getElem_cons_zero]
    refine wp_if (by kernel_rfl) ?_
    refine wp_append_rowD rfl H5.L (by rw [hvr]; rfl) (by kernel_rfl) N5 h.wf.now hLn hb5 (fun v6 w6 ho6 hg hbk => ?_)
    have hnr : vL.ownBlock ≠ some tb := h.nr
    have bk6 : Bk w6 tb 145 (dC t vL vK).toArray := H5.bk.of (hg.block tb H5.bk.lt (Ne.symm hnr))
    have H7 := H4.grow B5 hg ho6 hbk
    have B7 : Below base w (w6.setRow tb (putAt (dC t vL vK).toArray 0 [v6])) := (B4.trans (B5.mono hb4)).trans ((bel_grown hg (fun k hk => (h.L.2.lt k hk).1) hb5).trans (below_set _ tb _ h.lo))
    have O7 : Bk (w6.setRow tb (putAt (dC t vL vK).toArray 0 [v6])) w.heap.size 103 (oqD 1 r n) := ((O4.bel B5 O4.lt).of (hg.block _ (by have := B5.size; have := O4.lt; omega) (Ne.symm hnrW))).setO hne _
    refine hK.out _ _ (rnow_grownD H5 hg hnr) (fun hS => ?_)
    clear hK
    simp only [Act.put, List.getElem_toArray, List.getElem_cons_succ, List.getElem_cons_zero, List.setIfInBounds_toArray, List.set_cons_zero, List.set_cons_succ]
    refine wpAnyH_take (i := 11) (v := .pointer (some ⟨tb, 0, none⟩)) rfl (by kernel_rfl) (by kernel_rfl) (by kernel_rfl) (fun _ _ _ h => h) (Or.inl ⟨by kernel_rfl, fun u hu => by kernel_rfl⟩) hS ?_
    simp only [Act.put, List.getElem_toArray, List.getElem_cons_succ, List.getElem_cons_zero, List.setIfInBounds_toArray, List.set_cons_zero, List.set_cons_succ]
    refine wpAnyH_take (i := 12) (v := .pointer (some ⟨tb, 0, none⟩)) rfl (by kernel_rfl) (by kernel_rfl) (by kernel_rfl) (fun _ _ _ h => h) (Or.inl ⟨by kernel_rfl, fun u hu => by kernel_rfl⟩) hS ?_
    simp only [Act.put, List.getElem_toArray, List.getElem_cons_succ, List.getElem_cons_zero, List.setIfInBounds_toArray, List.set_cons_zero, List.set_cons_succ]
    refine wpAnyH_ready (rs := [13]) (by kernel_rfl) (by simp) ?_
    refine AllReadyH.cons rfl (fun K hK => ?_) AllReadyH.nil
    simp only [List.getElem_toArray, List.getElem_cons_succ, List.getElem_cons_zero]
    refine wp_if (by kernel_rfl) ?_
    obtain ⟨a6, c6, hv6, _⟩ := ho6.any
    refine wp_part (g := tb) (off := 0) (val := v6) rfl (by kernel_rfl) (by kernel_rfl) bk6 (by rw [hv6, sizeRwsD]; rfl) (by rw [H5.len, hv6]; show 0 + 1 ≤ 77; omega) (by rw [hv6]; exact slice_one _ _ _) rfl ?_
    have ev : v6.cells.toList = [v6] := by rw [hv6]; rfl
    rw [ev]
    refine hK.out _ _ H7.rnow (fun _ => ?_)
    clear hK
    simp only [Act.put, List.getElem_toArray, List.getElem_cons_succ, List.getElem_cons_zero, List.setIfInBounds_toArray, List.set_cons_zero, List.set_cons_succ]
    refine wpAnyH_done (by kernel_rfl) ?_ _
    clear ev hv6 bk6
    have HH7 : Hid _ := ⟨H7⟩
    generalize w6.setRow tb (putAt (dC t vL vK).toArray 0 [v6]) = W7 at *
    go_upto_region 7 with fail
    have TD7 := H7.bel ((Below.refl W7.heap.size W7).drew)
    have BD7 := B7.trans ((Below.refl base W7).drew)
    have OD7 : Bk W7.drew w.heap.size 103 (oqD 1 r n) := O7.of rfl
    refine wp_region_held_drew (S := fun u => Bk u w.heap.size 103 (oqD 1 r n)) (by kernel_rfl) OD7 (fun hS => ?_)
    generalize W7.drew = W9 at *
    refine wpAnyH_take (i := 0) (v := .pointer (some ⟨tb, 0, none⟩)) rfl (by kernel_rfl) (by kernel_rfl) (by kernel_rfl) (fun _ _ _ h => h) (Or.inl ⟨by kernel_rfl, fun u hu => by kernel_rfl⟩) hS ?_
    simp only [Act.put, List.getElem_toArray, List.getElem_cons_succ, List.getElem_cons_zero, List.setIfInBounds_toArray, List.set_cons_zero, List.set_cons_succ]
    refine wpAnyH_take (i := 1) (v := .pointer (some ⟨tb, 0, none⟩)) rfl (by kernel_rfl) (by kernel_rfl) (by kernel_rfl) (fun _ _ _ h => h) (Or.inl ⟨by kernel_rfl, fun u hu => by kernel_rfl⟩) hS ?_
    simp only [Act.put, List.getElem_toArray, List.getElem_cons_succ, List.getElem_cons_zero, List.setIfInBounds_toArray, List.set_cons_zero, List.set_cons_succ]
    refine wpAnyH_take (i := 2) (v := .pointer (some ⟨tb, 0, none⟩)) rfl (by kernel_rfl) (by kernel_rfl) (by kernel_rfl) (fun _ _ _ h => h) (Or.inl ⟨by kernel_rfl, fun u hu => by kernel_rfl⟩) hS ?_
    simp only [Act.put, List.getElem_toArray, List.getElem_cons_succ, List.getElem_cons_zero, List.setIfInBounds_toArray, List.set_cons_zero, List.set_cons_succ]
    refine wpAnyH_take (i := 3) (v := .pointer (some ⟨tb, 1, none⟩)) rfl (by kernel_rfl) (by kernel_rfl) (by kernel_rfl) (fun _ _ _ h => h) (Or.inl ⟨by kernel_rfl, fun u hu => by kernel_rfl⟩) hS ?_
    simp only [Act.put, List.getElem_toArray, List.getElem_cons_succ, List.getElem_cons_zero, List.setIfInBounds_toArray, List.set_cons_zero, List.set_cons_succ]
    refine wpAnyH_take (i := 4) (v := .pointer (some ⟨tb, 1, none⟩)) rfl (by kernel_rfl) (by kernel_rfl) (by kernel_rfl) (fun _ _ _ h => h) (Or.inl ⟨by kernel_rfl, fun u hu => by kernel_rfl⟩) hS ?_
    simp only [Act.put, List.getElem_toArray, List.getElem_cons_succ, List.getElem_cons_zero, List.setIfInBounds_toArray, List.set_cons_zero, List.set_cons_succ]
    refine wpAnyH_take (i := 6) (v := .pointer (some ⟨w.heap.size, 2, none⟩)) rfl (by kernel_rfl) (by kernel_rfl) (by kernel_rfl) (fun _ _ _ h => h) (Or.inl ⟨by kernel_rfl, fun u hu => by kernel_rfl⟩) hS ?_
    simp only [Act.put, List.getElem_toArray, List.getElem_cons_succ, List.getElem_cons_zero, List.setIfInBounds_toArray, List.set_cons_zero, List.set_cons_succ]
    refine wpAnyH_take (i := 7) (v := .int .i64 n) rfl (by kernel_rfl) (by kernel_rfl) (by kernel_rfl) (fun _ _ _ h => h) (Or.inl ⟨by kernel_rfl, fun u hu => exec_loadV (t := 3) (p := ⟨w.heap.size, 2, none⟩) rfl (by kernel_rfl) (load_i64 (hu.cell 2 rfl))⟩) hS ?_
    simp only [Act.put, List.getElem_toArray, List.getElem_cons_succ, List.getElem_cons_zero, List.setIfInBounds_toArray, List.set_cons_zero, List.set_cons_succ]
    refine wpAnyH_ready (rs := [5]) (by kernel_rfl) (by simp) ?_
    refine AllReadyH.cons rfl (fun K hK => ?_) AllReadyH.nil
    simp only [List.getElem_toArray, List.getElem_cons_succ, List.getElem_cons_zero]
    refine wp_if (by kernel_rfl) ?_
    refine wp_val (v := .int .i64 t.now.p) (exec_loadV (t := 3) (p := ⟨tb, 1, none⟩) rfl (by kernel_rfl) (load_i64 TD7.p)) ?_
    refine hK.out _ _ OD7 (fun hS => ?_)
    clear hK
    simp only [Act.put, List.getElem_toArray, List.getElem_cons_succ, List.getElem_cons_zero, List.setIfInBounds_toArray, List.set_cons_zero, List.set_cons_succ]
    refine wpAnyH_take (i := 8) (v := .int .i64 (t.now.p + n)) rfl (by kernel_rfl) (by kernel_rfl) (by kernel_rfl) (fun _ _ _ h => h) (Or.inl ⟨by kernel_rfl, fun u hu => exec_add rfl (by kernel_rfl) (by kernel_rfl) (by omega) (by omega)⟩) hS ?_
    simp only [Act.put, List.getElem_toArray, List.getElem_cons_succ, List.getElem_cons_zero, List.setIfInBounds_toArray, List.set_cons_zero, List.set_cons_succ]
    refine wpAnyH_take (i := 9) (v := .pointer (some ⟨tb, 0, none⟩)) rfl (by kernel_rfl) (by kernel_rfl) (by kernel_rfl) (fun _ _ _ h => h) (Or.inl ⟨by kernel_rfl, fun u hu => by kernel_rfl⟩) hS ?_
    simp only [Act.put, List.getElem_toArray, List.getElem_cons_succ, List.getElem_cons_zero, List.setIfInBounds_toArray, List.set_cons_zero, List.set_cons_succ]
    refine wpAnyH_take (i := 10) (v := .pointer (some ⟨tb, 1, none⟩)) rfl (by kernel_rfl) (by kernel_rfl) (by kernel_rfl) (fun _ _ _ h => h) (Or.inl ⟨by kernel_rfl, fun u hu => by kernel_rfl⟩) hS ?_
    simp only [Act.put, List.getElem_toArray, List.getElem_cons_succ, List.getElem_cons_zero, List.setIfInBounds_toArray, List.set_cons_zero, List.set_cons_succ]
    refine wpAnyH_take (i := 11) (v := .pointer (some ⟨tb, 1, none⟩)) rfl (by kernel_rfl) (by kernel_rfl) (by kernel_rfl) (fun _ _ _ h => h) (Or.inl ⟨by kernel_rfl, fun u hu => by kernel_rfl⟩) hS ?_
    simp only [Act.put, List.getElem_toArray, List.getElem_cons_succ, List.getElem_cons_zero, List.setIfInBounds_toArray, List.set_cons_zero, List.set_cons_succ]
    refine wpAnyH_ready (rs := [12]) (by kernel_rfl) (by simp) ?_
    refine AllReadyH.cons rfl (fun K hK => ?_) AllReadyH.nil
    simp only [List.getElem_toArray, List.getElem_cons_succ, List.getElem_cons_zero]
    refine wp_if (by kernel_rfl) ?_
    refine wp_part (g := tb) (off := 1) (val := .int .i64 (t.now.p + n)) rfl (by kernel_rfl) (by kernel_rfl) TD7.bk (by rw [sizeInt]; rfl) (by rw [TD7.len]; show 1 + 1 ≤ 77; omega) (one_cells _) rfl ?_
    have ev : (Value.int .i64 (t.now.p + n)).cells.toList = [.int .i64 (t.now.p + n)] := rfl
    rw [ev]
    clear ev
    have TD9 := TD7.setP (t.now.p + n)
    have BD9 := BD7.trans (below_set W9 tb (putAt (dC ⟨t.L ++ [t.now], t.now, t.first, t.kept, t.size⟩ v6 vK).toArray 1 [.int .i64 (t.now.p + n)]) h.lo)
    refine hK.out _ _ (OD7.setO hne _) (fun _ => ?_)
    clear hK
    simp only [Act.put, List.getElem_toArray, List.getElem_cons_succ, List.getElem_cons_zero, List.setIfInBounds_toArray, List.set_cons_zero, List.set_cons_succ]
    refine wpAnyH_done (by kernel_rfl) ?_ _
    clear hS OD7 TD7 BD7 O7 H7 B7
    generalize W9.setRow tb (putAt (dC ⟨t.L ++ [t.now], t.now, t.first, t.kept, t.size⟩ v6 vK).toArray 1 [.int .i64 (t.now.p + n)]) = W10 at *
    go_upto_region 8 with fail
    have T8 := TD9.bel ((Below.refl W10.heap.size W10).drew)
    have B8 := BD9.trans ((Below.refl base W10).drew)
    have c8 := T8.p
    have s8 := T8.size
    try dsimp only at c8 s8
    refine wp_region_held_drew (S := fun u => u.cell? ⟨tb, 1, none⟩ = some (.int .i64 (t.now.p + n)) ∧ u.cell? ⟨tb, 76, none⟩ = some (.int .i64 t.size)) (by kernel_rfl) ⟨c8, s8⟩ (fun hS => ?_)
    generalize W10.drew = W8 at *
    refine wpAnyH_take (i := 0) (v := .pointer (some ⟨tb, 0, none⟩)) rfl (by kernel_rfl) (by kernel_rfl) (by kernel_rfl) (fun _ _ _ h => h) (Or.inl ⟨by kernel_rfl, fun u hu => by kernel_rfl⟩) hS ?_
    simp only [Act.put, List.getElem_toArray, List.getElem_cons_succ, List.getElem_cons_zero, List.setIfInBounds_toArray, List.set_cons_zero, List.set_cons_succ]
    refine wpAnyH_take (i := 1) (v := .pointer (some ⟨tb, 0, none⟩)) rfl (by kernel_rfl) (by kernel_rfl) (by kernel_rfl) (fun _ _ _ h => h) (Or.inl ⟨by kernel_rfl, fun u hu => by kernel_rfl⟩) hS ?_
    simp only [Act.put, List.getElem_toArray, List.getElem_cons_succ, List.getElem_cons_zero, List.setIfInBounds_toArray, List.set_cons_zero, List.set_cons_succ]
    refine wpAnyH_take (i := 2) (v := .pointer (some ⟨tb, 1, none⟩)) rfl (by kernel_rfl) (by kernel_rfl) (by kernel_rfl) (fun _ _ _ h => h) (Or.inl ⟨by kernel_rfl, fun u hu => by kernel_rfl⟩) hS ?_
    simp only [Act.put, List.getElem_toArray, List.getElem_cons_succ, List.getElem_cons_zero, List.setIfInBounds_toArray, List.set_cons_zero, List.set_cons_succ]
    refine wpAnyH_take (i := 3) (v := .pointer (some ⟨tb, 1, none⟩)) rfl (by kernel_rfl) (by kernel_rfl) (by kernel_rfl) (fun _ _ _ h => h) (Or.inl ⟨by kernel_rfl, fun u hu => by kernel_rfl⟩) hS ?_
    simp only [Act.put, List.getElem_toArray, List.getElem_cons_succ, List.getElem_cons_zero, List.setIfInBounds_toArray, List.set_cons_zero, List.set_cons_succ]
    refine wpAnyH_take (i := 4) (v := .int .i64 (t.now.p + n)) rfl (by kernel_rfl) (by kernel_rfl) (by kernel_rfl) (fun _ _ _ h => h) (Or.inl ⟨by kernel_rfl, fun u hu => exec_loadV (t := 3) (p := ⟨tb, 1, none⟩) rfl (by kernel_rfl) (load_i64 hu.1)⟩) hS ?_
    simp only [Act.put, List.getElem_toArray, List.getElem_cons_succ, List.getElem_cons_zero, List.setIfInBounds_toArray, List.set_cons_zero, List.set_cons_succ]
    refine wpAnyH_take (i := 5) (v := .pointer (some ⟨tb, 0, none⟩)) rfl (by kernel_rfl) (by kernel_rfl) (by kernel_rfl) (fun _ _ _ h => h) (Or.inl ⟨by kernel_rfl, fun u hu => by kernel_rfl⟩) hS ?_
    simp only [Act.put, List.getElem_toArray, List.getElem_cons_succ, List.getElem_cons_zero, List.setIfInBounds_toArray, List.set_cons_zero, List.set_cons_succ]
    refine wpAnyH_take (i := 6) (v := .pointer (some ⟨tb, 0, none⟩)) rfl (by kernel_rfl) (by kernel_rfl) (by kernel_rfl) (fun _ _ _ h => h) (Or.inl ⟨by kernel_rfl, fun u hu => by kernel_rfl⟩) hS ?_
    simp only [Act.put, List.getElem_toArray, List.getElem_cons_succ, List.getElem_cons_zero, List.setIfInBounds_toArray, List.set_cons_zero, List.set_cons_succ]
    refine wpAnyH_take (i := 7) (v := .pointer (some ⟨tb, 76, none⟩)) rfl (by kernel_rfl) (by kernel_rfl) (by kernel_rfl) (fun _ _ _ h => h) (Or.inl ⟨by kernel_rfl, fun u hu => by kernel_rfl⟩) hS ?_
    simp only [Act.put, List.getElem_toArray, List.getElem_cons_succ, List.getElem_cons_zero, List.setIfInBounds_toArray, List.set_cons_zero, List.set_cons_succ]
    refine wpAnyH_take (i := 8) (v := .int .i64 t.size) rfl (by kernel_rfl) (by kernel_rfl) (by kernel_rfl) (fun _ _ _ h => h) (Or.inl ⟨by kernel_rfl, fun u hu => exec_loadV (t := 3) (p := ⟨tb, 76, none⟩) rfl (by kernel_rfl) (load_i64 hu.2)⟩) hS ?_
    simp only [Act.put, List.getElem_toArray, List.getElem_cons_succ, List.getElem_cons_zero, List.setIfInBounds_toArray, List.set_cons_zero, List.set_cons_succ]
    refine wpAnyH_take (i := 9) (v := .bool (decide ((t.now.p + n) ≤ t.size))) rfl (by kernel_rfl) (by kernel_rfl) (by kernel_rfl) (fun _ _ _ h => h) (Or.inl ⟨by kernel_rfl, fun u hu => by kernel_rfl⟩) hS ?_
    simp only [Act.put, List.getElem_toArray, List.getElem_cons_succ, List.getElem_cons_zero, List.setIfInBounds_toArray, List.set_cons_zero, List.set_cons_succ]
    refine wpAnyH_take (i := 10) (v := .bool (decide ((t.now.p + n) ≤ t.size))) rfl (by kernel_rfl) (by kernel_rfl) (by kernel_rfl) (fun _ _ _ h => h) (Or.inl ⟨by kernel_rfl, fun u hu => by kernel_rfl⟩) hS ?_
    simp only [Act.put, List.getElem_toArray, List.getElem_cons_succ, List.getElem_cons_zero, List.setIfInBounds_toArray, List.set_cons_zero, List.set_cons_succ]
    refine wpAnyH_done (by kernel_rfl) ?_ _
    have HT8 : Hid _ := ⟨T8⟩
    have HB8 : Hid _ := ⟨B8⟩
    clear T8 B8 c8 s8 hS
    go_wp2_with fail
    go_ret
    exact ⟨rfl, HB8.out, _, _, HT8.out⟩
  · simp only [List.getElem_toArray, List.getElem_cons_succ, List.getElem_cons_zero]
    refine wp_if (by kernel_rfl) ?_
    refine wp_val (v := .slice (some ⟨W4.heap.size, 0, none⟩) 1 1) (exec_build_rowD W4 t.now h.wf.now rfl (by kernel_rfl)) ?_
    refine hK.out _ _ H5.rnow (fun hS => ?_)
    clear hK
    simp only [Act.put, List.getElem_toArray, List.getElem_cons_succ, List.getElem_cons_zero, List.setIfInBounds_toArray, List.set_cons_zero, List.set_cons_succ]
    refine wpAnyH_ready (rs := [4]) (by kernel_rfl) (by simp) ?_
    refine AllReadyH.cons rfl (fun K hK => ?_) AllReadyH.nil
    simp only [List.getElem_toArray, List.getElem_cons_succ, List.getElem_cons_zero]
    refine wp_if (by kernel_rfl) ?_
    refine wp_val (v := .slice ar t.L.length cr) (exec_loadV (t := 109) (p := ⟨tb, 0, none⟩) rfl (by kernel_rfl) (load_rowsD (H5.rows1 hvr))) ?_
    refine hK.out _ _ H5.rnow (fun hS => ?_)
    clear hK
    simp only [Act.put, List.getElem_toArray, List.getElem_cons_succ, List.getElem_cons_zero, List.setIfInBounds_toArray, List.set_cons_zero, List.set_cons_succ]
    refine wpAnyH_ready (rs := [10]) (by kernel_rfl) (by simp) ?_
    refine AllReadyH.cons rfl (fun K hK => ?_) AllReadyH.nil
    simp only [List.getElem_toArray, List.getElem_cons_succ, List.getElem_cons_zero]
    refine wp_if (by kernel_rfl) ?_
    refine wp_append_rowD rfl H5.L (by rw [hvr]; rfl) (by kernel_rfl) N5 h.wf.now hLn hb5 (fun v6 w6 ho6 hg hbk => ?_)
    have hnr : vL.ownBlock ≠ some tb := h.nr
    have bk6 : Bk w6 tb 145 (dC t vL vK).toArray := H5.bk.of (hg.block tb H5.bk.lt (Ne.symm hnr))
    have H7 := H4.grow B5 hg ho6 hbk
    have B7 : Below base w (w6.setRow tb (putAt (dC t vL vK).toArray 0 [v6])) := (B4.trans (B5.mono hb4)).trans ((bel_grown hg (fun k hk => (h.L.2.lt k hk).1) hb5).trans (below_set _ tb _ h.lo))
    have O7 : Bk (w6.setRow tb (putAt (dC t vL vK).toArray 0 [v6])) w.heap.size 103 (oqD 1 r n) := ((O4.bel B5 O4.lt).of (hg.block _ (by have := B5.size; have := O4.lt; omega) (Ne.symm hnrW))).setO hne _
    refine hK.out _ _ (rnow_grownD H5 hg hnr) (fun hS => ?_)
    clear hK
    simp only [Act.put, List.getElem_toArray, List.getElem_cons_succ, List.getElem_cons_zero, List.setIfInBounds_toArray, List.set_cons_zero, List.set_cons_succ]
    refine wpAnyH_take (i := 11) (v := .pointer (some ⟨tb, 0, none⟩)) rfl (by kernel_rfl) (by kernel_rfl) (by kernel_rfl) (fun _ _ _ h => h) (Or.inl ⟨by kernel_rfl, fun u hu => by kernel_rfl⟩) hS ?_
    simp only [Act.put, List.getElem_toArray, List.getElem_cons_succ, List.getElem_cons_zero, List.setIfInBounds_toArray, List.set_cons_zero, List.set_cons_succ]
    refine wpAnyH_take (i := 12) (v := .pointer (some ⟨tb, 0, none⟩)) rfl (by kernel_rfl) (by kernel_rfl) (by kernel_rfl) (fun _ _ _ h => h) (Or.inl ⟨by kernel_rfl, fun u hu => by kernel_rfl⟩) hS ?_
    simp only [Act.put, List.getElem_toArray, List.getElem_cons_succ, List.getElem_cons_zero, List.setIfInBounds_toArray, List.set_cons_zero, List.set_cons_succ]
    refine wpAnyH_ready (rs := [13]) (by kernel_rfl) (by simp) ?_
    refine AllReadyH.cons rfl (fun K hK => ?_) AllReadyH.nil
    simp only [List.getElem_toArray, List.getElem_cons_succ, List.getElem_cons_zero]
    refine wp_if (by kernel_rfl) ?_
    obtain ⟨a6, c6, hv6, _⟩ := ho6.any
    refine wp_part (g := tb) (off := 0) (val := v6) rfl (by kernel_rfl) (by kernel_rfl) bk6 (by rw [hv6, sizeRwsD]; rfl) (by rw [H5.len, hv6]; show 0 + 1 ≤ 77; omega) (by rw [hv6]; exact slice_one _ _ _) rfl ?_
    have ev : v6.cells.toList = [v6] := by rw [hv6]; rfl
    rw [ev]
    refine hK.out _ _ H7.rnow (fun _ => ?_)
    clear hK
    simp only [Act.put, List.getElem_toArray, List.getElem_cons_succ, List.getElem_cons_zero, List.setIfInBounds_toArray, List.set_cons_zero, List.set_cons_succ]
    refine wpAnyH_done (by kernel_rfl) ?_ _
    clear ev hv6 bk6
    have HH7 : Hid _ := ⟨H7⟩
    generalize w6.setRow tb (putAt (dC t vL vK).toArray 0 [v6]) = W7 at *
    go_upto_region 7 with fail
    have TD7 := H7.bel ((Below.refl W7.heap.size W7).drew)
    have BD7 := B7.trans ((Below.refl base W7).drew)
    have OD7 : Bk W7.drew w.heap.size 103 (oqD 1 r n) := O7.of rfl
    refine wp_region_held_drew (S := fun u => Bk u w.heap.size 103 (oqD 1 r n)) (by kernel_rfl) OD7 (fun hS => ?_)
    generalize W7.drew = W9 at *
    refine wpAnyH_take (i := 0) (v := .pointer (some ⟨tb, 0, none⟩)) rfl (by kernel_rfl) (by kernel_rfl) (by kernel_rfl) (fun _ _ _ h => h) (Or.inl ⟨by kernel_rfl, fun u hu => by kernel_rfl⟩) hS ?_
    simp only [Act.put, List.getElem_toArray, List.getElem_cons_succ, List.getElem_cons_zero, List.setIfInBounds_toArray, List.set_cons_zero, List.set_cons_succ]
    refine wpAnyH_take (i := 1) (v := .pointer (some ⟨tb, 0, none⟩)) rfl (by kernel_rfl) (by kernel_rfl) (by kernel_rfl) (fun _ _ _ h => h) (Or.inl ⟨by kernel_rfl, fun u hu => by kernel_rfl⟩) hS ?_
    simp only [Act.put, List.getElem_toArray, List.getElem_cons_succ, List.getElem_cons_zero, List.setIfInBounds_toArray, List.set_cons_zero, List.set_cons_succ]
    refine wpAnyH_take (i := 2) (v := .pointer (some ⟨tb, 0, none⟩)) rfl (by kernel_rfl) (by kernel_rfl) (by kernel_rfl) (fun _ _ _ h => h) (Or.inl ⟨by kernel_rfl, fun u hu => by kernel_rfl⟩) hS ?_
    simp only [Act.put, List.getElem_toArray, List.getElem_cons_succ, List.getElem_cons_zero, List.setIfInBounds_toArray, List.set_cons_zero, List.set_cons_succ]
    refine wpAnyH_take (i := 3) (v := .pointer (some ⟨tb, 1, none⟩)) rfl (by kernel_rfl) (by kernel_rfl) (by kernel_rfl) (fun _ _ _ h => h) (Or.inl ⟨by kernel_rfl, fun u hu => by kernel_rfl⟩) hS ?_
    simp only [Act.put, List.getElem_toArray, List.getElem_cons_succ, List.getElem_cons_zero, List.setIfInBounds_toArray, List.set_cons_zero, List.set_cons_succ]
    refine wpAnyH_take (i := 4) (v := .pointer (some ⟨tb, 1, none⟩)) rfl (by kernel_rfl) (by kernel_rfl) (by kernel_rfl) (fun _ _ _ h => h) (Or.inl ⟨by kernel_rfl, fun u hu => by kernel_rfl⟩) hS ?_
    simp only [Act.put, List.getElem_toArray, List.getElem_cons_succ, List.getElem_cons_zero, List.setIfInBounds_toArray, List.set_cons_zero, List.set_cons_succ]
    refine wpAnyH_take (i := 6) (v := .pointer (some ⟨w.heap.size, 2, none⟩)) rfl (by kernel_rfl) (by kernel_rfl) (by kernel_rfl) (fun _ _ _ h => h) (Or.inl ⟨by kernel_rfl, fun u hu => by kernel_rfl⟩) hS ?_
    simp only [Act.put, List.getElem_toArray, List.getElem_cons_succ, List.getElem_cons_zero, List.setIfInBounds_toArray, List.set_cons_zero, List.set_cons_succ]
    refine wpAnyH_take (i := 7) (v := .int .i64 n) rfl (by kernel_rfl) (by kernel_rfl) (by kernel_rfl) (fun _ _ _ h => h) (Or.inl ⟨by kernel_rfl, fun u hu => exec_loadV (t := 3) (p := ⟨w.heap.size, 2, none⟩) rfl (by kernel_rfl) (load_i64 (hu.cell 2 rfl))⟩) hS ?_
    simp only [Act.put, List.getElem_toArray, List.getElem_cons_succ, List.getElem_cons_zero, List.setIfInBounds_toArray, List.set_cons_zero, List.set_cons_succ]
    refine wpAnyH_ready (rs := [5]) (by kernel_rfl) (by simp) ?_
    refine AllReadyH.cons rfl (fun K hK => ?_) AllReadyH.nil
    simp only [List.getElem_toArray, List.getElem_cons_succ, List.getElem_cons_zero]
    refine wp_if (by kernel_rfl) ?_
    refine wp_val (v := .int .i64 t.now.p) (exec_loadV (t := 3) (p := ⟨tb, 1, none⟩) rfl (by kernel_rfl) (load_i64 TD7.p)) ?_
    refine hK.out _ _ OD7 (fun hS => ?_)
    clear hK
    simp only [Act.put, List.getElem_toArray, List.getElem_cons_succ, List.getElem_cons_zero, List.setIfInBounds_toArray, List.set_cons_zero, List.set_cons_succ]
    refine wpAnyH_take (i := 8) (v := .int .i64 (t.now.p + n)) rfl (by kernel_rfl) (by kernel_rfl) (by kernel_rfl) (fun _ _ _ h => h) (Or.inl ⟨by kernel_rfl, fun u hu => exec_add rfl (by kernel_rfl) (by kernel_rfl) (by omega) (by omega)⟩) hS ?_
    simp only [Act.put, List.getElem_toArray, List.getElem_cons_succ, List.getElem_cons_zero, List.setIfInBounds_toArray, List.set_cons_zero, List.set_cons_succ]
    refine wpAnyH_take (i := 9) (v := .pointer (some ⟨tb, 0, none⟩)) rfl (by kernel_rfl) (by kernel_rfl) (by kernel_rfl) (fun _ _ _ h => h) (Or.inl ⟨by kernel_rfl, fun u hu => by kernel_rfl⟩) hS ?_
    simp only [Act.put, List.getElem_toArray, List.getElem_cons_succ, List.getElem_cons_zero, List.setIfInBounds_toArray, List.set_cons_zero, List.set_cons_succ]
    refine wpAnyH_take (i := 10) (v := .pointer (some ⟨tb, 1, none⟩)) rfl (by kernel_rfl) (by kernel_rfl) (by kernel_rfl) (fun _ _ _ h => h) (Or.inl ⟨by kernel_rfl, fun u hu => by kernel_rfl⟩) hS ?_
    simp only [Act.put, List.getElem_toArray, List.getElem_cons_succ, List.getElem_cons_zero, List.setIfInBounds_toArray, List.set_cons_zero, List.set_cons_succ]
    refine wpAnyH_take (i := 11) (v := .pointer (some ⟨tb, 1, none⟩)) rfl (by kernel_rfl) (by kernel_rfl) (by kernel_rfl) (fun _ _ _ h => h) (Or.inl ⟨by kernel_rfl, fun u hu => by kernel_rfl⟩) hS ?_
    simp only [Act.put, List.getElem_toArray, List.getElem_cons_succ, List.getElem_cons_zero, List.setIfInBounds_toArray, List.set_cons_zero, List.set_cons_succ]
    refine wpAnyH_ready (rs := [12]) (by kernel_rfl) (by simp) ?_
    refine AllReadyH.cons rfl (fun K hK => ?_) AllReadyH.nil
    simp only [List.getElem_toArray, List.getElem_cons_succ, List.getElem_cons_zero]
    refine wp_if (by kernel_rfl) ?_
    refine wp_part (g := tb) (off := 1) (val := .int .i64 (t.now.p + n)) rfl (by kernel_rfl) (by kernel_rfl) TD7.bk (by rw [sizeInt]; rfl) (by rw [TD7.len]; show 1 + 1 ≤ 77; omega) (one_cells _) rfl ?_
    have ev : (Value.int .i64 (t.now.p + n)).cells.toList = [.int .i64 (t.now.p + n)] := rfl
    rw [ev]
    clear ev
    have TD9 := TD7.setP (t.now.p + n)
    have BD9 := BD7.trans (below_set W9 tb (putAt (dC ⟨t.L ++ [t.now], t.now, t.first, t.kept, t.size⟩ v6 vK).toArray 1 [.int .i64 (t.now.p + n)]) h.lo)
    refine hK.out _ _ (OD7.setO hne _) (fun _ => ?_)
    clear hK
    simp only [Act.put, List.getElem_toArray, List.getElem_cons_succ, List.getElem_cons_zero, List.setIfInBounds_toArray, List.set_cons_zero, List.set_cons_succ]
    refine wpAnyH_done (by kernel_rfl) ?_ _
    clear hS OD7 TD7 BD7 O7 H7 B7
    generalize W9.setRow tb (putAt (dC ⟨t.L ++ [t.now], t.now, t.first, t.kept, t.size⟩ v6 vK).toArray 1 [.int .i64 (t.now.p + n)]) = W10 at *
    go_upto_region 8 with fail
    have T8 := TD9.bel ((Below.refl W10.heap.size W10).drew)
    have B8 := BD9.trans ((Below.refl base W10).drew)
    have c8 := T8.p
    have s8 := T8.size
    try dsimp only at c8 s8
    refine wp_region_held_drew (S := fun u => u.cell? ⟨tb, 1, none⟩ = some (.int .i64 (t.now.p + n)) ∧ u.cell? ⟨tb, 76, none⟩ = some (.int .i64 t.size)) (by kernel_rfl) ⟨c8, s8⟩ (fun hS => ?_)
    generalize W10.drew = W8 at *
    refine wpAnyH_take (i := 0) (v := .pointer (some ⟨tb, 0, none⟩)) rfl (by kernel_rfl) (by kernel_rfl) (by kernel_rfl) (fun _ _ _ h => h) (Or.inl ⟨by kernel_rfl, fun u hu => by kernel_rfl⟩) hS ?_
    simp only [Act.put, List.getElem_toArray, List.getElem_cons_succ, List.getElem_cons_zero, List.setIfInBounds_toArray, List.set_cons_zero, List.set_cons_succ]
    refine wpAnyH_take (i := 1) (v := .pointer (some ⟨tb, 0, none⟩)) rfl (by kernel_rfl) (by kernel_rfl) (by kernel_rfl) (fun _ _ _ h => h) (Or.inl ⟨by kernel_rfl, fun u hu => by kernel_rfl⟩) hS ?_
    simp only [Act.put, List.getElem_toArray, List.getElem_cons_succ, List.getElem_cons_zero, List.setIfInBounds_toArray, List.set_cons_zero, List.set_cons_succ]
    refine wpAnyH_take (i := 2) (v := .pointer (some ⟨tb, 1, none⟩)) rfl (by kernel_rfl) (by kernel_rfl) (by kernel_rfl) (fun _ _ _ h => h) (Or.inl ⟨by kernel_rfl, fun u hu => by kernel_rfl⟩) hS ?_
    simp only [Act.put, List.getElem_toArray, List.getElem_cons_succ, List.getElem_cons_zero, List.setIfInBounds_toArray, List.set_cons_zero, List.set_cons_succ]
    refine wpAnyH_take (i := 3) (v := .pointer (some ⟨tb, 1, none⟩)) rfl (by kernel_rfl) (by kernel_rfl) (by kernel_rfl) (fun _ _ _ h => h) (Or.inl ⟨by kernel_rfl, fun u hu => by kernel_rfl⟩) hS ?_
    simp only [Act.put, List.getElem_toArray, List.getElem_cons_succ, List.getElem_cons_zero, List.setIfInBounds_toArray, List.set_cons_zero, List.set_cons_succ]
    refine wpAnyH_take (i := 4) (v := .int .i64 (t.now.p + n)) rfl (by kernel_rfl) (by kernel_rfl) (by kernel_rfl) (fun _ _ _ h => h) (Or.inl ⟨by kernel_rfl, fun u hu => exec_loadV (t := 3) (p := ⟨tb, 1, none⟩) rfl (by kernel_rfl) (load_i64 hu.1)⟩) hS ?_
    simp only [Act.put, List.getElem_toArray, List.getElem_cons_succ, List.getElem_cons_zero, List.setIfInBounds_toArray, List.set_cons_zero, List.set_cons_succ]
    refine wpAnyH_take (i := 5) (v := .pointer (some ⟨tb, 0, none⟩)) rfl (by kernel_rfl) (by kernel_rfl) (by kernel_rfl) (fun _ _ _ h => h) (Or.inl ⟨by kernel_rfl, fun u hu => by kernel_rfl⟩) hS ?_
    simp only [Act.put, List.getElem_toArray, List.getElem_cons_succ, List.getElem_cons_zero, List.setIfInBounds_toArray, List.set_cons_zero, List.set_cons_succ]
    refine wpAnyH_take (i := 6) (v := .pointer (some ⟨tb, 0, none⟩)) rfl (by kernel_rfl) (by kernel_rfl) (by kernel_rfl) (fun _ _ _ h => h) (Or.inl ⟨by kernel_rfl, fun u hu => by kernel_rfl⟩) hS ?_
    simp only [Act.put, List.getElem_toArray, List.getElem_cons_succ, List.getElem_cons_zero, List.setIfInBounds_toArray, List.set_cons_zero, List.set_cons_succ]
    refine wpAnyH_take (i := 7) (v := .pointer (some ⟨tb, 76, none⟩)) rfl (by kernel_rfl) (by kernel_rfl) (by kernel_rfl) (fun _ _ _ h => h) (Or.inl ⟨by kernel_rfl, fun u hu => by kernel_rfl⟩) hS ?_
    simp only [Act.put, List.getElem_toArray, List.getElem_cons_succ, List.getElem_cons_zero, List.setIfInBounds_toArray, List.set_cons_zero, List.set_cons_succ]
    refine wpAnyH_take (i := 8) (v := .int .i64 t.size) rfl (by kernel_rfl) (by kernel_rfl) (by kernel_rfl) (fun _ _ _ h => h) (Or.inl ⟨by kernel_rfl, fun u hu => exec_loadV (t := 3) (p := ⟨tb, 76, none⟩) rfl (by kernel_rfl) (load_i64 hu.2)⟩) hS ?_
    simp only [Act.put, List.getElem_toArray, List.getElem_cons_succ, List.getElem_cons_zero, List.setIfInBounds_toArray, List.set_cons_zero, List.set_cons_succ]
    refine wpAnyH_take (i := 9) (v := .bool (decide ((t.now.p + n) ≤ t.size))) rfl (by kernel_rfl) (by kernel_rfl) (by kernel_rfl) (fun _ _ _ h => h) (Or.inl ⟨by kernel_rfl, fun u hu => by kernel_rfl⟩) hS ?_
    simp only [Act.put, List.getElem_toArray, List.getElem_cons_succ, List.getElem_cons_zero, List.setIfInBounds_toArray, List.set_cons_zero, List.set_cons_succ]
    refine wpAnyH_take (i := 10) (v := .bool (decide ((t.now.p + n) ≤ t.size))) rfl (by kernel_rfl) (by kernel_rfl) (by kernel_rfl) (fun _ _ _ h => h) (Or.inl ⟨by kernel_rfl, fun u hu => by kernel_rfl⟩) hS ?_
    simp only [Act.put, List.getElem_toArray, List.getElem_cons_succ, List.getElem_cons_zero, List.setIfInBounds_toArray, List.set_cons_zero, List.set_cons_succ]
    refine wpAnyH_done (by kernel_rfl) ?_ _
    have HT8 : Hid _ := ⟨T8⟩
    have HB8 : Hid _ := ⟨B8⟩
    clear T8 B8 c8 s8 hS
    go_wp2_with fail
    go_ret
    exact ⟨rfl, HB8.out, _, _, HT8.out⟩

set_option maxRecDepth 10000 in
set_option maxHeartbeats 1000000 in
theorem tone_1z {base tb : Nat} {w : World} {t : Tb} {vL vK : Value} (h : TD base w tb t vL vK) (r n : Int) (hm : mayB ⟨1, r, n⟩ = true) (hz : n = 0) :
    Calls Tryd.prog 87 #[.pointer (some ⟨tb, 0, none⟩), .agg (oqD 1 r n), .bool false] w fun e w' => e = .returned (.bool (decide (t.now.p ≤ t.size))) ∧ Below base w w' ∧ ∃ vL vK, TD base w' tb t vL vK := by
  have HB : Below w.heap.size w (w.alloc (.cells (oqD 1 r n) 103)) := (Below.refl _ _).alloc (Nat.le_refl _) _
  have H1 := h.bel HB
  have O1 : Bk (w.alloc (.cells (oqD 1 r n) 103)) w.heap.size 103 (oqD 1 r n) := Bk.new w _ _
  have hne : w.heap.size ≠ tb := by have := h.bk.lt; omega
  have hbs : base ≤ w.heap.size := Nat.le_trans h.lo (Nat.le_of_lt h.bk.lt)
  have HBb := HB.mono hbs
  have hnrW : vL.ownBlock ≠ some w.heap.size := fun e => by have := ownV_lt h.L e; omega
  have hnkW : vK.ownBlock ≠ some w.heap.size := fun e => by have := ownV_lt h.K e; omega
  subst hz
  have HM : Hid (∀ W : World, Calls Tryd.prog 82 #[.agg (oqD 1 r 0)] W fun e w' => e = .returned (.bool (mayB ⟨1, r, 0⟩)) ∧ Below W.heap.size W w') := ⟨fun W => may_any 1 r 0 W⟩
  rw [hm] at HM
  go_enter Tryd.func87, Tryd.ntmps87
  go_upto_region 1 with fail
  have HH1 : Hid _ := ⟨H1⟩
  have HO1 : Hid _ := ⟨O1⟩
  have HBB1 : Hid _ := ⟨HBb⟩
  have d0 := O1.cell 0 rfl
  have d1 := O1.cell 1 rfl
  have d2 := O1.cell 2 rfl
  clear H1 O1 HBb HB
  generalize w.alloc (.cells (oqD 1 r 0) 103) = W1 at *
  go_upto_region 3 with (go_at_call 82; (with_reducible refine (HM.out _).mono ?_); rintro e w2 ⟨he, hb2⟩; subst he; have HB2 : Hid _ := ⟨hb2⟩; have d0 := (HO1.out.bel hb2 HO1.out.lt).cell 0 rfl; clear hb2)
  have T2 := HH1.out.bel HB2.out
  have O2 := HO1.out.bel HB2.out HO1.out.lt
  have hb1s : base ≤ W1.heap.size := Nat.le_trans hbs (Nat.le_of_lt HO1.out.lt)
  have B2 := HBB1.out.trans (HB2.out.mono hb1s)
  have e0 := O2.cell 0 rfl
  have e1 := O2.cell 1 rfl
  have e2 := O2.cell 2 rfl
  clear HM HH1 HO1 HBB1 HB2 d0 d1 d2
  go_upto_region 8 with fail
  have T8 := T2.bel ((Below.refl w2.heap.size w2).drew)
  have B8 := B2.trans ((Below.refl base w2).drew)
  have c8 := T8.p
  have s8 := T8.size
  try dsimp only at c8 s8
  refine wp_region_held_drew (S := fun u => u.cell? ⟨tb, 1, none⟩ = some (.int .i64 t.now.p) ∧ u.cell? ⟨tb, 76, none⟩ = some (.int .i64 t.size)) (by kernel_rfl) ⟨c8, s8⟩ (fun hS => ?_)
  generalize w2.drew = W8 at *
  refine wpAnyH_take (i := 0) (v := .pointer (some ⟨tb, 0, none⟩)) rfl (by kernel_rfl) (by kernel_rfl) (by kernel_rfl) (fun _ _ _ h => h) (Or.inl ⟨by kernel_rfl, fun u hu => by kernel_rfl⟩) hS ?_
  simp only [Act.put, List.getElem_toArray, List.getElem_cons_succ, List.getElem_cons_zero, List.setIfInBounds_toArray, List.set_cons_zero, List.set_cons_succ]
  refine wpAnyH_take (i := 1) (v := .pointer (some ⟨tb, 0, none⟩)) rfl (by kernel_rfl) (by kernel_rfl) (by kernel_rfl) (fun _ _ _ h => h) (Or.inl ⟨by kernel_rfl, fun u hu => by kernel_rfl⟩) hS ?_
  simp only [Act.put, List.getElem_toArray, List.getElem_cons_succ, List.getElem_cons_zero, List.setIfInBounds_toArray, List.set_cons_zero, List.set_cons_succ]
  refine wpAnyH_take (i := 2) (v := .pointer (some ⟨tb, 1, none⟩)) rfl (by kernel_rfl) (by kernel_rfl) (by kernel_rfl) (fun _ _ _ h => h) (Or.inl ⟨by kernel_rfl, fun u hu => by kernel_rfl⟩) hS ?_
  simp only [Act.put, List.getElem_toArray, List.getElem_cons_succ, List.getElem_cons_zero, List.setIfInBounds_toArray, List.set_cons_zero, List.set_cons_succ]
  refine wpAnyH_take (i := 3) (v := .pointer (some ⟨tb, 1, none⟩)) rfl (by kernel_rfl) (by kernel_rfl) (by kernel_rfl) (fun _ _ _ h => h) (Or.inl ⟨by kernel_rfl, fun u hu => by kernel_rfl⟩) hS ?_
  simp only [Act.put, List.getElem_toArray, List.getElem_cons_succ, List.getElem_cons_zero, List.setIfInBounds_toArray, List.set_cons_zero, List.set_cons_succ]
  refine wpAnyH_take (i := 4) (v := .int .i64 t.now.p) rfl (by kernel_rfl) (by kernel_rfl) (by kernel_rfl) (fun _ _ _ h => h) (Or.inl ⟨by kernel_rfl, fun u hu => exec_loadV (t := 3) (p := ⟨tb, 1, none⟩) rfl (by kernel_rfl) (load_i64 hu.1)⟩) hS ?_
  simp only [Act.put, List.getElem_toArray, List.getElem_cons_succ, List.getElem_cons_zero, List.setIfInBounds_toArray, List.set_cons_zero, List.set_cons_succ]
  refine wpAnyH_take (i := 5) (v := .pointer (some ⟨tb, 0, none⟩)) rfl (by kernel_rfl) (by kernel_rfl) (by kernel_rfl) (fun _ _ _ h => h) (Or.inl ⟨by kernel_rfl, fun u hu => by kernel_rfl⟩) hS ?_
  simp only [Act.put, List.getElem_toArray, List.getElem_cons_succ, List.getElem_cons_zero, List.setIfInBounds_toArray, List.set_cons_zero, List.set_cons_succ]
  refine wpAnyH_take (i := 6) (v := .pointer (some ⟨tb, 0, none⟩)) rfl (by kernel_rfl) (by kernel_rfl) (by kernel_rfl) (fun _ _ _ h => h) (Or.inl ⟨by kernel_rfl, fun u hu => by kernel_rfl⟩) hS ?_
  simp only [Act.put, List.getElem_toArray, List.getElem_cons_succ, List.getElem_cons_zero, List.setIfInBounds_toArray, List.set_cons_zero, List.set_cons_succ]
  refine wpAnyH_take (i := 7) (v := .pointer (some ⟨tb, 76, none⟩)) rfl (by kernel_rfl) (by kernel_rfl) (by kernel_rfl) (fun _ _ _ h => h) (Or.inl ⟨by kernel_rfl, fun u hu => by kernel_rfl⟩) hS ?_
  simp only [Act.put, List.getElem_toArray, List.getElem_cons_succ, List.getElem_cons_zero, List.setIfInBounds_toArray, List.set_cons_zero, List.set_cons_succ]
  refine wpAnyH_take (i := 8) (v := .int .i64 t.size) rfl (by kernel_rfl) (by kernel_rfl) (by kernel_rfl) (fun _ _ _ h => h) (Or.inl ⟨by kernel_rfl, fun u hu => exec_loadV (t := 3) (p := ⟨tb, 76, none⟩) rfl (by kernel_rfl) (load_i64 hu.2)⟩) hS ?_
  simp only [Act.put, List.getElem_toArray, List.getElem_cons_succ, List.getElem_cons_zero, List.setIfInBounds_toArray, List.set_cons_zero, List.set_cons_succ]
  refine wpAnyH_take (i := 9) (v := .bool (decide (t.now.p ≤ t.size))) rfl (by kernel_rfl) (by kernel_rfl) (by kernel_rfl) (fun _ _ _ h => h) (Or.inl ⟨by kernel_rfl, fun u hu => by kernel_rfl⟩) hS ?_
  simp only [Act.put, List.getElem_toArray, List.getElem_cons_succ, List.getElem_cons_zero, List.setIfInBounds_toArray, List.set_cons_zero, List.set_cons_succ]
  refine wpAnyH_take (i := 10) (v := .bool (decide (t.now.p ≤ t.size))) rfl (by kernel_rfl) (by kernel_rfl) (by kernel_rfl) (fun _ _ _ h => h) (Or.inl ⟨by kernel_rfl, fun u hu => by kernel_rfl⟩) hS ?_
  simp only [Act.put, List.getElem_toArray, List.getElem_cons_succ, List.getElem_cons_zero, List.setIfInBounds_toArray, List.set_cons_zero, List.set_cons_succ]
  refine wpAnyH_done (by kernel_rfl) ?_ _
  have HT8 : Hid _ := ⟨T8⟩
  have HB8 : Hid _ := ⟨B8⟩
  clear T8 B8 c8 s8 hS
  go_wp2_with fail
  go_ret
  exact ⟨rfl, HB8.out, _, _, HT8.out⟩

end Go.Proofs.YtomboebfbipaaaaDoor
