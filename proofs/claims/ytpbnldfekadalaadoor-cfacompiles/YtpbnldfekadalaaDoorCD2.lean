/- The document's New and One, kind by kind. -/
import Derived.Test.YtpbnldfekadalaaDoorCD1
namespace Go.Proofs.YtpbnldfekadalaaDoor
open Go.ChangeShapes Go.WideShapes Go.ChangeAt Go.RowKit
set_option linter.unusedVariables false
set_option linter.unusedSimpArgs false
variable {X : Nat → Option Obj}

set_option maxRecDepth 20000 in
/-- A table that begins. -/
theorem rnew_any (size : Int) (w : World) :
    Calls Tryd.prog 14 #[.int .i64 size] w fun e w' => ∃ tb, e = .returned (.pointer (some ⟨tb, 0, none⟩)) ∧ TD nX w.heap.size w' tb (tbNew size) (.slice none 0 0) (.slice none 0 0) ∧ Below w.heap.size w w' := by
  go_enter Tryd.func14, Tryd.ntmps14
  go_upto_region 1 with fail
  iterate 1 go_step
  refine wpList_val (v := .agg #[.int .i64 0, .int .i64 (-1), .int .i64 0, .int .i64 0, .int .i64 0, .int .i64 0, .int .i64 0, .int .i64 0, .int .i64 0, .int .i64 0, .int .i64 0, .int .i64 0, .int .i64 0, .int .i64 0, .int .i64 0, .int .i64 0, .int .i64 0, .int .i64 0, .int .i64 0, .int .i64 0, .int .i64 0, .int .i64 0, .int .i64 0, .int .i64 0, .int .i64 0, .int .i64 0, .int .i64 0, .int .i64 0, .int .i64 0, .int .i64 0, .int .i64 0, .int .i64 0, .int .i64 0, .int .i64 0, .int .i64 0, .int .i64 0, .int .i64 0]) (w' := w) (by kernel_rfl) (by kernel_rfl) ?_
  simp only [Act.put, List.getElem_toArray, List.getElem_cons_succ, List.getElem_cons_zero, List.setIfInBounds_toArray, List.set_cons_zero, List.set_cons_succ]
  refine wpList_val (v := .int .i64 size) (w' := w) (by kernel_rfl) (by kernel_rfl) ?_
  simp only [Act.put, List.getElem_toArray, List.getElem_cons_succ, List.getElem_cons_zero, List.setIfInBounds_toArray, List.set_cons_zero, List.set_cons_succ]
  refine wpList_val (v := .agg #[.slice none 0 0, .int .i64 0, .int .i64 (-1), .int .i64 0, .int .i64 0, .int .i64 0, .int .i64 0, .int .i64 0, .int .i64 0, .int .i64 0, .int .i64 0, .int .i64 0, .int .i64 0, .int .i64 0, .int .i64 0, .int .i64 0, .int .i64 0, .int .i64 0, .int .i64 0, .int .i64 0, .int .i64 0, .int .i64 0, .int .i64 0, .int .i64 0, .int .i64 0, .int .i64 0, .int .i64 0, .int .i64 0, .int .i64 0, .int .i64 0, .int .i64 0, .int .i64 0, .int .i64 0, .int .i64 0, .int .i64 0, .int .i64 0, .int .i64 0, .int .i64 0, .int .i64 0, .int .i64 0, .int .i64 0, .int .i64 0, .int .i64 0, .int .i64 0, .int .i64 0, .int .i64 0, .int .i64 0, .int .i64 0, .int .i64 0, .int .i64 0, .int .i64 0, .int .i64 0, .int .i64 0, .int .i64 0, .int .i64 0, .int .i64 0, .int .i64 0, .int .i64 0, .int .i64 0, .int .i64 0, .int .i64 0, .int .i64 0, .int .i64 0, .int .i64 0, .int .i64 0, .int .i64 0, .int .i64 0, .int .i64 0, .int .i64 0, .int .i64 0, .int .i64 0, .int .i64 0, .int .i64 0, .int .i64 0, .int .i64 0, .slice none 0 0, .int .i64 size]) (w' := w) (by kernel_rfl) (by kernel_rfl) ?_
  simp only [Act.put, List.getElem_toArray, List.getElem_cons_succ, List.getElem_cons_zero, List.setIfInBounds_toArray, List.set_cons_zero, List.set_cons_succ]
  refine wpList_val (v := .pointer (some ⟨w.heap.size, 0, none⟩)) (w' := w.alloc (.cells (dC (tbNew size) (.slice none 0 0) (.slice none 0 0)).toArray 63)) (by kernel_rfl) (by kernel_rfl) ?_
  simp only [Act.put, List.getElem_toArray, List.getElem_cons_succ, List.getElem_cons_zero, List.setIfInBounds_toArray, List.set_cons_zero, List.set_cons_succ]
  have H1 : TD nX w.heap.size (w.alloc (.cells (dC (tbNew size) (.slice none 0 0) (.slice none 0 0)).toArray 63)) w.heap.size (tbNew size) (.slice none 0 0) (.slice none 0 0) := ⟨Bk.new w _ _, Nat.le_refl _, OwnV.nil _ _, OwnV.nil _ _, by simp [Value.ownBlock], by simp [Value.ownBlock], fun b hb => by simp [Value.ownBlock] at hb, tw_new size, Fx.nil _ _ _ _⟩
  have B1 : Below w.heap.size w (w.alloc (.cells (dC (tbNew size) (.slice none 0 0) (.slice none 0 0)).toArray 63)) := (Below.refl _ _).alloc (Nat.le_refl _) _
  generalize w.alloc (.cells (dC (tbNew size) (.slice none 0 0) (.slice none 0 0)).toArray 63) = W at *
  refine wpList_val (v := .pointer (some ⟨w.heap.size, 0, none⟩)) (w' := W) (by kernel_rfl) (by kernel_rfl) ?_
  simp only [Act.put, List.getElem_toArray, List.getElem_cons_succ, List.getElem_cons_zero, List.setIfInBounds_toArray, List.set_cons_zero, List.set_cons_succ]
  refine wpList_nil ?_
  go_wp2_with fail
  go_ret
  exact ⟨w.heap.size, rfl, H1, B1⟩

abbrev oqD (k r n : Int) : Array Value := #[.int .i64 k, .int .i64 r, .int .i64 n]

set_option maxRecDepth 10000 in
theorem one_may {base tb : Nat} {w : World} {t : Tb} {vL vK : Value} (h : TD X base w tb t vL vK) (k r n : Int) (b : Bool) (hm : mayB ⟨k, r, n⟩ = false) :
    Calls Tryd.prog 16 #[.pointer (some ⟨tb, 0, none⟩), .agg (oqD k r n), .bool b] w fun e w' => e = .returned (.bool false) ∧ Below base w w' := by
  have HB : Below w.heap.size w (w.alloc (.cells (oqD k r n) 52)) := (Below.refl _ _).alloc (Nat.le_refl _) _
  have hbs : base ≤ w.heap.size := Nat.le_trans h.lo (Nat.le_of_lt h.bk.lt)
  have HM : Hid (∀ W : World, Calls Tryd.prog 26 #[.agg (oqD k r n)] W fun e w' => e = .returned (.bool (mayB ⟨k, r, n⟩)) ∧ Below W.heap.size W w') := ⟨fun W => may_any k r n W⟩
  rw [hm] at HM
  have O1 : Bk (w.alloc (.cells (oqD k r n) 52)) w.heap.size 52 (oqD k r n) := Bk.new w _ _
  go_enter Tryd.func16, Tryd.ntmps16
  go_upto_region 1 with fail
  have d0 := O1.cell 0 rfl
  have d1 := O1.cell 1 rfl
  have d2 := O1.cell 2 rfl
  have HB1 : Hid _ := ⟨HB⟩
  clear O1 HB
  generalize w.alloc (.cells (oqD k r n) 52) = W1 at *
  go_wp2_with (go_at_call 26; (with_reducible refine (HM.out _).mono ?_); rintro e w2 ⟨he, hb2⟩; subst he; have HB2 : Hid _ := ⟨hb2⟩; clear hb2)
  go_ret
  exact ⟨rfl, (HB1.out.trans (HB2.out.mono HB1.out.size)).mono hbs⟩
set_option maxRecDepth 10000 in
theorem one_beg1 {base tb : Nat} {w : World} {t : Tb} {vL vK : Value} (h : TD X base w tb t vL vK) (r n : Int) (hm : mayB ⟨1, r, n⟩ = true) :
    Calls Tryd.prog 16 #[.pointer (some ⟨tb, 0, none⟩), .agg (oqD 1 r n), .bool true] w fun e w' => e = .returned (.bool false) ∧ Below base w w' := by
  have HB : Below w.heap.size w (w.alloc (.cells (oqD 1 r n) 52)) := (Below.refl _ _).alloc (Nat.le_refl _) _
  have O1 : Bk (w.alloc (.cells (oqD 1 r n) 52)) w.heap.size 52 (oqD 1 r n) := Bk.new w _ _
  have hbs : base ≤ w.heap.size := Nat.le_trans h.lo (Nat.le_of_lt h.bk.lt)
  have HM : Hid (∀ W : World, Calls Tryd.prog 26 #[.agg (oqD 1 r n)] W fun e w' => e = .returned (.bool (mayB ⟨1, r, n⟩)) ∧ Below W.heap.size W w') := ⟨fun W => may_any 1 r n W⟩
  rw [hm] at HM
  go_enter Tryd.func16, Tryd.ntmps16
  go_upto_region 1 with fail
  have HO1 : Hid _ := ⟨O1⟩
  have HB1 : Hid _ := ⟨HB⟩
  have d0 := O1.cell 0 rfl
  have d1 := O1.cell 1 rfl
  have d2 := O1.cell 2 rfl
  clear O1 HB
  generalize w.alloc (.cells (oqD 1 r n) 52) = W1 at *
  go_wp2_with (go_at_call 26; (with_reducible refine (HM.out _).mono ?_); rintro e w2 ⟨he, hb2⟩; subst he; have HB2 : Hid _ := ⟨hb2⟩; have d0 := (HO1.out.bel hb2 HO1.out.lt).cell 0 rfl; clear hb2)
  go_ret
  exact ⟨rfl, (HB1.out.trans (HB2.out.mono HB1.out.size)).mono hbs⟩
set_option maxRecDepth 10000 in
theorem one_beg9 {base tb : Nat} {w : World} {t : Tb} {vL vK : Value} (h : TD X base w tb t vL vK) (r n : Int) (hm : mayB ⟨9, r, n⟩ = true) :
    Calls Tryd.prog 16 #[.pointer (some ⟨tb, 0, none⟩), .agg (oqD 9 r n), .bool true] w fun e w' => e = .returned (.bool false) ∧ Below base w w' := by
  have HB : Below w.heap.size w (w.alloc (.cells (oqD 9 r n) 52)) := (Below.refl _ _).alloc (Nat.le_refl _) _
  have O1 : Bk (w.alloc (.cells (oqD 9 r n) 52)) w.heap.size 52 (oqD 9 r n) := Bk.new w _ _
  have hbs : base ≤ w.heap.size := Nat.le_trans h.lo (Nat.le_of_lt h.bk.lt)
  have HM : Hid (∀ W : World, Calls Tryd.prog 26 #[.agg (oqD 9 r n)] W fun e w' => e = .returned (.bool (mayB ⟨9, r, n⟩)) ∧ Below W.heap.size W w') := ⟨fun W => may_any 9 r n W⟩
  rw [hm] at HM
  go_enter Tryd.func16, Tryd.ntmps16
  go_upto_region 1 with fail
  have HO1 : Hid _ := ⟨O1⟩
  have HB1 : Hid _ := ⟨HB⟩
  have d0 := O1.cell 0 rfl
  have d1 := O1.cell 1 rfl
  have d2 := O1.cell 2 rfl
  clear O1 HB
  generalize w.alloc (.cells (oqD 9 r n) 52) = W1 at *
  go_wp2_with (go_at_call 26; (with_reducible refine (HM.out _).mono ?_); rintro e w2 ⟨he, hb2⟩; subst he; have HB2 : Hid _ := ⟨hb2⟩; have d0 := (HO1.out.bel hb2 HO1.out.lt).cell 0 rfl; clear hb2)
  go_ret
  exact ⟨rfl, (HB1.out.trans (HB2.out.mono HB1.out.size)).mono hbs⟩
set_option maxRecDepth 10000 in
theorem one_beg10 {base tb : Nat} {w : World} {t : Tb} {vL vK : Value} (h : TD X base w tb t vL vK) (r n : Int) (hm : mayB ⟨10, r, n⟩ = true) :
    Calls Tryd.prog 16 #[.pointer (some ⟨tb, 0, none⟩), .agg (oqD 10 r n), .bool true] w fun e w' => e = .returned (.bool false) ∧ Below base w w' := by
  have HB : Below w.heap.size w (w.alloc (.cells (oqD 10 r n) 52)) := (Below.refl _ _).alloc (Nat.le_refl _) _
  have O1 : Bk (w.alloc (.cells (oqD 10 r n) 52)) w.heap.size 52 (oqD 10 r n) := Bk.new w _ _
  have hbs : base ≤ w.heap.size := Nat.le_trans h.lo (Nat.le_of_lt h.bk.lt)
  have HM : Hid (∀ W : World, Calls Tryd.prog 26 #[.agg (oqD 10 r n)] W fun e w' => e = .returned (.bool (mayB ⟨10, r, n⟩)) ∧ Below W.heap.size W w') := ⟨fun W => may_any 10 r n W⟩
  rw [hm] at HM
  go_enter Tryd.func16, Tryd.ntmps16
  go_upto_region 1 with fail
  have HO1 : Hid _ := ⟨O1⟩
  have HB1 : Hid _ := ⟨HB⟩
  have d0 := O1.cell 0 rfl
  have d1 := O1.cell 1 rfl
  have d2 := O1.cell 2 rfl
  clear O1 HB
  generalize w.alloc (.cells (oqD 10 r n) 52) = W1 at *
  go_wp2_with (go_at_call 26; (with_reducible refine (HM.out _).mono ?_); rintro e w2 ⟨he, hb2⟩; subst he; have HB2 : Hid _ := ⟨hb2⟩; have d0 := (HO1.out.bel hb2 HO1.out.lt).cell 0 rfl; clear hb2)
  go_ret
  exact ⟨rfl, (HB1.out.trans (HB2.out.mono HB1.out.size)).mono hbs⟩
set_option maxRecDepth 10000 in
theorem one_beg6 {base tb : Nat} {w : World} {t : Tb} {vL vK : Value} (h : TD X base w tb t vL vK) (r n : Int) (hm : mayB ⟨6, r, n⟩ = true) :
    Calls Tryd.prog 16 #[.pointer (some ⟨tb, 0, none⟩), .agg (oqD 6 r n), .bool true] w fun e w' => e = .returned (.bool false) ∧ Below base w w' := by
  have HB : Below w.heap.size w (w.alloc (.cells (oqD 6 r n) 52)) := (Below.refl _ _).alloc (Nat.le_refl _) _
  have O1 : Bk (w.alloc (.cells (oqD 6 r n) 52)) w.heap.size 52 (oqD 6 r n) := Bk.new w _ _
  have hbs : base ≤ w.heap.size := Nat.le_trans h.lo (Nat.le_of_lt h.bk.lt)
  have HM : Hid (∀ W : World, Calls Tryd.prog 26 #[.agg (oqD 6 r n)] W fun e w' => e = .returned (.bool (mayB ⟨6, r, n⟩)) ∧ Below W.heap.size W w') := ⟨fun W => may_any 6 r n W⟩
  rw [hm] at HM
  go_enter Tryd.func16, Tryd.ntmps16
  go_upto_region 1 with fail
  have HO1 : Hid _ := ⟨O1⟩
  have HB1 : Hid _ := ⟨HB⟩
  have d0 := O1.cell 0 rfl
  have d1 := O1.cell 1 rfl
  have d2 := O1.cell 2 rfl
  clear O1 HB
  generalize w.alloc (.cells (oqD 6 r n) 52) = W1 at *
  go_wp2_with (go_at_call 26; (with_reducible refine (HM.out _).mono ?_); rintro e w2 ⟨he, hb2⟩; subst he; have HB2 : Hid _ := ⟨hb2⟩; have d0 := (HO1.out.bel hb2 HO1.out.lt).cell 0 rfl; clear hb2)
  go_ret
  exact ⟨rfl, (HB1.out.trans (HB2.out.mono HB1.out.size)).mono hbs⟩

set_option maxRecDepth 10000 in
set_option maxHeartbeats 1000000 in
theorem tone_0 {base tb : Nat} {w : World} {t : Tb} {vL vK : Value} (h : TD X base w tb t vL vK) (r n : Int) (b : Bool) (hm : mayB ⟨0, r, n⟩ = true) :
    Calls Tryd.prog 16 #[.pointer (some ⟨tb, 0, none⟩), .agg (oqD 0 r n), .bool b] w fun e w' => e = .returned (.bool (some t).isSome) ∧ DEnd X base tb w w' (some t) := by
  have HB : Below w.heap.size w (w.alloc (.cells (oqD 0 r n) 52)) := (Below.refl _ _).alloc (Nat.le_refl _) _
  have H1 := h.bel HB
  have O1 : Bk (w.alloc (.cells (oqD 0 r n) 52)) w.heap.size 52 (oqD 0 r n) := Bk.new w _ _
  have hne : w.heap.size ≠ tb := by have := h.bk.lt; omega
  have hbs : base ≤ w.heap.size := Nat.le_trans h.lo (Nat.le_of_lt h.bk.lt)
  have HBb := HB.mono hbs
  have hnrW : vL.ownBlock ≠ some w.heap.size := fun e => by have := ownV_lt h.L e; omega
  have hnkW : vK.ownBlock ≠ some w.heap.size := fun e => by have := ownV_lt h.K e; omega
  cases b
  all_goals skip
  · have HM : Hid (∀ W : World, Calls Tryd.prog 26 #[.agg (oqD 0 r n)] W fun e w' => e = .returned (.bool (mayB ⟨0, r, n⟩)) ∧ Below W.heap.size W w') := ⟨fun W => may_any 0 r n W⟩
    rw [hm] at HM
    go_enter Tryd.func16, Tryd.ntmps16
    go_upto_region 1 with fail
    have HH1 : Hid _ := ⟨H1⟩
    have HO1 : Hid _ := ⟨O1⟩
    have HBB1 : Hid _ := ⟨HBb⟩
    have d0 := O1.cell 0 rfl
    have d1 := O1.cell 1 rfl
    have d2 := O1.cell 2 rfl
    clear H1 O1 HBb HB
    generalize w.alloc (.cells (oqD 0 r n) 52) = W1 at *
    go_upto_region 3 with (go_at_call 26; (with_reducible refine (HM.out _).mono ?_); rintro e w2 ⟨he, hb2⟩; subst he; have HB2 : Hid _ := ⟨hb2⟩; have d0 := (HO1.out.bel hb2 HO1.out.lt).cell 0 rfl; clear hb2)
    have T2 := HH1.out.bel HB2.out
    have O2 := HO1.out.bel HB2.out HO1.out.lt
    have hb1s : base ≤ W1.heap.size := Nat.le_trans hbs (Nat.le_of_lt HO1.out.lt)
    have B2 := HBB1.out.trans (HB2.out.mono hb1s)
    have e0 := O2.cell 0 rfl
    have e1 := O2.cell 1 rfl
    have e2 := O2.cell 2 rfl
    clear HM HH1 HO1 HBB1 HB2 d0 d1 d2
    go_wp2
    go_ret
    refine ⟨rfl, B2, fun t' ht => ?_⟩
    cases ht
    exact ⟨_, _, T2⟩
  · have HM : Hid (∀ W : World, Calls Tryd.prog 26 #[.agg (oqD 0 r n)] W fun e w' => e = .returned (.bool (mayB ⟨0, r, n⟩)) ∧ Below W.heap.size W w') := ⟨fun W => may_any 0 r n W⟩
    rw [hm] at HM
    go_enter Tryd.func16, Tryd.ntmps16
    go_upto_region 1 with fail
    have HH1 : Hid _ := ⟨H1⟩
    have HO1 : Hid _ := ⟨O1⟩
    have HBB1 : Hid _ := ⟨HBb⟩
    have d0 := O1.cell 0 rfl
    have d1 := O1.cell 1 rfl
    have d2 := O1.cell 2 rfl
    clear H1 O1 HBb HB
    generalize w.alloc (.cells (oqD 0 r n) 52) = W1 at *
    go_upto_region 3 with (go_at_call 26; (with_reducible refine (HM.out _).mono ?_); rintro e w2 ⟨he, hb2⟩; subst he; have HB2 : Hid _ := ⟨hb2⟩; have d0 := (HO1.out.bel hb2 HO1.out.lt).cell 0 rfl; clear hb2)
    have T2 := HH1.out.bel HB2.out
    have O2 := HO1.out.bel HB2.out HO1.out.lt
    have hb1s : base ≤ W1.heap.size := Nat.le_trans hbs (Nat.le_of_lt HO1.out.lt)
    have B2 := HBB1.out.trans (HB2.out.mono hb1s)
    have e0 := O2.cell 0 rfl
    have e1 := O2.cell 1 rfl
    have e2 := O2.cell 2 rfl
    clear HM HH1 HO1 HBB1 HB2 d0 d1 d2
    go_wp2
    go_ret
    refine ⟨rfl, B2, fun t' ht => ?_⟩
    cases ht
    exact ⟨_, _, T2⟩

set_option maxRecDepth 10000 in
set_option maxHeartbeats 1000000 in
theorem tone_2 {base tb : Nat} {w : World} {t : Tb} {vL vK : Value} (h : TD X base w tb t vL vK) (r n : Int) (b : Bool) (hm : mayB ⟨2, r, n⟩ = true) :
    Calls Tryd.prog 16 #[.pointer (some ⟨tb, 0, none⟩), .agg (oqD 2 r n), .bool b] w fun e w' => e = .returned (.bool (some (⟨t.L, ⟨t.now.p, r, n, t.now.z⟩, t.first, t.kept, t.size⟩ : Tb)).isSome) ∧ DEnd X base tb w w' (some (⟨t.L, ⟨t.now.p, r, n, t.now.z⟩, t.first, t.kept, t.size⟩ : Tb)) := by
  have HB : Below w.heap.size w (w.alloc (.cells (oqD 2 r n) 52)) := (Below.refl _ _).alloc (Nat.le_refl _) _
  have H1 := h.bel HB
  have O1 : Bk (w.alloc (.cells (oqD 2 r n) 52)) w.heap.size 52 (oqD 2 r n) := Bk.new w _ _
  have hne : w.heap.size ≠ tb := by have := h.bk.lt; omega
  have hbs : base ≤ w.heap.size := Nat.le_trans h.lo (Nat.le_of_lt h.bk.lt)
  have HBb := HB.mono hbs
  have hnrW : vL.ownBlock ≠ some w.heap.size := fun e => by have := ownV_lt h.L e; omega
  have hnkW : vK.ownBlock ≠ some w.heap.size := fun e => by have := ownV_lt h.K e; omega
  cases b
  · have HM : Hid (∀ W : World, Calls Tryd.prog 26 #[.agg (oqD 2 r n)] W fun e w' => e = .returned (.bool (mayB ⟨2, r, n⟩)) ∧ Below W.heap.size W w') := ⟨fun W => may_any 2 r n W⟩
    rw [hm] at HM
    go_enter Tryd.func16, Tryd.ntmps16
    go_upto_region 1 with fail
    have HH1 : Hid _ := ⟨H1⟩
    have HO1 : Hid _ := ⟨O1⟩
    have HBB1 : Hid _ := ⟨HBb⟩
    have d0 := O1.cell 0 rfl
    have d1 := O1.cell 1 rfl
    have d2 := O1.cell 2 rfl
    clear H1 O1 HBb HB
    generalize w.alloc (.cells (oqD 2 r n) 52) = W1 at *
    go_upto_region 3 with (go_at_call 26; (with_reducible refine (HM.out _).mono ?_); rintro e w2 ⟨he, hb2⟩; subst he; have HB2 : Hid _ := ⟨hb2⟩; have d0 := (HO1.out.bel hb2 HO1.out.lt).cell 0 rfl; clear hb2)
    have T2 := HH1.out.bel HB2.out
    have O2 := HO1.out.bel HB2.out HO1.out.lt
    have hb1s : base ≤ W1.heap.size := Nat.le_trans hbs (Nat.le_of_lt HO1.out.lt)
    have B2 := HBB1.out.trans (HB2.out.mono hb1s)
    have e0 := O2.cell 0 rfl
    have e1 := O2.cell 1 rfl
    have e2 := O2.cell 2 rfl
    clear HM HH1 HO1 HBB1 HB2 d0 d1 d2
    have T3 := T2.setR r
    have B3 := B2.trans (below_set w2 tb (putAt (dC t vL vK).toArray 2 [.int .i64 r]) h.lo)
    have O3 := O2.setO hne (putAt (dC t vL vK).toArray 2 [.int .i64 r])
    have T4 := T3.setN n
    have B4 := B3.trans (below_set (w2.setRow tb (putAt (dC t vL vK).toArray 2 [.int .i64 r])) tb (putAt (dC ⟨t.L, ⟨t.now.p, r, t.now.n, t.now.z⟩, t.first, t.kept, t.size⟩ vL vK).toArray 3 [.int .i64 n]) h.lo)
    have f2 := O3.cell 2 rfl
    go_upto_region 11 with (refine wpList_part (g := tb) (off := 2) (val := .int .i64 r) rfl rfl (by rfl) (by rfl) T2.bk (by rw [sizeInt]; rfl) (by rw [T2.len]; show 2 + 1 ≤ 77; omega) (one_cells _) rfl ?_)
    go_upto_region 38 with (refine wpList_part (g := tb) (off := 3) (val := .int .i64 n) rfl rfl (by rfl) (by rfl) T3.bk (by rw [sizeInt]; rfl) (by rw [T3.len]; show 3 + 1 ≤ 77; omega) (one_cells _) rfl ?_)
    go_wp2
    go_ret
    refine ⟨rfl, B4, fun t' ht => ?_⟩
    cases ht
    exact ⟨_, _, T4⟩
  · have HM : Hid (∀ W : World, Calls Tryd.prog 26 #[.agg (oqD 2 r n)] W fun e w' => e = .returned (.bool (mayB ⟨2, r, n⟩)) ∧ Below W.heap.size W w') := ⟨fun W => may_any 2 r n W⟩
    rw [hm] at HM
    go_enter Tryd.func16, Tryd.ntmps16
    go_upto_region 1 with fail
    have HH1 : Hid _ := ⟨H1⟩
    have HO1 : Hid _ := ⟨O1⟩
    have HBB1 : Hid _ := ⟨HBb⟩
    have d0 := O1.cell 0 rfl
    have d1 := O1.cell 1 rfl
    have d2 := O1.cell 2 rfl
    clear H1 O1 HBb HB
    generalize w.alloc (.cells (oqD 2 r n) 52) = W1 at *
    go_upto_region 3 with (go_at_call 26; (with_reducible refine (HM.out _).mono ?_); rintro e w2 ⟨he, hb2⟩; subst he; have HB2 : Hid _ := ⟨hb2⟩; have d0 := (HO1.out.bel hb2 HO1.out.lt).cell 0 rfl; clear hb2)
    have T2 := HH1.out.bel HB2.out
    have O2 := HO1.out.bel HB2.out HO1.out.lt
    have hb1s : base ≤ W1.heap.size := Nat.le_trans hbs (Nat.le_of_lt HO1.out.lt)
    have B2 := HBB1.out.trans (HB2.out.mono hb1s)
    have e0 := O2.cell 0 rfl
    have e1 := O2.cell 1 rfl
    have e2 := O2.cell 2 rfl
    clear HM HH1 HO1 HBB1 HB2 d0 d1 d2
    have T3 := T2.setR r
    have B3 := B2.trans (below_set w2 tb (putAt (dC t vL vK).toArray 2 [.int .i64 r]) h.lo)
    have O3 := O2.setO hne (putAt (dC t vL vK).toArray 2 [.int .i64 r])
    have T4 := T3.setN n
    have B4 := B3.trans (below_set (w2.setRow tb (putAt (dC t vL vK).toArray 2 [.int .i64 r])) tb (putAt (dC ⟨t.L, ⟨t.now.p, r, t.now.n, t.now.z⟩, t.first, t.kept, t.size⟩ vL vK).toArray 3 [.int .i64 n]) h.lo)
    have f2 := O3.cell 2 rfl
    go_upto_region 11 with (refine wpList_part (g := tb) (off := 2) (val := .int .i64 r) rfl rfl (by rfl) (by rfl) T2.bk (by rw [sizeInt]; rfl) (by rw [T2.len]; show 2 + 1 ≤ 77; omega) (one_cells _) rfl ?_)
    go_upto_region 38 with (refine wpList_part (g := tb) (off := 3) (val := .int .i64 n) rfl rfl (by rfl) (by rfl) T3.bk (by rw [sizeInt]; rfl) (by rw [T3.len]; show 3 + 1 ≤ 77; omega) (one_cells _) rfl ?_)
    go_wp2
    go_ret
    refine ⟨rfl, B4, fun t' ht => ?_⟩
    cases ht
    exact ⟨_, _, T4⟩

end Go.Proofs.YtpbnldfekadalaaDoor
