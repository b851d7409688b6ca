/- The document's One: rules. -/
import Derived.Test.YtpbnldfekadalaaDoorCD2
namespace Go.Proofs.YtpbnldfekadalaaDoor
open Go.ChangeShapes Go.WideShapes Go.ChangeAt Go.RowKit
set_option linter.unusedVariables false
set_option linter.unusedSimpArgs false
variable {X : Nat → Option Obj}

set_option maxRecDepth 10000 in
set_option maxHeartbeats 1000000 in
theorem tone_5 {base tb : Nat} {w : World} {t : Tb} {vL vK : Value} (h : TD X base w tb t vL vK) (r n : Int) (b : Bool) (hm : mayB ⟨5, r, n⟩ = true) :
    Calls Tryd.prog 16 #[.pointer (some ⟨tb, 0, none⟩), .agg (oqD 5 r n), .bool b] w fun e w' => e = .returned (.bool true) ∧ Below base w w' ∧ ∃ vL vK, TD X base w' tb ⟨t.L, t.now.set r (2, n), t.first, t.kept, t.size⟩ vL vK := by
  have HB : Below w.heap.size w (w.alloc (.cells (oqD 5 r n) 52)) := (Below.refl _ _).alloc (Nat.le_refl _) _
  have H1 := h.bel HB
  have O1 : Bk (w.alloc (.cells (oqD 5 r n) 52)) w.heap.size 52 (oqD 5 r n) := Bk.new w _ _
  have hne : w.heap.size ≠ tb := by have := h.bk.lt; omega
  have hbs : base ≤ w.heap.size := Nat.le_trans h.lo (Nat.le_of_lt h.bk.lt)
  have HBb := HB.mono hbs
  have hnrW : vL.ownBlock ≠ some w.heap.size := fun e => by have := ownV_lt h.L e; omega
  have hnkW : vK.ownBlock ≠ some w.heap.size := fun e => by have := ownV_lt h.K e; omega
  cases b
  · have HM : Hid (∀ W : World, Calls Tryd.prog 26 #[.agg (oqD 5 r n)] W fun e w' => e = .returned (.bool (mayB ⟨5, r, n⟩)) ∧ Below W.heap.size W w') := ⟨fun W => may_any 5 r n W⟩
    rw [hm] at HM
    go_enter Tryd.func16, Tryd.ntmps16
    go_upto_region 1 with fail
    have HH1 : Hid _ := ⟨H1⟩
    have HO1 : Hid _ := ⟨O1⟩
    have HBB1 : Hid _ := ⟨HBb⟩
    have d0 := O1.cell 0 rfl
    have d1 := O1.cell 1 rfl
    have d2 := O1.cell 2 rfl
    clear H1 O1 HBb HB
    generalize w.alloc (.cells (oqD 5 r n) 52) = W1 at *
    go_upto_region 3 with (go_at_call 26; (with_reducible refine (HM.out _).mono ?_); rintro e w2 ⟨he, hb2⟩; subst he; have HB2 : Hid _ := ⟨hb2⟩; have d0 := (HO1.out.bel hb2 HO1.out.lt).cell 0 rfl; clear hb2)
    have T2 := HH1.out.bel HB2.out
    have O2 := HO1.out.bel HB2.out HO1.out.lt
    have hb1s : base ≤ W1.heap.size := Nat.le_trans hbs (Nat.le_of_lt HO1.out.lt)
    have B2 := HBB1.out.trans (HB2.out.mono hb1s)
    have e0 := O2.cell 0 rfl
    have e1 := O2.cell 1 rfl
    have e2 := O2.cell 2 rfl
    clear HM HH1 HO1 HBB1 HB2 d0 d1 d2
    obtain ⟨r, rfl⟩ : ∃ q : Nat, r = (q : Int) := ⟨r.toNat, by have := (may_reg hm (.inr (.inr (.inl rfl)))).1; dsimp only at this; omega⟩
    have hr17 : r < 17 := by have := (may_reg hm (.inr (.inr (.inl rfl)))).2; dsimp only at this; omega
    go_upto_region 20 with fail
    have TD2 := T2.bel ((Below.refl w2.heap.size w2).drew)
    have BD2 := B2.trans ((Below.refl base w2).drew)
    have OD2 : Bk w2.drew w.heap.size 52 (oqD 5 (r : Int) n) := O2.of rfl
    have T3 := TD2.rule r hr17 (2, n)
    have B3 := BD2.trans (below_set w2.drew tb (putAt (dC t vL vK).toArray (4 + r * 2) [.int .i64 2, .int .i64 n]) h.lo)
    refine wp_region_held_drew (S := fun u => Bk u w.heap.size 52 (oqD 5 (r : Int) n)) (by kernel_rfl) OD2 (fun hS => ?_)
    clear e0 e1 e2 T2 B2 O2
    generalize w2.drew = W2 at *
    refine wpAnyH_take (i := 0) (v := .pointer (some ⟨tb, 0, none⟩)) rfl (by kernel_rfl) (by kernel_rfl) (by kernel_rfl) (fun _ _ _ h => h) (Or.inl ⟨by kernel_rfl, fun u hu => by kernel_rfl⟩) hS ?_
    simp only [Act.put, List.getElem_toArray, List.getElem_cons_succ, List.getElem_cons_zero, List.setIfInBounds_toArray, List.set_cons_zero, List.set_cons_succ]
    refine wpAnyH_take (i := 1) (v := .pointer (some ⟨w.heap.size, 1, none⟩)) rfl (by kernel_rfl) (by kernel_rfl) (by kernel_rfl) (fun _ _ _ h => h) (Or.inl ⟨by kernel_rfl, fun u hu => by kernel_rfl⟩) hS ?_
    simp only [Act.put, List.getElem_toArray, List.getElem_cons_succ, List.getElem_cons_zero, List.setIfInBounds_toArray, List.set_cons_zero, List.set_cons_succ]
    refine wpAnyH_take (i := 2) (v := .int .i64 (r : Int)) rfl (by kernel_rfl) (by kernel_rfl) (by kernel_rfl) (fun _ _ _ h => h) (Or.inl ⟨by kernel_rfl, fun u hu => exec_loadV (t := 3) (p := ⟨w.heap.size, 1, none⟩) rfl (by kernel_rfl) (load_i64 (hu.cell 1 rfl))⟩) hS ?_
    simp only [Act.put, List.getElem_toArray, List.getElem_cons_succ, List.getElem_cons_zero, List.setIfInBounds_toArray, List.set_cons_zero, List.set_cons_succ]
    refine wpAnyH_take (i := 3) (v := .pointer (some ⟨w.heap.size, 2, none⟩)) rfl (by kernel_rfl) (by kernel_rfl) (by kernel_rfl) (fun _ _ _ h => h) (Or.inl ⟨by kernel_rfl, fun u hu => by kernel_rfl⟩) hS ?_
    simp only [Act.put, List.getElem_toArray, List.getElem_cons_succ, List.getElem_cons_zero, List.setIfInBounds_toArray, List.set_cons_zero, List.set_cons_succ]
    refine wpAnyH_take (i := 4) (v := .int .i64 n) rfl (by kernel_rfl) (by kernel_rfl) (by kernel_rfl) (fun _ _ _ h => h) (Or.inl ⟨by kernel_rfl, fun u hu => exec_loadV (t := 3) (p := ⟨w.heap.size, 2, none⟩) rfl (by kernel_rfl) (load_i64 (hu.cell 2 rfl))⟩) hS ?_
    simp only [Act.put, List.getElem_toArray, List.getElem_cons_succ, List.getElem_cons_zero, List.setIfInBounds_toArray, List.set_cons_zero, List.set_cons_succ]
    refine wpAnyH_take (i := 5) (v := .agg #[.int .i64 2, .int .i64 n]) rfl (by kernel_rfl) (by kernel_rfl) (by kernel_rfl) (fun _ _ _ h => h) (Or.inl ⟨by kernel_rfl, fun u hu => by kernel_rfl⟩) hS ?_
    simp only [Act.put, List.getElem_toArray, List.getElem_cons_succ, List.getElem_cons_zero, List.setIfInBounds_toArray, List.set_cons_zero, List.set_cons_succ]
    refine wpAnyH_take (i := 6) (v := .pointer (some ⟨tb, 0, none⟩)) rfl (by kernel_rfl) (by kernel_rfl) (by kernel_rfl) (fun _ _ _ h => h) (Or.inl ⟨by kernel_rfl, fun u hu => by kernel_rfl⟩) hS ?_
    simp only [Act.put, List.getElem_toArray, List.getElem_cons_succ, List.getElem_cons_zero, List.setIfInBounds_toArray, List.set_cons_zero, List.set_cons_succ]
    refine wpAnyH_take (i := 7) (v := .pointer (some ⟨tb, 1, none⟩)) rfl (by kernel_rfl) (by kernel_rfl) (by kernel_rfl) (fun _ _ _ h => h) (Or.inl ⟨by kernel_rfl, fun u hu => by kernel_rfl⟩) hS ?_
    simp only [Act.put, List.getElem_toArray, List.getElem_cons_succ, List.getElem_cons_zero, List.setIfInBounds_toArray, List.set_cons_zero, List.set_cons_succ]
    refine wpAnyH_take (i := 8) (v := .pointer (some ⟨tb, 4, none⟩)) rfl (by kernel_rfl) (by kernel_rfl) (by kernel_rfl) (fun _ _ _ h => h) (Or.inl ⟨by kernel_rfl, fun u hu => by kernel_rfl⟩) hS ?_
    simp only [Act.put, List.getElem_toArray, List.getElem_cons_succ, List.getElem_cons_zero, List.setIfInBounds_toArray, List.set_cons_zero, List.set_cons_succ]
    refine wpAnyH_take (i := 9) (v := .pointer (some ⟨tb, 4 + r * 2, none⟩)) rfl (by kernel_rfl) (by kernel_rfl) (by kernel_rfl) (fun _ _ _ h => h) (Or.inl ⟨by kernel_rfl, fun u hu => exec_ix rfl (by kernel_rfl) (by kernel_rfl) (ix_ruleD tb 4 r hr17 u)⟩) hS ?_
    simp only [Act.put, List.getElem_toArray, List.getElem_cons_succ, List.getElem_cons_zero, List.setIfInBounds_toArray, List.set_cons_zero, List.set_cons_succ]
    refine wpAnyH_ready (rs := [10]) (by kernel_rfl) (by simp) ?_
    refine AllReadyH.cons rfl (fun K hK => ?_) AllReadyH.nil
    simp only [List.getElem_toArray, List.getElem_cons_succ, List.getElem_cons_zero]
    refine wp_if (by kernel_rfl) ?_
    refine wp_part (g := tb) (off := 4 + r * 2) (val := .agg #[.int .i64 2, .int .i64 n]) rfl (by kernel_rfl) (by kernel_rfl) TD2.bk (by rw [sizeRuleD]; rfl) (by rw [TD2.len]; show 4 + r * 2 + 2 ≤ 77; omega) (fun u hu => by simp [Value.cells] at hu; rcases hu with rfl | rfl <;> rfl) rfl ?_
    refine hK.out _ _ (OD2.setO hne _) (fun _ => ?_)
    clear hK
    refine wpAnyH_done (by kernel_rfl) ?_ _
    have ev : (Value.agg #[.int .i64 2, .int .i64 n]).cells.toList = [.int .i64 2, .int .i64 n] := rfl
    rw [ev]
    clear ev hS OD2 TD2 BD2
    generalize W2.setRow tb (putAt (dC t vL vK).toArray (4 + r * 2) [.int .i64 2, .int .i64 n]) = W3 at *
    go_wp2_with fail
    go_ret
    exact ⟨rfl, B3, _, _, T3⟩
  · have HM : Hid (∀ W : World, Calls Tryd.prog 26 #[.agg (oqD 5 r n)] W fun e w' => e = .returned (.bool (mayB ⟨5, r, n⟩)) ∧ Below W.heap.size W w') := ⟨fun W => may_any 5 r n W⟩
    rw [hm] at HM
    go_enter Tryd.func16, Tryd.ntmps16
    go_upto_region 1 with fail
    have HH1 : Hid _ := ⟨H1⟩
    have HO1 : Hid _ := ⟨O1⟩
    have HBB1 : Hid _ := ⟨HBb⟩
    have d0 := O1.cell 0 rfl
    have d1 := O1.cell 1 rfl
    have d2 := O1.cell 2 rfl
    clear H1 O1 HBb HB
    generalize w.alloc (.cells (oqD 5 r n) 52) = W1 at *
    go_upto_region 3 with (go_at_call 26; (with_reducible refine (HM.out _).mono ?_); rintro e w2 ⟨he, hb2⟩; subst he; have HB2 : Hid _ := ⟨hb2⟩; have d0 := (HO1.out.bel hb2 HO1.out.lt).cell 0 rfl; clear hb2)
    have T2 := HH1.out.bel HB2.out
    have O2 := HO1.out.bel HB2.out HO1.out.lt
    have hb1s : base ≤ W1.heap.size := Nat.le_trans hbs (Nat.le_of_lt HO1.out.lt)
    have B2 := HBB1.out.trans (HB2.out.mono hb1s)
    have e0 := O2.cell 0 rfl
    have e1 := O2.cell 1 rfl
    have e2 := O2.cell 2 rfl
    clear HM HH1 HO1 HBB1 HB2 d0 d1 d2
    obtain ⟨r, rfl⟩ : ∃ q : Nat, r = (q : Int) := ⟨r.toNat, by have := (may_reg hm (.inr (.inr (.inl rfl)))).1; dsimp only at this; omega⟩
    have hr17 : r < 17 := by have := (may_reg hm (.inr (.inr (.inl rfl)))).2; dsimp only at this; omega
    go_upto_region 20 with fail
    have TD2 := T2.bel ((Below.refl w2.heap.size w2).drew)
    have BD2 := B2.trans ((Below.refl base w2).drew)
    have OD2 : Bk w2.drew w.heap.size 52 (oqD 5 (r : Int) n) := O2.of rfl
    have T3 := TD2.rule r hr17 (2, n)
    have B3 := BD2.trans (below_set w2.drew tb (putAt (dC t vL vK).toArray (4 + r * 2) [.int .i64 2, .int .i64 n]) h.lo)
    refine wp_region_held_drew (S := fun u => Bk u w.heap.size 52 (oqD 5 (r : Int) n)) (by kernel_rfl) OD2 (fun hS => ?_)
    clear e0 e1 e2 T2 B2 O2
    generalize w2.drew = W2 at *
    refine wpAnyH_take (i := 0) (v := .pointer (some ⟨tb, 0, none⟩)) rfl (by kernel_rfl) (by kernel_rfl) (by kernel_rfl) (fun _ _ _ h => h) (Or.inl ⟨by kernel_rfl, fun u hu => by kernel_rfl⟩) hS ?_
    simp only [Act.put, List.getElem_toArray, List.getElem_cons_succ, List.getElem_cons_zero, List.setIfInBounds_toArray, List.set_cons_zero, List.set_cons_succ]
    refine wpAnyH_take (i := 1) (v := .pointer (some ⟨w.heap.size, 1, none⟩)) rfl (by kernel_rfl) (by kernel_rfl) (by kernel_rfl) (fun _ _ _ h => h) (Or.inl ⟨by kernel_rfl, fun u hu => by kernel_rfl⟩) hS ?_
    simp only [Act.put, List.getElem_toArray, List.getElem_cons_succ, List.getElem_cons_zero, List.setIfInBounds_toArray, List.set_cons_zero, List.set_cons_succ]
    refine wpAnyH_take (i := 2) (v := .int .i64 (r : Int)) rfl (by kernel_rfl) (by kernel_rfl) (by kernel_rfl) (fun _ _ _ h => h) (Or.inl ⟨by kernel_rfl, fun u hu => exec_loadV (t := 3) (p := ⟨w.heap.size, 1, none⟩) rfl (by kernel_rfl) (load_i64 (hu.cell 1 rfl))⟩) hS ?_
    simp only [Act.put, List.getElem_toArray, List.getElem_cons_succ, List.getElem_cons_zero, List.setIfInBounds_toArray, List.set_cons_zero, List.set_cons_succ]
    refine wpAnyH_take (i := 3) (v := .pointer (some ⟨w.heap.size, 2, none⟩)) rfl (by kernel_rfl) (by kernel_rfl) (by kernel_rfl) (fun _ _ _ h => h) (Or.inl ⟨by kernel_rfl, fun u hu => by kernel_rfl⟩) hS ?_
    simp only [Act.put, List.getElem_toArray, List.getElem_cons_succ, List.getElem_cons_zero, List.setIfInBounds_toArray, List.set_cons_zero, List.set_cons_succ]
    refine wpAnyH_take (i := 4) (v := .int .i64 n) rfl (by kernel_rfl) (by kernel_rfl) (by kernel_rfl) (fun _ _ _ h => h) (Or.inl ⟨by kernel_rfl, fun u hu => exec_loadV (t := 3) (p := ⟨w.heap.size, 2, none⟩) rfl (by kernel_rfl) (load_i64 (hu.cell 2 rfl))⟩) hS ?_
    simp only [Act.put, List.getElem_toArray, List.getElem_cons_succ, List.getElem_cons_zero, List.setIfInBounds_toArray, List.set_cons_zero, List.set_cons_succ]
    refine wpAnyH_take (i := 5) (v := .agg #[.int .i64 2, .int .i64 n]) rfl (by kernel_rfl) (by kernel_rfl) (by kernel_rfl) (fun _ _ _ h => h) (Or.inl ⟨by kernel_rfl, fun u hu => by kernel_rfl⟩) hS ?_
    simp only [Act.put, List.getElem_toArray, List.getElem_cons_succ, List.getElem_cons_zero, List.setIfInBounds_toArray, List.set_cons_zero, List.set_cons_succ]
    refine wpAnyH_take (i := 6) (v := .pointer (some ⟨tb, 0, none⟩)) rfl (by kernel_rfl) (by kernel_rfl) (by kernel_rfl) (fun _ _ _ h => h) (Or.inl ⟨by kernel_rfl, fun u hu => by kernel_rfl⟩) hS ?_
    simp only [Act.put, List.getElem_toArray, List.getElem_cons_succ, List.getElem_cons_zero, List.setIfInBounds_toArray, List.set_cons_zero, List.set_cons_succ]
    refine wpAnyH_take (i := 7) (v := .pointer (some ⟨tb, 1, none⟩)) rfl (by kernel_rfl) (by kernel_rfl) (by kernel_rfl) (fun _ _ _ h => h) (Or.inl ⟨by kernel_rfl, fun u hu => by kernel_rfl⟩) hS ?_
    simp only [Act.put, List.getElem_toArray, List.getElem_cons_succ, List.getElem_cons_zero, List.setIfInBounds_toArray, List.set_cons_zero, List.set_cons_succ]
    refine wpAnyH_take (i := 8) (v := .pointer (some ⟨tb, 4, none⟩)) rfl (by kernel_rfl) (by kernel_rfl) (by kernel_rfl) (fun _ _ _ h => h) (Or.inl ⟨by kernel_rfl, fun u hu => by kernel_rfl⟩) hS ?_
    simp only [Act.put, List.getElem_toArray, List.getElem_cons_succ, List.getElem_cons_zero, List.setIfInBounds_toArray, List.set_cons_zero, List.set_cons_succ]
    refine wpAnyH_take (i := 9) (v := .pointer (some ⟨tb, 4 + r * 2, none⟩)) rfl (by kernel_rfl) (by kernel_rfl) (by kernel_rfl) (fun _ _ _ h => h) (Or.inl ⟨by kernel_rfl, fun u hu => exec_ix rfl (by kernel_rfl) (by kernel_rfl) (ix_ruleD tb 4 r hr17 u)⟩) hS ?_
    simp only [Act.put, List.getElem_toArray, List.getElem_cons_succ, List.getElem_cons_zero, List.setIfInBounds_toArray, List.set_cons_zero, List.set_cons_succ]
    refine wpAnyH_ready (rs := [10]) (by kernel_rfl) (by simp) ?_
    refine AllReadyH.cons rfl (fun K hK => ?_) AllReadyH.nil
    simp only [List.getElem_toArray, List.getElem_cons_succ, List.getElem_cons_zero]
    refine wp_if (by kernel_rfl) ?_
    refine wp_part (g := tb) (off := 4 + r * 2) (val := .agg #[.int .i64 2, .int .i64 n]) rfl (by kernel_rfl) (by kernel_rfl) TD2.bk (by rw [sizeRuleD]; rfl) (by rw [TD2.len]; show 4 + r * 2 + 2 ≤ 77; omega) (fun u hu => by simp [Value.cells] at hu; rcases hu with rfl | rfl <;> rfl) rfl ?_
    refine hK.out _ _ (OD2.setO hne _) (fun _ => ?_)
    clear hK
    refine wpAnyH_done (by kernel_rfl) ?_ _
    have ev : (Value.agg #[.int .i64 2, .int .i64 n]).cells.toList = [.int .i64 2, .int .i64 n] := rfl
    rw [ev]
    clear ev hS OD2 TD2 BD2
    generalize W2.setRow tb (putAt (dC t vL vK).toArray (4 + r * 2) [.int .i64 2, .int .i64 n]) = W3 at *
    go_wp2_with fail
    go_ret
    exact ⟨rfl, B3, _, _, T3⟩

set_option maxRecDepth 10000 in
set_option maxHeartbeats 1000000 in
theorem tone_7 {base tb : Nat} {w : World} {t : Tb} {vL vK : Value} (h : TD X base w tb t vL vK) (r n : Int) (b : Bool) (hm : mayB ⟨7, r, n⟩ = true) :
    Calls Tryd.prog 16 #[.pointer (some ⟨tb, 0, none⟩), .agg (oqD 7 r n), .bool b] w fun e w' => e = .returned (.bool true) ∧ Below base w w' ∧ ∃ vL vK, TD X base w' tb ⟨t.L, t.now.set r (1, 0), t.first, t.kept, t.size⟩ vL vK := by
  have HB : Below w.heap.size w (w.alloc (.cells (oqD 7 r n) 52)) := (Below.refl _ _).alloc (Nat.le_refl _) _
  have H1 := h.bel HB
  have O1 : Bk (w.alloc (.cells (oqD 7 r n) 52)) w.heap.size 52 (oqD 7 r n) := Bk.new w _ _
  have hne : w.heap.size ≠ tb := by have := h.bk.lt; omega
  have hbs : base ≤ w.heap.size := Nat.le_trans h.lo (Nat.le_of_lt h.bk.lt)
  have HBb := HB.mono hbs
  have hnrW : vL.ownBlock ≠ some w.heap.size := fun e => by have := ownV_lt h.L e; omega
  have hnkW : vK.ownBlock ≠ some w.heap.size := fun e => by have := ownV_lt h.K e; omega
  cases b
  · have HM : Hid (∀ W : World, Calls Tryd.prog 26 #[.agg (oqD 7 r n)] W fun e w' => e = .returned (.bool (mayB ⟨7, r, n⟩)) ∧ Below W.heap.size W w') := ⟨fun W => may_any 7 r n W⟩
    rw [hm] at HM
    go_enter Tryd.func16, Tryd.ntmps16
    go_upto_region 1 with fail
    have HH1 : Hid _ := ⟨H1⟩
    have HO1 : Hid _ := ⟨O1⟩
    have HBB1 : Hid _ := ⟨HBb⟩
    have d0 := O1.cell 0 rfl
    have d1 := O1.cell 1 rfl
    have d2 := O1.cell 2 rfl
    clear H1 O1 HBb HB
    generalize w.alloc (.cells (oqD 7 r n) 52) = W1 at *
    go_upto_region 3 with (go_at_call 26; (with_reducible refine (HM.out _).mono ?_); rintro e w2 ⟨he, hb2⟩; subst he; have HB2 : Hid _ := ⟨hb2⟩; have d0 := (HO1.out.bel hb2 HO1.out.lt).cell 0 rfl; clear hb2)
    have T2 := HH1.out.bel HB2.out
    have O2 := HO1.out.bel HB2.out HO1.out.lt
    have hb1s : base ≤ W1.heap.size := Nat.le_trans hbs (Nat.le_of_lt HO1.out.lt)
    have B2 := HBB1.out.trans (HB2.out.mono hb1s)
    have e0 := O2.cell 0 rfl
    have e1 := O2.cell 1 rfl
    have e2 := O2.cell 2 rfl
    clear HM HH1 HO1 HBB1 HB2 d0 d1 d2
    obtain ⟨r, rfl⟩ : ∃ q : Nat, r = (q : Int) := ⟨r.toNat, by have := (may_reg hm (.inr (.inr (.inr (.inr (.inl rfl)))))).1; dsimp only at this; omega⟩
    have hr17 : r < 17 := by have := (may_reg hm (.inr (.inr (.inr (.inr (.inl rfl)))))).2; dsimp only at this; omega
    go_upto_region 24 with fail
    have TD2 := T2.bel ((Below.refl w2.heap.size w2).drew)
    have BD2 := B2.trans ((Below.refl base w2).drew)
    have OD2 : Bk w2.drew w.heap.size 52 (oqD 7 (r : Int) n) := O2.of rfl
    have T3 := TD2.rule r hr17 (1, 0)
    have B3 := BD2.trans (below_set w2.drew tb (putAt (dC t vL vK).toArray (4 + r * 2) [.int .i64 1, .int .i64 0]) h.lo)
    refine wp_region_held_drew (S := fun u => Bk u w.heap.size 52 (oqD 7 (r : Int) n)) (by kernel_rfl) OD2 (fun hS => ?_)
    clear e0 e1 e2 T2 B2 O2
    generalize w2.drew = W2 at *
    refine wpAnyH_take (i := 0) (v := .pointer (some ⟨tb, 0, none⟩)) rfl (by kernel_rfl) (by kernel_rfl) (by kernel_rfl) (fun _ _ _ h => h) (Or.inl ⟨by kernel_rfl, fun u hu => by kernel_rfl⟩) hS ?_
    simp only [Act.put, List.getElem_toArray, List.getElem_cons_succ, List.getElem_cons_zero, List.setIfInBounds_toArray, List.set_cons_zero, List.set_cons_succ]
    refine wpAnyH_take (i := 1) (v := .pointer (some ⟨w.heap.size, 1, none⟩)) rfl (by kernel_rfl) (by kernel_rfl) (by kernel_rfl) (fun _ _ _ h => h) (Or.inl ⟨by kernel_rfl, fun u hu => by kernel_rfl⟩) hS ?_
    simp only [Act.put, List.getElem_toArray, List.getElem_cons_succ, List.getElem_cons_zero, List.setIfInBounds_toArray, List.set_cons_zero, List.set_cons_succ]
    refine wpAnyH_take (i := 2) (v := .int .i64 (r : Int)) rfl (by kernel_rfl) (by kernel_rfl) (by kernel_rfl) (fun _ _ _ h => h) (Or.inl ⟨by kernel_rfl, fun u hu => exec_loadV (t := 3) (p := ⟨w.heap.size, 1, none⟩) rfl (by kernel_rfl) (load_i64 (hu.cell 1 rfl))⟩) hS ?_
    simp only [Act.put, List.getElem_toArray, List.getElem_cons_succ, List.getElem_cons_zero, List.setIfInBounds_toArray, List.set_cons_zero, List.set_cons_succ]
    refine wpAnyH_take (i := 3) (v := .agg #[.int .i64 1, .int .i64 0]) rfl (by kernel_rfl) (by kernel_rfl) (by kernel_rfl) (fun _ _ _ h => h) (Or.inl ⟨by kernel_rfl, fun u hu => by kernel_rfl⟩) hS ?_
    simp only [Act.put, List.getElem_toArray, List.getElem_cons_succ, List.getElem_cons_zero, List.setIfInBounds_toArray, List.set_cons_zero, List.set_cons_succ]
    refine wpAnyH_take (i := 4) (v := .pointer (some ⟨tb, 0, none⟩)) rfl (by kernel_rfl) (by kernel_rfl) (by kernel_rfl) (fun _ _ _ h => h) (Or.inl ⟨by kernel_rfl, fun u hu => by kernel_rfl⟩) hS ?_
    simp only [Act.put, List.getElem_toArray, List.getElem_cons_succ, List.getElem_cons_zero, List.setIfInBounds_toArray, List.set_cons_zero, List.set_cons_succ]
    refine wpAnyH_take (i := 5) (v := .pointer (some ⟨tb, 1, none⟩)) rfl (by kernel_rfl) (by kernel_rfl) (by kernel_rfl) (fun _ _ _ h => h) (Or.inl ⟨by kernel_rfl, fun u hu => by kernel_rfl⟩) hS ?_
    simp only [Act.put, List.getElem_toArray, List.getElem_cons_succ, List.getElem_cons_zero, List.setIfInBounds_toArray, List.set_cons_zero, List.set_cons_succ]
    refine wpAnyH_take (i := 6) (v := .pointer (some ⟨tb, 4, none⟩)) rfl (by kernel_rfl) (by kernel_rfl) (by kernel_rfl) (fun _ _ _ h => h) (Or.inl ⟨by kernel_rfl, fun u hu => by kernel_rfl⟩) hS ?_
    simp only [Act.put, List.getElem_toArray, List.getElem_cons_succ, List.getElem_cons_zero, List.setIfInBounds_toArray, List.set_cons_zero, List.set_cons_succ]
    refine wpAnyH_take (i := 7) (v := .pointer (some ⟨tb, 4 + r * 2, none⟩)) rfl (by kernel_rfl) (by kernel_rfl) (by kernel_rfl) (fun _ _ _ h => h) (Or.inl ⟨by kernel_rfl, fun u hu => exec_ix rfl (by kernel_rfl) (by kernel_rfl) (ix_ruleD tb 4 r hr17 u)⟩) hS ?_
    simp only [Act.put, List.getElem_toArray, List.getElem_cons_succ, List.getElem_cons_zero, List.setIfInBounds_toArray, List.set_cons_zero, List.set_cons_succ]
    refine wpAnyH_ready (rs := [8]) (by kernel_rfl) (by simp) ?_
    refine AllReadyH.cons rfl (fun K hK => ?_) AllReadyH.nil
    simp only [List.getElem_toArray, List.getElem_cons_succ, List.getElem_cons_zero]
    refine wp_if (by kernel_rfl) ?_
    refine wp_part (g := tb) (off := 4 + r * 2) (val := .agg #[.int .i64 1, .int .i64 0]) rfl (by kernel_rfl) (by kernel_rfl) TD2.bk (by rw [sizeRuleD]; rfl) (by rw [TD2.len]; show 4 + r * 2 + 2 ≤ 77; omega) (fun u hu => by simp [Value.cells] at hu; rcases hu with rfl | rfl <;> rfl) rfl ?_
    refine hK.out _ _ (OD2.setO hne _) (fun _ => ?_)
    clear hK
    refine wpAnyH_done (by kernel_rfl) ?_ _
    have ev : (Value.agg #[.int .i64 1, .int .i64 0]).cells.toList = [.int .i64 1, .int .i64 0] := rfl
    rw [ev]
    clear ev hS OD2 TD2 BD2
    generalize W2.setRow tb (putAt (dC t vL vK).toArray (4 + r * 2) [.int .i64 1, .int .i64 0]) = W3 at *
    go_wp2_with fail
    go_ret
    exact ⟨rfl, B3, _, _, T3⟩
  · have HM : Hid (∀ W : World, Calls Tryd.prog 26 #[.agg (oqD 7 r n)] W fun e w' => e = .returned (.bool (mayB ⟨7, r, n⟩)) ∧ Below W.heap.size W w') := ⟨fun W => may_any 7 r n W⟩
    rw [hm] at HM
    go_enter Tryd.func16, Tryd.ntmps16
    go_upto_region 1 with fail
    have HH1 : Hid _ := ⟨H1⟩
    have HO1 : Hid _ := ⟨O1⟩
    have HBB1 : Hid _ := ⟨HBb⟩
    have d0 := O1.cell 0 rfl
    have d1 := O1.cell 1 rfl
    have d2 := O1.cell 2 rfl
    clear H1 O1 HBb HB
    generalize w.alloc (.cells (oqD 7 r n) 52) = W1 at *
    go_upto_region 3 with (go_at_call 26; (with_reducible refine (HM.out _).mono ?_); rintro e w2 ⟨he, hb2⟩; subst he; have HB2 : Hid _ := ⟨hb2⟩; have d0 := (HO1.out.bel hb2 HO1.out.lt).cell 0 rfl; clear hb2)
    have T2 := HH1.out.bel HB2.out
    have O2 := HO1.out.bel HB2.out HO1.out.lt
    have hb1s : base ≤ W1.heap.size := Nat.le_trans hbs (Nat.le_of_lt HO1.out.lt)
    have B2 := HBB1.out.trans (HB2.out.mono hb1s)
    have e0 := O2.cell 0 rfl
    have e1 := O2.cell 1 rfl
    have e2 := O2.cell 2 rfl
    clear HM HH1 HO1 HBB1 HB2 d0 d1 d2
    obtain ⟨r, rfl⟩ : ∃ q : Nat, r = (q : Int) := ⟨r.toNat, by have := (may_reg hm (.inr (.inr (.inr (.inr (.inl rfl)))))).1; dsimp only at this; omega⟩
    have hr17 : r < 17 := by have := (may_reg hm (.inr (.inr (.inr (.inr (.inl rfl)))))).2; dsimp only at this; omega
    go_upto_region 24 with fail
    have TD2 := T2.bel ((Below.refl w2.heap.size w2).drew)
    have BD2 := B2.trans ((Below.refl base w2).drew)
    have OD2 : Bk w2.drew w.heap.size 52 (oqD 7 (r : Int) n) := O2.of rfl
    have T3 := TD2.rule r hr17 (1, 0)
    have B3 := BD2.trans (below_set w2.drew tb (putAt (dC t vL vK).toArray (4 + r * 2) [.int .i64 1, .int .i64 0]) h.lo)
    refine wp_region_held_drew (S := fun u => Bk u w.heap.size 52 (oqD 7 (r : Int) n)) (by kernel_rfl) OD2 (fun hS => ?_)
    clear e0 e1 e2 T2 B2 O2
    generalize w2.drew = W2 at *
    refine wpAnyH_take (i := 0) (v := .pointer (some ⟨tb, 0, none⟩)) rfl (by kernel_rfl) (by kernel_rfl) (by kernel_rfl) (fun _ _ _ h => h) (Or.inl ⟨by kernel_rfl, fun u hu => by kernel_rfl⟩) hS ?_
    simp only [Act.put, List.getElem_toArray, List.getElem_cons_succ, List.getElem_cons_zero, List.setIfInBounds_toArray, List.set_cons_zero, List.set_cons_succ]
    refine wpAnyH_take (i := 1) (v := .pointer (some ⟨w.heap.size, 1, none⟩)) rfl (by kernel_rfl) (by kernel_rfl) (by kernel_rfl) (fun _ _ _ h => h) (Or.inl ⟨by kernel_rfl, fun u hu => by kernel_rfl⟩) hS ?_
    simp only [Act.put, List.getElem_toArray, List.getElem_cons_succ, List.getElem_cons_zero, List.setIfInBounds_toArray, List.set_cons_zero, List.set_cons_succ]
    refine wpAnyH_take (i := 2) (v := .int .i64 (r : Int)) rfl (by kernel_rfl) (by kernel_rfl) (by kernel_rfl) (fun _ _ _ h => h) (Or.inl ⟨by kernel_rfl, fun u hu => exec_loadV (t := 3) (p := ⟨w.heap.size, 1, none⟩) rfl (by kernel_rfl) (load_i64 (hu.cell 1 rfl))⟩) hS ?_
    simp only [Act.put, List.getElem_toArray, List.getElem_cons_succ, List.getElem_cons_zero, List.setIfInBounds_toArray, List.set_cons_zero, List.set_cons_succ]
    refine wpAnyH_take (i := 3) (v := .agg #[.int .i64 1, .int .i64 0]) rfl (by kernel_rfl) (by kernel_rfl) (by kernel_rfl) (fun _ _ _ h => h) (Or.inl ⟨by kernel_rfl, fun u hu => by kernel_rfl⟩) hS ?_
    simp only [Act.put, List.getElem_toArray, List.getElem_cons_succ, List.getElem_cons_zero, List.setIfInBounds_toArray, List.set_cons_zero, List.set_cons_succ]
    refine wpAnyH_take (i := 4) (v := .pointer (some ⟨tb, 0, none⟩)) rfl (by kernel_rfl) (by kernel_rfl) (by kernel_rfl) (fun _ _ _ h => h) (Or.inl ⟨by kernel_rfl, fun u hu => by kernel_rfl⟩) hS ?_
    simp only [Act.put, List.getElem_toArray, List.getElem_cons_succ, List.getElem_cons_zero, List.setIfInBounds_toArray, List.set_cons_zero, List.set_cons_succ]
    refine wpAnyH_take (i := 5) (v := .pointer (some ⟨tb, 1, none⟩)) rfl (by kernel_rfl) (by kernel_rfl) (by kernel_rfl) (fun _ _ _ h => h) (Or.inl ⟨by kernel_rfl, fun u hu => by kernel_rfl⟩) hS ?_
    simp only [Act.put, List.getElem_toArray, List.getElem_cons_succ, List.getElem_cons_zero, List.setIfInBounds_toArray, List.set_cons_zero, List.set_cons_succ]
    refine wpAnyH_take (i := 6) (v := .pointer (some ⟨tb, 4, none⟩)) rfl (by kernel_rfl) (by kernel_rfl) (by kernel_rfl) (fun _ _ _ h => h) (Or.inl ⟨by kernel_rfl, fun u hu => by kernel_rfl⟩) hS ?_
    simp only [Act.put, List.getElem_toArray, List.getElem_cons_succ, List.getElem_cons_zero, List.setIfInBounds_toArray, List.set_cons_zero, List.set_cons_succ]
    refine wpAnyH_take (i := 7) (v := .pointer (some ⟨tb, 4 + r * 2, none⟩)) rfl (by kernel_rfl) (by kernel_rfl) (by kernel_rfl) (fun _ _ _ h => h) (Or.inl ⟨by kernel_rfl, fun u hu => exec_ix rfl (by kernel_rfl) (by kernel_rfl) (ix_ruleD tb 4 r hr17 u)⟩) hS ?_
    simp only [Act.put, List.getElem_toArray, List.getElem_cons_succ, List.getElem_cons_zero, List.setIfInBounds_toArray, List.set_cons_zero, List.set_cons_succ]
    refine wpAnyH_ready (rs := [8]) (by kernel_rfl) (by simp) ?_
    refine AllReadyH.cons rfl (fun K hK => ?_) AllReadyH.nil
    simp only [List.getElem_toArray, List.getElem_cons_succ, List.getElem_cons_zero]
    refine wp_if (by kernel_rfl) ?_
    refine wp_part (g := tb) (off := 4 + r * 2) (val := .agg #[.int .i64 1, .int .i64 0]) rfl (by kernel_rfl) (by kernel_rfl) TD2.bk (by rw [sizeRuleD]; rfl) (by rw [TD2.len]; show 4 + r * 2 + 2 ≤ 77; omega) (fun u hu => by simp [Value.cells] at hu; rcases hu with rfl | rfl <;> rfl) rfl ?_
    refine hK.out _ _ (OD2.setO hne _) (fun _ => ?_)
    clear hK
    refine wpAnyH_done (by kernel_rfl) ?_ _
    have ev : (Value.agg #[.int .i64 1, .int .i64 0]).cells.toList = [.int .i64 1, .int .i64 0] := rfl
    rw [ev]
    clear ev hS OD2 TD2 BD2
    generalize W2.setRow tb (putAt (dC t vL vK).toArray (4 + r * 2) [.int .i64 1, .int .i64 0]) = W3 at *
    go_wp2_with fail
    go_ret
    exact ⟨rfl, B3, _, _, T3⟩

set_option maxRecDepth 10000 in
set_option maxHeartbeats 1000000 in
theorem tone_8 {base tb : Nat} {w : World} {t : Tb} {vL vK : Value} (h : TD X base w tb t vL vK) (r n : Int) (b : Bool) (hm : mayB ⟨8, r, n⟩ = true) :
    Calls Tryd.prog 16 #[.pointer (some ⟨tb, 0, none⟩), .agg (oqD 8 r n), .bool b] w fun e w' => e = .returned (.bool true) ∧ Below base w w' ∧ ∃ vL vK, TD X base w' tb ⟨t.L, t.now.set r (0, 0), t.first, t.kept, t.size⟩ vL vK := by
  have HB : Below w.heap.size w (w.alloc (.cells (oqD 8 r n) 52)) := (Below.refl _ _).alloc (Nat.le_refl _) _
  have H1 := h.bel HB
  have O1 : Bk (w.alloc (.cells (oqD 8 r n) 52)) w.heap.size 52 (oqD 8 r n) := Bk.new w _ _
  have hne : w.heap.size ≠ tb := by have := h.bk.lt; omega
  have hbs : base ≤ w.heap.size := Nat.le_trans h.lo (Nat.le_of_lt h.bk.lt)
  have HBb := HB.mono hbs
  have hnrW : vL.ownBlock ≠ some w.heap.size := fun e => by have := ownV_lt h.L e; omega
  have hnkW : vK.ownBlock ≠ some w.heap.size := fun e => by have := ownV_lt h.K e; omega
  cases b
  · have HM : Hid (∀ W : World, Calls Tryd.prog 26 #[.agg (oqD 8 r n)] W fun e w' => e = .returned (.bool (mayB ⟨8, r, n⟩)) ∧ Below W.heap.size W w') := ⟨fun W => may_any 8 r n W⟩
    rw [hm] at HM
    go_enter Tryd.func16, Tryd.ntmps16
    go_upto_region 1 with fail
    have HH1 : Hid _ := ⟨H1⟩
    have HO1 : Hid _ := ⟨O1⟩
    have HBB1 : Hid _ := ⟨HBb⟩
    have d0 := O1.cell 0 rfl
    have d1 := O1.cell 1 rfl
    have d2 := O1.cell 2 rfl
    clear H1 O1 HBb HB
    generalize w.alloc (.cells (oqD 8 r n) 52) = W1 at *
    go_upto_region 3 with (go_at_call 26; (with_reducible refine (HM.out _).mono ?_); rintro e w2 ⟨he, hb2⟩; subst he; have HB2 : Hid _ := ⟨hb2⟩; have d0 := (HO1.out.bel hb2 HO1.out.lt).cell 0 rfl; clear hb2)
    have T2 := HH1.out.bel HB2.out
    have O2 := HO1.out.bel HB2.out HO1.out.lt
    have hb1s : base ≤ W1.heap.size := Nat.le_trans hbs (Nat.le_of_lt HO1.out.lt)
    have B2 := HBB1.out.trans (HB2.out.mono hb1s)
    have e0 := O2.cell 0 rfl
    have e1 := O2.cell 1 rfl
    have e2 := O2.cell 2 rfl
    clear HM HH1 HO1 HBB1 HB2 d0 d1 d2
    obtain ⟨r, rfl⟩ : ∃ q : Nat, r = (q : Int) := ⟨r.toNat, by have := (may_reg hm (.inr (.inr (.inr (.inr (.inr rfl)))))).1; dsimp only at this; omega⟩
    have hr17 : r < 17 := by have := (may_reg hm (.inr (.inr (.inr (.inr (.inr rfl)))))).2; dsimp only at this; omega
    go_upto_region 26 with fail
    have TD2 := T2.bel ((Below.refl w2.heap.size w2).drew)
    have BD2 := B2.trans ((Below.refl base w2).drew)
    have OD2 : Bk w2.drew w.heap.size 52 (oqD 8 (r : Int) n) := O2.of rfl
    have T3 := TD2.rule r hr17 (0, 0)
    have B3 := BD2.trans (below_set w2.drew tb (putAt (dC t vL vK).toArray (4 + r * 2) [.int .i64 0, .int .i64 0]) h.lo)
    refine wp_region_held_drew (S := fun u => Bk u w.heap.size 52 (oqD 8 (r : Int) n)) (by kernel_rfl) OD2 (fun hS => ?_)
    clear e0 e1 e2 T2 B2 O2
    generalize w2.drew = W2 at *
    refine wpAnyH_take (i := 0) (v := .pointer (some ⟨tb, 0, none⟩)) rfl (by kernel_rfl) (by kernel_rfl) (by kernel_rfl) (fun _ _ _ h => h) (Or.inl ⟨by kernel_rfl, fun u hu => by kernel_rfl⟩) hS ?_
    simp only [Act.put, List.getElem_toArray, List.getElem_cons_succ, List.getElem_cons_zero, List.setIfInBounds_toArray, List.set_cons_zero, List.set_cons_succ]
    refine wpAnyH_take (i := 1) (v := .pointer (some ⟨w.heap.size, 1, none⟩)) rfl (by kernel_rfl) (by kernel_rfl) (by kernel_rfl) (fun _ _ _ h => h) (Or.inl ⟨by kernel_rfl, fun u hu => by kernel_rfl⟩) hS ?_
    simp only [Act.put, List.getElem_toArray, List.getElem_cons_succ, List.getElem_cons_zero, List.setIfInBounds_toArray, List.set_cons_zero, List.set_cons_succ]
    refine wpAnyH_take (i := 2) (v := .int .i64 (r : Int)) rfl (by kernel_rfl) (by kernel_rfl) (by kernel_rfl) (fun _ _ _ h => h) (Or.inl ⟨by kernel_rfl, fun u hu => exec_loadV (t := 3) (p := ⟨w.heap.size, 1, none⟩) rfl (by kernel_rfl) (load_i64 (hu.cell 1 rfl))⟩) hS ?_
    simp only [Act.put, List.getElem_toArray, List.getElem_cons_succ, List.getElem_cons_zero, List.setIfInBounds_toArray, List.set_cons_zero, List.set_cons_succ]
    refine wpAnyH_take (i := 3) (v := .agg #[.int .i64 0, .int .i64 0]) rfl (by kernel_rfl) (by kernel_rfl) (by kernel_rfl) (fun _ _ _ h => h) (Or.inl ⟨by kernel_rfl, fun u hu => by kernel_rfl⟩) hS ?_
    simp only [Act.put, List.getElem_toArray, List.getElem_cons_succ, List.getElem_cons_zero, List.setIfInBounds_toArray, List.set_cons_zero, List.set_cons_succ]
    refine wpAnyH_take (i := 4) (v := .pointer (some ⟨tb, 0, none⟩)) rfl (by kernel_rfl) (by kernel_rfl) (by kernel_rfl) (fun _ _ _ h => h) (Or.inl ⟨by kernel_rfl, fun u hu => by kernel_rfl⟩) hS ?_
    simp only [Act.put, List.getElem_toArray, List.getElem_cons_succ, List.getElem_cons_zero, List.setIfInBounds_toArray, List.set_cons_zero, List.set_cons_succ]
    refine wpAnyH_take (i := 5) (v := .pointer (some ⟨tb, 1, none⟩)) rfl (by kernel_rfl) (by kernel_rfl) (by kernel_rfl) (fun _ _ _ h => h) (Or.inl ⟨by kernel_rfl, fun u hu => by kernel_rfl⟩) hS ?_
    simp only [Act.put, List.getElem_toArray, List.getElem_cons_succ, List.getElem_cons_zero, List.setIfInBounds_toArray, List.set_cons_zero, List.set_cons_succ]
    refine wpAnyH_take (i := 6) (v := .pointer (some ⟨tb, 4, none⟩)) rfl (by kernel_rfl) (by kernel_rfl) (by kernel_rfl) (fun _ _ _ h => h) (Or.inl ⟨by kernel_rfl, fun u hu => by kernel_rfl⟩) hS ?_
    simp only [Act.put, List.getElem_toArray, List.getElem_cons_succ, List.getElem_cons_zero, List.setIfInBounds_toArray, List.set_cons_zero, List.set_cons_succ]
    refine wpAnyH_take (i := 7) (v := .pointer (some ⟨tb, 4 + r * 2, none⟩)) rfl (by kernel_rfl) (by kernel_rfl) (by kernel_rfl) (fun _ _ _ h => h) (Or.inl ⟨by kernel_rfl, fun u hu => exec_ix rfl (by kernel_rfl) (by kernel_rfl) (ix_ruleD tb 4 r hr17 u)⟩) hS ?_
    simp only [Act.put, List.getElem_toArray, List.getElem_cons_succ, List.getElem_cons_zero, List.setIfInBounds_toArray, List.set_cons_zero, List.set_cons_succ]
    refine wpAnyH_ready (rs := [8]) (by kernel_rfl) (by simp) ?_
    refine AllReadyH.cons rfl (fun K hK => ?_) AllReadyH.nil
    simp only [List.getElem_toArray, List.getElem_cons_succ, List.getElem_cons_zero]
    refine wp_if (by kernel_rfl) ?_
    refine wp_part (g := tb) (off := 4 + r * 2) (val := .agg #[.int .i64 0, .int .i64 0]) rfl (by kernel_rfl) (by kernel_rfl) TD2.bk (by rw [sizeRuleD]; rfl) (by rw [TD2.len]; show 4 + r * 2 + 2 ≤ 77; omega) (fun u hu => by simp [Value.cells] at hu; rcases hu with rfl | rfl <;> rfl) rfl ?_
    refine hK.out _ _ (OD2.setO hne _) (fun _ => ?_)
    clear hK
    refine wpAnyH_done (by kernel_rfl) ?_ _
    have ev : (Value.agg #[.int .i64 0, .int .i64 0]).cells.toList = [.int .i64 0, .int .i64 0] := rfl
    rw [ev]
    clear ev hS OD2 TD2 BD2
    generalize W2.setRow tb (putAt (dC t vL vK).toArray (4 + r * 2) [.int .i64 0, .int .i64 0]) = W3 at *
    go_wp2_with fail
    go_ret
    exact ⟨rfl, B3, _, _, T3⟩
  · have HM : Hid (∀ W : World, Calls Tryd.prog 26 #[.agg (oqD 8 r n)] W fun e w' => e = .returned (.bool (mayB ⟨8, r, n⟩)) ∧ Below W.heap.size W w') := ⟨fun W => may_any 8 r n W⟩
    rw [hm] at HM
    go_enter Tryd.func16, Tryd.ntmps16
    go_upto_region 1 with fail
    have HH1 : Hid _ := ⟨H1⟩
    have HO1 : Hid _ := ⟨O1⟩
    have HBB1 : Hid _ := ⟨HBb⟩
    have d0 := O1.cell 0 rfl
    have d1 := O1.cell 1 rfl
    have d2 := O1.cell 2 rfl
    clear H1 O1 HBb HB
    generalize w.alloc (.cells (oqD 8 r n) 52) = W1 at *
    go_upto_region 3 with (go_at_call 26; (with_reducible refine (HM.out _).mono ?_); rintro e w2 ⟨he, hb2⟩; subst he; have HB2 : Hid _ := ⟨hb2⟩; have d0 := (HO1.out.bel hb2 HO1.out.lt).cell 0 rfl; clear hb2)
    have T2 := HH1.out.bel HB2.out
    have O2 := HO1.out.bel HB2.out HO1.out.lt
    have hb1s : base ≤ W1.heap.size := Nat.le_trans hbs (Nat.le_of_lt HO1.out.lt)
    have B2 := HBB1.out.trans (HB2.out.mono hb1s)
    have e0 := O2.cell 0 rfl
    have e1 := O2.cell 1 rfl
    have e2 := O2.cell 2 rfl
    clear HM HH1 HO1 HBB1 HB2 d0 d1 d2
    obtain ⟨r, rfl⟩ : ∃ q : Nat, r = (q : Int) := ⟨r.toNat, by have := (may_reg hm (.inr (.inr (.inr (.inr (.inr rfl)))))).1; dsimp only at this; omega⟩
    have hr17 : r < 17 := by have := (may_reg hm (.inr (.inr (.inr (.inr (.inr rfl)))))).2; dsimp only at this; omega
    go_upto_region 26 with fail
    have TD2 := T2.bel ((Below.refl w2.heap.size w2).drew)
    have BD2 := B2.trans ((Below.refl base w2).drew)
    have OD2 : Bk w2.drew w.heap.size 52 (oqD 8 (r : Int) n) := O2.of rfl
    have T3 := TD2.rule r hr17 (0, 0)
    have B3 := BD2.trans (below_set w2.drew tb (putAt (dC t vL vK).toArray (4 + r * 2) [.int .i64 0, .int .i64 0]) h.lo)
    refine wp_region_held_drew (S := fun u => Bk u w.heap.size 52 (oqD 8 (r : Int) n)) (by kernel_rfl) OD2 (fun hS => ?_)
    clear e0 e1 e2 T2 B2 O2
    generalize w2.drew = W2 at *
    refine wpAnyH_take (i := 0) (v := .pointer (some ⟨tb, 0, none⟩)) rfl (by kernel_rfl) (by kernel_rfl) (by kernel_rfl) (fun _ _ _ h => h) (Or.inl ⟨by kernel_rfl, fun u hu => by kernel_rfl⟩) hS ?_
    simp only [Act.put, List.getElem_toArray, List.getElem_cons_succ, List.getElem_cons_zero, List.setIfInBounds_toArray, List.set_cons_zero, List.set_cons_succ]
    refine wpAnyH_take (i := 1) (v := .pointer (some ⟨w.heap.size, 1, none⟩)) rfl (by kernel_rfl) (by kernel_rfl) (by kernel_rfl) (fun _ _ _ h => h) (Or.inl ⟨by kernel_rfl, fun u hu => by kernel_rfl⟩) hS ?_
    simp only [Act.put, List.getElem_toArray, List.getElem_cons_succ, List.getElem_cons_zero, List.setIfInBounds_toArray, List.set_cons_zero, List.set_cons_succ]
    refine wpAnyH_take (i := 2) (v := .int .i64 (r : Int)) rfl (by kernel_rfl) (by kernel_rfl) (by kernel_rfl) (fun _ _ _ h => h) (Or.inl ⟨by kernel_rfl, fun u hu => exec_loadV (t := 3) (p := ⟨w.heap.size, 1, none⟩) rfl (by kernel_rfl) (load_i64 (hu.cell 1 rfl))⟩) hS ?_
    simp only [Act.put, List.getElem_toArray, List.getElem_cons_succ, List.getElem_cons_zero, List.setIfInBounds_toArray, List.set_cons_zero, List.set_cons_succ]
    refine wpAnyH_take (i := 3) (v := .agg #[.int .i64 0, .int .i64 0]) rfl (by kernel_rfl) (by kernel_rfl) (by kernel_rfl) (fun _ _ _ h => h) (Or.inl ⟨by kernel_rfl, fun u hu => by kernel_rfl⟩) hS ?_
    simp only [Act.put, List.getElem_toArray, List.getElem_cons_succ, List.getElem_cons_zero, List.setIfInBounds_toArray, List.set_cons_zero, List.set_cons_succ]
    refine wpAnyH_take (i := 4) (v := .pointer (some ⟨tb, 0, none⟩)) rfl (by kernel_rfl) (by kernel_rfl) (by kernel_rfl) (fun _ _ _ h => h) (Or.inl ⟨by kernel_rfl, fun u hu => by kernel_rfl⟩) hS ?_
    simp only [Act.put, List.getElem_toArray, List.getElem_cons_succ, List.getElem_cons_zero, List.setIfInBounds_toArray, List.set_cons_zero, List.set_cons_succ]
    refine wpAnyH_take (i := 5) (v := .pointer (some ⟨tb, 1, none⟩)) rfl (by kernel_rfl) (by kernel_rfl) (by kernel_rfl) (fun _ _ _ h => h) (Or.inl ⟨by kernel_rfl, fun u hu => by kernel_rfl⟩) hS ?_
    simp only [Act.put, List.getElem_toArray, List.getElem_cons_succ, List.getElem_cons_zero, List.setIfInBounds_toArray, List.set_cons_zero, List.set_cons_succ]
    refine wpAnyH_take (i := 6) (v := .pointer (some ⟨tb, 4, none⟩)) rfl (by kernel_rfl) (by kernel_rfl) (by kernel_rfl) (fun _ _ _ h => h) (Or.inl ⟨by kernel_rfl, fun u hu => by kernel_rfl⟩) hS ?_
    simp only [Act.put, List.getElem_toArray, List.getElem_cons_succ, List.getElem_cons_zero, List.setIfInBounds_toArray, List.set_cons_zero, List.set_cons_succ]
    refine wpAnyH_take (i := 7) (v := .pointer (some ⟨tb, 4 + r * 2, none⟩)) rfl (by kernel_rfl) (by kernel_rfl) (by kernel_rfl) (fun _ _ _ h => h) (Or.inl ⟨by kernel_rfl, fun u hu => exec_ix rfl (by kernel_rfl) (by kernel_rfl) (ix_ruleD tb 4 r hr17 u)⟩) hS ?_
    simp only [Act.put, List.getElem_toArray, List.getElem_cons_succ, List.getElem_cons_zero, List.setIfInBounds_toArray, List.set_cons_zero, List.set_cons_succ]
    refine wpAnyH_ready (rs := [8]) (by kernel_rfl) (by simp) ?_
    refine AllReadyH.cons rfl (fun K hK => ?_) AllReadyH.nil
    simp only [List.getElem_toArray, List.getElem_cons_succ, List.getElem_cons_zero]
    refine wp_if (by kernel_rfl) ?_
    refine wp_part (g := tb) (off := 4 + r * 2) (val := .agg #[.int .i64 0, .int .i64 0]) rfl (by kernel_rfl) (by kernel_rfl) TD2.bk (by rw [sizeRuleD]; rfl) (by rw [TD2.len]; show 4 + r * 2 + 2 ≤ 77; omega) (fun u hu => by simp [Value.cells] at hu; rcases hu with rfl | rfl <;> rfl) rfl ?_
    refine hK.out _ _ (OD2.setO hne _) (fun _ => ?_)
    clear hK
    refine wpAnyH_done (by kernel_rfl) ?_ _
    have ev : (Value.agg #[.int .i64 0, .int .i64 0]).cells.toList = [.int .i64 0, .int .i64 0] := rfl
    rw [ev]
    clear ev hS OD2 TD2 BD2
    generalize W2.setRow tb (putAt (dC t vL vK).toArray (4 + r * 2) [.int .i64 0, .int .i64 0]) = W3 at *
    go_wp2_with fail
    go_ret
    exact ⟨rfl, B3, _, _, T3⟩

end Go.Proofs.YtpbnldfekadalaaDoor
