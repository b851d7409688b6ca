/- The document's One: offsets, registers, rules. -/
import Derived.Test.YtpbnldfekadalaaDoorCD2
namespace Go.Proofs.YtpbnldfekadalaaDoor
open Go.ChangeShapes Go.WideShapes Go.ChangeAt Go.RowKit
set_option linter.unusedVariables false
set_option linter.unusedSimpArgs false
variable {X : Nat → Option Obj}

set_option maxRecDepth 10000 in
set_option maxHeartbeats 1000000 in
theorem tone_3 {base tb : Nat} {w : World} {t : Tb} {vL vK : Value} (h : TD X base w tb t vL vK) (r n : Int) (b : Bool) (hm : mayB ⟨3, r, n⟩ = true) :
    Calls Tryd.prog 16 #[.pointer (some ⟨tb, 0, none⟩), .agg (oqD 3 r n), .bool b] w fun e w' => e = .returned (.bool (decide (0 ≤ t.now.r))) ∧ Below base w w' ∧ ∃ vL vK, TD X base w' tb ⟨t.L, ⟨t.now.p, t.now.r, n, t.now.z⟩, t.first, t.kept, t.size⟩ vL vK := by
  have HB : Below w.heap.size w (w.alloc (.cells (oqD 3 r n) 52)) := (Below.refl _ _).alloc (Nat.le_refl _) _
  have H1 := h.bel HB
  have O1 : Bk (w.alloc (.cells (oqD 3 r n) 52)) w.heap.size 52 (oqD 3 r n) := Bk.new w _ _
  have hne : w.heap.size ≠ tb := by have := h.bk.lt; omega
  have hbs : base ≤ w.heap.size := Nat.le_trans h.lo (Nat.le_of_lt h.bk.lt)
  have HBb := HB.mono hbs
  have hnrW : vL.ownBlock ≠ some w.heap.size := fun e => by have := ownV_lt h.L e; omega
  have hnkW : vK.ownBlock ≠ some w.heap.size := fun e => by have := ownV_lt h.K e; omega
  cases b
  · have HM : Hid (∀ W : World, Calls Tryd.prog 26 #[.agg (oqD 3 r n)] W fun e w' => e = .returned (.bool (mayB ⟨3, r, n⟩)) ∧ Below W.heap.size W w') := ⟨fun W => may_any 3 r n W⟩
    rw [hm] at HM
    go_enter Tryd.func16, Tryd.ntmps16
    go_upto_region 1 with fail
    have HH1 : Hid _ := ⟨H1⟩
    have HO1 : Hid _ := ⟨O1⟩
    have HBB1 : Hid _ := ⟨HBb⟩
    have d0 := O1.cell 0 rfl
    have d1 := O1.cell 1 rfl
    have d2 := O1.cell 2 rfl
    clear H1 O1 HBb HB
    generalize w.alloc (.cells (oqD 3 r n) 52) = W1 at *
    go_upto_region 3 with (go_at_call 26; (with_reducible refine (HM.out _).mono ?_); rintro e w2 ⟨he, hb2⟩; subst he; have HB2 : Hid _ := ⟨hb2⟩; have d0 := (HO1.out.bel hb2 HO1.out.lt).cell 0 rfl; clear hb2)
    have T2 := HH1.out.bel HB2.out
    have O2 := HO1.out.bel HB2.out HO1.out.lt
    have hb1s : base ≤ W1.heap.size := Nat.le_trans hbs (Nat.le_of_lt HO1.out.lt)
    have B2 := HBB1.out.trans (HB2.out.mono hb1s)
    have e0 := O2.cell 0 rfl
    have e1 := O2.cell 1 rfl
    have e2 := O2.cell 2 rfl
    clear HM HH1 HO1 HBB1 HB2 d0 d1 d2
    have T3 := T2.setN n
    have B3 := B2.trans (below_set w2 tb (putAt (dC t vL vK).toArray 3 [.int .i64 n]) h.lo)
    have c2 := T3.r
    dsimp only at c2
    go_upto_region 14 with (refine wpList_part (g := tb) (off := 3) (val := .int .i64 n) rfl rfl (by rfl) (by rfl) T2.bk (by rw [sizeInt]; rfl) (by rw [T2.len]; show 3 + 1 ≤ 77; omega) (one_cells _) rfl ?_)
    have ev : (Value.int .i64 n).cells.toList = [.int .i64 n] := rfl
    rw [ev]
    clear ev
    have HT3 : Hid _ := ⟨T3⟩
    have HB3 : Hid _ := ⟨B3⟩
    clear T3 B3 T2 B2 O2 e0 e1 e2
    generalize w2.setRow tb (putAt (dC t vL vK).toArray 3 [.int .i64 n]) = W3 at *
    go_wp2
    go_ret
    exact ⟨rfl, HB3.out, _, _, HT3.out⟩
  · have HM : Hid (∀ W : World, Calls Tryd.prog 26 #[.agg (oqD 3 r n)] W fun e w' => e = .returned (.bool (mayB ⟨3, r, n⟩)) ∧ Below W.heap.size W w') := ⟨fun W => may_any 3 r n W⟩
    rw [hm] at HM
    go_enter Tryd.func16, Tryd.ntmps16
    go_upto_region 1 with fail
    have HH1 : Hid _ := ⟨H1⟩
    have HO1 : Hid _ := ⟨O1⟩
    have HBB1 : Hid _ := ⟨HBb⟩
    have d0 := O1.cell 0 rfl
    have d1 := O1.cell 1 rfl
    have d2 := O1.cell 2 rfl
    clear H1 O1 HBb HB
    generalize w.alloc (.cells (oqD 3 r n) 52) = W1 at *
    go_upto_region 3 with (go_at_call 26; (with_reducible refine (HM.out _).mono ?_); rintro e w2 ⟨he, hb2⟩; subst he; have HB2 : Hid _ := ⟨hb2⟩; have d0 := (HO1.out.bel hb2 HO1.out.lt).cell 0 rfl; clear hb2)
    have T2 := HH1.out.bel HB2.out
    have O2 := HO1.out.bel HB2.out HO1.out.lt
    have hb1s : base ≤ W1.heap.size := Nat.le_trans hbs (Nat.le_of_lt HO1.out.lt)
    have B2 := HBB1.out.trans (HB2.out.mono hb1s)
    have e0 := O2.cell 0 rfl
    have e1 := O2.cell 1 rfl
    have e2 := O2.cell 2 rfl
    clear HM HH1 HO1 HBB1 HB2 d0 d1 d2
    have T3 := T2.setN n
    have B3 := B2.trans (below_set w2 tb (putAt (dC t vL vK).toArray 3 [.int .i64 n]) h.lo)
    have c2 := T3.r
    dsimp only at c2
    go_upto_region 14 with (refine wpList_part (g := tb) (off := 3) (val := .int .i64 n) rfl rfl (by rfl) (by rfl) T2.bk (by rw [sizeInt]; rfl) (by rw [T2.len]; show 3 + 1 ≤ 77; omega) (one_cells _) rfl ?_)
    have ev : (Value.int .i64 n).cells.toList = [.int .i64 n] := rfl
    rw [ev]
    clear ev
    have HT3 : Hid _ := ⟨T3⟩
    have HB3 : Hid _ := ⟨B3⟩
    clear T3 B3 T2 B2 O2 e0 e1 e2
    generalize w2.setRow tb (putAt (dC t vL vK).toArray 3 [.int .i64 n]) = W3 at *
    go_wp2
    go_ret
    exact ⟨rfl, HB3.out, _, _, HT3.out⟩

set_option maxRecDepth 10000 in
set_option maxHeartbeats 1000000 in
theorem tone_4 {base tb : Nat} {w : World} {t : Tb} {vL vK : Value} (h : TD X base w tb t vL vK) (r n : Int) (b : Bool) (hm : mayB ⟨4, r, n⟩ = true) :
    Calls Tryd.prog 16 #[.pointer (some ⟨tb, 0, none⟩), .agg (oqD 4 r n), .bool b] w fun e w' => e = .returned (.bool (decide (0 ≤ t.now.r))) ∧ Below base w w' ∧ ∃ vL vK, TD X base w' tb ⟨t.L, ⟨t.now.p, r, t.now.n, t.now.z⟩, t.first, t.kept, t.size⟩ vL vK := by
  have HB : Below w.heap.size w (w.alloc (.cells (oqD 4 r n) 52)) := (Below.refl _ _).alloc (Nat.le_refl _) _
  have H1 := h.bel HB
  have O1 : Bk (w.alloc (.cells (oqD 4 r n) 52)) w.heap.size 52 (oqD 4 r n) := Bk.new w _ _
  have hne : w.heap.size ≠ tb := by have := h.bk.lt; omega
  have hbs : base ≤ w.heap.size := Nat.le_trans h.lo (Nat.le_of_lt h.bk.lt)
  have HBb := HB.mono hbs
  have hnrW : vL.ownBlock ≠ some w.heap.size := fun e => by have := ownV_lt h.L e; omega
  have hnkW : vK.ownBlock ≠ some w.heap.size := fun e => by have := ownV_lt h.K e; omega
  cases b
  · have HM : Hid (∀ W : World, Calls Tryd.prog 26 #[.agg (oqD 4 r n)] W fun e w' => e = .returned (.bool (mayB ⟨4, r, n⟩)) ∧ Below W.heap.size W w') := ⟨fun W => may_any 4 r n W⟩
    rw [hm] at HM
    go_enter Tryd.func16, Tryd.ntmps16
    go_upto_region 1 with fail
    have HH1 : Hid _ := ⟨H1⟩
    have HO1 : Hid _ := ⟨O1⟩
    have HBB1 : Hid _ := ⟨HBb⟩
    have d0 := O1.cell 0 rfl
    have d1 := O1.cell 1 rfl
    have d2 := O1.cell 2 rfl
    clear H1 O1 HBb HB
    generalize w.alloc (.cells (oqD 4 r n) 52) = W1 at *
    go_upto_region 3 with (go_at_call 26; (with_reducible refine (HM.out _).mono ?_); rintro e w2 ⟨he, hb2⟩; subst he; have HB2 : Hid _ := ⟨hb2⟩; have d0 := (HO1.out.bel hb2 HO1.out.lt).cell 0 rfl; clear hb2)
    have T2 := HH1.out.bel HB2.out
    have O2 := HO1.out.bel HB2.out HO1.out.lt
    have hb1s : base ≤ W1.heap.size := Nat.le_trans hbs (Nat.le_of_lt HO1.out.lt)
    have B2 := HBB1.out.trans (HB2.out.mono hb1s)
    have e0 := O2.cell 0 rfl
    have e1 := O2.cell 1 rfl
    have e2 := O2.cell 2 rfl
    clear HM HH1 HO1 HBB1 HB2 d0 d1 d2
    have T3 := T2.setR r
    have B3 := B2.trans (below_set w2 tb (putAt (dC t vL vK).toArray 2 [.int .i64 r]) h.lo)
    have c2 := T2.r
    go_upto_region 18 with (refine wpList_part (g := tb) (off := 2) (val := .int .i64 r) rfl rfl (by rfl) (by rfl) T2.bk (by rw [sizeInt]; rfl) (by rw [T2.len]; show 2 + 1 ≤ 77; omega) (one_cells _) rfl ?_)
    have ev : (Value.int .i64 r).cells.toList = [.int .i64 r] := rfl
    rw [ev]
    clear ev
    have HT3 : Hid _ := ⟨T3⟩
    have HB3 : Hid _ := ⟨B3⟩
    clear T3 B3 T2 B2 O2 e0 e1 e2 c2
    generalize w2.setRow tb (putAt (dC t vL vK).toArray 2 [.int .i64 r]) = W3 at *
    go_wp2
    go_ret
    exact ⟨rfl, HB3.out, _, _, HT3.out⟩
  · have HM : Hid (∀ W : World, Calls Tryd.prog 26 #[.agg (oqD 4 r n)] W fun e w' => e = .returned (.bool (mayB ⟨4, r, n⟩)) ∧ Below W.heap.size W w') := ⟨fun W => may_any 4 r n W⟩
    rw [hm] at HM
    go_enter Tryd.func16, Tryd.ntmps16
    go_upto_region 1 with fail
    have HH1 : Hid _ := ⟨H1⟩
    have HO1 : Hid _ := ⟨O1⟩
    have HBB1 : Hid _ := ⟨HBb⟩
    have d0 := O1.cell 0 rfl
    have d1 := O1.cell 1 rfl
    have d2 := O1.cell 2 rfl
    clear H1 O1 HBb HB
    generalize w.alloc (.cells (oqD 4 r n) 52) = W1 at *
    go_upto_region 3 with (go_at_call 26; (with_reducible refine (HM.out _).mono ?_); rintro e w2 ⟨he, hb2⟩; subst he; have HB2 : Hid _ := ⟨hb2⟩; have d0 := (HO1.out.bel hb2 HO1.out.lt).cell 0 rfl; clear hb2)
    have T2 := HH1.out.bel HB2.out
    have O2 := HO1.out.bel HB2.out HO1.out.lt
    have hb1s : base ≤ W1.heap.size := Nat.le_trans hbs (Nat.le_of_lt HO1.out.lt)
    have B2 := HBB1.out.trans (HB2.out.mono hb1s)
    have e0 := O2.cell 0 rfl
    have e1 := O2.cell 1 rfl
    have e2 := O2.cell 2 rfl
    clear HM HH1 HO1 HBB1 HB2 d0 d1 d2
    have T3 := T2.setR r
    have B3 := B2.trans (below_set w2 tb (putAt (dC t vL vK).toArray 2 [.int .i64 r]) h.lo)
    have c2 := T2.r
    go_upto_region 18 with (refine wpList_part (g := tb) (off := 2) (val := .int .i64 r) rfl rfl (by rfl) (by rfl) T2.bk (by rw [sizeInt]; rfl) (by rw [T2.len]; show 2 + 1 ≤ 77; omega) (one_cells _) rfl ?_)
    have ev : (Value.int .i64 r).cells.toList = [.int .i64 r] := rfl
    rw [ev]
    clear ev
    have HT3 : Hid _ := ⟨T3⟩
    have HB3 : Hid _ := ⟨B3⟩
    clear T3 B3 T2 B2 O2 e0 e1 e2 c2
    generalize w2.setRow tb (putAt (dC t vL vK).toArray 2 [.int .i64 r]) = W3 at *
    go_wp2
    go_ret
    exact ⟨rfl, HB3.out, _, _, HT3.out⟩

end Go.Proofs.YtpbnldfekadalaaDoor
