/- The errors of Shift, the program's and the document's; the walk of AluShifts. -/
import Derived.Test.YtbfkmnlbmlpogaaDoorRefShiftCalls
import Derived.Test.YtbfkmnlbmlpogaaDoorLive
namespace Go.Proofs.YtbfkmnlbmlpogaaDoor
open Go.ChangeShapes Go.WideShapes Go.ChangeAt Go.RowKit
set_option linter.unusedVariables false
set_option linter.unusedSimpArgs false

theorem shiftOf_no (op : Int) (w : World) (h : ¬ (op = 17 ∨ op = 18 ∨ op = 19)) : Calls Tryd.prog 48 #[.int .i64 op] w fun e w' => e = .returned .nilFunc ∧ w' = w := by
  have h1 : (op == 17) = false := by simp; omega
  have h2 : (op == 18) = false := by simp; omega
  have h3 : (op == 19) = false := by simp; omega
  clear h
  go_enter Tryd.func48, Tryd.ntmps48
  go_wp2
  go_ret
  exact ⟨rfl, rfl⟩

theorem shiftOf_any (op : Int) : ∃ fv : Value, ∀ v, Calls Tryd.prog 48 #[.int .i64 op] v fun e w' => e = .returned fv ∧ w' = v := by
  by_cases h1 : op = 17
  · subst h1; exact ⟨_, shiftOf_shl⟩
  · by_cases h2 : op = 18
    · subst h2; exact ⟨_, shiftOf_shr⟩
    · by_cases h3 : op = 19
      · subst h3; exact ⟨_, shiftOf_sar⟩
      · exact ⟨_, fun v => shiftOf_no op v (by omega)⟩
theorem shiftOf_func (op : Int) (h : op = 17 ∨ op = 18 ∨ op = 19) : ∃ J : Nat, ∀ v, Calls Tryd.prog 48 #[.int .i64 op] v fun e w' => e = .returned (.func (.func J) #[] #[]) ∧ w' = v := by
  rcases h with rfl | rfl | rfl
  · exact ⟨_, shiftOf_shl⟩
  · exact ⟨_, shiftOf_shr⟩
  · exact ⟨_, shiftOf_sar⟩

set_option maxRecDepth 10000 in
theorem shift_size (op sz a k : Int) (fv : Value) (oC oP oZ oS oO : Bool) (w : World) (hw : Wd w) (h : ¬ (sz = 1 ∨ sz = 4 ∨ sz = 8)) (hs : ∀ v, Calls Tryd.prog 48 #[.int .i64 op] v fun e w' => e = .returned fv ∧ w' = v) :
    Calls Tryd.prog 23 #[.int .i64 op, .int .u64 a, .int .i64 k, .agg #[.bool oC, .bool oP, .bool oZ, .bool oS, .bool oO], .int .i64 sz] w fun e w' => e = .returned (.tuple #[.int .u64 0, noF, .int .i64 1]) ∧ Below w.heap.size w w' := by
  have HW := hid hw; have HS := hid hs
  have HH := hid h
  clear h
  clear hw hs
  go_enter Tryd.func23, Tryd.ntmps23
  go_wp2_with (first
    | (go_at_call 40; refine (widthOf_no _ _ ((HW.out.alloc _).alloc _) HH.out).mono ?_; rintro e w1 ⟨rfl, hb⟩; obtain ⟨hc, hf⟩ := bcell hb; have hz : w.heap.size + 1 < w1.heap.size := (by have := hb.size; simp at this; omega); have hz0 : w.heap.size < w1.heap.size := (by omega))
    | (go_at_call 48; refine (HS.out _).mono ?_; rintro e w2 ⟨rfl, hq⟩; subst w2))
  refine bodyPost_ret (v := .tuple #[.int .u64 0, noF, .int .i64 1]) (by simp [results, Tryd.results23, go_sem, hc, hz, hz0]) rfl ⟨rfl, ?_⟩
  have B1 : Below w.heap.size w w1 := bel_trans (bel_alloc (bel_alloc (Below.refl _ _) _) _) hb
  repeat (first | (with_reducible exact B1) | (with_reducible refine bel_alloc ?_ _) | ((with_reducible refine Below.setCell ?_ ?_ _); rotate_left; (focus (dsimp only; omega))))

set_option maxRecDepth 10000 in
theorem shift_op (op sz a k : Int) (n : Nat) (c : Int) (oC oP oZ oS oO : Bool) (w : World) (hw : Wd w) (h : Wide sz n c) (hs : ∀ v, Calls Tryd.prog 48 #[.int .i64 op] v fun e w' => e = .returned .nilFunc ∧ w' = v) :
    Calls Tryd.prog 23 #[.int .i64 op, .int .u64 a, .int .i64 k, .agg #[.bool oC, .bool oP, .bool oZ, .bool oS, .bool oO], .int .i64 sz] w fun e w' => e = .returned (.tuple #[.int .u64 0, noF, .int .i64 1]) ∧ Below w.heap.size w w' := by
  have HW := hid hw; have HS := hid hs
  have HH := hid h
  clear h
  have fn := nil_nil_shifted
  clear hw hs
  go_enter Tryd.func23, Tryd.ntmps23
  go_wp2_with (first
    | (go_at_call 40; refine (widthOf_yes HH.out _ ((HW.out.alloc _).alloc _)).mono ?_; rintro e w1 ⟨rfl, hb⟩; obtain ⟨hc, hf⟩ := bcell hb; have hz : w.heap.size + 1 < w1.heap.size := (by have := hb.size; simp at this; omega); have hz0 : w.heap.size < w1.heap.size := (by omega))
    | (go_at_call 48; refine (HS.out _).mono ?_; rintro e w2 ⟨rfl, hq⟩; subst w2))
  refine bodyPost_ret (v := .tuple #[.int .u64 0, noF, .int .i64 1]) (by simp [results, Tryd.results23, go_sem, hc, hz, hz0]) rfl ⟨rfl, ?_⟩
  have B1 : Below w.heap.size w w1 := bel_trans (bel_alloc (bel_alloc (Below.refl _ _) _) _) hb
  repeat (first | (with_reducible exact B1) | (with_reducible refine bel_alloc ?_ _) | ((with_reducible refine Below.setCell ?_ ?_ _); rotate_left; (focus (dsimp only; omega))))

set_option maxRecDepth 10000 in
theorem shift_low (op sz a k : Int) (n : Nat) (c : Int) (J : Nat) (oC oP oZ oS oO : Bool) (w : World) (hw : Wd w) (h : Wide sz n c) (hk : k < 0) (hs : ∀ v, Calls Tryd.prog 48 #[.int .i64 op] v fun e w' => e = .returned (.func (.func J) #[] #[]) ∧ w' = v) :
    Calls Tryd.prog 23 #[.int .i64 op, .int .u64 a, .int .i64 k, .agg #[.bool oC, .bool oP, .bool oZ, .bool oS, .bool oO], .int .i64 sz] w fun e w' => e = .returned (.tuple #[.int .u64 0, noF, .int .i64 1]) ∧ Below w.heap.size w w' := by
  have HW := hid hw; have HS := hid hs
  have HH := hid h
  clear h
  have fn := func_nil_shifted
  clear hw hs
  go_enter Tryd.func23, Tryd.ntmps23
  go_wp2_with (first
    | (go_at_call 40; refine (widthOf_yes HH.out _ ((HW.out.alloc _).alloc _)).mono ?_; rintro e w1 ⟨rfl, hb⟩; obtain ⟨hc, hf⟩ := bcell hb; have hz : w.heap.size + 1 < w1.heap.size := (by have := hb.size; simp at this; omega); have hz0 : w.heap.size < w1.heap.size := (by omega))
    | (go_at_call 48; refine (HS.out _).mono ?_; rintro e w2 ⟨rfl, hq⟩; subst w2))
  refine bodyPost_ret (v := .tuple #[.int .u64 0, noF, .int .i64 1]) (by simp [results, Tryd.results23, go_sem, hc, hz, hz0]) rfl ⟨rfl, ?_⟩
  have B1 : Below w.heap.size w w1 := bel_trans (bel_alloc (bel_alloc (Below.refl _ _) _) _) hb
  repeat (first | (with_reducible exact B1) | (with_reducible refine bel_alloc ?_ _) | ((with_reducible refine Below.setCell ?_ ?_ _); rotate_left; (focus (dsimp only; omega))))

set_option maxRecDepth 10000 in
theorem shift_high (op sz a k : Int) (n : Nat) (c : Int) (J : Nat) (oC oP oZ oS oO : Bool) (w : World) (hw : Wd w) (h : Wide sz n c) (hk : 255 < k) (hs : ∀ v, Calls Tryd.prog 48 #[.int .i64 op] v fun e w' => e = .returned (.func (.func J) #[] #[]) ∧ w' = v) :
    Calls Tryd.prog 23 #[.int .i64 op, .int .u64 a, .int .i64 k, .agg #[.bool oC, .bool oP, .bool oZ, .bool oS, .bool oO], .int .i64 sz] w fun e w' => e = .returned (.tuple #[.int .u64 0, noF, .int .i64 1]) ∧ Below w.heap.size w w' := by
  have HW := hid hw; have HS := hid hs
  have HH := hid h
  clear h
  have fn := func_nil_shifted
  have kn : ¬ k < 0 := by omega
  clear hw hs
  go_enter Tryd.func23, Tryd.ntmps23
  go_wp2_with (first
    | (go_at_call 40; refine (widthOf_yes HH.out _ ((HW.out.alloc _).alloc _)).mono ?_; rintro e w1 ⟨rfl, hb⟩; obtain ⟨hc, hf⟩ := bcell hb; have hz : w.heap.size + 1 < w1.heap.size := (by have := hb.size; simp at this; omega); have hz0 : w.heap.size < w1.heap.size := (by omega))
    | (go_at_call 48; refine (HS.out _).mono ?_; rintro e w2 ⟨rfl, hq⟩; subst w2))
  refine bodyPost_ret (v := .tuple #[.int .u64 0, noF, .int .i64 1]) (by simp [results, Tryd.results23, go_sem, hc, hz, hz0]) rfl ⟨rfl, ?_⟩
  have B1 : Below w.heap.size w w1 := bel_trans (bel_alloc (bel_alloc (Below.refl _ _) _) _) hb
  repeat (first | (with_reducible exact B1) | (with_reducible refine bel_alloc ?_ _) | ((with_reducible refine Below.setCell ?_ ?_ _); rotate_left; (focus (dsimp only; omega))))

set_option maxRecDepth 4000 in
theorem rshift_size (op sz a k : Int) (oC oP oZ oS oO : Bool) (w : World) (h : ¬ (sz = 1 ∨ sz = 4 ∨ sz = 8)) :
    Calls Tryd.prog 24 #[.int .i64 op, .int .u64 a, .int .i64 k, .agg #[.bool oC, .bool oP, .bool oZ, .bool oS, .bool oO], .int .i64 sz] w fun e w' => e = .returned (.tuple #[.int .u64 0, noF, .int .i64 1]) ∧ Below w.heap.size w w' := by
  have HH := hid h
  clear h
  go_enter Tryd.func24, Tryd.ntmps24
  go_wp2_with (go_at_call 36; refine (rbits_no _ HH.out _).mono ?_; rintro e w0 ⟨rfl, hq⟩; subst w0)
  refine bodyPost_ret (v := .tuple #[.int .u64 0, noF, .int .i64 1]) (by simp [results, Tryd.results24, go_sem]) rfl ⟨rfl, ?_⟩
  exact bel_alloc (bel_alloc (Below.refl _ _) _) _

set_option maxRecDepth 4000 in
theorem rshift_op (op sz a k : Int) (n : Nat) (c : Int) (oC oP oZ oS oO : Bool) (w : World) (h : Wide sz n c) (ho : ¬ (op = 17 ∨ op = 18 ∨ op = 19)) :
    Calls Tryd.prog 24 #[.int .i64 op, .int .u64 a, .int .i64 k, .agg #[.bool oC, .bool oP, .bool oZ, .bool oS, .bool oO], .int .i64 sz] w fun e w' => e = .returned (.tuple #[.int .u64 0, noF, .int .i64 1]) ∧ Below w.heap.size w w' := by
  have l0 := h.lo
  have HH := hid h
  have hz0 : ((n : Int) == 0) = false := by simp; omega
  have h1 : (op == 17) = false := by simp; omega
  have h2 : (op == 18) = false := by simp; omega
  have h3 : (op == 19) = false := by simp; omega
  have g1 : (op != 17) = true := by simp; omega
  have g2 : (op != 18) = true := by simp; omega
  have g3 : (op != 19) = true := by simp; omega
  clear h ho
  go_enter Tryd.func24, Tryd.ntmps24
  go_wp2_with (go_at_call 36; refine (rbits_yes HH.out _).mono ?_; rintro e w0 ⟨rfl, hq⟩; subst w0)
  refine bodyPost_ret (v := .tuple #[.int .u64 0, noF, .int .i64 1]) (by simp [results, Tryd.results24, go_sem]) rfl ⟨rfl, ?_⟩
  exact bel_alloc (bel_alloc (Below.refl _ _) _) _

set_option maxRecDepth 4000 in
theorem rshift_low (op sz a k : Int) (n : Nat) (c : Int) (oC oP oZ oS oO : Bool) (w : World) (h : Wide sz n c) (ho : op = 17 ∨ op = 18 ∨ op = 19) (hk : k < 0) :
    Calls Tryd.prog 24 #[.int .i64 op, .int .u64 a, .int .i64 k, .agg #[.bool oC, .bool oP, .bool oZ, .bool oS, .bool oO], .int .i64 sz] w fun e w' => e = .returned (.tuple #[.int .u64 0, noF, .int .i64 1]) ∧ Below w.heap.size w w' := by
  have l0 := h.lo
  have HH := hid h
  have hz0 : ((n : Int) == 0) = false := by simp; omega
  clear h
  rcases ho with rfl | rfl | rfl
  all_goals
    go_enter Tryd.func24, Tryd.ntmps24
    go_wp2_with (go_at_call 36; refine (rbits_yes HH.out _).mono ?_; rintro e w0 ⟨rfl, hq⟩; subst w0)
    refine bodyPost_ret (v := .tuple #[.int .u64 0, noF, .int .i64 1]) (by simp [results, Tryd.results24, go_sem]) rfl ⟨rfl, ?_⟩
    exact bel_alloc (bel_alloc (Below.refl _ _) _) _

set_option maxRecDepth 4000 in
theorem rshift_high (op sz a k : Int) (n : Nat) (c : Int) (oC oP oZ oS oO : Bool) (w : World) (h : Wide sz n c) (ho : op = 17 ∨ op = 18 ∨ op = 19) (hk : 255 < k) :
    Calls Tryd.prog 24 #[.int .i64 op, .int .u64 a, .int .i64 k, .agg #[.bool oC, .bool oP, .bool oZ, .bool oS, .bool oO], .int .i64 sz] w fun e w' => e = .returned (.tuple #[.int .u64 0, noF, .int .i64 1]) ∧ Below w.heap.size w w' := by
  have l0 := h.lo
  have HH := hid h
  have hz0 : ((n : Int) == 0) = false := by simp; omega
  have kn : ¬ k < 0 := by omega
  clear h
  rcases ho with rfl | rfl | rfl
  all_goals
    go_enter Tryd.func24, Tryd.ntmps24
    go_wp2_with (go_at_call 36; refine (rbits_yes HH.out _).mono ?_; rintro e w0 ⟨rfl, hq⟩; subst w0)
    refine bodyPost_ret (v := .tuple #[.int .u64 0, noF, .int .i64 1]) (by simp [results, Tryd.results24, go_sem]) rfl ⟨rfl, ?_⟩
    exact bel_alloc (bel_alloc (Below.refl _ _) _) _
end Go.Proofs.YtbfkmnlbmlpogaaDoor
