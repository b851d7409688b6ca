/- The walk of AluBits. -/
import Derived.Test.YtbfkmnlbmlpogaaDoorLogic
import Derived.Test.YtbfkmnlbmlpogaaDoorRefOne
import Derived.Test.YtbfkmnlbmlpogaaDoorRefNot
import Derived.Test.YtbfkmnlbmlpogaaDoorLive
namespace Go.Proofs.YtbfkmnlbmlpogaaDoor
open Go.ChangeShapes Go.WideShapes Go.ChangeAt Go.RowKit
set_option linter.unusedVariables false

theorem u64_is {a : Int} (h : (Lit.int .u64 a).wf = true) : 0 ≤ a ∧ a < 18446744073709551616 := by
  have : 0 ≤ a ∧ a ≤ 18446744073709551615 := by simpa [Lit.wf, IntKind.min, IntKind.max, IntKind.signed, IntKind.bits] using h
  omega

theorem singleOf_any (op : Int) : ∃ fv : Value, ∀ v, Calls Tryd.prog 47 #[.int .i64 op] v fun e w' => e = .returned fv ∧ w' = v := by
  by_cases h1 : op = 15
  · subst h1; exact ⟨_, single_inc⟩
  · by_cases h2 : op = 16
    · subst h2; exact ⟨_, single_dec⟩
    · by_cases h3 : op = 13
      · subst h3; exact ⟨_, single_neg⟩
      · by_cases h4 : op = 14
        · subst h4; exact ⟨_, single_not⟩
        · exact ⟨_, fun v => single_no op v (by omega)⟩

theorem same_one (op a sz : Int) (oC oP oZ oS oO : Bool) (h0 : 0 ≤ a) (h1 : a < 18446744073709551616) :
    ∃ (x : Int) (C P Z S O : Bool) (e0 : Int),
      (∀ v, Wd v → Calls Tryd.prog 21 #[.int .i64 op, .int .u64 a, .agg #[.bool oC, .bool oP, .bool oZ, .bool oS, .bool oO], .int .i64 sz] v fun e w' => e = .returned (.tuple #[.int .u64 x, .agg #[.bool C, .bool P, .bool Z, .bool S, .bool O], .int .i64 e0]) ∧ Below v.heap.size v w') ∧
      (∀ v, Calls Tryd.prog 22 #[.int .i64 op, .int .u64 a, .agg #[.bool oC, .bool oP, .bool oZ, .bool oS, .bool oO], .int .i64 sz] v fun e w' => e = .returned (.tuple #[.int .u64 x, .agg #[.bool C, .bool P, .bool Z, .bool S, .bool O], .int .i64 e0]) ∧ Below v.heap.size v w') := by
  rcases size_is sz with ⟨n, c, h⟩ | h
  · have l0 := h.lo; have l1 := h.hi
    by_cases e1 : op = 15
    · subst e1
      have A := fun v hv => answer_single 59 sz n c a oC _ _ _ v h hv enters_inc (fun v => inc_any sz c n a oC v l0 l1)
      simp only [mod64 n l1] at A
      exact ⟨_, _, _, _, _, _, _, fun v hv => one_run 15 _ sz a oC oP oZ oS oO _ _ _ _ _ _ _ v hv rfl single_inc A, fun v => rone_inc a sz oC oP oZ oS oO n c v h h0 h1⟩
    · by_cases e2 : op = 16
      · subst e2
        have A := fun v hv => answer_single 60 sz n c a oC _ _ _ v h hv enters_dec (fun v => dec_any sz c n a oC v l0 l1)
        simp only [mod64 n l1] at A
        exact ⟨_, _, _, _, _, _, _, fun v hv => one_run 16 _ sz a oC oP oZ oS oO _ _ _ _ _ _ _ v hv rfl single_dec A, fun v => rone_dec a sz oC oP oZ oS oO n c v h h0 h1⟩
      · by_cases e3 : op = 13
        · subst e3
          have A := fun v hv => answer_single 61 sz n c a oC _ _ _ v h hv enters_neg (fun v => neg_any sz c n a oC v l0 l1)
          simp only [mod64 n l1] at A
          exact ⟨_, _, _, _, _, _, _, fun v hv => one_run 13 _ sz a oC oP oZ oS oO _ _ _ _ _ _ _ v hv rfl single_neg A, fun v => rone_neg a sz oC oP oZ oS oO n c v h h0 h1⟩
        · by_cases e4 : op = 14
          · subst e4
            have A := fun v hv => answer_single 62 sz n c a oC _ _ _ v h hv enters_not (fun v => not_any sz c n a oC v)
            exact ⟨_, _, _, _, _, _, _, fun v hv => one_not _ sz a oC oP oZ oS oO _ _ _ _ _ _ v hv single_not A, fun v => rone_not a sz oC oP oZ oS oO n c v h⟩
          · exact ⟨_, _, _, _, _, _, _, fun v hv => one_run op _ sz a oC oP oZ oS oO _ _ _ _ _ _ _ v hv (by simp; omega) (fun v => single_no op v (by omega)) (fun v hv => answer_single_nil sz n c a oC v h hv), fun v => rone_op op a sz oC oP oZ oS oO n c v h (by omega)⟩
  · by_cases e4 : op = 14
    · subst e4
      exact ⟨_, _, _, _, _, _, _, fun v hv => one_err _ sz a oC oP oZ oS oO _ _ _ _ _ _ v hv single_not (fun v hv => answer_single_no sz a oC _ v h hv), fun v => rone_no 14 a sz oC oP oZ oS oO v h⟩
    · obtain ⟨fv, hf⟩ := singleOf_any op
      exact ⟨_, _, _, _, _, _, _, fun v hv => one_run op fv sz a oC oP oZ oS oO _ _ _ _ _ _ _ v hv (by simp; omega) hf (fun v hv => answer_single_no sz a oC fv v h hv), fun v => rone_no op a sz oC oP oZ oS oO v h⟩

set_option maxRecDepth 4000 in
set_option maxHeartbeats 1000000 in
theorem aluBits_walk (op a b : Int) (C P Z S O : Bool) (sz : Int) (w : World) (ho : (Lit.int .i64 op).wf = true) (ha : (Lit.int .u64 a).wf = true) (hb : (Lit.int .u64 b).wf = true) (hs : (Lit.int .i64 sz).wf = true) (hw : Wd w) :
    Calls Tryd.prog 4 #[.int .i64 op, .int .u64 a, .int .u64 b, .agg #[.bool C, .bool P, .bool Z, .bool S, .bool O], .int .i64 sz] w fun e w' => e = .returned (.bool true) ∧ Below w.heap.size w w' := by
  obtain ⟨h0, h1⟩ := u64_is ha
  obtain ⟨x1, C1, P1, Z1, S1, O1, e1, A1, R1⟩ := same_logic op a b sz
  obtain ⟨x2, C2, P2, Z2, S2, O2, e2, A2, R2⟩ := same_one op a sz C P Z S O h0 h1
  have HA1 := hid A1; have HR1 := hid R1; have HA2 := hid A2; have HR2 := hid R2
  have HW := hid hw
  have fe := flags_eq
  clear A1 R1 A2 R2 ha hb hs ho h0 h1 hw
  go_enter Tryd.func4, Tryd.ntmps4
  go_wp2_with fail
  refine (HA1.out _ (HW.out.alloc _)).mono ?_; rintro e w1 ⟨rfl, hb1⟩
  have W1 := hid ((HW.out.alloc _).bel hb1)
  have L1 := hid ((Fl.new w C P Z S O 24).bel hb1)
  have B1 := hid (bel_trans (bel_alloc (Below.refl _ _) _) hb1)
  clear hb1
  go_wp2_with fail
  refine (HR1.out _).mono ?_; rintro e w2 ⟨rfl, hb2⟩
  have W2 := hid ((W1.out.alloc _).bel hb2)
  have L2 := hid ((L1.out.up _).bel hb2)
  have F2 := hid ((Fl.new w1 _ _ _ _ _ _).bel hb2)
  have B2 := hid (bel_trans (bel_alloc B1.out _) hb2)
  have z2 : w.heap.size < w2.heap.size := L2.out.lt
  clear hb2
  obtain ⟨l0, l1, l2, l3, l4, _, _, _, _, _⟩ := L2.out
  go_wp2_with fail
  clear l0 l1 l2 l3 l4
  refine (HA2.out _ (W2.out.alloc _)).mono ?_; rintro e w3 ⟨rfl, hb3⟩
  have W3 := hid ((W2.out.alloc _).bel hb3)
  have L3 := hid ((L2.out.up _).bel hb3)
  have F3 := hid ((F2.out.up _).bel hb3)
  have G3 := hid ((Fl.new w2 _ _ _ _ _ _).bel hb3)
  have B3 := hid (bel_trans (bel_alloc B2.out _) hb3)
  have z3 : w.heap.size < w3.heap.size := L3.out.lt
  clear hb3
  obtain ⟨l0, l1, l2, l3, l4, _, _, _, _, _⟩ := L3.out
  go_wp2_with fail
  clear l0 l1 l2 l3 l4
  refine (HR2.out _).mono ?_; rintro e w4 ⟨rfl, hb4⟩
  have W4 := hid ((W3.out.alloc _).bel hb4)
  obtain ⟨c0, c1, c2, c3, c4, _, _, _, _, _⟩ := (F3.out.up (.cells #[.bool C2, .bool P2, .bool Z2, .bool S2, .bool O2] 24)).bel hb4
  obtain ⟨d0, d1, d2, d3, d4, _, _, _, _, _⟩ := (G3.out.up (.cells #[.bool C2, .bool P2, .bool Z2, .bool S2, .bool O2] 24)).bel hb4
  obtain ⟨i0, i1, i2, i3, i4, _, _, _, _, _⟩ := (Fl.new w3 C2 P2 Z2 S2 O2 24).bel hb4
  have B4 := hid (bel_trans (bel_alloc B3.out _) hb4)
  have y1 : w1.heap.size < w4.heap.size := World.block_lt_of_cell? w4 ⟨w1.heap.size, 0, none⟩ c0
  have y2 : w2.heap.size < w4.heap.size := World.block_lt_of_cell? w4 ⟨w2.heap.size, 0, none⟩ d0
  have y3 : w3.heap.size < w4.heap.size := World.block_lt_of_cell? w4 ⟨w3.heap.size, 0, none⟩ i0
  clear hb4
  go_wp2_with (first
    | (go_at_call 17; refine (num_any _ _).mono ?_; rintro e wn ⟨rfl, hq⟩; subst wn)
    | (go_at_call 18; refine (live_any _ (W4.out.alloc _)).mono ?_; rintro e w9 ⟨rfl, hb9⟩))
  go_ret
  exact ⟨rfl, bel_trans (bel_alloc B4.out _) hb9⟩
end Go.Proofs.YtbfkmnlbmlpogaaDoor
