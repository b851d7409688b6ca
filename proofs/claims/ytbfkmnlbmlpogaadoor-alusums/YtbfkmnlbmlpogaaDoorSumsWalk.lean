/- The walk of AluSums. -/
import Derived.Test.YtbfkmnlbmlpogaaDoorRefSums
import Derived.Test.YtbfkmnlbmlpogaaDoorLive
namespace Go.Proofs.YtbfkmnlbmlpogaaDoor
open Go.ChangeShapes Go.WideShapes Go.ChangeAt Go.RowKit
set_option linter.unusedVariables false

theorem u64_bounds {a : Int} (h : (Lit.int .u64 a).wf = true) : 0 ≤ a ∧ a < 18446744073709551616 := by
  have : 0 ≤ a ∧ a ≤ 18446744073709551615 := by simpa [Lit.wf, IntKind.min, IntKind.max, IntKind.signed, IntKind.bits] using h
  omega

theorem wide_is (sz : Int) : (∃ n c, Wide sz n c) ∨ ¬ (sz = 1 ∨ sz = 4 ∨ sz = 8) := by
  by_cases h1 : sz = 1
  · exact .inl ⟨8, 31, .inl ⟨h1, rfl, rfl⟩⟩
  · by_cases h4 : sz = 4
    · exact .inl ⟨32, 31, .inr (.inl ⟨h4, rfl, rfl⟩)⟩
    · by_cases h8 : sz = 8
      · exact .inl ⟨64, 63, .inr (.inr ⟨h8, rfl, rfl⟩)⟩
      · exact .inr (by omega)

/-- Two answers of one kind, named ahead: the program's and the document's are the same. -/
theorem same_add (a b : Int) (k : Bool) (sz : Int) (h0 : 0 ≤ a) (h1 : a < 18446744073709551616) (g0 : 0 ≤ b) (g1 : b < 18446744073709551616) :
    ∃ (x : Int) (C P Z S O : Bool) (e0 : Int),
      (∀ v, Wd v → Calls Tryd.prog 9 #[.int .u64 a, .int .u64 b, .bool k, .int .i64 sz] v fun e w' => e = .returned (.tuple #[.int .u64 x, .agg #[.bool C, .bool P, .bool Z, .bool S, .bool O], .int .i64 e0]) ∧ Below v.heap.size v w') ∧
      (∀ v, Calls Tryd.prog 10 #[.int .u64 a, .int .u64 b, .bool k, .int .i64 sz] v fun e w' => e = .returned (.tuple #[.int .u64 x, .agg #[.bool C, .bool P, .bool Z, .bool S, .bool O], .int .i64 e0]) ∧ Below v.heap.size v w') := by
  rcases wide_is sz with ⟨n, c, h⟩ | h
  · exact ⟨_, _, _, _, _, _, _, fun v hv => add_yes a b k sz n c v h hv, fun v => radd_yes a b k sz n c v h h0 h1 g0 g1⟩
  · exact ⟨_, _, _, _, _, _, _, fun v hv => add_no a b k sz v h hv, fun v => radd_no a b k sz v h⟩
theorem same_sub (a b : Int) (k : Bool) (sz : Int) (h0 : 0 ≤ a) (h1 : a < 18446744073709551616) (g0 : 0 ≤ b) (g1 : b < 18446744073709551616) :
    ∃ (x : Int) (C P Z S O : Bool) (e0 : Int),
      (∀ v, Wd v → Calls Tryd.prog 11 #[.int .u64 a, .int .u64 b, .bool k, .int .i64 sz] v fun e w' => e = .returned (.tuple #[.int .u64 x, .agg #[.bool C, .bool P, .bool Z, .bool S, .bool O], .int .i64 e0]) ∧ Below v.heap.size v w') ∧
      (∀ v, Calls Tryd.prog 12 #[.int .u64 a, .int .u64 b, .bool k, .int .i64 sz] v fun e w' => e = .returned (.tuple #[.int .u64 x, .agg #[.bool C, .bool P, .bool Z, .bool S, .bool O], .int .i64 e0]) ∧ Below v.heap.size v w') := by
  rcases wide_is sz with ⟨n, c, h⟩ | h
  · exact ⟨_, _, _, _, _, _, _, fun v hv => sub_yes a b k sz n c v h hv, fun v => rsub_yes a b k sz n c v h h0 h1 g0 g1⟩
  · exact ⟨_, _, _, _, _, _, _, fun v hv => sub_no a b k sz v h hv, fun v => rsub_no a b k sz v h⟩
theorem same_trim (a sz : Int) (h0 : 0 ≤ a) (h1 : a < 18446744073709551616) :
    ∃ (x e0 : Int),
      (∀ v, Wd v → Calls Tryd.prog 13 #[.int .u64 a, .int .i64 sz] v fun e w' => e = .returned (.tuple #[.int .u64 x, .int .i64 e0]) ∧ Below v.heap.size v w') ∧
      (∀ v, Calls Tryd.prog 14 #[.int .u64 a, .int .i64 sz] v fun e w' => e = .returned (.tuple #[.int .u64 x, .int .i64 e0]) ∧ w' = v) := by
  rcases wide_is sz with ⟨n, c, h⟩ | h
  · exact ⟨_, _, fun v hv => trim_yes a sz n c v h hv, fun v => rtrim_yes a sz n c v h h0 h1⟩
  · exact ⟨_, _, fun v hv => trim_no a sz v h hv, fun v => rtrim_no a sz v h⟩
theorem same_extend (a sz : Int) (h0 : 0 ≤ a) (h1 : a < 18446744073709551616) :
    ∃ (x e0 : Int),
      (∀ v, Wd v → Calls Tryd.prog 15 #[.int .u64 a, .int .i64 sz] v fun e w' => e = .returned (.tuple #[.int .u64 x, .int .i64 e0]) ∧ Below v.heap.size v w') ∧
      (∀ v, Calls Tryd.prog 16 #[.int .u64 a, .int .i64 sz] v fun e w' => e = .returned (.tuple #[.int .u64 x, .int .i64 e0]) ∧ w' = v) := by
  rcases wide_is sz with ⟨n, c, h⟩ | h
  · exact ⟨_, _, fun v hv => extend_yes a sz n c v h hv, fun v => rextend_yes a sz n c v h h0 h1⟩
  · exact ⟨_, _, fun v hv => extend_no a sz v h hv, fun v => rextend_no a sz v h⟩

set_option maxRecDepth 4000 in
set_option maxHeartbeats 1000000 in
theorem aluSums_walk (a b : Int) (k : Bool) (sz : Int) (w : World) (ha : (Lit.int .u64 a).wf = true) (hb : (Lit.int .u64 b).wf = true) (hs : (Lit.int .i64 sz).wf = true) (hw : Wd w) :
    Calls Tryd.prog 3 #[.int .u64 a, .int .u64 b, .bool k, .int .i64 sz] w fun e w' => e = .returned (.bool true) ∧ Below w.heap.size w w' := by
  obtain ⟨h0, h1⟩ := u64_bounds ha
  obtain ⟨g0, g1⟩ := u64_bounds hb
  obtain ⟨x1, C1, P1, Z1, S1, O1, e1, A1, R1⟩ := same_add a b k sz h0 h1 g0 g1
  obtain ⟨x2, C2, P2, Z2, S2, O2, e2, A2, R2⟩ := same_sub a b k sz h0 h1 g0 g1
  obtain ⟨x3, e3, A3, R3⟩ := same_trim a sz h0 h1
  obtain ⟨x4, e4, A4, R4⟩ := same_extend a sz h0 h1
  have HA1 := hid A1; have HR1 := hid R1; have HA2 := hid A2; have HR2 := hid R2; have HA3 := hid A3; have HR3 := hid R3; have HA4 := hid A4; have HR4 := hid R4
  have HW := hid hw
  have fe := flags_eq
  clear A1 R1 A2 R2 A3 R3 A4 R4 ha hb hs h0 h1 g0 g1 hw
  go_enter Tryd.func3, Tryd.ntmps3
  go_wp2_with fail
  refine (HA1.out _ HW.out).mono ?_; rintro e w1 ⟨rfl, hb1⟩
  have W1 := hid (HW.out.bel hb1)
  have B1 := hid hb1
  clear hb1
  go_wp2_with fail
  refine (HR1.out _).mono ?_; rintro e w2 ⟨rfl, hb2⟩
  have W2 := hid ((W1.out.alloc _).bel hb2)
  have F2 := hid ((Fl.new w1 _ _ _ _ _ _).bel hb2)
  have B2 := hid (bel_trans (bel_alloc B1.out _) hb2)
  clear hb2
  go_wp2_with fail
  refine (HA2.out _ (W2.out.alloc _)).mono ?_; rintro e w3 ⟨rfl, hb3⟩
  have W3 := hid ((W2.out.alloc _).bel hb3)
  have F3 := hid ((F2.out.up _).bel hb3)
  have G3 := hid ((Fl.new w2 _ _ _ _ _ _).bel hb3)
  have B3 := hid (bel_trans (bel_alloc B2.out _) hb3)
  clear hb3
  go_wp2_with fail
  refine (HR2.out _).mono ?_; rintro e w4 ⟨rfl, hb4⟩
  have W4 := hid ((W3.out.alloc _).bel hb4)
  have F4 := hid ((F3.out.up _).bel hb4)
  have G4 := hid ((G3.out.up _).bel hb4)
  have I4 := hid ((Fl.new w3 _ _ _ _ _ _).bel hb4)
  have B4 := hid (bel_trans (bel_alloc B3.out _) hb4)
  clear hb4
  go_wp2_with fail
  refine (HA3.out _ (W4.out.alloc _)).mono ?_; rintro e w5 ⟨rfl, hb5⟩
  have W5 := hid ((W4.out.alloc _).bel hb5)
  have F5 := hid ((F4.out.up _).bel hb5)
  have G5 := hid ((G4.out.up _).bel hb5)
  have I5 := hid ((I4.out.up _).bel hb5)
  have K5 := hid ((Fl.new w4 _ _ _ _ _ _).bel hb5)
  have B5 := hid (bel_trans (bel_alloc B4.out _) hb5)
  clear hb5 F2 F3 F4 G3 G4 I4
  go_wp2_with fail
  refine (HR3.out _).mono ?_; rintro e wx ⟨rfl, hq⟩; subst wx
  go_wp2_with fail
  refine (HA4.out _ W5.out).mono ?_; rintro e w6 ⟨rfl, hb6⟩
  have W6 := hid (W5.out.bel hb6)
  obtain ⟨c0, c1, c2, c3, c4, _, _, _, _, _⟩ := F5.out.bel hb6
  obtain ⟨d0, d1, d2, d3, d4, _, _, _, _, _⟩ := G5.out.bel hb6
  obtain ⟨i0, i1, i2, i3, i4, _, _, _, _, _⟩ := I5.out.bel hb6
  obtain ⟨k0, k1, k2, k3, k4, _, _, _, _, _⟩ := K5.out.bel hb6
  have B6 := hid (bel_trans B5.out hb6)
  clear hb6 F5 G5 I5 K5
  go_wp2_with fail
  refine (HR4.out _).mono ?_; rintro e wx ⟨rfl, hq⟩; subst wx
  go_wp2_with (first
    | (go_at_call 17; refine (num_any _ _).mono ?_; rintro e wn ⟨rfl, hq⟩; subst wn)
    | (go_at_call 18; refine (live_any _ W6.out).mono ?_; rintro e w9 ⟨rfl, hb9⟩))
  go_ret
  exact ⟨rfl, bel_trans B6.out hb9⟩
end Go.Proofs.YtbfkmnlbmlpogaaDoor
