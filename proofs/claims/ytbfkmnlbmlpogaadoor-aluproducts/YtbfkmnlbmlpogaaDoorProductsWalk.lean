/- The walk of AluProducts. -/
import Derived.Test.YtbfkmnlbmlpogaaDoorRefMul
import Derived.Test.YtbfkmnlbmlpogaaDoorMul
import Derived.Test.YtbfkmnlbmlpogaaDoorLive
namespace Go.Proofs.YtbfkmnlbmlpogaaDoor
open Go.ChangeShapes Go.WideShapes Go.ChangeAt Go.RowKit
set_option linter.unusedVariables false

theorem u64_bd {a : Int} (h : (Lit.int .u64 a).wf = true) : 0 ≤ a ∧ a < 18446744073709551616 := by
  have : 0 ≤ a ∧ a ≤ 18446744073709551615 := by simpa [Lit.wf, IntKind.min, IntKind.max, IntKind.signed, IntKind.bits] using h
  omega

theorem size_or (sz : Int) : (∃ n c, Wide sz n c) ∨ ¬ (sz = 1 ∨ sz = 4 ∨ sz = 8) := by
  by_cases h1 : sz = 1
  · exact .inl ⟨8, 31, .inl ⟨h1, rfl, rfl⟩⟩
  · by_cases h4 : sz = 4
    · exact .inl ⟨32, 31, .inr (.inl ⟨h4, rfl, rfl⟩)⟩
    · by_cases h8 : sz = 8
      · exact .inl ⟨64, 63, .inr (.inr ⟨h8, rfl, rfl⟩)⟩
      · exact .inr (by omega)

theorem same_mul (a b sz : Int) (h0 : 0 ≤ a) (h1 : a < 18446744073709551616) (g0 : 0 ≤ b) (g1 : b < 18446744073709551616) :
    ∃ (x : Int) (C P Z S O : Bool) (e0 : Int),
      (∀ v, Wd v → Calls Tryd.prog 25 #[.int .u64 a, .int .u64 b, .int .i64 sz] v fun e w' => e = .returned (.tuple #[.int .u64 x, .agg #[.bool C, .bool P, .bool Z, .bool S, .bool O], .int .i64 e0]) ∧ Below v.heap.size v w') ∧
      (∀ v, Calls Tryd.prog 26 #[.int .u64 a, .int .u64 b, .int .i64 sz] v fun e w' => e = .returned (.tuple #[.int .u64 x, .agg #[.bool C, .bool P, .bool Z, .bool S, .bool O], .int .i64 e0]) ∧ Below v.heap.size v w') ∧
      (∀ v, Wd v → Calls Tryd.prog 25 #[.int .u64 b, .int .u64 a, .int .i64 sz] v fun e w' => e = .returned (.tuple #[.int .u64 x, .agg #[.bool C, .bool P, .bool Z, .bool S, .bool O], .int .i64 e0]) ∧ Below v.heap.size v w') := by
  rcases size_or sz with ⟨n, c, h⟩ | h
  · have B := fun v hv => mul_yes b a sz n c v h hv
    rw [Int.mul_comm (sx n b) (sx n a)] at B
    exact ⟨_, _, _, _, _, _, _, fun v hv => mul_yes a b sz n c v h hv, fun v => rmul_yes a b sz n c v h h0 h1 g0 g1, B⟩
  · exact ⟨_, _, _, _, _, _, _, fun v hv => mul_no a b sz v h hv, fun v => rmul_no a b sz v h, fun v hv => mul_no b a sz v h hv⟩

set_option maxRecDepth 4000 in
set_option maxHeartbeats 1000000 in
theorem aluProducts_walk (a b sz : Int) (w : World) (ha : (Lit.int .u64 a).wf = true) (hb : (Lit.int .u64 b).wf = true) (hs : (Lit.int .i64 sz).wf = true) (hw : Wd w) :
    Calls Tryd.prog 6 #[.int .u64 a, .int .u64 b, .int .i64 sz] w fun e w' => e = .returned (.bool true) ∧ Below w.heap.size w w' := by
  obtain ⟨h0, h1⟩ := u64_bd ha
  obtain ⟨g0, g1⟩ := u64_bd hb
  obtain ⟨x1, C1, P1, Z1, S1, O1, e1, A1, R1, A2⟩ := same_mul a b sz h0 h1 g0 g1
  have HA1 := hid A1; have HR1 := hid R1; have HA2 := hid A2
  have HW := hid hw
  have fe := flags_eq
  clear A1 R1 A2 ha hb hs h0 h1 g0 g1 hw
  go_enter Tryd.func6, Tryd.ntmps6
  go_wp2_with fail
  refine (HA1.out _ HW.out).mono ?_; rintro e w1 ⟨rfl, hb1⟩
  have W1 := hid (HW.out.bel hb1)
  have B1 := hid hb1
  clear hb1
  go_wp2_with fail
  refine (HR1.out _).mono ?_; rintro e w2 ⟨rfl, hb2⟩
  have W2 := hid ((W1.out.alloc _).bel hb2)
  have F2 := hid ((Fl.new w1 _ _ _ _ _ _).bel hb2)
  have B2 := hid (bel_trans (bel_alloc B1.out _) hb2)
  clear hb2
  go_wp2_with fail
  refine (HA2.out _ (W2.out.alloc _)).mono ?_; rintro e w3 ⟨rfl, hb3⟩
  have W3 := hid ((W2.out.alloc _).bel hb3)
  obtain ⟨c0, c1, c2, c3, c4, _, _, _, _, _⟩ := (F2.out.up (.cells #[.bool C1, .bool P1, .bool Z1, .bool S1, .bool O1] 24)).bel hb3
  obtain ⟨d0, d1, d2, d3, d4, _, _, _, _, _⟩ := (Fl.new w2 C1 P1 Z1 S1 O1 24).bel hb3
  have B3 := hid (bel_trans (bel_alloc B2.out _) hb3)
  have y1 : w1.heap.size < w3.heap.size := World.block_lt_of_cell? w3 ⟨w1.heap.size, 0, none⟩ c0
  have y2 : w2.heap.size < w3.heap.size := World.block_lt_of_cell? w3 ⟨w2.heap.size, 0, none⟩ d0
  clear hb3
  go_wp2_with (first
    | (go_at_call 17; refine (num_any _ _).mono ?_; rintro e wn ⟨rfl, hq⟩; subst wn)
    | (go_at_call 18; refine (live_any _ (W3.out.alloc _)).mono ?_; rintro e w9 ⟨rfl, hb9⟩))
  go_ret
  exact ⟨rfl, bel_trans (bel_alloc B3.out _) hb9⟩
end Go.Proofs.YtbfkmnlbmlpogaaDoor
