/- The walk of AluHalves. -/
import Derived.Test.YtbfkmnlbmlpogabDoorHalvesPlain
import Derived.Test.YtbfkmnlbmlpogabDoorLive
import Derived.Test.YtbfkmnlbmlpogabDoorFive
namespace Go.Proofs.YtbfkmnlbmlpogabDoor
open Go.ChangeShapes Go.WideShapes Go.ChangeAt Go.RowKit
set_option linter.unusedVariables false

theorem u64_bounds {a : Int} (h : (Lit.int .u64 a).wf = true) : 0 ≤ a ∧ a < 18446744073709551616 := by
  have : 0 ≤ a ∧ a ≤ 18446744073709551615 := by simpa [Lit.wf, IntKind.min, IntKind.max, IntKind.signed, IntKind.bits] using h
  omega

theorem halves_any (x : Int) (w : World) (h0 : 0 ≤ x) (h1 : x < 18446744073709551616) :
    Calls Tryd.prog 6 #[.int .u64 x] w fun e w' => e = .returned (.tuple #[.int .u64 (x % 4294967296), .int .u64 (x / 4294967296)]) ∧ w' = w := by
  have e := mask32 x h0 h1
  clear h0 h1
  go_enter Tryd.func6, Tryd.ntmps6
  go_wp2
  go_ret2
  exact ⟨rfl, rfl⟩

/-- A call on 8 bytes, and two on 4 bytes with the first one's C: their answers, named ahead. -/
theorem halves_adds (a b : Int) (h0 : 0 ≤ a) (h1 : a < 18446744073709551616) (g0 : 0 ≤ b) (g1 : b < 18446744073709551616) :
    ∃ (u l : Int) (K C S O P8 Z8 P4 Z4 p z s o : Bool),
      (∀ v, Wd v → Calls Tryd.prog 7 #[.int .u64 a, .int .u64 b, .bool false, .int .i64 8] v fun e w' => e = .returned (.tuple #[.int .u64 (u * 4294967296 + l), .agg #[.bool C, .bool P8, .bool Z8, .bool S, .bool O], .int .i64 0]) ∧ Below v.heap.size v w') ∧
      (∀ v, Wd v → Calls Tryd.prog 7 #[.int .u64 (a % 4294967296), .int .u64 (b % 4294967296), .bool false, .int .i64 4] v fun e w' => e = .returned (.tuple #[.int .u64 l, .agg #[.bool K, .bool p, .bool z, .bool s, .bool o], .int .i64 0]) ∧ Below v.heap.size v w') ∧
      (∀ v, Wd v → Calls Tryd.prog 7 #[.int .u64 (a / 4294967296), .int .u64 (b / 4294967296), .bool K, .int .i64 4] v fun e w' => e = .returned (.tuple #[.int .u64 u, .agg #[.bool C, .bool P4, .bool Z4, .bool S, .bool O], .int .i64 0]) ∧ Below v.heap.size v w') ∧
      bits .or .u64 (IntKind.u64.wrap (u * 4294967296)) l = u * 4294967296 + l ∧ IntKind.u64.wrap (a + b) = u * 4294967296 + l := by
  have A8 := fun v (hv : Wd v) => add_yes a b false 8 64 63 v (.inr (.inr ⟨rfl, rfl, rfl⟩)) hv
  have A4 := fun v (hv : Wd v) => add_yes (a % 4294967296) (b % 4294967296) false 4 32 31 v (.inr (.inl ⟨rfl, rfl, rfl⟩)) hv
  have B4 := fun v (hv : Wd v) K => add_yes (a / 4294967296) (b / 4294967296) K 4 32 31 v (.inr (.inl ⟨rfl, rfl, rfl⟩)) hv
  obtain ⟨e1, e2, e3, e4⟩ := halves_add a b h0 h1 g0 g1 _ rfl
  have p64 : (2 : Int) ^ 64 = 18446744073709551616 := by decide
  have p32 : (2 : Int) ^ 32 = 4294967296 := by decide
  have z0 : b2i false = 0 := rfl
  simp only [p64, resF, e2, e3, e4] at A8
  simp only [← e1] at A8
  simp only [p32, resF] at A4 B4
  refine ⟨_, _, _, _, _, _, _, _, _, _, _, _, _, _, A8, A4, fun v hv => B4 v hv _, ?_, ?_⟩
  · exact join32 _ _ (by omega) (by omega) (by omega) (by omega)
  · rw [e1, z0, IntKind.wrap_u64]; omega

/-- A call on 8 bytes, and two on 4 bytes with the first one's C: their answers, named ahead. -/
theorem halves_subs (a b : Int) (h0 : 0 ≤ a) (h1 : a < 18446744073709551616) (g0 : 0 ≤ b) (g1 : b < 18446744073709551616) :
    ∃ (u l : Int) (K C S O P8 Z8 P4 Z4 p z s o : Bool),
      (∀ v, Wd v → Calls Tryd.prog 9 #[.int .u64 a, .int .u64 b, .bool false, .int .i64 8] v fun e w' => e = .returned (.tuple #[.int .u64 (u * 4294967296 + l), .agg #[.bool C, .bool P8, .bool Z8, .bool S, .bool O], .int .i64 0]) ∧ Below v.heap.size v w') ∧
      (∀ v, Wd v → Calls Tryd.prog 9 #[.int .u64 (a % 4294967296), .int .u64 (b % 4294967296), .bool false, .int .i64 4] v fun e w' => e = .returned (.tuple #[.int .u64 l, .agg #[.bool K, .bool p, .bool z, .bool s, .bool o], .int .i64 0]) ∧ Below v.heap.size v w') ∧
      (∀ v, Wd v → Calls Tryd.prog 9 #[.int .u64 (a / 4294967296), .int .u64 (b / 4294967296), .bool K, .int .i64 4] v fun e w' => e = .returned (.tuple #[.int .u64 u, .agg #[.bool C, .bool P4, .bool Z4, .bool S, .bool O], .int .i64 0]) ∧ Below v.heap.size v w') ∧
      bits .or .u64 (IntKind.u64.wrap (u * 4294967296)) l = u * 4294967296 + l ∧ IntKind.u64.wrap (a - b) = u * 4294967296 + l := by
  have A8 := fun v (hv : Wd v) => sub_yes a b false 8 64 63 v (.inr (.inr ⟨rfl, rfl, rfl⟩)) hv
  have A4 := fun v (hv : Wd v) => sub_yes (a % 4294967296) (b % 4294967296) false 4 32 31 v (.inr (.inl ⟨rfl, rfl, rfl⟩)) hv
  have B4 := fun v (hv : Wd v) K => sub_yes (a / 4294967296) (b / 4294967296) K 4 32 31 v (.inr (.inl ⟨rfl, rfl, rfl⟩)) hv
  obtain ⟨e1, e2, e3, e4⟩ := halves_sub a b h0 h1 g0 g1 _ rfl
  have p64 : (2 : Int) ^ 64 = 18446744073709551616 := by decide
  have p32 : (2 : Int) ^ 32 = 4294967296 := by decide
  have z0 : b2i false = 0 := rfl
  simp only [p64, resF, e2, e3, e4] at A8
  simp only [← e1] at A8
  simp only [p32, resF] at A4 B4
  refine ⟨_, _, _, _, _, _, _, _, _, _, _, _, _, _, A8, A4, fun v hv => B4 v hv _, ?_, ?_⟩
  · exact join32 _ _ (by omega) (by omega) (by omega) (by omega)
  · rw [e1, z0, IntKind.wrap_u64]; omega

set_option maxRecDepth 4000 in
set_option maxHeartbeats 1000000 in
theorem aluHalves_walk (a b : Int) (w : World) (ha : (Lit.int .u64 a).wf = true) (hb : (Lit.int .u64 b).wf = true) (hw : Wd w) :
    Calls Tryd.prog 3 #[.int .u64 a, .int .u64 b] w fun e w' => e = .returned (.bool true) ∧ Below w.heap.size w w' := by
  obtain ⟨h0, h1⟩ := u64_bounds ha
  obtain ⟨g0, g1⟩ := u64_bounds hb
  obtain ⟨u, l, K, C, S, O, P8, Z8, P4, Z4, p, z, s, o, A8, A4, B4, ej, ew⟩ := halves_adds a b h0 h1 g0 g1
  obtain ⟨u', l', K', C', S', O', P8', Z8', P4', Z4', p', z', s', o', A8', A4', B4', ej', ew'⟩ := halves_subs a b h0 h1 g0 g1
  have HA := hid (halves_any a w h0 h1)
  have HB := hid (halves_any b w g0 g1)
  have H1 := hid A8; have H2 := hid A4; have H3 := hid B4
  have H4 := hid A8'; have H5 := hid A4'; have H6 := hid B4'
  have HW : Hid (Wd w) := hw
  have hz0 := hw.z
  clear ha hb h0 h1 g0 g1 A8 A4 B4 A8' A4' B4' hw
  go_enter Tryd.func3, Tryd.ntmps3
  go_wp2_with fail
  refine HA.out.mono ?_; rintro e wx ⟨rfl, hq⟩; subst wx
  go_wp2_with fail
  refine HB.out.mono ?_; rintro e wx ⟨rfl, hq⟩; subst wx
  go_wp2_with fail
  refine (H1.out _ HW.out).mono ?_; rintro e w1 ⟨rfl, hb1⟩
  have W1 : Hid (Wd w1) := HW.out.bel hb1
  have B1 := hid hb1
  have z1 : w.heap.size ≤ w1.heap.size := hb1.size
  clear hb1
  go_wp2_with fail
  refine (H2.out _ (W1.out.alloc _)).mono ?_; rintro e w2 ⟨rfl, hb2⟩
  have W2 : Hid (Wd w2) := (W1.out.alloc _).bel hb2
  have F2 := hid ((Fl.new w1 _ _ _ _ _ _).bel hb2)
  have B2 := hid (bel_trans (bel_alloc B1.out _) hb2)
  have z2 : w1.heap.size < w2.heap.size := F2.out.lt
  clear hb2
  go_wp2_with fail
  refine (H3.out _ (W2.out.alloc _)).mono ?_; rintro e w3 ⟨rfl, hb3⟩
  have W3 : Hid (Wd w3) := (W2.out.alloc _).bel hb3
  have F3 := hid ((F2.out.up _).bel hb3)
  have G3 := hid ((Fl.new w2 _ _ _ _ _ _).bel hb3)
  have B3 := hid (bel_trans (bel_alloc B2.out _) hb3)
  have z3 : w2.heap.size < w3.heap.size := G3.out.lt
  have z4 : w1.heap.size < w3.heap.size := by omega
  clear hb3
  obtain ⟨c0, c1, c2, c3, c4, f0, f1, f2, f3, f4⟩ := F3.out
  obtain ⟨d0, d1, d2, d3, d4, e0, e1, e2, e3, e4⟩ := G3.out
  go_wp2_with (go_at_call 8; refine (num_any _ _).mono ?_; rintro e wn ⟨rfl, hq⟩; subst wn)
  refine (H4.out _ (W3.out.alloc _)).mono ?_; rintro e w4 ⟨rfl, hb4⟩
  have W4 : Hid (Wd w4) := (W3.out.alloc _).bel hb4
  have F4 := hid ((F3.out.up _).bel hb4)
  have G4 := hid ((G3.out.up _).bel hb4)
  have K4 := hid ((Fl.new w3 _ _ _ _ _ _).bel hb4)
  have B4 := hid (bel_trans (bel_alloc B3.out _) hb4)
  clear hb4 c0 c1 c2 c3 c4 f0 f1 f2 f3 f4 d0 d1 d2 d3 d4 e0 e1 e2 e3 e4
  obtain ⟨c0, c1, c2, c3, c4, f0, f1, f2, f3, f4⟩ := F4.out
  go_wp2_with fail
  clear c0 c1 c2 c3 c4 f0 f1 f2 f3 f4
  refine (H5.out (set5 w4 w1.heap.size C' P8' Z8' S' O') (W4.out.set5 (by omega) _ _ _ _ _)).mono ?_; rintro e w5 ⟨rfl, hb5⟩
  have W5 : Hid (Wd w5) := (W4.out.set5 (by omega) _ _ _ _ _).bel hb5
  have F5 := hid ((F4.out.set C' P8' Z8' S' O').bel hb5)
  have G5 := hid ((G4.out.other (by omega) C' P8' Z8' S' O').bel hb5)
  have K5 := hid ((K4.out.other (by omega) C' P8' Z8' S' O').bel hb5)
  have B5 := hid (bel_trans (B4.out.trans (set5_bel z1 C' P8' Z8' S' O')) hb5)
  clear hb5
  obtain ⟨c0, c1, c2, c3, c4, f0, f1, f2, f3, f4⟩ := G5.out
  go_wp2_with fail
  clear c0 c1 c2 c3 c4 f0 f1 f2 f3 f4
  refine (H6.out (set5 w5 w2.heap.size K' p' z' s' o') (W5.out.set5 (by omega) _ _ _ _ _)).mono ?_; rintro e w6 ⟨rfl, hb6⟩
  have W6 : Hid (Wd w6) := (W5.out.set5 (by omega) _ _ _ _ _).bel hb6
  have F6 := hid ((F5.out.other (by omega) K' p' z' s' o').bel hb6)
  have K6 := hid ((K5.out.other (by omega) K' p' z' s' o').bel hb6)
  have B6 := hid (bel_trans (B5.out.trans (set5_bel (by omega) K' p' z' s' o')) hb6)
  clear hb6
  obtain ⟨c0, c1, c2, c3, c4, f0, f1, f2, f3, f4⟩ := F6.out
  obtain ⟨d0, d1, d2, d3, d4, e0, e1, e2, e3, e4⟩ := K6.out
  have n1 : w1.heap.size ≠ w3.heap.size := by omega
  have n2 : w3.heap.size ≠ w1.heap.size := by omega
  go_wp2_with (first
    | (go_at_call 8; refine (num_any _ _).mono ?_; rintro e wn ⟨rfl, hq⟩; subst wn)
    | (go_at_call 10; refine (live_any (set5 w6 w3.heap.size C' P4' Z4' S' O') (W6.out.set5 (by omega) _ _ _ _ _)).mono ?_; rintro e w7 ⟨rfl, hb7⟩))
  go_ret
  exact ⟨rfl, bel_trans (B6.out.trans (set5_bel (by omega) C' P4' Z4' S' O')) hb7⟩
end Go.Proofs.YtbfkmnlbmlpogabDoor
