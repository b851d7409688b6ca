/- The walk of AluBack. -/
import Derived.Test.YtbfkmnlbmlpogabDoorOne
import Derived.Test.YtbfkmnlbmlpogabDoorLive
namespace Go.Proofs.YtbfkmnlbmlpogabDoor
open Go.ChangeShapes Go.WideShapes Go.ChangeAt Go.RowKit
set_option linter.unusedVariables false

theorem wide_or (sz : Int) : (∃ n c, Wide sz n c) ∨ ¬ (sz = 1 ∨ sz = 4 ∨ sz = 8) := by
  by_cases h1 : sz = 1
  · exact .inl ⟨8, 31, .inl ⟨h1, rfl, rfl⟩⟩
  · by_cases h4 : sz = 4
    · exact .inl ⟨32, 31, .inr (.inl ⟨h4, rfl, rfl⟩)⟩
    · by_cases h8 : sz = 8
      · exact .inl ⟨64, 63, .inr (.inr ⟨h8, rfl, rfl⟩)⟩
      · exact .inr (by omega)

/-- Neg, and Not, of any number: what they give. -/
theorem neg_yes (a sz : Int) (n : Nat) (c : Int) (h : Wide sz n c) (C P Z S O : Bool) : ∃ C' P' Z' S' O' : Bool, ∀ w, Wd w →
    Calls Tryd.prog 12 #[.int .i64 13, .int .u64 a, .agg #[.bool C, .bool P, .bool Z, .bool S, .bool O], .int .i64 sz] w fun e w' =>
      e = .returned (.tuple #[.int .u64 ((-a) % 2 ^ n), .agg #[.bool C', .bool P', .bool Z', .bool S', .bool O'], .int .i64 0]) ∧ Below w.heap.size w w' := by
  have A := fun v hv => answer_single 32 sz n c a C _ _ _ v h hv enters_neg (fun v => neg_any sz c n a C v h.lo h.hi)
  have e : (0 - a - b2i false) % 18446744073709551616 % 2 ^ n = (-a) % 2 ^ n := by rw [mod64 n h.hi]; simp [b2i, bitV]
  simp only [e, resF] at A
  exact ⟨_, _, _, _, _, fun w hw => one_run 13 _ sz a C P Z S O _ 0 _ _ _ _ _ w hw rfl single_neg A⟩

theorem not_yes (a sz : Int) (n : Nat) (c : Int) (h : Wide sz n c) (C P Z S O : Bool) (w : World) (hw : Wd w) :
    Calls Tryd.prog 12 #[.int .i64 14, .int .u64 a, .agg #[.bool C, .bool P, .bool Z, .bool S, .bool O], .int .i64 sz] w fun e w' =>
      e = .returned (.tuple #[.int .u64 ((-1 - a) % 2 ^ n), .agg #[.bool C, .bool P, .bool Z, .bool S, .bool O], .int .i64 0]) ∧ Below w.heap.size w w' := by
  have A := fun v hv => answer_single 33 sz n c a C _ _ _ v h hv enters_not (fun v => not_any sz c n a C v)
  simp only [mod64 n h.hi, resF] at A
  exact one_not _ sz a C P Z S O _ _ _ _ _ _ w hw single_not A

theorem back_sub (n : Nat) (a b : Int) : ((a + b + b2i false) % 2 ^ n - b - b2i false) % 2 ^ n = a % 2 ^ n := by
  have e0 : b2i false = 0 := rfl
  rw [e0]
  have e : (a + b + 0) % 2 ^ n - b - 0 = (a + b) % 2 ^ n - b := by simp
  rw [e, Int.sub_emod, Int.emod_emod_of_dvd _ (Int.dvd_refl _), ← Int.sub_emod]
  congr 1; omega
theorem back_neg (n : Nat) (a : Int) : (-((-a) % 2 ^ n)) % 2 ^ n = a % 2 ^ n := by
  rw [← Int.zero_sub ((-a) % 2 ^ n)]
  rw [Int.sub_emod, Int.emod_emod_of_dvd _ (Int.dvd_refl _), ← Int.sub_emod]
  congr 1; omega
theorem back_not (n : Nat) (a : Int) : (-1 - (-1 - a) % 2 ^ n) % 2 ^ n = a % 2 ^ n := by
  rw [Int.sub_emod, Int.emod_emod_of_dvd _ (Int.dvd_refl _), ← Int.sub_emod]
  congr 1; omega
theorem not_one (n : Nat) (a : Int) : ((-1 - a) % 2 ^ n + 1 + b2i false) % 2 ^ n = (-a) % 2 ^ n := by
  have e0 : b2i false = 0 := rfl
  rw [e0]
  have e : (-1 - a) % 2 ^ n + 1 + 0 = (-1 - a) % 2 ^ n + 1 := by simp
  rw [e, Int.add_emod, Int.emod_emod_of_dvd _ (Int.dvd_refl _), ← Int.add_emod]
  congr 1; omega

set_option maxRecDepth 4000 in
theorem back_no (a b sz : Int) (w : World) (h : ¬ (sz = 1 ∨ sz = 4 ∨ sz = 8)) (hw : Wd w) :
    Calls Tryd.prog 4 #[.int .u64 a, .int .u64 b, .int .i64 sz] w fun e w' => e = .returned (.bool true) ∧ Below w.heap.size w w' := by
  have HH := hid h
  have HW := hid hw
  clear h hw
  go_enter Tryd.func4, Tryd.ntmps4
  go_wp2_with fail
  refine (trim_no _ _ _ HH.out HW.out).mono ?_; rintro e w1 ⟨rfl, hb1⟩
  have W1 := hid (HW.out.bel hb1)
  go_wp2_with fail
  refine (add_no _ _ _ _ _ HH.out W1.out).mono ?_; rintro e w2 ⟨rfl, hb2⟩
  have W2 := hid (W1.out.bel hb2)
  have B2 := hid (bel_trans hb1 hb2)
  go_wp2_with fail
  refine (sub_no _ _ _ _ _ HH.out (W2.out.alloc _)).mono ?_; rintro e w3 ⟨rfl, hb3⟩
  have W3 := hid ((W2.out.alloc _).bel hb3)
  have B3 := hid (bel_trans (bel_alloc B2.out _) hb3)
  clear hb1 hb2 hb3
  go_wp2_with (first
    | (go_at_call 8; refine (num_any _ _).mono ?_; rintro e wn ⟨rfl, hq⟩; subst wn)
    | (go_at_call 10; refine (live_any _ (W3.out.alloc _)).mono ?_; rintro e w7 ⟨rfl, hb7⟩))
  go_ret
  exact ⟨rfl, bel_trans (bel_alloc B3.out _) hb7⟩

set_option maxRecDepth 4000 in
set_option maxHeartbeats 400000 in
theorem back_yes (a b sz : Int) (n : Nat) (c : Int) (w : World) (h : Wide sz n c) (hw : Wd w) :
    Calls Tryd.prog 4 #[.int .u64 a, .int .u64 b, .int .i64 sz] w fun e w' => e = .returned (.bool true) ∧ Below w.heap.size w w' := by
  have HH := hid h
  have HW := hid hw
  obtain ⟨C1, P1, Z1, S1, O1, N1⟩ := neg_yes a sz n c h false false false false false
  obtain ⟨C2, P2, Z2, S2, O2, N2⟩ := neg_yes ((-a) % 2 ^ n) sz n c h false false false false false
  have M1 := hid (not_yes a sz n c h false false false false false)
  have M2 := hid (not_yes ((-1 - a) % 2 ^ n) sz n c h false false false false false)
  have X1 := hid (fun v hv => add_yes a b false sz n c v h hv)
  have X2 := hid (fun v hv => sub_yes ((a + b + b2i false) % 2 ^ n) b false sz n c v h hv)
  have X3 := hid (fun v hv => add_yes ((-1 - a) % 2 ^ n) 1 false sz n c v h hv)
  rw [back_neg] at N2
  simp only [back_not] at M2
  simp only [back_sub] at X2
  simp only [not_one] at X3
  have K1 := hid N1; have K2 := hid N2
  clear h hw N1 N2
  go_enter Tryd.func4, Tryd.ntmps4
  go_wp2_with fail
  refine (trim_yes _ _ _ _ _ HH.out HW.out).mono ?_; rintro e w1 ⟨rfl, hb1⟩
  have W1 := hid (HW.out.bel hb1)
  go_wp2_with fail
  refine (X1.out _ W1.out).mono ?_; rintro e w2 ⟨rfl, hb2⟩
  have W2 := hid (W1.out.bel hb2)
  have B2 := hid (bel_trans hb1 hb2)
  go_wp2_with fail
  refine (X2.out _ (W2.out.alloc _)).mono ?_; rintro e w3 ⟨rfl, hb3⟩
  have W3 := hid ((W2.out.alloc _).bel hb3)
  have B3 := hid (bel_trans (bel_alloc B2.out _) hb3)
  clear hb1 hb2 hb3
  go_wp2_with (go_at_call 8; refine (num_any _ _).mono ?_; rintro e wn ⟨rfl, hq⟩; subst wn)
  refine (K1.out _ (W3.out.alloc _)).mono ?_; rintro e w4 ⟨rfl, hb4⟩
  have W4 := hid ((W3.out.alloc _).bel hb4)
  have B4 := hid (bel_trans (bel_alloc B3.out _) hb4)
  go_wp2_with fail
  refine (K2.out _ (W4.out.alloc _)).mono ?_; rintro e w5 ⟨rfl, hb5⟩
  have W5 := hid ((W4.out.alloc _).bel hb5)
  have B5 := hid (bel_trans (bel_alloc B4.out _) hb5)
  go_wp2_with fail
  refine (M1.out _ (W5.out.alloc _)).mono ?_; rintro e w6 ⟨rfl, hb6⟩
  have W6 := hid ((W5.out.alloc _).bel hb6)
  have B6 := hid (bel_trans (bel_alloc B5.out _) hb6)
  go_wp2_with fail
  refine (M2.out _ (W6.out.alloc _)).mono ?_; rintro e w7 ⟨rfl, hb7⟩
  have W7 := hid ((W6.out.alloc _).bel hb7)
  have B7 := hid (bel_trans (bel_alloc B6.out _) hb7)
  go_wp2_with fail
  refine (X3.out _ (W7.out.alloc _)).mono ?_; rintro e w8 ⟨rfl, hb8⟩
  have W8 := hid ((W7.out.alloc _).bel hb8)
  have B8 := hid (bel_trans (bel_alloc B7.out _) hb8)
  clear hb4 hb5 hb6 hb7 hb8
  go_wp2_with (first
    | (go_at_call 8; refine (num_any _ _).mono ?_; rintro e wn ⟨rfl, hq⟩; subst wn)
    | (go_at_call 10; refine (live_any _ (W8.out.alloc _)).mono ?_; rintro e w9 ⟨rfl, hb9⟩))
  go_ret
  exact ⟨rfl, bel_trans (bel_alloc B8.out _) hb9⟩

theorem aluBack_walk (a b sz : Int) (w : World) (ha : (Lit.int .u64 a).wf = true) (hb : (Lit.int .u64 b).wf = true) (hs : (Lit.int .i64 sz).wf = true) (hw : Wd w) :
    Calls Tryd.prog 4 #[.int .u64 a, .int .u64 b, .int .i64 sz] w fun e w' => e = .returned (.bool true) ∧ Below w.heap.size w w' := by
  rcases wide_or sz with ⟨n, c, h⟩ | h
  · exact back_yes a b sz n c w h hw
  · exact back_no a b sz w h hw
end Go.Proofs.YtbfkmnlbmlpogabDoor
