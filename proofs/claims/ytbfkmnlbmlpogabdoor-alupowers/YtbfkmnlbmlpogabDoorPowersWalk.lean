/- The walk of AluPowers. -/
import Derived.Test.YtbfkmnlbmlpogabDoorPowersCalls
import Derived.Test.YtbfkmnlbmlpogabDoorLive
namespace Go.Proofs.YtbfkmnlbmlpogabDoor
open Go.ChangeShapes Go.WideShapes Go.ChangeAt Go.RowKit
set_option linter.unusedVariables false

theorem back_s (n : Nat) (h0 : 1 ≤ n) (h1 : n ≤ 64) (x : Int) : wrap64 (sx n x % 18446744073709551616) = sx n x := by
  have h := sx_in n h0 x
  have p : (2 : Int) ^ (n - 1) ≤ 2 ^ 63 := pow_le_i (by omega)
  unfold wrap64; omega

theorem tmod_in (k M : Int) (hM : 0 < M) : -M < k.tmod M ∧ k.tmod M < M := by
  by_cases h : 0 ≤ k
  · rw [Int.tmod_eq_emod_of_nonneg h]
    have a0 := Int.emod_nonneg k (Int.ne_of_gt hM); have a1 := Int.emod_lt_of_pos k hM
    omega
  · have e : k.tmod M = -((-k).tmod M) := by rw [← Int.neg_tmod]; simp
    rw [e, Int.tmod_eq_emod_of_nonneg (by omega)]
    have a0 := Int.emod_nonneg (-k) (Int.ne_of_gt hM); have a1 := Int.emod_lt_of_pos (-k) hM
    omega

theorem count_of (k : Int) (M : Nat) (hM : 1 ≤ M) (hM2 : M ≤ 63) : ∃ q : Nat, q < M ∧ (wrap64 (wrap64 (k.tmod M + (M + 1)) - 1)).tmod M = (q : Int) := by
  have t := tmod_in k M (by omega)
  generalize k.tmod M = r at *
  have e : wrap64 (wrap64 (r + (M + 1)) - 1) = r + M := by unfold wrap64; omega
  rw [e, Int.tmod_eq_emod_of_nonneg (by omega)]
  have a0 := Int.emod_nonneg (r + M) (show (M : Int) ≠ 0 by omega); have a1 := Int.emod_lt_of_pos (r + M) (show (0 : Int) < M by omega)
  exact ⟨((r + M) % M).toNat, by omega, by omega⟩

theorem pow_fit (q : Nat) (h : q ≤ 62) : IntKind.u64.wrap (2 ^ q) = 2 ^ q := by
  have := pow_le_i h
  have p := pow_pos_i q
  rw [IntKind.wrap_u64]; omega

set_option maxRecDepth 4000 in
theorem powers_no (a k sz : Int) (w : World) (h : ¬ (sz = 1 ∨ sz = 4 ∨ sz = 8)) (hw : Wd w) :
    Calls Tryd.prog 5 #[.int .u64 a, .int .i64 k, .int .i64 sz] w fun e w' => e = .returned (.bool true) ∧ Below w.heap.size w w' := by
  have HH := hid h
  have HW := hid hw
  clear h hw
  go_enter Tryd.func5, Tryd.ntmps5
  go_wp2_with fail
  refine (trim_no _ _ _ HH.out HW.out).mono ?_; rintro e w1 ⟨rfl, hb1⟩
  have W1 := hid (HW.out.bel hb1)
  go_wp2_with (first
    | (go_at_call 8; refine (num_any _ _).mono ?_; rintro e wn ⟨rfl, hq⟩; subst wn)
    | (go_at_call 10; refine (live_any _ W1.out).mono ?_; rintro e w7 ⟨rfl, hb7⟩))
  go_ret
  exact ⟨rfl, bel_trans hb1 hb7⟩

set_option maxRecDepth 4000 in
set_option maxHeartbeats 1000000 in
theorem powers_1 (a k : Int) (w : World) (k0 : -9223372036854775808 ≤ k) (k1 : k ≤ 9223372036854775807) (hw : Wd w) :
    Calls Tryd.prog 5 #[.int .u64 a, .int .i64 k, .int .i64 1] w fun e w' => e = .returned (.bool true) ∧ Below w.heap.size w w' := by
  have h : Wide 1 8 31 := .inl ⟨rfl, rfl, rfl⟩
  obtain ⟨q, hq, eq⟩ := count_of k 7 (by decide) (by decide)
  have eq : (wrap64 (wrap64 (k.tmod 7 + 8) - 1)).tmod 7 = (q : Int) := eq
  obtain ⟨C1, P1, Z1, S1, O1, L1⟩ := pow_shl a 1 8 31 q h (by omega)
  obtain ⟨C2, P2, Z2, S2, O2, L2⟩ := pow_mul a 1 8 31 q h (by omega)
  obtain ⟨C3, P3, Z3, S3, O3, L3⟩ := pow_shr a 1 8 31 q h (by omega)
  obtain ⟨C4, P4, Z4, S4, O4, L4⟩ := pow_sar a 1 8 31 q h (by omega)
  have L5 := fun v hv => extend_yes a 1 8 31 v h hv
  have L6 := fun v hv => trim_yes (IntKind.u64.wrap (sx 8 a / 2 ^ q)) 1 8 31 v h hv
  have e6 : IntKind.u64.wrap (sx 8 a / 2 ^ q) % 2 ^ 8 = sx 8 a / 2 ^ q % 2 ^ 8 := by rw [IntKind.wrap_u64, mod64 8 (by decide)]
  simp only [e6] at L6
  have es := back_s 8 (by decide) (by decide) a
  have p1 := pow_fit q (by omega)
  have qb : (q : Int) ≤ 62 := by omega
  have ng : ¬ (6 : Int) < q ∨ 7 ≠ 7 := by omega
  have HH := hid h
  have HW := hid hw
  clear h hw e6
  generalize a * 2 ^ q % 2 ^ 8 = x at *
  generalize sx 8 a / 2 ^ q % 2 ^ 8 = z at *
  have H1 := hid L1; have H2 := hid L2; have H3 := hid L3; have H4 := hid L4; have H5 := hid L5; have H6 := hid L6
  clear L1 L2 L3 L4 L5 L6
  go_enter Tryd.func5, Tryd.ntmps5
  go_wp2_with fail
  refine (trim_yes _ _ _ _ _ HH.out HW.out).mono ?_; rintro e w1 ⟨rfl, hb1⟩
  have W1 := hid (HW.out.bel hb1)
  have B1 := hid hb1
  clear hb1
  go_wp2_with (go_at_call 8; refine (num_any _ _).mono ?_; rintro e wn ⟨rfl, hq⟩; subst wn)
  refine (H1.out _ W1.out).mono ?_; rintro e w2 ⟨rfl, hb2⟩
  have W2 := hid (W1.out.bel hb2)
  have B2 := hid (bel_trans B1.out hb2)
  go_wp2_with fail
  refine (H2.out _ (W2.out.alloc _)).mono ?_; rintro e w3 ⟨rfl, hb3⟩
  have W3 := hid ((W2.out.alloc _).bel hb3)
  have B3 := hid (bel_trans (bel_alloc B2.out _) hb3)
  go_wp2_with fail
  refine (H3.out _ (W3.out.alloc _)).mono ?_; rintro e w4 ⟨rfl, hb4⟩
  have W4 := hid ((W3.out.alloc _).bel hb4)
  have B4 := hid (bel_trans (bel_alloc B3.out _) hb4)
  go_wp2_with fail
  refine (H4.out _ (W4.out.alloc _)).mono ?_; rintro e w5 ⟨rfl, hb5⟩
  have W5 := hid ((W4.out.alloc _).bel hb5)
  have B5 := hid (bel_trans (bel_alloc B4.out _) hb5)
  go_wp2_with fail
  refine (H5.out _ (W5.out.alloc _)).mono ?_; rintro e w6 ⟨rfl, hb6⟩
  have W6 := hid ((W5.out.alloc _).bel hb6)
  have B6 := hid (bel_trans (bel_alloc B5.out _) hb6)
  go_wp2_with fail
  refine (H6.out _ W6.out).mono ?_; rintro e w7 ⟨rfl, hb7⟩
  have W7 := hid (W6.out.bel hb7)
  have B7 := hid (bel_trans B6.out hb7)
  clear hb2 hb3 hb4 hb5 hb6 hb7
  go_wp2_with (first
    | (go_at_call 8; refine (num_any _ _).mono ?_; rintro e wn ⟨rfl, hq⟩; subst wn)
    | (go_at_call 10; refine (live_any _ W7.out).mono ?_; rintro e w9 ⟨rfl, hb9⟩))
  go_ret
  exact ⟨rfl, bel_trans B7.out hb9⟩

set_option maxRecDepth 4000 in
set_option maxHeartbeats 1000000 in
theorem powers_4 (a k : Int) (w : World) (k0 : -9223372036854775808 ≤ k) (k1 : k ≤ 9223372036854775807) (hw : Wd w) :
    Calls Tryd.prog 5 #[.int .u64 a, .int .i64 k, .int .i64 4] w fun e w' => e = .returned (.bool true) ∧ Below w.heap.size w w' := by
  have h : Wide 4 32 31 := .inr (.inl ⟨rfl, rfl, rfl⟩)
  obtain ⟨q, hq, eq⟩ := count_of k 31 (by decide) (by decide)
  have eq : (wrap64 (wrap64 (k.tmod 31 + 32) - 1)).tmod 31 = (q : Int) := eq
  obtain ⟨C1, P1, Z1, S1, O1, L1⟩ := pow_shl a 4 32 31 q h (by omega)
  obtain ⟨C2, P2, Z2, S2, O2, L2⟩ := pow_mul a 4 32 31 q h (by omega)
  obtain ⟨C3, P3, Z3, S3, O3, L3⟩ := pow_shr a 4 32 31 q h (by omega)
  obtain ⟨C4, P4, Z4, S4, O4, L4⟩ := pow_sar a 4 32 31 q h (by omega)
  have L5 := fun v hv => extend_yes a 4 32 31 v h hv
  have L6 := fun v hv => trim_yes (IntKind.u64.wrap (sx 32 a / 2 ^ q)) 4 32 31 v h hv
  have e6 : IntKind.u64.wrap (sx 32 a / 2 ^ q) % 2 ^ 32 = sx 32 a / 2 ^ q % 2 ^ 32 := by rw [IntKind.wrap_u64, mod64 32 (by decide)]
  simp only [e6] at L6
  have es := back_s 32 (by decide) (by decide) a
  have p1 := pow_fit q (by omega)
  have qb : (q : Int) ≤ 62 := by omega
  have ng : ¬ (6 : Int) < q ∨ 31 ≠ 7 := by omega
  have HH := hid h
  have HW := hid hw
  clear h hw e6
  generalize a * 2 ^ q % 2 ^ 32 = x at *
  generalize sx 32 a / 2 ^ q % 2 ^ 32 = z at *
  have H1 := hid L1; have H2 := hid L2; have H3 := hid L3; have H4 := hid L4; have H5 := hid L5; have H6 := hid L6
  clear L1 L2 L3 L4 L5 L6
  go_enter Tryd.func5, Tryd.ntmps5
  go_wp2_with fail
  refine (trim_yes _ _ _ _ _ HH.out HW.out).mono ?_; rintro e w1 ⟨rfl, hb1⟩
  have W1 := hid (HW.out.bel hb1)
  have B1 := hid hb1
  clear hb1
  go_wp2_with (go_at_call 8; refine (num_any _ _).mono ?_; rintro e wn ⟨rfl, hq⟩; subst wn)
  refine (H1.out _ W1.out).mono ?_; rintro e w2 ⟨rfl, hb2⟩
  have W2 := hid (W1.out.bel hb2)
  have B2 := hid (bel_trans B1.out hb2)
  go_wp2_with fail
  refine (H2.out _ (W2.out.alloc _)).mono ?_; rintro e w3 ⟨rfl, hb3⟩
  have W3 := hid ((W2.out.alloc _).bel hb3)
  have B3 := hid (bel_trans (bel_alloc B2.out _) hb3)
  go_wp2_with fail
  refine (H3.out _ (W3.out.alloc _)).mono ?_; rintro e w4 ⟨rfl, hb4⟩
  have W4 := hid ((W3.out.alloc _).bel hb4)
  have B4 := hid (bel_trans (bel_alloc B3.out _) hb4)
  go_wp2_with fail
  refine (H4.out _ (W4.out.alloc _)).mono ?_; rintro e w5 ⟨rfl, hb5⟩
  have W5 := hid ((W4.out.alloc _).bel hb5)
  have B5 := hid (bel_trans (bel_alloc B4.out _) hb5)
  go_wp2_with fail
  refine (H5.out _ (W5.out.alloc _)).mono ?_; rintro e w6 ⟨rfl, hb6⟩
  have W6 := hid ((W5.out.alloc _).bel hb6)
  have B6 := hid (bel_trans (bel_alloc B5.out _) hb6)
  go_wp2_with fail
  refine (H6.out _ W6.out).mono ?_; rintro e w7 ⟨rfl, hb7⟩
  have W7 := hid (W6.out.bel hb7)
  have B7 := hid (bel_trans B6.out hb7)
  clear hb2 hb3 hb4 hb5 hb6 hb7
  go_wp2_with (first
    | (go_at_call 8; refine (num_any _ _).mono ?_; rintro e wn ⟨rfl, hq⟩; subst wn)
    | (go_at_call 10; refine (live_any _ W7.out).mono ?_; rintro e w9 ⟨rfl, hb9⟩))
  go_ret
  exact ⟨rfl, bel_trans B7.out hb9⟩

set_option maxRecDepth 4000 in
set_option maxHeartbeats 1000000 in
theorem powers_8 (a k : Int) (w : World) (k0 : -9223372036854775808 ≤ k) (k1 : k ≤ 9223372036854775807) (hw : Wd w) :
    Calls Tryd.prog 5 #[.int .u64 a, .int .i64 k, .int .i64 8] w fun e w' => e = .returned (.bool true) ∧ Below w.heap.size w w' := by
  have h : Wide 8 64 63 := .inr (.inr ⟨rfl, rfl, rfl⟩)
  obtain ⟨q, hq, eq⟩ := count_of k 63 (by decide) (by decide)
  have eq : (wrap64 (wrap64 (k.tmod 63 + 64) - 1)).tmod 63 = (q : Int) := eq
  obtain ⟨C1, P1, Z1, S1, O1, L1⟩ := pow_shl a 8 64 63 q h (by omega)
  obtain ⟨C2, P2, Z2, S2, O2, L2⟩ := pow_mul a 8 64 63 q h (by omega)
  obtain ⟨C3, P3, Z3, S3, O3, L3⟩ := pow_shr a 8 64 63 q h (by omega)
  obtain ⟨C4, P4, Z4, S4, O4, L4⟩ := pow_sar a 8 64 63 q h (by omega)
  have L5 := fun v hv => extend_yes a 8 64 63 v h hv
  have L6 := fun v hv => trim_yes (IntKind.u64.wrap (sx 64 a / 2 ^ q)) 8 64 63 v h hv
  have e6 : IntKind.u64.wrap (sx 64 a / 2 ^ q) % 2 ^ 64 = sx 64 a / 2 ^ q % 2 ^ 64 := by rw [IntKind.wrap_u64, mod64 64 (by decide)]
  simp only [e6] at L6
  have es := back_s 64 (by decide) (by decide) a
  have p1 := pow_fit q (by omega)
  have qb : (q : Int) ≤ 62 := by omega
  have ng : ¬ (6 : Int) < q ∨ 63 ≠ 7 := by omega
  have HH := hid h
  have HW := hid hw
  clear h hw e6
  generalize a * 2 ^ q % 2 ^ 64 = x at *
  generalize sx 64 a / 2 ^ q % 2 ^ 64 = z at *
  have H1 := hid L1; have H2 := hid L2; have H3 := hid L3; have H4 := hid L4; have H5 := hid L5; have H6 := hid L6
  clear L1 L2 L3 L4 L5 L6
  go_enter Tryd.func5, Tryd.ntmps5
  go_wp2_with fail
  refine (trim_yes _ _ _ _ _ HH.out HW.out).mono ?_; rintro e w1 ⟨rfl, hb1⟩
  have W1 := hid (HW.out.bel hb1)
  have B1 := hid hb1
  clear hb1
  go_wp2_with (go_at_call 8; refine (num_any _ _).mono ?_; rintro e wn ⟨rfl, hq⟩; subst wn)
  refine (H1.out _ W1.out).mono ?_; rintro e w2 ⟨rfl, hb2⟩
  have W2 := hid (W1.out.bel hb2)
  have B2 := hid (bel_trans B1.out hb2)
  go_wp2_with fail
  refine (H2.out _ (W2.out.alloc _)).mono ?_; rintro e w3 ⟨rfl, hb3⟩
  have W3 := hid ((W2.out.alloc _).bel hb3)
  have B3 := hid (bel_trans (bel_alloc B2.out _) hb3)
  go_wp2_with fail
  refine (H3.out _ (W3.out.alloc _)).mono ?_; rintro e w4 ⟨rfl, hb4⟩
  have W4 := hid ((W3.out.alloc _).bel hb4)
  have B4 := hid (bel_trans (bel_alloc B3.out _) hb4)
  go_wp2_with fail
  refine (H4.out _ (W4.out.alloc _)).mono ?_; rintro e w5 ⟨rfl, hb5⟩
  have W5 := hid ((W4.out.alloc _).bel hb5)
  have B5 := hid (bel_trans (bel_alloc B4.out _) hb5)
  go_wp2_with fail
  refine (H5.out _ (W5.out.alloc _)).mono ?_; rintro e w6 ⟨rfl, hb6⟩
  have W6 := hid ((W5.out.alloc _).bel hb6)
  have B6 := hid (bel_trans (bel_alloc B5.out _) hb6)
  go_wp2_with fail
  refine (H6.out _ W6.out).mono ?_; rintro e w7 ⟨rfl, hb7⟩
  have W7 := hid (W6.out.bel hb7)
  have B7 := hid (bel_trans B6.out hb7)
  clear hb2 hb3 hb4 hb5 hb6 hb7
  go_wp2_with (first
    | (go_at_call 8; refine (num_any _ _).mono ?_; rintro e wn ⟨rfl, hq⟩; subst wn)
    | (go_at_call 10; refine (live_any _ W7.out).mono ?_; rintro e w9 ⟨rfl, hb9⟩))
  go_ret
  exact ⟨rfl, bel_trans B7.out hb9⟩

theorem aluPowers_walk (a k sz : Int) (w : World) (ha : (Lit.int .u64 a).wf = true) (hk : (Lit.int .i64 k).wf = true) (hs : (Lit.int .i64 sz).wf = true) (hw : Wd w) :
    Calls Tryd.prog 5 #[.int .u64 a, .int .i64 k, .int .i64 sz] w fun e w' => e = .returned (.bool true) ∧ Below w.heap.size w w' := by
  have kb : -9223372036854775808 ≤ k ∧ k ≤ 9223372036854775807 := by simpa [Lit.wf, IntKind.min, IntKind.max, IntKind.signed, IntKind.bits] using hk
  by_cases h1 : sz = 1
  · subst h1; exact powers_1 a k w kb.1 kb.2 hw
  · by_cases h4 : sz = 4
    · subst h4; exact powers_4 a k w kb.1 kb.2 hw
    · by_cases h8 : sz = 8
      · subst h8; exact powers_8 a k w kb.1 kb.2 hw
      · exact powers_no a k sz w (by omega) hw
end Go.Proofs.YtbfkmnlbmlpogabDoor
