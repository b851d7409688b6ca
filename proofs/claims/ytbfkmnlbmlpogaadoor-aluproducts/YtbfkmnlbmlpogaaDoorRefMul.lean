/- The contract of the document's product. -/
import Derived.Test.YtbfkmnlbmlpogaaDoorRefSums
import Derived.Test.YtbfkmnlbmlpogaaDoorRefMulPlain
namespace Go.Proofs.YtbfkmnlbmlpogaaDoor
open Go.ChangeShapes Go.WideShapes Go.ChangeAt Go.RowKit
set_option linter.unusedVariables false
set_option linter.unusedSimpArgs false

theorem bit63 (s : Int) (h0 : -9223372036854775808 ≤ s) (h1 : s < 9223372036854775808) (v : World) :
    Calls Tryd.prog 44 #[.int .u64 (s % 18446744073709551616), .int .i64 63] v fun e w' => e = .returned (.int .i64 (b2i (decide (s < 0)))) ∧ w' = v := by
  have c := rbit_any (s % 18446744073709551616) 63 v (by omega) (by omega) (by decide)
  have e : s % 18446744073709551616 / 2 ^ 63 % 2 = b2i (decide (s < 0)) := by
    by_cases h : s < 0
    · simp only [h, decide_true, b2i, bitV, if_true]; omega
    · simp only [h, decide_false, b2i, bitV, Bool.false_eq_true, if_false]; omega
  rw [e] at c
  exact c

set_option maxRecDepth 4000 in
set_option maxHeartbeats 8000000 in
theorem rmul_yes (a b sz : Int) (n : Nat) (c : Int) (w : World) (h : Wide sz n c) (h0 : 0 ≤ a) (h1 : a < 18446744073709551616) (g0 : 0 ≤ b) (g1 : b < 18446744073709551616) :
    Calls Tryd.prog 26 #[.int .u64 a, .int .u64 b, .int .i64 sz] w fun e w' =>
      e = .returned (.tuple #[.int .u64 (sx n a * sx n b % 2 ^ n), resF n (outS n (sx n a * sx n b)) (outS n (sx n a * sx n b)) (sx n a * sx n b % 2 ^ n), .int .i64 0]) ∧ Below w.heap.size w w' := by
  have l0 := h.lo; have l1 := h.hi
  have hz0 : ((n : Int) == 0) = false := by simp; omega
  have hp : (2 : Int) ^ (n - 1) ≤ 2 ^ 63 := pow_le_i (by omega)
  have sa := sx_in n l0 a
  have sb := sx_in n l0 b
  have E1 := hid (fun v => rextend_yes a sz n c v h h0 h1)
  have E2 := hid (fun v => rextend_yes b sz n c v h g0 g1)
  generalize sx n a = X at *
  generalize sx n b = Y at *
  have x0 : -9223372036854775808 ≤ X := by omega
  have x1 : X < 9223372036854775808 := by omega
  have y0 : -9223372036854775808 ≤ Y := by omega
  have y1 : Y < 9223372036854775808 := by omega
  have pb := prod_bound X Y x0 x1 y0 y1
  have pe := prod_end X Y y0 y1
  have ft := fits n l0 l1 (X * Y) pb.1 pb.2
  have sp := sx_in n l0 (X * Y)
  have es : sx n (X * Y % 18446744073709551616) = sx n (X * Y) := sx_congr n l0 (mod64 n l1 (X * Y))
  rw [es] at ft
  have er : X * Y % 18446744073709551616 % 2 ^ n = X * Y % 2 ^ n := mod64 n l1 _
  have e2 : sx n (X * Y % 2 ^ n) = sx n (X * Y) := sx_congr n l0 (Int.emod_emod_of_dvd _ (Int.dvd_refl _))
  have K1 := fun v => rlow_any (X * Y % 18446744073709551616) n v (by omega) (by omega) l1
  rw [er] at K1
  have rb := mod_in n l1 (X * Y)
  have K2 := fun v => rextend_yes (X * Y % 2 ^ n) sz n c v h rb.1 rb.2
  simp only [e2] at K2
  have K3 := bit63 (sx n (X * Y)) (by omega) (by omega)
  have K4 := fun v => rflags_any (X * Y % 2 ^ n) n v rb.1 rb.2 l0 l1
  have BX := bit63 X x0 x1
  have sg : sx n (X * Y) / 9223372036854775808 % 18446744073709551616 = if sx n (X * Y) < 0 then 18446744073709551615 else 0 := by split <;> omega
  rw [sg] at ft
  generalize hlo : X * Y % 18446744073709551616 = lo at *
  generalize hhi : X * Y / 18446744073709551616 % 18446744073709551616 = hi at *
  generalize hr : X * Y % 2 ^ n = r at *
  generalize hov : outS n (X * Y) = over at *
  generalize hsp : sx n (X * Y) = s at *
  have HB := hid (fun v => rbits_yes h v)
  have H1 := hid K1; have H2 := hid K2; have H3 := hid K3; have H4 := hid K4; have HX := hid BX
  have FT := hid ft; have PE := hid pe
  have YB := hid2 y0 y1
  have LO := hid (show 0 ≤ Y % 18446744073709551616 ∧ Y % 18446744073709551616 < 18446744073709551616 by omega)
  have XX := hid2 x0 x1
  have ex0 : bits .xor .u64 IntKind.u64.max 0 = 18446744073709551615 := by rw [xor_max]; decide
  clear K1 K2 K3 K4 BX ft pe h h0 h1 g0 g1 hp sa sb pb sp es er e2 rb sg hlo hhi hr hov hsp x0 x1 y0 y1
  cases hX : decide (X < 0)
  all_goals
    rw [hX] at HX
    simp only [b2i, bitV, if_true, if_false, Bool.false_eq_true] at HX
    go_enter Tryd.func26, Tryd.ntmps26
    go_wp2_with fail
    refine (HB.out _).mono ?_; rintro e w0 ⟨rfl, hq⟩; subst w0
    go_wp2_with fail
    refine (E1.out _).mono ?_; rintro e w0 ⟨rfl, hq⟩; subst w0
    go_wp2_with fail
    refine (E2.out _).mono ?_; rintro e w0 ⟨rfl, hq⟩; subst w0
    go_wp2_with fail
    refine (HX.out _).mono ?_; rintro e w0 ⟨rfl, hq⟩; subst w0
    go_wp2_with fail
  all_goals
    go_loop [10, 14, 15, 16, 17] (fun x hg dn xh i => ∃ j : Nat, j ≤ 128 ∧ i = .int .i64 j ∧ x = .int .u64 (X * 2 ^ j % 18446744073709551616) ∧ xh = .int .u64 (X * 2 ^ j / 18446744073709551616 % 18446744073709551616) ∧ dn = .int .u64 (X * (Y % 2 ^ j) % 18446744073709551616) ∧ hg = .int .u64 (X * (Y % 2 ^ j) / 18446744073709551616 % 18446744073709551616)) (fun _ _ _ _ i => 128 - (intOf i).toNat)
    case atStart =>
      have xs := XX.out
      first
        | (have hx : X < 0 := of_decide_eq_true hX
           exact ⟨0, by omega, rfl, by simp, by rw [show X * 2 ^ 0 / 18446744073709551616 % 18446744073709551616 = 18446744073709551615 from by simp; omega], by simp [Int.emod_one], by simp [Int.emod_one]⟩)
        | (have hx : ¬ X < 0 := of_decide_eq_false hX
           exact ⟨0, by omega, rfl, by simp, by rw [show X * 2 ^ 0 / 18446744073709551616 % 18446744073709551616 = 0 from by simp; omega], by simp [Int.emod_one], by simp [Int.emod_one]⟩)
    case round =>
      obtain ⟨j, hj, rfl, rfl, rfl, rfl, rfl⟩ := hrel
      by_cases hlt : j < 128
      · have fb := far_bit Y YB.out.1 YB.out.2 j
        have bt : ∀ v, Calls Tryd.prog 44 #[.int .u64 (Y % 18446744073709551616), .int .i64 (if j < 63 then (j : Int) else 63)] v fun e w' => e = .returned (.int .i64 (Y / 2 ^ j % 2)) ∧ w' = v := by
          intro v
          have c := rbit_any (Y % 18446744073709551616) (min j 63) v LO.out.1 LO.out.2 (by omega)
          rw [fb] at c
          have e : ((min j 63 : Nat) : Int) = if j < 63 then (j : Int) else 63 := by split <;> omega
          rw [e] at c
          exact c
        have hD := prod_step X Y j
        have hE : X * 2 ^ (j + 1) = X * 2 ^ j * 2 := by rw [Int.pow_succ, Int.mul_assoc]
        obtain ⟨s1, s2, s3⟩ := sum_words (X * (Y % 2 ^ j)) (X * 2 ^ j)
        have tl := twice_low (X * 2 ^ j)
        have th := twice_high (X * 2 ^ j)
        have yb := bit_in Y j
        rw [s1] at s2 s3
        have BT := hid bt; have HD := hid hD; have HE := hid hE
        clear fb bt hD hE
        generalize X * 2 ^ j = E at *
        generalize X * (Y % 2 ^ j) = D at *
        generalize Y / 2 ^ j % 2 = y at *
        have bt := BT.out
        clear BT
        rcases (show j < 63 ∨ j = 63 ∨ 63 < j by omega) with hm | hm | hm
        · have hi : (j : Int) < 63 := by omega
          rw [if_pos hm] at bt
          have BT := hid bt
          clear bt
          rcases (show y = 0 ∨ y = 1 by omega) with rfl | rfl
          · clear s1 s2 s3
            go_wp2_with (go_at_call 44; refine (BT.out _).mono ?_; rintro e w0 ⟨rfl, hq⟩; subst w0)
            go_round
            case rel => exact ⟨j + 1, by omega, by go_num, by rw [HE.out], by rw [HE.out], by rw [HD.out]; simp, by rw [HD.out]; simp⟩
            case measure => simp [intOf]; omega
          · by_cases hc : (D + E) % 18446744073709551616 < D % 18446744073709551616
            · have s2 := s2 hc
              clear s3
              go_wp2_with (go_at_call 44; refine (BT.out _).mono ?_; rintro e w0 ⟨rfl, hq⟩; subst w0)
              go_round
              case rel => exact ⟨j + 1, by omega, by go_num, by rw [HE.out], by rw [HE.out], by rw [HD.out]; simp, by rw [HD.out]; simp⟩
              case measure => simp [intOf]; omega
            · have s3 := s3 hc
              clear s2
              go_wp2_with (go_at_call 44; refine (BT.out _).mono ?_; rintro e w0 ⟨rfl, hq⟩; subst w0)
              go_round
              case rel => exact ⟨j + 1, by omega, by go_num, by rw [HE.out], by rw [HE.out], by rw [HD.out]; simp, by rw [HD.out]; simp⟩
              case measure => simp [intOf]; omega
        · subst hm
          rw [if_neg (by decide)] at bt
          have BT := hid bt
          clear bt
          rcases (show y = 0 ∨ y = 1 by omega) with rfl | rfl
          · clear s1 s2 s3
            go_wp2_with (go_at_call 44; refine (BT.out _).mono ?_; rintro e w0 ⟨rfl, hq⟩; subst w0)
            go_round
            case rel => exact ⟨63 + 1, by omega, by go_num, by rw [HE.out], by rw [HE.out], by rw [HD.out]; simp, by rw [HD.out]; simp⟩
            case measure => simp [intOf]
          · by_cases hc : (D + E) % 18446744073709551616 < D % 18446744073709551616
            · have s2 := s2 hc
              clear s3
              go_wp2_with (go_at_call 44; refine (BT.out _).mono ?_; rintro e w0 ⟨rfl, hq⟩; subst w0)
              go_round
              case rel => exact ⟨63 + 1, by omega, by go_num, by rw [HE.out], by rw [HE.out], by rw [HD.out]; simp, by rw [HD.out]; simp⟩
              case measure => simp [intOf]
            · have s3 := s3 hc
              clear s2
              go_wp2_with (go_at_call 44; refine (BT.out _).mono ?_; rintro e w0 ⟨rfl, hq⟩; subst w0)
              go_round
              case rel => exact ⟨63 + 1, by omega, by go_num, by rw [HE.out], by rw [HE.out], by rw [HD.out]; simp, by rw [HD.out]; simp⟩
              case measure => simp [intOf]
        · have hi : (63 : Int) < j := by omega
          rw [if_neg (by omega)] at bt
          have BT := hid bt
          clear bt
          rcases (show y = 0 ∨ y = 1 by omega) with rfl | rfl
          · clear s1 s2 s3
            go_wp2_with (go_at_call 44; refine (BT.out _).mono ?_; rintro e w0 ⟨rfl, hq⟩; subst w0)
            go_round
            case rel => exact ⟨j + 1, by omega, by go_num, by rw [HE.out], by rw [HE.out], by rw [HD.out]; simp, by rw [HD.out]; simp⟩
            case measure => simp [intOf]; omega
          · by_cases hc : (D + E) % 18446744073709551616 < D % 18446744073709551616
            · have s2 := s2 hc
              clear s3
              go_wp2_with (go_at_call 44; refine (BT.out _).mono ?_; rintro e w0 ⟨rfl, hq⟩; subst w0)
              go_round
              case rel => exact ⟨j + 1, by omega, by go_num, by rw [HE.out], by rw [HE.out], by rw [HD.out]; simp, by rw [HD.out]; simp⟩
              case measure => simp [intOf]; omega
            · have s3 := s3 hc
              clear s2
              go_wp2_with (go_at_call 44; refine (BT.out _).mono ?_; rintro e w0 ⟨rfl, hq⟩; subst w0)
              go_round
              case rel => exact ⟨j + 1, by omega, by go_num, by rw [HE.out], by rw [HE.out], by rw [HD.out]; simp, by rw [HD.out]; simp⟩
              case measure => simp [intOf]; omega
      · have e : j = 128 := by omega
        subst e
        rw [PE.out.1, PE.out.2]
        have ft := FT.out
        cases hS : decide (s < 0)
        · have h3 := H3.out
          rw [hS] at h3
          simp only [b2i, bitV, if_true, if_false, Bool.false_eq_true] at h3
          have HY := hid h3
          have nf : ¬ s < 0 := of_decide_eq_false hS
          rw [if_neg nf] at ft
          have FT2 := hid ft
          clear h3 H3 ft FT PE
          cases t1 : (s % 18446744073709551616 == lo)
          · have ov : over = true := by
              have := FT2.out; unfold bne at this; rw [t1] at this; simpa using this.symm
            have hne : ¬ s % 18446744073709551616 = lo := by simpa using t1
            have hnb : (s % 18446744073709551616 != lo) = true := by simpa using hne
            clear FT2
            subst ov
            go_wp2_with (first
              | (go_at_call 42; refine (H1.out _).mono ?_; rintro e w0 ⟨rfl, hq⟩; subst w0)
              | (go_at_call 16; refine (H2.out _).mono ?_; rintro e w0 ⟨rfl, hq⟩; subst w0)
              | (go_at_call 44; refine (HY.out _).mono ?_; rintro e w0 ⟨rfl, hq⟩; subst w0)
              | (go_at_call 38; refine (H4.out _).mono ?_; rintro e w1 ⟨rfl, hb⟩))
            have T2 := hid (Fl.new w1 true (evenB r) (r == 0) (decide (sx n r < 0)) true 24)
            have R1 := hid ((Fl.new w false false false false false 24).bel hb)
            have R2 := hid (R1.out.up (.cells #[.bool true, .bool (evenB r), .bool (r == 0), .bool (decide (sx n r < 0)), .bool true] 24))
            have B2 := hid (bel_alloc (bel_trans (bel_alloc (Below.refl _ _) _) hb) (.cells #[.bool true, .bool (evenB r), .bool (r == 0), .bool (decide (sx n r < 0)), .bool true] 24))
            have nb : w.heap.size < w1.heap.size := R1.out.lt
            clear R1 hb H1 H2 HY H4
            generalize w1.heap.size = bt at *
            generalize w1.alloc (.cells #[.bool true, .bool (evenB r), .bool (r == 0), .bool (decide (sx n r < 0)), .bool true] 24) = U at *
            obtain ⟨t0, t1, t2, t3, t4, y0, y1, y2, y3, y4⟩ := T2.out
            obtain ⟨r0, r1, r2, r3, r4, x0, x1, x2, x3, x4⟩ := R2.out
            go_region_held3 (fun v => v.cell? ⟨bt, 0, none⟩ = some (.bool true) ∧ v.cell? ⟨bt, 1, none⟩ = some (.bool (evenB r)) ∧ v.cell? ⟨bt, 2, none⟩ = some (.bool (r == 0)) ∧ v.cell? ⟨bt, 3, none⟩ = some (.bool (decide (sx n r < 0))) ∧ v.cell? ⟨bt, 4, none⟩ = some (.bool true)) ((refine ⟨?_, ?_, ?_, ?_, ?_⟩) <;> (repeat (first | (with_reducible assumption) | (with_reducible refine up_drew ?_) | ((with_reducible refine up_set ?_ ?_); rotate_left; (focus (dsimp only; omega)))))) (fail)
            go_wp2
            refine bodyPost_ret (v := .tuple #[.int .u64 r, .agg #[.bool true, .bool (evenB r), .bool (r == 0), .bool (decide (sx n r < 0)), .bool true], .int .i64 0]) (by simp [results, Tryd.results26, go_sem, r0, r1, r2, r3, r4]) rfl ⟨rfl, ?_⟩
            repeat (first | (with_reducible exact B2.out) | (with_reducible refine Below.drew ?_) | ((with_reducible refine Below.setCell ?_ ?_ _); rotate_left; (focus (dsimp only; omega))))
          · have ov : ((0 : Int) != hi) = over := by
              have := FT2.out; unfold bne at this; rw [t1] at this; simpa [bne] using this
            have ov2 : (!((0 : Int) == hi)) = over := ov
            have heq : s % 18446744073709551616 = lo := by simpa using t1
            have h3 := HY.out
            rw [heq] at h3
            have HY := hid h3
            clear FT2 t1 h3
            go_wp2_with (first
              | (go_at_call 42; refine (H1.out _).mono ?_; rintro e w0 ⟨rfl, hq⟩; subst w0)
              | (go_at_call 16; refine (H2.out _).mono ?_; rintro e w0 ⟨rfl, hq⟩; subst w0)
              | (go_at_call 44; refine (HY.out _).mono ?_; rintro e w0 ⟨rfl, hq⟩; subst w0)
              | (go_at_call 38; refine (H4.out _).mono ?_; rintro e w1 ⟨rfl, hb⟩))
            have T2 := hid (Fl.new w1 over (evenB r) (r == 0) (decide (sx n r < 0)) over 24)
            have R1 := hid ((Fl.new w false false false false false 24).bel hb)
            have R2 := hid (R1.out.up (.cells #[.bool over, .bool (evenB r), .bool (r == 0), .bool (decide (sx n r < 0)), .bool over] 24))
            have B2 := hid (bel_alloc (bel_trans (bel_alloc (Below.refl _ _) _) hb) (.cells #[.bool over, .bool (evenB r), .bool (r == 0), .bool (decide (sx n r < 0)), .bool over] 24))
            have nb : w.heap.size < w1.heap.size := R1.out.lt
            clear R1 hb H1 H2 HY H4
            generalize w1.heap.size = bt at *
            generalize w1.alloc (.cells #[.bool over, .bool (evenB r), .bool (r == 0), .bool (decide (sx n r < 0)), .bool over] 24) = U at *
            obtain ⟨t0, t1, t2, t3, t4, y0, y1, y2, y3, y4⟩ := T2.out
            obtain ⟨r0, r1, r2, r3, r4, x0, x1, x2, x3, x4⟩ := R2.out
            go_region_held3 (fun v => v.cell? ⟨bt, 0, none⟩ = some (.bool over) ∧ v.cell? ⟨bt, 1, none⟩ = some (.bool (evenB r)) ∧ v.cell? ⟨bt, 2, none⟩ = some (.bool (r == 0)) ∧ v.cell? ⟨bt, 3, none⟩ = some (.bool (decide (sx n r < 0))) ∧ v.cell? ⟨bt, 4, none⟩ = some (.bool over)) ((refine ⟨?_, ?_, ?_, ?_, ?_⟩) <;> (repeat (first | (with_reducible assumption) | (with_reducible refine up_drew ?_) | ((with_reducible refine up_set ?_ ?_); rotate_left; (focus (dsimp only; omega)))))) (fail)
            go_wp2
            refine bodyPost_ret (v := .tuple #[.int .u64 r, .agg #[.bool over, .bool (evenB r), .bool (r == 0), .bool (decide (sx n r < 0)), .bool over], .int .i64 0]) (by simp [results, Tryd.results26, go_sem, r0, r1, r2, r3, r4]) rfl ⟨rfl, ?_⟩
            repeat (first | (with_reducible exact B2.out) | (with_reducible refine Below.drew ?_) | ((with_reducible refine Below.setCell ?_ ?_ _); rotate_left; (focus (dsimp only; omega))))
        · have h3 := H3.out
          rw [hS] at h3
          simp only [b2i, bitV, if_true, if_false, Bool.false_eq_true] at h3
          have HY := hid h3
          have nf : s < 0 := of_decide_eq_true hS
          rw [if_pos nf] at ft
          have FT2 := hid ft
          clear h3 H3 ft FT PE
          cases t1 : (s % 18446744073709551616 == lo)
          · have ov : over = true := by
              have := FT2.out; unfold bne at this; rw [t1] at this; simpa using this.symm
            have hne : ¬ s % 18446744073709551616 = lo := by simpa using t1
            have hnb : (s % 18446744073709551616 != lo) = true := by simpa using hne
            clear FT2
            subst ov
            go_wp2_with (first
              | (go_at_call 42; refine (H1.out _).mono ?_; rintro e w0 ⟨rfl, hq⟩; subst w0)
              | (go_at_call 16; refine (H2.out _).mono ?_; rintro e w0 ⟨rfl, hq⟩; subst w0)
              | (go_at_call 44; refine (HY.out _).mono ?_; rintro e w0 ⟨rfl, hq⟩; subst w0)
              | (go_at_call 38; refine (H4.out _).mono ?_; rintro e w1 ⟨rfl, hb⟩))
            have T2 := hid (Fl.new w1 true (evenB r) (r == 0) (decide (sx n r < 0)) true 24)
            have R1 := hid ((Fl.new w false false false false false 24).bel hb)
            have R2 := hid (R1.out.up (.cells #[.bool true, .bool (evenB r), .bool (r == 0), .bool (decide (sx n r < 0)), .bool true] 24))
            have B2 := hid (bel_alloc (bel_trans (bel_alloc (Below.refl _ _) _) hb) (.cells #[.bool true, .bool (evenB r), .bool (r == 0), .bool (decide (sx n r < 0)), .bool true] 24))
            have nb : w.heap.size < w1.heap.size := R1.out.lt
            clear R1 hb H1 H2 HY H4
            generalize w1.heap.size = bt at *
            generalize w1.alloc (.cells #[.bool true, .bool (evenB r), .bool (r == 0), .bool (decide (sx n r < 0)), .bool true] 24) = U at *
            obtain ⟨t0, t1, t2, t3, t4, y0, y1, y2, y3, y4⟩ := T2.out
            obtain ⟨r0, r1, r2, r3, r4, x0, x1, x2, x3, x4⟩ := R2.out
            go_region_held3 (fun v => v.cell? ⟨bt, 0, none⟩ = some (.bool true) ∧ v.cell? ⟨bt, 1, none⟩ = some (.bool (evenB r)) ∧ v.cell? ⟨bt, 2, none⟩ = some (.bool (r == 0)) ∧ v.cell? ⟨bt, 3, none⟩ = some (.bool (decide (sx n r < 0))) ∧ v.cell? ⟨bt, 4, none⟩ = some (.bool true)) ((refine ⟨?_, ?_, ?_, ?_, ?_⟩) <;> (repeat (first | (with_reducible assumption) | (with_reducible refine up_drew ?_) | ((with_reducible refine up_set ?_ ?_); rotate_left; (focus (dsimp only; omega)))))) (fail)
            go_wp2
            refine bodyPost_ret (v := .tuple #[.int .u64 r, .agg #[.bool true, .bool (evenB r), .bool (r == 0), .bool (decide (sx n r < 0)), .bool true], .int .i64 0]) (by simp [results, Tryd.results26, go_sem, r0, r1, r2, r3, r4]) rfl ⟨rfl, ?_⟩
            repeat (first | (with_reducible exact B2.out) | (with_reducible refine Below.drew ?_) | ((with_reducible refine Below.setCell ?_ ?_ _); rotate_left; (focus (dsimp only; omega))))
          · have ov : ((18446744073709551615 : Int) != hi) = over := by
              have := FT2.out; unfold bne at this; rw [t1] at this; simpa [bne] using this
            have ov2 : (!((18446744073709551615 : Int) == hi)) = over := ov
            have heq : s % 18446744073709551616 = lo := by simpa using t1
            have h3 := HY.out
            rw [heq] at h3
            have HY := hid h3
            clear FT2 t1 h3
            go_wp2_with (first
              | (go_at_call 42; refine (H1.out _).mono ?_; rintro e w0 ⟨rfl, hq⟩; subst w0)
              | (go_at_call 16; refine (H2.out _).mono ?_; rintro e w0 ⟨rfl, hq⟩; subst w0)
              | (go_at_call 44; refine (HY.out _).mono ?_; rintro e w0 ⟨rfl, hq⟩; subst w0)
              | (go_at_call 38; refine (H4.out _).mono ?_; rintro e w1 ⟨rfl, hb⟩))
            have T2 := hid (Fl.new w1 over (evenB r) (r == 0) (decide (sx n r < 0)) over 24)
            have R1 := hid ((Fl.new w false false false false false 24).bel hb)
            have R2 := hid (R1.out.up (.cells #[.bool over, .bool (evenB r), .bool (r == 0), .bool (decide (sx n r < 0)), .bool over] 24))
            have B2 := hid (bel_alloc (bel_trans (bel_alloc (Below.refl _ _) _) hb) (.cells #[.bool over, .bool (evenB r), .bool (r == 0), .bool (decide (sx n r < 0)), .bool over] 24))
            have nb : w.heap.size < w1.heap.size := R1.out.lt
            clear R1 hb H1 H2 HY H4
            generalize w1.heap.size = bt at *
            generalize w1.alloc (.cells #[.bool over, .bool (evenB r), .bool (r == 0), .bool (decide (sx n r < 0)), .bool over] 24) = U at *
            obtain ⟨t0, t1, t2, t3, t4, y0, y1, y2, y3, y4⟩ := T2.out
            obtain ⟨r0, r1, r2, r3, r4, x0, x1, x2, x3, x4⟩ := R2.out
            go_region_held3 (fun v => v.cell? ⟨bt, 0, none⟩ = some (.bool over) ∧ v.cell? ⟨bt, 1, none⟩ = some (.bool (evenB r)) ∧ v.cell? ⟨bt, 2, none⟩ = some (.bool (r == 0)) ∧ v.cell? ⟨bt, 3, none⟩ = some (.bool (decide (sx n r < 0))) ∧ v.cell? ⟨bt, 4, none⟩ = some (.bool over)) ((refine ⟨?_, ?_, ?_, ?_, ?_⟩) <;> (repeat (first | (with_reducible assumption) | (with_reducible refine up_drew ?_) | ((with_reducible refine up_set ?_ ?_); rotate_left; (focus (dsimp only; omega)))))) (fail)
            go_wp2
            refine bodyPost_ret (v := .tuple #[.int .u64 r, .agg #[.bool over, .bool (evenB r), .bool (r == 0), .bool (decide (sx n r < 0)), .bool over], .int .i64 0]) (by simp [results, Tryd.results26, go_sem, r0, r1, r2, r3, r4]) rfl ⟨rfl, ?_⟩
            repeat (first | (with_reducible exact B2.out) | (with_reducible refine Below.drew ?_) | ((with_reducible refine Below.setCell ?_ ?_ _); rotate_left; (focus (dsimp only; omega))))

theorem rmul_no (a b sz : Int) (w : World) (h : ¬ (sz = 1 ∨ sz = 4 ∨ sz = 8)) :
    Calls Tryd.prog 26 #[.int .u64 a, .int .u64 b, .int .i64 sz] w fun e w' => e = .returned (.tuple #[.int .u64 0, noF, .int .i64 1]) ∧ Below w.heap.size w w' := by
  have HH := hid h
  clear h
  go_enter Tryd.func26, Tryd.ntmps26
  go_wp2_with (go_at_call 36; refine (rbits_no _ HH.out _).mono ?_; rintro e w0 ⟨rfl, hq⟩; subst w0)
  refine bodyPost_ret (v := .tuple #[.int .u64 0, noF, .int .i64 1]) (by simp [results, Tryd.results26, go_sem]) rfl ⟨rfl, ?_⟩
  exact bel_alloc (Below.refl _ _) _
end Go.Proofs.YtbfkmnlbmlpogaaDoor
