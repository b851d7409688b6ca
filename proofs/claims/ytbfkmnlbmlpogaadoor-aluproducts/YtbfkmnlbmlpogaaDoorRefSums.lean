/- The contracts of the document's Add and Sub. -/
import Derived.Test.YtbfkmnlbmlpogaaDoorRef
import Derived.Test.YtbfkmnlbmlpogaaDoorFive
import Derived.Test.YtbfkmnlbmlpogaaDoorCalls
namespace Go.Proofs.YtbfkmnlbmlpogaaDoor
open Go.ChangeShapes Go.WideShapes Go.ChangeAt Go.RowKit
set_option linter.unusedVariables false
set_option linter.unusedSimpArgs false

theorem mod_in (n : Nat) (hn : n ≤ 64) (x : Int) : 0 ≤ x % 2 ^ n ∧ x % 2 ^ n < 18446744073709551616 := by
  have hp := pow_pos_i n
  have hle : (2 : Int) ^ n ≤ 2 ^ 64 := pow_le_i hn
  have h0 := Int.emod_nonneg x (Int.ne_of_gt hp); have h1 := Int.emod_lt_of_pos x hp
  omega

set_option maxRecDepth 4000 in
set_option maxHeartbeats 1000000 in
theorem radd_yes (a b : Int) (k : Bool) (sz : Int) (n : Nat) (c : Int) (w : World) (h : Wide sz n c) (h0 : 0 ≤ a) (h1 : a < 18446744073709551616) (g0 : 0 ≤ b) (g1 : b < 18446744073709551616) :
    Calls Tryd.prog 10 #[.int .u64 a, .int .u64 b, .bool k, .int .i64 sz] w fun e w' =>
      e = .returned (.tuple #[.int .u64 ((a + b + b2i k) % 2 ^ n), resF n (addC n a b (b2i k)) (outS n (sx n a + sx n b + b2i k)) ((a + b + b2i k) % 2 ^ n), .int .i64 0]) ∧ Below w.heap.size w w' := by
  have l0 := h.lo; have l1 := h.hi
  have HH := hid h
  have hz : ((n : Int) == 0) = false := by simp; omega
  have kk := b2i_in k
  have k2 := b2i_in (!k)
  have S0 := fun v => rsum_any a b b (b2i k) false n v h0 h1 g0 g1 l0 l1 (by omega) (by omega) (fun i _ => by simp)
  have er : (a + b + b2i k) % 2 ^ n = (a + b + b2i k) % 2 ^ n := rfl
  have ec : (ci a b (b2i k) n == 1) = addC n a b (b2i k) := ci_addC n a b _ kk.1 kk.2
  have eo : (ci a b (b2i k) (n - 1) != ci a b (b2i k) n) = outS n (sx n a + sx n b + b2i k) := ci_out n l0 a b _ kk.1 kk.2
  rw [er] at S0
  have HS := hid S0
  have HR := hid (mod_in n l1 (a + b + b2i k))
  have EC := hid ec
  have EO := hid eo
  clear S0 h h0 h1 g0 g1 er ec eo kk k2
  generalize ci a b (b2i k) (n - 1) = into at *
  generalize ci a b (b2i k) n = out at *
  generalize hr : (a + b + b2i k) % 2 ^ n = r at *
  have ec := EC.out
  have eo := EO.out
  have eo' : (!(into == out)) = outS n (sx n a + sx n b + b2i k) := EO.out
  generalize addC n a b (b2i k) = C at *
  generalize outS n (sx n a + sx n b + b2i k) = O at *
  clear EC EO hr
  cases k
  all_goals
    have hs1 := HS.out
    simp only [b2i, bitV, Bool.not_false, Bool.not_true, if_true, if_false, Bool.false_eq_true] at hs1
    have HS' := hid hs1
    clear hs1 HS
    go_enter Tryd.func10, Tryd.ntmps10
    go_wp2_with (first
      | (go_at_call 36; refine (rbits_yes HH.out _).mono ?_; rintro e w0 ⟨rfl, hq⟩; subst w0)
      | (go_at_call 37; refine (HS'.out _).mono ?_; rintro e w0 ⟨rfl, hq⟩; subst w0)
      | (go_at_call 38; refine (rflags_any _ _ _ HR.out.1 HR.out.2 l0 l1).mono ?_; rintro e w1 ⟨rfl, hb⟩))
    have T2 := hid (Fl.new w1 C (evenB r) (r == 0) (decide (sx n r < 0)) O 24)
    have R1 := hid ((Fl.new w false false false false false 24).bel hb)
    have R2 := hid (R1.out.up (.cells #[.bool C, .bool (evenB r), .bool (r == 0), .bool (decide (sx n r < 0)), .bool O] 24))
    have B2 := hid (bel_alloc (bel_trans (bel_alloc (Below.refl _ _) _) hb) (.cells #[.bool C, .bool (evenB r), .bool (r == 0), .bool (decide (sx n r < 0)), .bool O] 24))
    have nb : w.heap.size < w1.heap.size := R1.out.lt
    clear R1 hb HR HS' HH ec eo eo'
    generalize w1.heap.size = bt at *
    generalize w1.alloc (.cells #[.bool C, .bool (evenB r), .bool (r == 0), .bool (decide (sx n r < 0)), .bool O] 24) = U at *
    obtain ⟨t0, t1, t2, t3, t4, y0, y1, y2, y3, y4⟩ := T2.out
    obtain ⟨r0, r1, r2, r3, r4, x0, x1, x2, x3, x4⟩ := R2.out
    go_region_held3 (fun v => v.cell? ⟨bt, 0, none⟩ = some (.bool C) ∧ v.cell? ⟨bt, 1, none⟩ = some (.bool (evenB r)) ∧ v.cell? ⟨bt, 2, none⟩ = some (.bool (r == 0)) ∧ v.cell? ⟨bt, 3, none⟩ = some (.bool (decide (sx n r < 0))) ∧ v.cell? ⟨bt, 4, none⟩ = some (.bool O)) ((refine ⟨?_, ?_, ?_, ?_, ?_⟩) <;> (repeat (first | (with_reducible assumption) | (with_reducible refine up_drew ?_) | ((with_reducible refine up_set ?_ ?_); rotate_left; (focus (dsimp only; omega)))))) (fail)
    go_wp2
    refine bodyPost_ret (v := .tuple #[.int .u64 r, .agg #[.bool C, .bool (evenB r), .bool (r == 0), .bool (decide (sx n r < 0)), .bool O], .int .i64 0]) (by simp [results, Tryd.results10, go_sem, r0, r1, r2, r3, r4]) rfl ⟨rfl, ?_⟩
    repeat (first | (with_reducible exact B2.out) | (with_reducible refine Below.drew ?_) | ((with_reducible refine Below.setCell ?_ ?_ _); rotate_left; (focus (dsimp only; omega))))

theorem radd_no (a b : Int) (k : Bool) (sz : Int) (w : World) (h : ¬ (sz = 1 ∨ sz = 4 ∨ sz = 8)) :
    Calls Tryd.prog 10 #[.int .u64 a, .int .u64 b, .bool k, .int .i64 sz] w fun e w' => e = .returned (.tuple #[.int .u64 0, noF, .int .i64 1]) ∧ Below w.heap.size w w' := by
  have HH := hid h
  clear h
  go_enter Tryd.func10, Tryd.ntmps10
  go_wp2_with (go_at_call 36; refine (rbits_no _ HH.out _).mono ?_; rintro e w1 ⟨rfl, hq⟩; subst w1)
  refine bodyPost_ret (v := .tuple #[.int .u64 0, noF, .int .i64 1]) (by simp [results, Tryd.results10, go_sem]) rfl ⟨rfl, ?_⟩
  exact bel_alloc (Below.refl _ _) _

set_option maxRecDepth 4000 in
set_option maxHeartbeats 1000000 in
theorem rsub_yes (a b : Int) (k : Bool) (sz : Int) (n : Nat) (c : Int) (w : World) (h : Wide sz n c) (h0 : 0 ≤ a) (h1 : a < 18446744073709551616) (g0 : 0 ≤ b) (g1 : b < 18446744073709551616) :
    Calls Tryd.prog 12 #[.int .u64 a, .int .u64 b, .bool k, .int .i64 sz] w fun e w' =>
      e = .returned (.tuple #[.int .u64 ((a - b - b2i k) % 2 ^ n), resF n (subC n a b (b2i k)) (outS n (sx n a - sx n b - b2i k)) ((a - b - b2i k) % 2 ^ n), .int .i64 0]) ∧ Below w.heap.size w w' := by
  have l0 := h.lo; have l1 := h.hi
  have HH := hid h
  have hz : ((n : Int) == 0) = false := by simp; omega
  have kk := b2i_in k
  have k2 := b2i_in (!k)
  have S0 := fun v => rsum_any a b ((-1 - b) % 18446744073709551616) (b2i (!k)) true n v h0 h1 g0 g1 l0 l1 (by omega) (by omega) (fun i hi => by simp [bit_not b i hi])
  have er : (a + ((-1 - b) % 18446744073709551616) + b2i (!k)) % 2 ^ n = (a - b - b2i k) % 2 ^ n := by rw [← mod64 n l1, sub_r, mod64 n l1]
  have ec : (ci a ((-1 - b) % 18446744073709551616) (b2i (!k)) n == 0) = subC n a b (b2i k) := by rw [ci_addN n a _ _ k2.1 k2.2, sub_c n l0 l1]
  have eo : (ci a ((-1 - b) % 18446744073709551616) (b2i (!k)) (n - 1) != ci a ((-1 - b) % 18446744073709551616) (b2i (!k)) n) = outS n (sx n a - sx n b - b2i k) := by rw [ci_out n l0 a _ _ k2.1 k2.2, sub_o n l0 l1]
  rw [er] at S0
  have HS := hid S0
  have HR := hid (mod_in n l1 (a - b - b2i k))
  have EC := hid ec
  have EO := hid eo
  clear S0 h h0 h1 g0 g1 er ec eo kk k2
  generalize ci a ((-1 - b) % 18446744073709551616) (b2i (!k)) (n - 1) = into at *
  generalize ci a ((-1 - b) % 18446744073709551616) (b2i (!k)) n = out at *
  generalize hr : (a - b - b2i k) % 2 ^ n = r at *
  have ec := EC.out
  have eo := EO.out
  have eo' : (!(into == out)) = outS n (sx n a - sx n b - b2i k) := EO.out
  generalize subC n a b (b2i k) = C at *
  generalize outS n (sx n a - sx n b - b2i k) = O at *
  clear EC EO hr
  cases k
  all_goals
    have hs1 := HS.out
    simp only [b2i, bitV, Bool.not_false, Bool.not_true, if_true, if_false, Bool.false_eq_true] at hs1
    have HS' := hid hs1
    clear hs1 HS
    go_enter Tryd.func12, Tryd.ntmps12
    go_wp2_with (first
      | (go_at_call 36; refine (rbits_yes HH.out _).mono ?_; rintro e w0 ⟨rfl, hq⟩; subst w0)
      | (go_at_call 37; refine (HS'.out _).mono ?_; rintro e w0 ⟨rfl, hq⟩; subst w0)
      | (go_at_call 38; refine (rflags_any _ _ _ HR.out.1 HR.out.2 l0 l1).mono ?_; rintro e w1 ⟨rfl, hb⟩))
    have T2 := hid (Fl.new w1 C (evenB r) (r == 0) (decide (sx n r < 0)) O 24)
    have R1 := hid ((Fl.new w false false false false false 24).bel hb)
    have R2 := hid (R1.out.up (.cells #[.bool C, .bool (evenB r), .bool (r == 0), .bool (decide (sx n r < 0)), .bool O] 24))
    have B2 := hid (bel_alloc (bel_trans (bel_alloc (Below.refl _ _) _) hb) (.cells #[.bool C, .bool (evenB r), .bool (r == 0), .bool (decide (sx n r < 0)), .bool O] 24))
    have nb : w.heap.size < w1.heap.size := R1.out.lt
    clear R1 hb HR HS' HH ec eo eo'
    generalize w1.heap.size = bt at *
    generalize w1.alloc (.cells #[.bool C, .bool (evenB r), .bool (r == 0), .bool (decide (sx n r < 0)), .bool O] 24) = U at *
    obtain ⟨t0, t1, t2, t3, t4, y0, y1, y2, y3, y4⟩ := T2.out
    obtain ⟨r0, r1, r2, r3, r4, x0, x1, x2, x3, x4⟩ := R2.out
    go_region_held3 (fun v => v.cell? ⟨bt, 0, none⟩ = some (.bool C) ∧ v.cell? ⟨bt, 1, none⟩ = some (.bool (evenB r)) ∧ v.cell? ⟨bt, 2, none⟩ = some (.bool (r == 0)) ∧ v.cell? ⟨bt, 3, none⟩ = some (.bool (decide (sx n r < 0))) ∧ v.cell? ⟨bt, 4, none⟩ = some (.bool O)) ((refine ⟨?_, ?_, ?_, ?_, ?_⟩) <;> (repeat (first | (with_reducible assumption) | (with_reducible refine up_drew ?_) | ((with_reducible refine up_set ?_ ?_); rotate_left; (focus (dsimp only; omega)))))) (fail)
    go_wp2
    refine bodyPost_ret (v := .tuple #[.int .u64 r, .agg #[.bool C, .bool (evenB r), .bool (r == 0), .bool (decide (sx n r < 0)), .bool O], .int .i64 0]) (by simp [results, Tryd.results12, go_sem, r0, r1, r2, r3, r4]) rfl ⟨rfl, ?_⟩
    repeat (first | (with_reducible exact B2.out) | (with_reducible refine Below.drew ?_) | ((with_reducible refine Below.setCell ?_ ?_ _); rotate_left; (focus (dsimp only; omega))))

theorem rsub_no (a b : Int) (k : Bool) (sz : Int) (w : World) (h : ¬ (sz = 1 ∨ sz = 4 ∨ sz = 8)) :
    Calls Tryd.prog 12 #[.int .u64 a, .int .u64 b, .bool k, .int .i64 sz] w fun e w' => e = .returned (.tuple #[.int .u64 0, noF, .int .i64 1]) ∧ Below w.heap.size w w' := by
  have HH := hid h
  clear h
  go_enter Tryd.func12, Tryd.ntmps12
  go_wp2_with (go_at_call 36; refine (rbits_no _ HH.out _).mono ?_; rintro e w1 ⟨rfl, hq⟩; subst w1)
  refine bodyPost_ret (v := .tuple #[.int .u64 0, noF, .int .i64 1]) (by simp [results, Tryd.results12, go_sem]) rfl ⟨rfl, ?_⟩
  exact bel_alloc (Below.refl _ _) _
end Go.Proofs.YtbfkmnlbmlpogaaDoor
