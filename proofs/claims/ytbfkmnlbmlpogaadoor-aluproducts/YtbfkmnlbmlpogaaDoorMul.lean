/- The contracts of package alu's product. -/
import Derived.Test.YtbfkmnlbmlpogaaDoorCalls
import Derived.Test.YtbfkmnlbmlpogaaDoorMul64
import Derived.Test.YtbfkmnlbmlpogaaDoorMulPlain
namespace Go.Proofs.YtbfkmnlbmlpogaaDoor
open Go.ChangeShapes Go.WideShapes Go.ChangeAt Go.RowKit
set_option linter.unusedVariables false
set_option linter.unusedSimpArgs false

set_option maxRecDepth 4000 in
set_option maxHeartbeats 1000000 in
theorem mul_any (s c : Int) (n : Nat) (a b : Int) (k : Bool) (w : World) (h0 : 1 ≤ n) (h1 : n ≤ 64) :
    Calls Tryd.prog 51 #[.agg #[.int .i64 s, .int .i64 n, .int .i64 c], .agg #[.int .u64 a, .int .u64 b, .bool k]] w fun e w' =>
      e = .returned (.agg #[.int .u64 (sx n a * sx n b % 18446744073709551616), .bool (outS n (sx n a * sx n b)), .bool (outS n (sx n a * sx n b))]) ∧ Below w.heap.size w w' := by
  have hp : (2 : Int) ^ (n - 1) ≤ 2 ^ 63 := pow_le_i (by omega)
  have sa := sx_in n h0 a
  have sb := sx_in n h0 b
  have a0 : -9223372036854775808 ≤ sx n a := by omega
  have a1 : sx n a < 9223372036854775808 := by omega
  have b0 : -9223372036854775808 ≤ sx n b := by omega
  have b1 : sx n b < 9223372036854775808 := by omega
  have wd := words (sx n a) (sx n b) a0 a1 b0 b1
  have ga := and_sign (sx n a) (sx n b) a0 a1 b0 b1
  have gb := and_sign (sx n b) (sx n a) b0 b1 a0 a1
  have pb := prod_bound (sx n a) (sx n b) a0 a1 b0 b1
  have ft := fits n h0 h1 (sx n a * sx n b) pb.1 pb.2
  have ua : sx n a % 18446744073709551616 = IntKind.u64.wrap (sx n a) := by rw [IntKind.wrap_u64]
  have ub : sx n b % 18446744073709551616 = IntKind.u64.wrap (sx n b) := by rw [IntKind.wrap_u64]
  have M0 := fun v => mul64_any (sx n a % 18446744073709551616) (sx n b % 18446744073709551616) v (by omega) (by omega) (by omega) (by omega)
  have w2 := wd.2
  rw [wd.1, ua, ub] at M0
  rw [ua, ub] at w2
  simp only [← IntKind.wrap_u64 (sx n (sx n a * sx n b % 18446744073709551616)), ← IntKind.wrap_u64 (sx n (sx n a * sx n b % 18446744073709551616) / 9223372036854775808)] at ft
  generalize IntKind.u64.wrap (sx n a) * IntKind.u64.wrap (sx n b) / 18446744073709551616 = hi at *
  generalize sx n a * sx n b % 18446744073709551616 = lo at *
  generalize sx n a * sx n b / 18446744073709551616 % 18446744073709551616 = up at *
  generalize outS n (sx n a * sx n b) = over at *
  have HM : Hid _ := M0
  clear hp sa sb a0 a1 b0 b1 wd pb M0 ua ub
  go_enter Tryd.func51, Tryd.ntmps51
  go_wp2
  go_region_held3 (fun v => v.cell? ⟨w.heap.size, 0, none⟩ = some (.int .i64 s) ∧ v.cell? ⟨w.heap.size, 1, none⟩ = some (.int .i64 n) ∧ v.cell? ⟨w.heap.size, 2, none⟩ = some (.int .i64 c) ∧
      v.cell? ⟨w.heap.size + 1, 0, none⟩ = some (.int .u64 a) ∧ v.cell? ⟨w.heap.size + 1, 1, none⟩ = some (.int .u64 b)) (first | (simp [go_sem]; done) | (go_simp; done))
    (first | (go_at_call 43; refine (signed_any _ _ _ _ _ h0 h1).mono ?_; rintro e w1 ⟨rfl, rfl⟩))
  have FT : Hid _ := ft
  clear ft
  cases t1 : (IntKind.u64.wrap (sx n lo) == lo)
  · have ov : over = true := by
      have := FT.out; unfold bne at this; rw [t1] at this; simpa using this.symm
    subst ov
    have hne : ¬ IntKind.u64.wrap (sx n lo) = lo := by simpa using t1
    have hnb : (IntKind.u64.wrap (sx n lo) != lo) = true := by simpa using hne
    clear FT
    go_wp2_with (first
      | (go_at_call 66; refine (HM.out _).mono ?_; rintro e w3 ⟨rfl, rfl⟩)
      | (go_at_call 43; refine (signed_any _ _ _ _ _ h0 h1).mono ?_; rintro e w4 ⟨rfl, rfl⟩))
    refine bodyPost_ret (v := .agg #[.int .u64 lo, .bool true, .bool true]) (by simp [results, Tryd.results51, go_sem]) rfl ⟨rfl, ?_⟩
    repeat (first | (with_reducible exact Below.refl _ _) | (with_reducible refine bel_alloc ?_ _) | (with_reducible refine below_drewN ?_ _) | (with_reducible refine Below.drew ?_) | ((with_reducible refine Below.setCell ?_ ?_ _); rotate_left; (focus (dsimp only; omega))))
  · have ov : (IntKind.u64.wrap (sx n lo / 9223372036854775808) != up) = over := by
      have := FT.out; unfold bne at this; rw [t1] at this; simpa [bne] using this
    have ov2 : (!(IntKind.u64.wrap (sx n lo / 9223372036854775808) == up)) = over := ov
    have heq : IntKind.u64.wrap (sx n lo) = lo := by simpa using t1
    clear FT t1
    go_wp2_with (first
      | (go_at_call 66; refine (HM.out _).mono ?_; rintro e w3 ⟨rfl, rfl⟩)
      | (go_at_call 43; refine (signed_any _ _ _ _ _ h0 h1).mono ?_; rintro e w4 ⟨rfl, rfl⟩))
    refine bodyPost_ret (v := .agg #[.int .u64 lo, .bool over, .bool over]) (by simp [results, Tryd.results51, go_sem]) rfl ⟨rfl, ?_⟩
    repeat (first | (with_reducible exact Below.refl _ _) | (with_reducible refine bel_alloc ?_ _) | (with_reducible refine below_drewN ?_ _) | (with_reducible refine Below.drew ?_) | ((with_reducible refine Below.setCell ?_ ?_ _); rotate_left; (focus (dsimp only; omega))))

theorem enters_mul : ∀ args w, (callFunc 51 args).run Tryd.prog w = .ok (.enter 51 args) w := enters_of Tryd.func51 (by kernel_rfl) rfl

set_option maxRecDepth 4000 in
theorem mul_yes (a b : Int) (sz : Int) (n : Nat) (c : Int) (w : World) (h : Wide sz n c) (hw : Wd w) :
    Calls Tryd.prog 25 #[.int .u64 a, .int .u64 b, .int .i64 sz] w fun e w' =>
      e = .returned (.tuple #[.int .u64 (sx n a * sx n b % 2 ^ n), resF n (outS n (sx n a * sx n b)) (outS n (sx n a * sx n b)) (sx n a * sx n b % 2 ^ n), .int .i64 0]) ∧ Below w.heap.size w w' := by
  have h0 := h.lo
  have h1 := h.hi
  have HW : Hid (Wd w) := hw
  have HC : Hid (∀ v, Wd v → Calls Tryd.prog 34 #[.int .i64 sz, .agg #[.int .u64 a, .int .u64 b, .bool false], .func (.func 51) #[] #[]] v fun e w' =>
      e = .returned (.tuple #[.int .u64 (sx n a * sx n b % 2 ^ n), resF n (outS n (sx n a * sx n b)) (outS n (sx n a * sx n b)) (sx n a * sx n b % 2 ^ n), .int .i64 0]) ∧ Below v.heap.size v w') := by
    intro v hv
    have := answer_pair 51 sz n c a b false _ _ _ v h hv enters_mul (fun v => mul_any sz c n a b false v h0 h1)
    rw [mod64 n h1] at this
    exact this
  clear h hw
  go_enter Tryd.func25, Tryd.ntmps25
  go_wp2_with (go_at_call 34; refine (HC.out _ (HW.out.alloc _)).mono ?_; rintro e w1 ⟨rfl, hb⟩; obtain ⟨hc, hf⟩ := bcell hb; have hz : w.heap.size < w1.heap.size := (by have := hb.size; simp at this; omega))
  refine bodyPost_ret (v := .tuple #[.int .u64 (sx n a * sx n b % 2 ^ n), resF n (outS n (sx n a * sx n b)) (outS n (sx n a * sx n b)) (sx n a * sx n b % 2 ^ n), .int .i64 0]) (by simp [results, Tryd.results25, go_sem, hc]) rfl ⟨rfl, ?_⟩
  have B1 : Below w.heap.size w w1 := bel_trans (bel_alloc (Below.refl _ _) _) hb
  repeat (first | (with_reducible exact B1) | ((with_reducible refine Below.setCell ?_ ?_ _); rotate_left; (focus (dsimp only; omega))))

set_option maxRecDepth 4000 in
theorem mul_no (a b : Int) (sz : Int) (w : World) (h : ¬ (sz = 1 ∨ sz = 4 ∨ sz = 8)) (hw : Wd w) :
    Calls Tryd.prog 25 #[.int .u64 a, .int .u64 b, .int .i64 sz] w fun e w' => e = .returned (.tuple #[.int .u64 0, noF, .int .i64 1]) ∧ Below w.heap.size w w' := by
  have HH : Hid (¬ (sz = 1 ∨ sz = 4 ∨ sz = 8)) := h
  have HW : Hid (Wd w) := hw
  clear h hw
  go_enter Tryd.func25, Tryd.ntmps25
  go_wp2_with (go_at_call 34; refine (answer_pair_no _ _ _ _ _ _ HH.out (HW.out.alloc _)).mono ?_; rintro e w1 ⟨rfl, hb⟩; obtain ⟨hc, hf⟩ := bcell hb; have hz : w.heap.size < w1.heap.size := (by have := hb.size; simp at this; omega))
  refine bodyPost_ret (v := .tuple #[.int .u64 0, noF, .int .i64 1]) (by simp [results, Tryd.results25, go_sem, hc]) rfl ⟨rfl, ?_⟩
  have B1 : Below w.heap.size w w1 := bel_trans (bel_alloc (Below.refl _ _) _) hb
  repeat (first | (with_reducible exact B1) | ((with_reducible refine Below.setCell ?_ ?_ _); rotate_left; (focus (dsimp only; omega))))
end Go.Proofs.YtbfkmnlbmlpogaaDoor
