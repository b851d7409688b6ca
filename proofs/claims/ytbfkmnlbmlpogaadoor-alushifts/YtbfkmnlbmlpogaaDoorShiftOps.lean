/- The contracts of package alu's shifts. -/
import Derived.Test.YtbfkmnlbmlpogaaDoorOps
import Derived.Test.YtbfkmnlbmlpogaaDoorShiftPlain
namespace Go.Proofs.YtbfkmnlbmlpogaaDoor
open Go.ChangeShapes Go.WideShapes Go.ChangeAt Go.RowKit
set_option linter.unusedVariables false
set_option linter.unusedSimpArgs false

theorem low_in (n : Nat) (hn : n ≤ 64) (x : Int) : 0 ≤ x % 2 ^ n ∧ x % 2 ^ n < 18446744073709551616 := by
  have hp := pow_pos_i n
  have hle : (2 : Int) ^ n ≤ 2 ^ 64 := pow_le_i hn
  have h0 := Int.emod_nonneg x (Int.ne_of_gt hp); have h1 := Int.emod_lt_of_pos x hp
  omega

set_option maxHeartbeats 1000000 in
theorem shl_any (s c : Int) (n : Nat) (a : Int) (m : Nat) (w : World) (h0 : 1 ≤ n) (h1 : n ≤ 64) (m0 : 1 ≤ m) (m1 : m ≤ 63) :
    Calls Tryd.prog 63 #[.agg #[.int .i64 s, .int .i64 n, .int .i64 c], .agg #[.int .u64 a, .int .i64 m]] w fun e w' =>
      e = .returned (.agg #[.int .u64 (a % 2 ^ n * 2 ^ m % 18446744073709551616), .bool (tb (n - 1) (a * 2 ^ (m - 1))), .bool ((m == 1) && (tb (n - 1) (a * 2 ^ m) != tb (n - 1) (a * 2 ^ (m - 1))))]) ∧ Below w.heap.size w w' := by
  have ew : IntKind.i64.wrap ((m : Int) - 1) = ((m - 1 : Nat) : Int) := by rw [IntKind.wrap_i64]; omega
  have e2 := shl_two (a % 2 ^ n) m m0
  have ec := shl_c n h0 h1 a m
  have et := shl_top n h0 h1 a m
  go_enter Tryd.func63, Tryd.ntmps63
  go_wp2
  go_region_held3 (fun v => v.cell? ⟨w.heap.size, 0, none⟩ = some (.int .i64 s) ∧ v.cell? ⟨w.heap.size, 1, none⟩ = some (.int .i64 n) ∧ v.cell? ⟨w.heap.size, 2, none⟩ = some (.int .i64 c) ∧
      v.cell? ⟨w.heap.size + 1, 0, none⟩ = some (.int .u64 a) ∧ v.cell? ⟨w.heap.size + 1, 1, none⟩ = some (.int .i64 m)) (first | (simp [go_sem]; done) | (go_simp; done))
    (first | (go_at_call 41; refine (plain_any _ _ _ _ _ h1).mono ?_; rintro e w1 ⟨rfl, rfl⟩))
  by_cases hm : m = 1
  · subst hm
    have x1 : (((1 : Nat) : Int) == 1) = true := rfl
    have k : a % 2 ^ n * 2 ^ (1 - 1) = a % 2 ^ n := by simp
    rw [k] at e2 ec
    have E2 : Hid _ := e2; have EC : Hid _ := ec; have ET : Hid _ := et
    clear e2 ec et k
    go_wp2_with (go_at_call 55; refine (top_any _ _ _ _ _ h0 h1).mono ?_; rintro e w2 ⟨rfl, rfl⟩)
    refine bodyPost_ret (v := .agg #[.int .u64 (IntKind.u64.wrap (IntKind.u64.wrap (a % 2 ^ n) * 2)), .bool (decide (sx n (IntKind.u64.wrap (a % 2 ^ n)) < 0)), .bool (!(decide (sx n (IntKind.u64.wrap (IntKind.u64.wrap (a % 2 ^ n) * 2)) < 0) == decide (sx n (IntKind.u64.wrap (a % 2 ^ n)) < 0)))]) (by simp [results, Tryd.results63, go_sem]) rfl ⟨by rw [E2.out, EC.out, ET.out]; rfl, ?_⟩
    repeat (first | (with_reducible exact Below.refl _ _) | (with_reducible refine bel_alloc ?_ _) | (with_reducible refine below_drewN ?_ _) | (with_reducible refine Below.drew ?_) | ((with_reducible refine Below.setCell ?_ ?_ _); rotate_left; (focus (dsimp only; omega))))
  · have x1 : ((m : Int) == 1) = false := by simp; omega
    have x2 : (m == 1) = false := by simpa using hm
    go_wp2_with (go_at_call 55; refine (top_any _ _ _ _ _ h0 h1).mono ?_; rintro e w2 ⟨rfl, rfl⟩)
    refine bodyPost_ret (v := .agg #[.int .u64 (a % 2 ^ n * 2 ^ m % 18446744073709551616), .bool (tb (n - 1) (a * 2 ^ (m - 1))), .bool false]) (by simp [results, Tryd.results63, go_sem]) rfl ⟨by rw [x2]; rfl, ?_⟩
    repeat (first | (with_reducible exact Below.refl _ _) | (with_reducible refine bel_alloc ?_ _) | (with_reducible refine below_drewN ?_ _) | (with_reducible refine Below.drew ?_) | ((with_reducible refine Below.setCell ?_ ?_ _); rotate_left; (focus (dsimp only; omega))))

set_option maxHeartbeats 1000000 in
theorem shr_any (s c : Int) (n : Nat) (a : Int) (m : Nat) (w : World) (h0 : 1 ≤ n) (h1 : n ≤ 64) (m0 : 1 ≤ m) (m1 : m ≤ 63) :
    Calls Tryd.prog 64 #[.agg #[.int .i64 s, .int .i64 n, .int .i64 c], .agg #[.int .u64 a, .int .i64 m]] w fun e w' =>
      e = .returned (.agg #[.int .u64 (a % 2 ^ n / 2 ^ m), .bool (tb (m - 1) (a % 2 ^ n)), .bool ((m == 1) && tb (n - 1) a)]) ∧ Below w.heap.size w w' := by
  have ew : IntKind.i64.wrap ((m : Int) - 1) = ((m - 1 : Nat) : Int) := by rw [IntKind.wrap_i64]; omega
  have e2 := shr_two (a % 2 ^ n) m m0
  have li := low_in n h1 a
  have hq : 0 ≤ a % 2 ^ n / 2 ^ (m - 1) := Int.ediv_nonneg li.1 (Int.le_of_lt (pow_pos_i _))
  have hq2 : a % 2 ^ n / 2 ^ (m - 1) < 18446744073709551616 := Int.lt_of_le_of_lt (Int.ediv_le_self _ li.1) li.2
  have ea := and_one_u _ hq hq2
  have ec := odd_tb (a % 2 ^ n) (m - 1)
  have et := sx_neg n h0 a
  clear li hq hq2
  go_enter Tryd.func64, Tryd.ntmps64
  go_wp2
  go_region_held3 (fun v => v.cell? ⟨w.heap.size, 0, none⟩ = some (.int .i64 s) ∧ v.cell? ⟨w.heap.size, 1, none⟩ = some (.int .i64 n) ∧ v.cell? ⟨w.heap.size, 2, none⟩ = some (.int .i64 c) ∧
      v.cell? ⟨w.heap.size + 1, 0, none⟩ = some (.int .u64 a) ∧ v.cell? ⟨w.heap.size + 1, 1, none⟩ = some (.int .i64 m)) (first | (simp [go_sem]; done) | (go_simp; done))
    (first | (go_at_call 41; refine (plain_any _ _ _ _ _ h1).mono ?_; rintro e w1 ⟨rfl, rfl⟩))
  by_cases hm : m = 1
  · subst hm
    have x1 : (((1 : Nat) : Int) == 1) = true := rfl
    have k : a % 2 ^ n / 2 ^ (1 - 1) = a % 2 ^ n := by simp
    rw [k] at e2 ea ec
    have E2 : Hid _ := e2; have EA : Hid _ := ea; have EC : Hid _ := ec
    clear e2 ec ea k
    go_wp2_with (go_at_call 55; refine (top_any _ _ _ _ _ h0 h1).mono ?_; rintro e w2 ⟨rfl, rfl⟩)
    refine bodyPost_ret (v := .agg #[.int .u64 (a % 2 ^ n / 2), .bool (bits .and .u64 (a % 2 ^ n) 1 == 1), .bool (tb (n - 1) a)]) (by simp [results, Tryd.results64, go_sem]) rfl ⟨by rw [E2.out, EA.out, EC.out]; rfl, ?_⟩
    repeat (first | (with_reducible exact Below.refl _ _) | (with_reducible refine bel_alloc ?_ _) | (with_reducible refine below_drewN ?_ _) | (with_reducible refine Below.drew ?_) | ((with_reducible refine Below.setCell ?_ ?_ _); rotate_left; (focus (dsimp only; omega))))
  · have x1 : ((m : Int) == 1) = false := by simp; omega
    have x2 : (m == 1) = false := by simpa using hm
    go_wp2_with (go_at_call 55; refine (top_any _ _ _ _ _ h0 h1).mono ?_; rintro e w2 ⟨rfl, rfl⟩)
    refine bodyPost_ret (v := .agg #[.int .u64 (a % 2 ^ n / 2 ^ m), .bool (tb (m - 1) (a % 2 ^ n)), .bool false]) (by simp [results, Tryd.results64, go_sem]) rfl ⟨by rw [x2]; rfl, ?_⟩
    repeat (first | (with_reducible exact Below.refl _ _) | (with_reducible refine bel_alloc ?_ _) | (with_reducible refine below_drewN ?_ _) | (with_reducible refine Below.drew ?_) | ((with_reducible refine Below.setCell ?_ ?_ _); rotate_left; (focus (dsimp only; omega))))

set_option maxHeartbeats 1000000 in
theorem sar_any (s c : Int) (n : Nat) (a : Int) (m : Nat) (w : World) (h0 : 1 ≤ n) (h1 : n ≤ 64) (m0 : 1 ≤ m) (m1 : m ≤ 63) :
    Calls Tryd.prog 65 #[.agg #[.int .i64 s, .int .i64 n, .int .i64 c], .agg #[.int .u64 a, .int .i64 m]] w fun e w' =>
      e = .returned (.agg #[.int .u64 (sx n a / 2 ^ m % 18446744073709551616), .bool (tb (m - 1) (sx n a)), .bool false]) ∧ Below w.heap.size w w' := by
  have ew : IntKind.i64.wrap ((m : Int) - 1) = ((m - 1 : Nat) : Int) := by rw [IntKind.wrap_i64]; omega
  have e2 := shr_two (sx n a) m m0
  have ea := and_one_i (sx n a / 2 ^ (m - 1))
  have ec := odd_tb (sx n a) (m - 1)
  go_enter Tryd.func65, Tryd.ntmps65
  go_wp2
  go_region_held3 (fun v => v.cell? ⟨w.heap.size, 0, none⟩ = some (.int .i64 s) ∧ v.cell? ⟨w.heap.size, 1, none⟩ = some (.int .i64 n) ∧ v.cell? ⟨w.heap.size, 2, none⟩ = some (.int .i64 c) ∧
      v.cell? ⟨w.heap.size + 1, 0, none⟩ = some (.int .u64 a) ∧ v.cell? ⟨w.heap.size + 1, 1, none⟩ = some (.int .i64 m)) (first | (simp [go_sem]; done) | (go_simp; done))
    (first | (go_at_call 43; refine (signed_any _ _ _ _ _ h0 h1).mono ?_; rintro e w1 ⟨rfl, rfl⟩))
  go_wp2
  refine bodyPost_ret (v := .agg #[.int .u64 (IntKind.u64.wrap (sx n a / 2 ^ m)), .bool (tb (m - 1) (sx n a)), .bool false]) (by simp [results, Tryd.results65, go_sem]) rfl ⟨by rw [IntKind.wrap_u64], ?_⟩
  repeat (first | (with_reducible exact Below.refl _ _) | (with_reducible refine bel_alloc ?_ _) | (with_reducible refine below_drewN ?_ _) | (with_reducible refine Below.drew ?_) | ((with_reducible refine Below.setCell ?_ ?_ _); rotate_left; (focus (dsimp only; omega))))
end Go.Proofs.YtbfkmnlbmlpogaaDoor
