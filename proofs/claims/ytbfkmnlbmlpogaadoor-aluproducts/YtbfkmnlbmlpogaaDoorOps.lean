/- The contracts of package alu's ops: sums, differences, logic. -/
import Derived.Test.YtbfkmnlbmlpogaaDoorWidth
import Derived.Test.YtbfkmnlbmlpogaaDoorPlain2
import Derived.Deep.QuietTactic
import Derived.BigQuiet
import Derived.Deep.RegionHeld3
namespace Go.Proofs.YtbfkmnlbmlpogaaDoor
open Go.ChangeShapes Go.WideShapes Go.ChangeAt Go.RowKit
set_option linter.unusedVariables false

set_option maxHeartbeats 1000000 in
theorem add_any (s c : Int) (n : Nat) (a b : Int) (k : Bool) (w : World) (h0 : 1 ≤ n) (h1 : n ≤ 64) :
    Calls Tryd.prog 35 #[.agg #[.int .i64 s, .int .i64 n, .int .i64 c], .agg #[.int .u64 a, .int .u64 b, .bool k]] w fun e w' =>
      e = .returned (.agg #[.int .u64 ((a + b + b2i k) % 18446744073709551616), .bool (addC n a b (b2i k)), .bool (outS n (sx n a + sx n b + b2i k))]) ∧ Below w.heap.size w w' := by
  go_enter Tryd.func35, Tryd.ntmps35
  go_wp2
  go_quiet ((go_at_call 52; exact Calls.quiet_of_same (bit_any _ _ _)))
  go_wp2
  go_region_held3 (fun v => v.cell? ⟨w.heap.size, 0, none⟩ = some (.int .i64 s) ∧ v.cell? ⟨w.heap.size, 1, none⟩ = some (.int .i64 n) ∧ v.cell? ⟨w.heap.size, 2, none⟩ = some (.int .i64 c) ∧
      v.cell? ⟨w.heap.size + 1, 0, none⟩ = some (.int .u64 a) ∧ v.cell? ⟨w.heap.size + 1, 1, none⟩ = some (.int .u64 b)) (first | (simp [go_sem]; done) | (go_simp; done))
    (first | (go_at_call 55; refine (top_any _ _ _ _ _ h0 h1).mono ?_; rintro e w1 ⟨rfl, rfl⟩))
  go_wp2
  refine bodyPost_ret (v := .agg #[.int .u64 (IntKind.u64.wrap (IntKind.u64.wrap (a + b) + bitV k 1)),
      .bool (decide (sx n (bits .or .u64 (bits .and .u64 a b) (bits .andNot .u64 (bits .or .u64 a b) (IntKind.u64.wrap (IntKind.u64.wrap (a + b) + bitV k 1)))) < 0)),
      .bool (decide (sx n (bits .and .u64 (bits .xor .u64 a (IntKind.u64.wrap (IntKind.u64.wrap (a + b) + bitV k 1))) (bits .xor .u64 b (IntKind.u64.wrap (IntKind.u64.wrap (a + b) + bitV k 1)))) < 0))])
    (by simp [results, Tryd.results35, go_sem]) rfl ⟨?_, ?_⟩
  · rw [wrap_sum, add_c n h0 h1 a b _ (b2i_in k).1 (b2i_in k).2, add_o n h0 h1 a b _ (b2i_in k).1 (b2i_in k).2]
  · repeat (first | (with_reducible exact Below.refl _ _) | (with_reducible refine bel_alloc ?_ _) | (with_reducible refine below_drewN ?_ _) | (with_reducible refine Below.drew ?_) | ((with_reducible refine Below.setCell ?_ ?_ _); rotate_left; (focus (dsimp only; omega))))

theorem sub_any (s c : Int) (n : Nat) (a b : Int) (k : Bool) (w : World) (h0 : 1 ≤ n) (h1 : n ≤ 64) :
    Calls Tryd.prog 39 #[.agg #[.int .i64 s, .int .i64 n, .int .i64 c], .agg #[.int .u64 a, .int .u64 b, .bool k]] w fun e w' =>
      e = .returned (.agg #[.int .u64 ((a - b - b2i k) % 18446744073709551616), .bool (subC n a b (b2i k)), .bool (outS n (sx n a - sx n b - b2i k))]) ∧ Below w.heap.size w w' := by
  go_enter Tryd.func39, Tryd.ntmps39
  go_wp2_with (go_at_call 35; refine (add_any _ _ _ _ _ _ _ h0 h1).mono ?_; rintro e w1 ⟨rfl, hb⟩; obtain ⟨hc, hf⟩ := bcell hb; have hz : w.heap.size + 1 + 1 < w1.heap.size := (by have := hb.size; simp at this; omega))
  refine bodyPost_ret (v := .agg #[.int .u64 ((a + bits .xor .u64 IntKind.u64.max b + b2i (!k)) % 18446744073709551616), .bool (!addC n a (bits .xor .u64 IntKind.u64.max b) (b2i (!k))), .bool (outS n (sx n a + sx n (bits .xor .u64 IntKind.u64.max b) + b2i (!k)))])
    (by simp [results, Tryd.results39, go_sem, hc, hz]) rfl ⟨?_, ?_⟩
  · rw [xor_max, sub_r, sub_c n h0 h1, sub_o n h0 h1]
  · have B : Below w.heap.size w w1 := ((((Below.refl _ _).alloc (Nat.le_refl _) _).alloc (by simp) _).alloc (by simp; omega) _).trans (hb.mono (by simp; omega))
    repeat (first | (with_reducible exact B) | (with_reducible refine bel_alloc ?_ _) | (with_reducible refine below_drewN ?_ _) | (with_reducible refine Below.drew ?_) | ((with_reducible refine Below.setCell ?_ ?_ _); rotate_left; (focus (dsimp only; omega))))

theorem and_any (s c : Int) (n : Int) (a b : Int) (k : Bool) (w : World) :
    Calls Tryd.prog 56 #[.agg #[.int .i64 s, .int .i64 n, .int .i64 c], .agg #[.int .u64 a, .int .u64 b, .bool k]] w fun e w' =>
      e = .returned (.agg #[.int .u64 (bits .and .u64 a b), .bool false, .bool false]) ∧ Below w.heap.size w w' := by
  go_enter Tryd.func56, Tryd.ntmps56
  go_wp2
  refine bodyPost_ret (v := .agg #[.int .u64 (bits .and .u64 a b), .bool false, .bool false]) (by simp [results, Tryd.results56, go_sem]) rfl ⟨rfl, ?_⟩
  repeat (first | (with_reducible exact Below.refl _ _) | (with_reducible refine bel_alloc ?_ _) | (with_reducible refine below_drewN ?_ _) | (with_reducible refine Below.drew ?_) | ((with_reducible refine Below.setCell ?_ ?_ _); rotate_left; (focus (dsimp only; omega))))

theorem or_any (s c : Int) (n : Int) (a b : Int) (k : Bool) (w : World) :
    Calls Tryd.prog 57 #[.agg #[.int .i64 s, .int .i64 n, .int .i64 c], .agg #[.int .u64 a, .int .u64 b, .bool k]] w fun e w' =>
      e = .returned (.agg #[.int .u64 (bits .or .u64 a b), .bool false, .bool false]) ∧ Below w.heap.size w w' := by
  go_enter Tryd.func57, Tryd.ntmps57
  go_wp2
  refine bodyPost_ret (v := .agg #[.int .u64 (bits .or .u64 a b), .bool false, .bool false]) (by simp [results, Tryd.results57, go_sem]) rfl ⟨rfl, ?_⟩
  repeat (first | (with_reducible exact Below.refl _ _) | (with_reducible refine bel_alloc ?_ _) | (with_reducible refine below_drewN ?_ _) | (with_reducible refine Below.drew ?_) | ((with_reducible refine Below.setCell ?_ ?_ _); rotate_left; (focus (dsimp only; omega))))

theorem xor_any (s c : Int) (n : Int) (a b : Int) (k : Bool) (w : World) :
    Calls Tryd.prog 58 #[.agg #[.int .i64 s, .int .i64 n, .int .i64 c], .agg #[.int .u64 a, .int .u64 b, .bool k]] w fun e w' =>
      e = .returned (.agg #[.int .u64 (bits .xor .u64 a b), .bool false, .bool false]) ∧ Below w.heap.size w w' := by
  go_enter Tryd.func58, Tryd.ntmps58
  go_wp2
  refine bodyPost_ret (v := .agg #[.int .u64 (bits .xor .u64 a b), .bool false, .bool false]) (by simp [results, Tryd.results58, go_sem]) rfl ⟨rfl, ?_⟩
  repeat (first | (with_reducible exact Below.refl _ _) | (with_reducible refine bel_alloc ?_ _) | (with_reducible refine below_drewN ?_ _) | (with_reducible refine Below.drew ?_) | ((with_reducible refine Below.setCell ?_ ?_ _); rotate_left; (focus (dsimp only; omega))))

theorem not_any (s c : Int) (n : Int) (a : Int) (k : Bool) (w : World) :
    Calls Tryd.prog 62 #[.agg #[.int .i64 s, .int .i64 n, .int .i64 c], .agg #[.int .u64 a, .bool k]] w fun e w' =>
      e = .returned (.agg #[.int .u64 ((-1 - a) % 18446744073709551616), .bool false, .bool false]) ∧ Below w.heap.size w w' := by
  go_enter Tryd.func62, Tryd.ntmps62
  go_wp2
  refine bodyPost_ret (v := .agg #[.int .u64 (bits .xor .u64 IntKind.u64.max a), .bool false, .bool false]) (by simp [results, Tryd.results62, go_sem]) rfl ⟨by rw [xor_max], ?_⟩
  repeat (first | (with_reducible exact Below.refl _ _) | (with_reducible refine bel_alloc ?_ _) | (with_reducible refine below_drewN ?_ _) | (with_reducible refine Below.drew ?_) | ((with_reducible refine Below.setCell ?_ ?_ _); rotate_left; (focus (dsimp only; omega))))
end Go.Proofs.YtbfkmnlbmlpogaaDoor
