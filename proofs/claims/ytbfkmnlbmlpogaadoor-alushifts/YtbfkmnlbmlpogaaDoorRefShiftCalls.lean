/- The contracts of Shift: the program's errors, the document's answers; both are the same. -/
import Derived.Test.YtbfkmnlbmlpogaaDoorRefShift
import Derived.Test.YtbfkmnlbmlpogaaDoorShift
namespace Go.Proofs.YtbfkmnlbmlpogaaDoor
open Go.ChangeShapes Go.WideShapes Go.ChangeAt Go.RowKit
set_option linter.unusedVariables false
set_option linter.unusedSimpArgs false

set_option maxRecDepth 4000 in
set_option maxHeartbeats 1000000 in
theorem rsh_none (op a : Int) (oC oP oZ oS oO : Bool) (n : Nat) (w : World) (l1 : n ≤ 64) (h0 : 0 ≤ a) (h1 : a < 18446744073709551616) :
    Calls Tryd.prog 50 #[.int .i64 op, .int .u64 a, .int .i64 0, .agg #[.bool oC, .bool oP, .bool oZ, .bool oS, .bool oO], .int .i64 n] w fun e w' =>
      e = .returned (.tuple #[.int .u64 (a % 2 ^ n), .agg #[.bool oC, .bool oP, .bool oZ, .bool oS, .bool oO], .int .i64 0]) ∧ Below w.heap.size w w' := by
  have HL := hid (fun v => rlow_any a n v h0 h1 l1)
  clear h0 h1
  go_enter Tryd.func50, Tryd.ntmps50
  go_wp2_with (go_at_call 42; refine (HL.out _).mono ?_; rintro e w0 ⟨rfl, hq⟩; subst w0)
  have Q2 := hid ((Fl.new w oC oP oZ oS oO 24).up (.cells #[.bool false, .bool false, .bool false, .bool false, .bool false] 24))
  have R2 := hid (Fl.new (w.alloc (.cells #[.bool oC, .bool oP, .bool oZ, .bool oS, .bool oO] 24)) false false false false false 24)
  have eb : (w.alloc (Obj.cells #[.bool oC, .bool oP, .bool oZ, .bool oS, .bool oO] 24)).heap.size = w.heap.size + 1 := by simp
  rw [eb] at R2
  have B2 := hid (bel_alloc (bel_alloc (Below.refl w.heap.size w) (.cells #[.bool oC, .bool oP, .bool oZ, .bool oS, .bool oO] 24)) (.cells #[.bool false, .bool false, .bool false, .bool false, .bool false] 24))
  clear eb HL
  generalize (w.alloc (.cells #[.bool oC, .bool oP, .bool oZ, .bool oS, .bool oO] 24)).alloc (.cells #[.bool false, .bool false, .bool false, .bool false, .bool false] 24) = U at *
  obtain ⟨t0, t1, t2, t3, t4, y0, y1, y2, y3, y4⟩ := Q2.out
  obtain ⟨r0, r1, r2, r3, r4, x0, x1, x2, x3, x4⟩ := R2.out
  go_region_held3 (fun v => v.cell? ⟨w.heap.size, 0, none⟩ = some (.bool oC) ∧ v.cell? ⟨w.heap.size, 1, none⟩ = some (.bool oP) ∧ v.cell? ⟨w.heap.size, 2, none⟩ = some (.bool oZ) ∧ v.cell? ⟨w.heap.size, 3, none⟩ = some (.bool oS) ∧ v.cell? ⟨w.heap.size, 4, none⟩ = some (.bool oO)) ((refine ⟨?_, ?_, ?_, ?_, ?_⟩) <;> (repeat (first | (with_reducible assumption) | (with_reducible refine up_drew ?_) | ((with_reducible refine up_set ?_ ?_); rotate_left; (focus (dsimp only; omega)))))) (fail)
  go_wp2
  refine bodyPost_ret (v := .tuple #[.int .u64 (a % 2 ^ n), .agg #[.bool oC, .bool oP, .bool oZ, .bool oS, .bool oO], .int .i64 0]) (by simp [results, Tryd.results50, go_sem, r0, r1, r2, r3, r4]) rfl ⟨rfl, ?_⟩
  repeat (first | (with_reducible exact B2.out) | (with_reducible refine Below.drew ?_) | ((with_reducible refine Below.setCell ?_ ?_ _); rotate_left; (focus (dsimp only; omega))))

set_option maxRecDepth 4000 in
set_option maxHeartbeats 1000000 in
theorem rshift_1 (op a k : Int) (m : Nat) (oC oP oZ oS oO : Bool) (r : Int) (C P Z S O : Bool) (w : World) (ho : op = 17 ∨ op = 18 ∨ op = 19) (k0 : 0 ≤ k) (k1 : k ≤ 255) (em : k % 32 = (m : Int))
    (hs : ∀ v, Calls Tryd.prog 50 #[.int .i64 op, .int .u64 a, .int .i64 m, .agg #[.bool oC, .bool oP, .bool oZ, .bool oS, .bool oO], .int .i64 8] v fun e w' => e = .returned (.tuple #[.int .u64 r, .agg #[.bool C, .bool P, .bool Z, .bool S, .bool O], .int .i64 0]) ∧ Below v.heap.size v w') :
    Calls Tryd.prog 24 #[.int .i64 op, .int .u64 a, .int .i64 k, .agg #[.bool oC, .bool oP, .bool oZ, .bool oS, .bool oO], .int .i64 1] w fun e w' =>
      e = .returned (.tuple #[.int .u64 r, .agg #[.bool C, .bool P, .bool Z, .bool S, .bool O], .int .i64 0]) ∧ Below w.heap.size w w' := by
  have HS := hid hs
  have HB := hid (show Wide 1 8 31 from .inl ⟨rfl, rfl, rfl⟩)
  have kn : ¬ k < 0 := by omega
  have et : IntKind.i64.wrap (k.tmod 32) = (m : Int) := by
    rw [Int.tmod_eq_emod_of_nonneg k0, em, IntKind.wrap_i64]; omega
  have et2 : k.tmod 32 = (m : Int) := by rw [Int.tmod_eq_emod_of_nonneg k0, em]
  clear hs
  rcases ho with rfl | rfl | rfl
  all_goals
    go_enter Tryd.func24, Tryd.ntmps24
    go_wp2_with (go_at_call 36; refine (rbits_yes HB.out _).mono ?_; rintro e w0 ⟨rfl, hq⟩; subst w0)
    have Q2 := hid ((Fl.new w oC oP oZ oS oO 24).up (.cells #[.bool false, .bool false, .bool false, .bool false, .bool false] 24))
    have R2 := hid (Fl.new (w.alloc (.cells #[.bool oC, .bool oP, .bool oZ, .bool oS, .bool oO] 24)) false false false false false 24)
    have eb : (w.alloc (Obj.cells #[.bool oC, .bool oP, .bool oZ, .bool oS, .bool oO] 24)).heap.size = w.heap.size + 1 := by simp
    rw [eb] at R2
    have B2 := hid (bel_alloc (bel_alloc (Below.refl w.heap.size w) (.cells #[.bool oC, .bool oP, .bool oZ, .bool oS, .bool oO] 24)) (.cells #[.bool false, .bool false, .bool false, .bool false, .bool false] 24))
    clear eb
    generalize (w.alloc (.cells #[.bool oC, .bool oP, .bool oZ, .bool oS, .bool oO] 24)).alloc (.cells #[.bool false, .bool false, .bool false, .bool false, .bool false] 24) = U at *
    obtain ⟨t0, t1, t2, t3, t4, y0, y1, y2, y3, y4⟩ := Q2.out
    go_region_held3 (fun v => v.cell? ⟨w.heap.size, 0, none⟩ = some (.bool oC) ∧ v.cell? ⟨w.heap.size, 1, none⟩ = some (.bool oP) ∧ v.cell? ⟨w.heap.size, 2, none⟩ = some (.bool oZ) ∧ v.cell? ⟨w.heap.size, 3, none⟩ = some (.bool oS) ∧ v.cell? ⟨w.heap.size, 4, none⟩ = some (.bool oO)) ((refine ⟨?_, ?_, ?_, ?_, ?_⟩) <;> (repeat (first | (with_reducible assumption) | (with_reducible refine up_drew ?_) | ((with_reducible refine up_set ?_ ?_); rotate_left; (focus (dsimp only; omega))))))
      (first | (go_at_call 50; refine (HS.out _).mono ?_; rintro e u ⟨rfl, hbu⟩; obtain ⟨s0, s1, s2, s3, s4, _, _, _, _, _⟩ := ((Q2.out.bel (Below.refl _ _).drew).bel hbu); obtain ⟨r0, r1, r2, r3, r4, x0, x1, x2, x3, x4⟩ := ((R2.out.bel (Below.refl _ _).drew).bel hbu); have B3 := hid (bel_trans B2.out.drew hbu); clear hbu))
    go_wp2
    refine bodyPost_ret (v := .tuple #[.int .u64 r, .agg #[.bool C, .bool P, .bool Z, .bool S, .bool O], .int .i64 0]) (by simp [results, Tryd.results24, go_sem, r0, r1, r2, r3, r4]) rfl ⟨rfl, ?_⟩
    repeat (first | (with_reducible exact B3.out) | (with_reducible refine Below.drew ?_) | ((with_reducible refine Below.setCell ?_ ?_ _); rotate_left; (focus (dsimp only; omega))))

set_option maxRecDepth 4000 in
set_option maxHeartbeats 1000000 in
theorem rshift_4 (op a k : Int) (m : Nat) (oC oP oZ oS oO : Bool) (r : Int) (C P Z S O : Bool) (w : World) (ho : op = 17 ∨ op = 18 ∨ op = 19) (k0 : 0 ≤ k) (k1 : k ≤ 255) (em : k % 32 = (m : Int))
    (hs : ∀ v, Calls Tryd.prog 50 #[.int .i64 op, .int .u64 a, .int .i64 m, .agg #[.bool oC, .bool oP, .bool oZ, .bool oS, .bool oO], .int .i64 32] v fun e w' => e = .returned (.tuple #[.int .u64 r, .agg #[.bool C, .bool P, .bool Z, .bool S, .bool O], .int .i64 0]) ∧ Below v.heap.size v w') :
    Calls Tryd.prog 24 #[.int .i64 op, .int .u64 a, .int .i64 k, .agg #[.bool oC, .bool oP, .bool oZ, .bool oS, .bool oO], .int .i64 4] w fun e w' =>
      e = .returned (.tuple #[.int .u64 r, .agg #[.bool C, .bool P, .bool Z, .bool S, .bool O], .int .i64 0]) ∧ Below w.heap.size w w' := by
  have HS := hid hs
  have HB := hid (show Wide 4 32 31 from .inr (.inl ⟨rfl, rfl, rfl⟩))
  have kn : ¬ k < 0 := by omega
  have et : IntKind.i64.wrap (k.tmod 32) = (m : Int) := by
    rw [Int.tmod_eq_emod_of_nonneg k0, em, IntKind.wrap_i64]; omega
  have et2 : k.tmod 32 = (m : Int) := by rw [Int.tmod_eq_emod_of_nonneg k0, em]
  clear hs
  rcases ho with rfl | rfl | rfl
  all_goals
    go_enter Tryd.func24, Tryd.ntmps24
    go_wp2_with (go_at_call 36; refine (rbits_yes HB.out _).mono ?_; rintro e w0 ⟨rfl, hq⟩; subst w0)
    have Q2 := hid ((Fl.new w oC oP oZ oS oO 24).up (.cells #[.bool false, .bool false, .bool false, .bool false, .bool false] 24))
    have R2 := hid (Fl.new (w.alloc (.cells #[.bool oC, .bool oP, .bool oZ, .bool oS, .bool oO] 24)) false false false false false 24)
    have eb : (w.alloc (Obj.cells #[.bool oC, .bool oP, .bool oZ, .bool oS, .bool oO] 24)).heap.size = w.heap.size + 1 := by simp
    rw [eb] at R2
    have B2 := hid (bel_alloc (bel_alloc (Below.refl w.heap.size w) (.cells #[.bool oC, .bool oP, .bool oZ, .bool oS, .bool oO] 24)) (.cells #[.bool false, .bool false, .bool false, .bool false, .bool false] 24))
    clear eb
    generalize (w.alloc (.cells #[.bool oC, .bool oP, .bool oZ, .bool oS, .bool oO] 24)).alloc (.cells #[.bool false, .bool false, .bool false, .bool false, .bool false] 24) = U at *
    obtain ⟨t0, t1, t2, t3, t4, y0, y1, y2, y3, y4⟩ := Q2.out
    go_region_held3 (fun v => v.cell? ⟨w.heap.size, 0, none⟩ = some (.bool oC) ∧ v.cell? ⟨w.heap.size, 1, none⟩ = some (.bool oP) ∧ v.cell? ⟨w.heap.size, 2, none⟩ = some (.bool oZ) ∧ v.cell? ⟨w.heap.size, 3, none⟩ = some (.bool oS) ∧ v.cell? ⟨w.heap.size, 4, none⟩ = some (.bool oO)) ((refine ⟨?_, ?_, ?_, ?_, ?_⟩) <;> (repeat (first | (with_reducible assumption) | (with_reducible refine up_drew ?_) | ((with_reducible refine up_set ?_ ?_); rotate_left; (focus (dsimp only; omega))))))
      (first | (go_at_call 50; refine (HS.out _).mono ?_; rintro e u ⟨rfl, hbu⟩; obtain ⟨s0, s1, s2, s3, s4, _, _, _, _, _⟩ := ((Q2.out.bel (Below.refl _ _).drew).bel hbu); obtain ⟨r0, r1, r2, r3, r4, x0, x1, x2, x3, x4⟩ := ((R2.out.bel (Below.refl _ _).drew).bel hbu); have B3 := hid (bel_trans B2.out.drew hbu); clear hbu))
    go_wp2
    refine bodyPost_ret (v := .tuple #[.int .u64 r, .agg #[.bool C, .bool P, .bool Z, .bool S, .bool O], .int .i64 0]) (by simp [results, Tryd.results24, go_sem, r0, r1, r2, r3, r4]) rfl ⟨rfl, ?_⟩
    repeat (first | (with_reducible exact B3.out) | (with_reducible refine Below.drew ?_) | ((with_reducible refine Below.setCell ?_ ?_ _); rotate_left; (focus (dsimp only; omega))))

set_option maxRecDepth 4000 in
set_option maxHeartbeats 1000000 in
theorem rshift_8 (op a k : Int) (m : Nat) (oC oP oZ oS oO : Bool) (r : Int) (C P Z S O : Bool) (w : World) (ho : op = 17 ∨ op = 18 ∨ op = 19) (k0 : 0 ≤ k) (k1 : k ≤ 255) (em : k % 64 = (m : Int))
    (hs : ∀ v, Calls Tryd.prog 50 #[.int .i64 op, .int .u64 a, .int .i64 m, .agg #[.bool oC, .bool oP, .bool oZ, .bool oS, .bool oO], .int .i64 64] v fun e w' => e = .returned (.tuple #[.int .u64 r, .agg #[.bool C, .bool P, .bool Z, .bool S, .bool O], .int .i64 0]) ∧ Below v.heap.size v w') :
    Calls Tryd.prog 24 #[.int .i64 op, .int .u64 a, .int .i64 k, .agg #[.bool oC, .bool oP, .bool oZ, .bool oS, .bool oO], .int .i64 8] w fun e w' =>
      e = .returned (.tuple #[.int .u64 r, .agg #[.bool C, .bool P, .bool Z, .bool S, .bool O], .int .i64 0]) ∧ Below w.heap.size w w' := by
  have HS := hid hs
  have HB := hid (show Wide 8 64 63 from .inr (.inr ⟨rfl, rfl, rfl⟩))
  have kn : ¬ k < 0 := by omega
  have et : IntKind.i64.wrap (k.tmod 64) = (m : Int) := by
    rw [Int.tmod_eq_emod_of_nonneg k0, em, IntKind.wrap_i64]; omega
  have et2 : k.tmod 64 = (m : Int) := by rw [Int.tmod_eq_emod_of_nonneg k0, em]
  clear hs
  rcases ho with rfl | rfl | rfl
  all_goals
    go_enter Tryd.func24, Tryd.ntmps24
    go_wp2_with (go_at_call 36; refine (rbits_yes HB.out _).mono ?_; rintro e w0 ⟨rfl, hq⟩; subst w0)
    have Q2 := hid ((Fl.new w oC oP oZ oS oO 24).up (.cells #[.bool false, .bool false, .bool false, .bool false, .bool false] 24))
    have R2 := hid (Fl.new (w.alloc (.cells #[.bool oC, .bool oP, .bool oZ, .bool oS, .bool oO] 24)) false false false false false 24)
    have eb : (w.alloc (Obj.cells #[.bool oC, .bool oP, .bool oZ, .bool oS, .bool oO] 24)).heap.size = w.heap.size + 1 := by simp
    rw [eb] at R2
    have B2 := hid (bel_alloc (bel_alloc (Below.refl w.heap.size w) (.cells #[.bool oC, .bool oP, .bool oZ, .bool oS, .bool oO] 24)) (.cells #[.bool false, .bool false, .bool false, .bool false, .bool false] 24))
    clear eb
    generalize (w.alloc (.cells #[.bool oC, .bool oP, .bool oZ, .bool oS, .bool oO] 24)).alloc (.cells #[.bool false, .bool false, .bool false, .bool false, .bool false] 24) = U at *
    obtain ⟨t0, t1, t2, t3, t4, y0, y1, y2, y3, y4⟩ := Q2.out
    go_region_held3 (fun v => v.cell? ⟨w.heap.size, 0, none⟩ = some (.bool oC) ∧ v.cell? ⟨w.heap.size, 1, none⟩ = some (.bool oP) ∧ v.cell? ⟨w.heap.size, 2, none⟩ = some (.bool oZ) ∧ v.cell? ⟨w.heap.size, 3, none⟩ = some (.bool oS) ∧ v.cell? ⟨w.heap.size, 4, none⟩ = some (.bool oO)) ((refine ⟨?_, ?_, ?_, ?_, ?_⟩) <;> (repeat (first | (with_reducible assumption) | (with_reducible refine up_drew ?_) | ((with_reducible refine up_set ?_ ?_); rotate_left; (focus (dsimp only; omega))))))
      (first | (go_at_call 50; refine (HS.out _).mono ?_; rintro e u ⟨rfl, hbu⟩; obtain ⟨s0, s1, s2, s3, s4, _, _, _, _, _⟩ := ((Q2.out.bel (Below.refl _ _).drew).bel hbu); obtain ⟨r0, r1, r2, r3, r4, x0, x1, x2, x3, x4⟩ := ((R2.out.bel (Below.refl _ _).drew).bel hbu); have B3 := hid (bel_trans B2.out.drew hbu); clear hbu))
    go_wp2
    refine bodyPost_ret (v := .tuple #[.int .u64 r, .agg #[.bool C, .bool P, .bool Z, .bool S, .bool O], .int .i64 0]) (by simp [results, Tryd.results24, go_sem, r0, r1, r2, r3, r4]) rfl ⟨rfl, ?_⟩
    repeat (first | (with_reducible exact B3.out) | (with_reducible refine Below.drew ?_) | ((with_reducible refine Below.setCell ?_ ?_ _); rotate_left; (focus (dsimp only; omega))))
end Go.Proofs.YtbfkmnlbmlpogaaDoor
