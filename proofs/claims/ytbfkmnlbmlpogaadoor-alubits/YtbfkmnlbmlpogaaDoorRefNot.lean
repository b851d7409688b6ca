/- The contract of the document's One for Not. -/
import Derived.Test.YtbfkmnlbmlpogaaDoorRefSums
namespace Go.Proofs.YtbfkmnlbmlpogaaDoor
open Go.ChangeShapes Go.WideShapes Go.ChangeAt Go.RowKit
set_option linter.unusedVariables false
set_option linter.unusedSimpArgs false

set_option maxRecDepth 4000 in
set_option maxHeartbeats 400000 in
theorem rone_not (a sz : Int) (oC oP oZ oS oO : Bool) (n : Nat) (c : Int) (w : World) (h : Wide sz n c) :
    Calls Tryd.prog 22 #[.int .i64 14, .int .u64 a, .agg #[.bool oC, .bool oP, .bool oZ, .bool oS, .bool oO], .int .i64 sz] w fun e w' =>
      e = .returned (.tuple #[.int .u64 ((-1 - a) % 18446744073709551616 % 2 ^ n), .agg #[.bool oC, .bool oP, .bool oZ, .bool oS, .bool oO], .int .i64 0]) ∧ Below w.heap.size w w' := by
  have l0 := h.lo; have l1 := h.hi
  have HH := hid h
  have hz0 : ((n : Int) == 0) = false := by simp; omega
  rw [← xor_max a]
  have b0 := bits_lo_u64 .xor IntKind.u64.max a
  have b1 := bits_hi_u64 .xor IntKind.u64.max a
  have HL := hid (fun v => rlow_any (bits .xor .u64 IntKind.u64.max a) n v b0 (by omega) l1)
  clear b0 b1
  clear h
  go_enter Tryd.func22, Tryd.ntmps22
  go_wp2_with (go_at_call 36; refine (rbits_yes HH.out _).mono ?_; rintro e w0 ⟨rfl, hq⟩; subst w0)
  have Q2 := hid ((Fl.new w oC oP oZ oS oO 24).up (.cells #[.bool false, .bool false, .bool false, .bool false, .bool false] 24))
  have R2 := hid (Fl.new (w.alloc (.cells #[.bool oC, .bool oP, .bool oZ, .bool oS, .bool oO] 24)) false false false false false 24)
  have eb : (w.alloc (Obj.cells #[.bool oC, .bool oP, .bool oZ, .bool oS, .bool oO] 24)).heap.size = w.heap.size + 1 := by simp
  rw [eb] at R2
  have B2 := hid (bel_alloc (bel_alloc (Below.refl w.heap.size w) (.cells #[.bool oC, .bool oP, .bool oZ, .bool oS, .bool oO] 24)) (.cells #[.bool false, .bool false, .bool false, .bool false, .bool false] 24))
  clear eb HH
  generalize (w.alloc (.cells #[.bool oC, .bool oP, .bool oZ, .bool oS, .bool oO] 24)).alloc (.cells #[.bool false, .bool false, .bool false, .bool false, .bool false] 24) = U at *
  obtain ⟨t0, t1, t2, t3, t4, y0, y1, y2, y3, y4⟩ := Q2.out
  obtain ⟨r0, r1, r2, r3, r4, x0, x1, x2, x3, x4⟩ := R2.out
  go_region_held3 (fun v => v.cell? ⟨w.heap.size, 0, none⟩ = some (.bool oC) ∧ v.cell? ⟨w.heap.size, 1, none⟩ = some (.bool oP) ∧ v.cell? ⟨w.heap.size, 2, none⟩ = some (.bool oZ) ∧ v.cell? ⟨w.heap.size, 3, none⟩ = some (.bool oS) ∧ v.cell? ⟨w.heap.size, 4, none⟩ = some (.bool oO)) ((refine ⟨?_, ?_, ?_, ?_, ?_⟩) <;> (repeat (first | (with_reducible assumption) | (with_reducible refine up_drew ?_) | ((with_reducible refine up_set ?_ ?_); rotate_left; (focus (dsimp only; omega))))))
    (first | (go_at_call 42; refine (HL.out _).mono ?_; rintro e w3 ⟨rfl, rfl⟩))
  go_wp2
  refine bodyPost_ret (v := .tuple #[.int .u64 (bits .xor .u64 IntKind.u64.max a % 2 ^ n), .agg #[.bool oC, .bool oP, .bool oZ, .bool oS, .bool oO], .int .i64 0]) (by simp [results, Tryd.results22, go_sem, r0, r1, r2, r3, r4]) rfl ⟨rfl, ?_⟩
  repeat (first | (with_reducible exact B2.out) | (with_reducible refine Below.drew ?_) | ((with_reducible refine Below.setCell ?_ ?_ _); rotate_left; (focus (dsimp only; omega))))

end Go.Proofs.YtbfkmnlbmlpogaaDoor
