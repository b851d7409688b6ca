/- The contracts of the document's One; the program's One is the same. -/
import Derived.Test.YtbfkmnlbmlpogaaDoorRefSums
import Derived.Test.YtbfkmnlbmlpogaaDoorOne
namespace Go.Proofs.YtbfkmnlbmlpogaaDoor
open Go.ChangeShapes Go.WideShapes Go.ChangeAt Go.RowKit
set_option linter.unusedVariables false
set_option linter.unusedSimpArgs false

set_option maxRecDepth 4000 in
set_option maxHeartbeats 1000000 in
theorem rone_inc (a sz : Int) (oC oP oZ oS oO : Bool) (n : Nat) (c : Int) (w : World) (h : Wide sz n c) (h0 : 0 ≤ a) (h1 : a < 18446744073709551616) :
    Calls Tryd.prog 22 #[.int .i64 15, .int .u64 a, .agg #[.bool oC, .bool oP, .bool oZ, .bool oS, .bool oO], .int .i64 sz] w fun e w' =>
      e = .returned (.tuple #[.int .u64 ((a + 1 + b2i false) % 2 ^ n), resF n oC (outS n (sx n a + sx n 1 + b2i false)) ((a + 1 + b2i false) % 2 ^ n), .int .i64 0]) ∧ Below w.heap.size w w' := by
  have l0 := h.lo
  have HH := hid h
  have hz0 : ((n : Int) == 0) = false := by simp; omega
  have A0 := fun v => radd_yes a 1 false sz n c v h h0 h1 (by decide) (by decide)
  simp only [resF] at A0 ⊢
  generalize (a + 1 + b2i false) % 2 ^ n = r at *
  generalize outS n (sx n a + sx n 1 + b2i false) = O at *
  generalize evenB r = P at *
  generalize (r == 0) = Z at *
  generalize decide (sx n r < 0) = S at *
  have HA := hid A0
  clear A0 h h0 h1
  go_enter Tryd.func22, Tryd.ntmps22
  go_wp2_with (first
    | (go_at_call 36; refine (rbits_yes HH.out _).mono ?_; rintro e w0 ⟨rfl, hq⟩; subst w0)
    | (go_at_call 10; refine (HA.out _).mono ?_; rintro e w1 ⟨rfl, hb⟩; obtain ⟨hc, hf⟩ := bcell hb; have hz : w.heap.size + 1 < w1.heap.size := (by have := hb.size; simp at this; omega); have hz1 : w.heap.size < w1.heap.size := (by omega)))
  have T2 := hid (Fl.new w1 oC P Z S O 24)
  have R1 := hid ((Fl.new (w.alloc (.cells #[.bool oC, .bool oP, .bool oZ, .bool oS, .bool oO] 24)) false false false false false 24).bel hb)
  have eb : (w.alloc (Obj.cells #[.bool oC, .bool oP, .bool oZ, .bool oS, .bool oO] 24)).heap.size = w.heap.size + 1 := by simp
  rw [eb] at R1
  have R2 := hid (R1.out.up (.cells #[.bool oC, .bool P, .bool Z, .bool S, .bool O] 24))
  have B2 := hid (bel_alloc (bel_trans (bel_alloc (bel_alloc (Below.refl _ _) _) _) hb) (.cells #[.bool oC, .bool P, .bool Z, .bool S, .bool O] 24))
  have nb : w.heap.size + 1 < w1.heap.size := hz
  clear R1 hb hc hf hz hz1 eb HA HH
  generalize w1.heap.size = bt at *
  generalize w1.alloc (.cells #[.bool oC, .bool P, .bool Z, .bool S, .bool O] 24) = U at *
  obtain ⟨t0, t1, t2, t3, t4, y0, y1, y2, y3, y4⟩ := T2.out
  obtain ⟨r0, r1, r2, r3, r4, x0, x1, x2, x3, x4⟩ := R2.out
  go_region_held3 (fun v => v.cell? ⟨bt, 0, none⟩ = some (.bool oC) ∧ v.cell? ⟨bt, 1, none⟩ = some (.bool P) ∧ v.cell? ⟨bt, 2, none⟩ = some (.bool Z) ∧ v.cell? ⟨bt, 3, none⟩ = some (.bool S) ∧ v.cell? ⟨bt, 4, none⟩ = some (.bool O)) ((refine ⟨?_, ?_, ?_, ?_, ?_⟩) <;> (repeat (first | (with_reducible assumption) | (with_reducible refine up_drew ?_) | ((with_reducible refine up_set ?_ ?_); rotate_left; (focus (dsimp only; omega)))))) (fail)
  go_wp2
  refine bodyPost_ret (v := .tuple #[.int .u64 r, .agg #[.bool oC, .bool P, .bool Z, .bool S, .bool O], .int .i64 0]) (by simp [results, Tryd.results22, go_sem, r0, r1, r2, r3, r4]) rfl ⟨rfl, ?_⟩
  repeat (first | (with_reducible exact B2.out) | (with_reducible refine Below.drew ?_) | ((with_reducible refine Below.setCell ?_ ?_ _); rotate_left; (focus (dsimp only; omega))))

set_option maxRecDepth 4000 in
set_option maxHeartbeats 1000000 in
theorem rone_dec (a sz : Int) (oC oP oZ oS oO : Bool) (n : Nat) (c : Int) (w : World) (h : Wide sz n c) (h0 : 0 ≤ a) (h1 : a < 18446744073709551616) :
    Calls Tryd.prog 22 #[.int .i64 16, .int .u64 a, .agg #[.bool oC, .bool oP, .bool oZ, .bool oS, .bool oO], .int .i64 sz] w fun e w' =>
      e = .returned (.tuple #[.int .u64 ((a - 1 - b2i false) % 2 ^ n), resF n oC (outS n (sx n a - sx n 1 - b2i false)) ((a - 1 - b2i false) % 2 ^ n), .int .i64 0]) ∧ Below w.heap.size w w' := by
  have l0 := h.lo
  have HH := hid h
  have hz0 : ((n : Int) == 0) = false := by simp; omega
  have A0 := fun v => rsub_yes a 1 false sz n c v h h0 h1 (by decide) (by decide)
  simp only [resF] at A0 ⊢
  generalize (a - 1 - b2i false) % 2 ^ n = r at *
  generalize outS n (sx n a - sx n 1 - b2i false) = O at *
  generalize evenB r = P at *
  generalize (r == 0) = Z at *
  generalize decide (sx n r < 0) = S at *
  have HA := hid A0
  clear A0 h h0 h1
  go_enter Tryd.func22, Tryd.ntmps22
  go_wp2_with (first
    | (go_at_call 36; refine (rbits_yes HH.out _).mono ?_; rintro e w0 ⟨rfl, hq⟩; subst w0)
    | (go_at_call 12; refine (HA.out _).mono ?_; rintro e w1 ⟨rfl, hb⟩; obtain ⟨hc, hf⟩ := bcell hb; have hz : w.heap.size + 1 < w1.heap.size := (by have := hb.size; simp at this; omega); have hz1 : w.heap.size < w1.heap.size := (by omega)))
  have T2 := hid (Fl.new w1 oC P Z S O 24)
  have R1 := hid ((Fl.new (w.alloc (.cells #[.bool oC, .bool oP, .bool oZ, .bool oS, .bool oO] 24)) false false false false false 24).bel hb)
  have eb : (w.alloc (Obj.cells #[.bool oC, .bool oP, .bool oZ, .bool oS, .bool oO] 24)).heap.size = w.heap.size + 1 := by simp
  rw [eb] at R1
  have R2 := hid (R1.out.up (.cells #[.bool oC, .bool P, .bool Z, .bool S, .bool O] 24))
  have B2 := hid (bel_alloc (bel_trans (bel_alloc (bel_alloc (Below.refl _ _) _) _) hb) (.cells #[.bool oC, .bool P, .bool Z, .bool S, .bool O] 24))
  have nb : w.heap.size + 1 < w1.heap.size := hz
  clear R1 hb hc hf hz hz1 eb HA HH
  generalize w1.heap.size = bt at *
  generalize w1.alloc (.cells #[.bool oC, .bool P, .bool Z, .bool S, .bool O] 24) = U at *
  obtain ⟨t0, t1, t2, t3, t4, y0, y1, y2, y3, y4⟩ := T2.out
  obtain ⟨r0, r1, r2, r3, r4, x0, x1, x2, x3, x4⟩ := R2.out
  go_region_held3 (fun v => v.cell? ⟨bt, 0, none⟩ = some (.bool oC) ∧ v.cell? ⟨bt, 1, none⟩ = some (.bool P) ∧ v.cell? ⟨bt, 2, none⟩ = some (.bool Z) ∧ v.cell? ⟨bt, 3, none⟩ = some (.bool S) ∧ v.cell? ⟨bt, 4, none⟩ = some (.bool O)) ((refine ⟨?_, ?_, ?_, ?_, ?_⟩) <;> (repeat (first | (with_reducible assumption) | (with_reducible refine up_drew ?_) | ((with_reducible refine up_set ?_ ?_); rotate_left; (focus (dsimp only; omega)))))) (fail)
  go_wp2
  refine bodyPost_ret (v := .tuple #[.int .u64 r, .agg #[.bool oC, .bool P, .bool Z, .bool S, .bool O], .int .i64 0]) (by simp [results, Tryd.results22, go_sem, r0, r1, r2, r3, r4]) rfl ⟨rfl, ?_⟩
  repeat (first | (with_reducible exact B2.out) | (with_reducible refine Below.drew ?_) | ((with_reducible refine Below.setCell ?_ ?_ _); rotate_left; (focus (dsimp only; omega))))

set_option maxRecDepth 4000 in
set_option maxHeartbeats 1000000 in
theorem rone_neg (a sz : Int) (oC oP oZ oS oO : Bool) (n : Nat) (c : Int) (w : World) (h : Wide sz n c) (h0 : 0 ≤ a) (h1 : a < 18446744073709551616) :
    Calls Tryd.prog 22 #[.int .i64 13, .int .u64 a, .agg #[.bool oC, .bool oP, .bool oZ, .bool oS, .bool oO], .int .i64 sz] w fun e w' =>
      e = .returned (.tuple #[.int .u64 ((0 - a - b2i false) % 2 ^ n), resF n (subC n 0 a (b2i false)) (outS n (sx n 0 - sx n a - b2i false)) ((0 - a - b2i false) % 2 ^ n), .int .i64 0]) ∧ Below w.heap.size w w' := by
  have l0 := h.lo
  have HH := hid h
  have hz0 : ((n : Int) == 0) = false := by simp; omega
  have A0 := fun v => rsub_yes 0 a false sz n c v h (by decide) (by decide) h0 h1
  simp only [resF] at A0 ⊢
  generalize (0 - a - b2i false) % 2 ^ n = r at *
  generalize outS n (sx n 0 - sx n a - b2i false) = O at *
  generalize subC n 0 a (b2i false) = C at *
  generalize evenB r = P at *
  generalize (r == 0) = Z at *
  generalize decide (sx n r < 0) = S at *
  have HA := hid A0
  clear A0 h h0 h1
  go_enter Tryd.func22, Tryd.ntmps22
  go_wp2_with (first
    | (go_at_call 36; refine (rbits_yes HH.out _).mono ?_; rintro e w0 ⟨rfl, hq⟩; subst w0)
    | (go_at_call 12; refine (HA.out _).mono ?_; rintro e w1 ⟨rfl, hb⟩; obtain ⟨hc, hf⟩ := bcell hb; have hz : w.heap.size + 1 < w1.heap.size := (by have := hb.size; simp at this; omega); have hz1 : w.heap.size < w1.heap.size := (by omega)))
  refine bodyPost_ret (v := .tuple #[.int .u64 r, .agg #[.bool C, .bool P, .bool Z, .bool S, .bool O], .int .i64 0]) (by simp [results, Tryd.results22, go_sem, hc, hz]) rfl ⟨rfl, ?_⟩
  have B1 : Below w.heap.size w w1 := bel_trans (bel_alloc (bel_alloc (Below.refl _ _) _) _) hb
  repeat (first | (with_reducible exact B1) | ((with_reducible refine Below.setCell ?_ ?_ _); rotate_left; (focus (dsimp only; omega))))

theorem rone_no (op a sz : Int) (oC oP oZ oS oO : Bool) (w : World) (h : ¬ (sz = 1 ∨ sz = 4 ∨ sz = 8)) :
    Calls Tryd.prog 22 #[.int .i64 op, .int .u64 a, .agg #[.bool oC, .bool oP, .bool oZ, .bool oS, .bool oO], .int .i64 sz] w fun e w' => e = .returned (.tuple #[.int .u64 0, noF, .int .i64 1]) ∧ Below w.heap.size w w' := by
  have HH := hid h
  clear h
  go_enter Tryd.func22, Tryd.ntmps22
  go_wp2_with (go_at_call 36; refine (rbits_no _ HH.out _).mono ?_; rintro e w0 ⟨rfl, hq⟩; subst w0)
  refine bodyPost_ret (v := .tuple #[.int .u64 0, noF, .int .i64 1]) (by simp [results, Tryd.results22, go_sem]) rfl ⟨rfl, ?_⟩
  exact bel_alloc (bel_alloc (Below.refl _ _) _) _

theorem rone_op (op a sz : Int) (oC oP oZ oS oO : Bool) (n : Nat) (c : Int) (w : World) (h : Wide sz n c) (ho : ¬ (op = 15 ∨ op = 16 ∨ op = 13 ∨ op = 14)) :
    Calls Tryd.prog 22 #[.int .i64 op, .int .u64 a, .agg #[.bool oC, .bool oP, .bool oZ, .bool oS, .bool oO], .int .i64 sz] w fun e w' => e = .returned (.tuple #[.int .u64 0, noF, .int .i64 1]) ∧ Below w.heap.size w w' := by
  have l0 := h.lo
  have HH := hid h
  have hz0 : ((n : Int) == 0) = false := by simp; omega
  have h1 : (op == 15) = false := by simp; omega
  have h2 : (op == 16) = false := by simp; omega
  have h3 : (op == 13) = false := by simp; omega
  have h4 : (op == 14) = false := by simp; omega
  clear h ho
  go_enter Tryd.func22, Tryd.ntmps22
  go_wp2_with (go_at_call 36; refine (rbits_yes HH.out _).mono ?_; rintro e w0 ⟨rfl, hq⟩; subst w0)
  refine bodyPost_ret (v := .tuple #[.int .u64 0, noF, .int .i64 1]) (by simp [results, Tryd.results22, go_sem]) rfl ⟨rfl, ?_⟩
  exact bel_alloc (bel_alloc (Below.refl _ _) _) _
end Go.Proofs.YtbfkmnlbmlpogaaDoor
