/- Five flags that lie in a block: read and written behind calls. -/
import Derived.Test.YtbfkmnlbmlpogaaDoorAnswer
namespace Go.Proofs.YtbfkmnlbmlpogaaDoor
open Go.ChangeShapes Go.WideShapes Go.ChangeAt Go.RowKit
set_option linter.unusedVariables false
set_option linter.unusedSimpArgs false

theorem hid {p : Prop} (h : p) : Hid p := h

/-- Five flags lie in a block that may be written. -/
structure Fl (w : World) (b : Nat) (C P Z S O : Bool) : Prop where
  c0 : w.cell? ⟨b, 0, none⟩ = some (.bool C)
  c1 : w.cell? ⟨b, 1, none⟩ = some (.bool P)
  c2 : w.cell? ⟨b, 2, none⟩ = some (.bool Z)
  c3 : w.cell? ⟨b, 3, none⟩ = some (.bool S)
  c4 : w.cell? ⟨b, 4, none⟩ = some (.bool O)
  f0 : w.frozen? ⟨b, 0, none⟩ = false
  f1 : w.frozen? ⟨b, 1, none⟩ = false
  f2 : w.frozen? ⟨b, 2, none⟩ = false
  f3 : w.frozen? ⟨b, 3, none⟩ = false
  f4 : w.frozen? ⟨b, 4, none⟩ = false

theorem Fl.new (w : World) (C P Z S O : Bool) (T : Nat) : Fl (w.alloc (.cells #[.bool C, .bool P, .bool Z, .bool S, .bool O] T)) w.heap.size C P Z S O :=
  ⟨by simp, by simp, by simp, by simp, by simp, fz_new _ _ _ _, fz_new _ _ _ _, fz_new _ _ _ _, fz_new _ _ _ _, fz_new _ _ _ _⟩
theorem Fl.lt {w : World} {b : Nat} {C P Z S O : Bool} (h : Fl w b C P Z S O) : b < w.heap.size := World.block_lt_of_cell? w ⟨b, 0, none⟩ h.c0
theorem Fl.bel {w v : World} {b : Nat} {C P Z S O : Bool} (h : Fl w b C P Z S O) (hb : Below w.heap.size w v) : Fl v b C P Z S O :=
  ⟨to_bel hb h.c0, to_bel hb h.c1, to_bel hb h.c2, to_bel hb h.c3, to_bel hb h.c4, fz_bel hb h.lt h.f0, fz_bel hb h.lt h.f1, fz_bel hb h.lt h.f2, fz_bel hb h.lt h.f3, fz_bel hb h.lt h.f4⟩
theorem Fl.up {w : World} {b : Nat} {C P Z S O : Bool} (h : Fl w b C P Z S O) (o : Obj) : Fl (w.alloc o) b C P Z S O := h.bel (bel_alloc (Below.refl _ _) o)

/-- The world behind a write of five flags. -/
abbrev set5 (w : World) (b : Nat) (C P Z S O : Bool) : World :=
  ((((w.setCell ⟨b, 0, none⟩ (.bool C)).setCell ⟨b, 1, none⟩ (.bool P)).setCell ⟨b, 2, none⟩ (.bool Z)).setCell ⟨b, 3, none⟩ (.bool S)).setCell ⟨b, 4, none⟩ (.bool O)

theorem set5_bel {w : World} {b n : Nat} (h : n ≤ b) (C P Z S O : Bool) : Below n w (set5 w b C P Z S O) :=
  (((((Below.refl n w).setCell h _).setCell h _).setCell h _).setCell h _).setCell h _

theorem set5_size (w : World) (b : Nat) (C P Z S O : Bool) : (set5 w b C P Z S O).heap.size = w.heap.size := by simp

theorem Fl.set {w : World} {b : Nat} {C P Z S O : Bool} (h : Fl w b C P Z S O) (C' P' Z' S' O' : Bool) : Fl (set5 w b C' P' Z' S' O') b C' P' Z' S' O' := by
  obtain ⟨c0, c1, c2, c3, c4, f0, f1, f2, f3, f4⟩ := h
  refine ⟨?_, ?_, ?_, ?_, ?_, ?_, ?_, ?_, ?_, ?_⟩ <;> simp [set5, go_sem, c0, c1, c2, c3, c4, f0, f1, f2, f3, f4]

theorem Fl.other {w : World} {b b' : Nat} {C P Z S O : Bool} (h : Fl w b C P Z S O) (hn : b ≠ b') (C' P' Z' S' O' : Bool) : Fl (set5 w b' C' P' Z' S' O') b C P Z S O := by
  obtain ⟨c0, c1, c2, c3, c4, f0, f1, f2, f3, f4⟩ := h
  refine ⟨?_, ?_, ?_, ?_, ?_, ?_, ?_, ?_, ?_, ?_⟩ <;> simp [set5, go_sem, c0, c1, c2, c3, c4, f0, f1, f2, f3, f4, hn]

theorem Wd.set5 {w : World} {b : Nat} (h : Wd w) (hb : 0 < b) (C P Z S O : Bool) : Wd (set5 w b C P Z S O) :=
  h.below (n := 1) (by omega) (set5_bel hb C P Z S O) (by rw [set5_size]; exact Nat.le_refl _)
end Go.Proofs.YtbfkmnlbmlpogaaDoor
