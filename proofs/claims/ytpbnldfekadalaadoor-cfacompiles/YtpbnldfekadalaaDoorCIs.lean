/- Slices of ops; what the law's knows answers. -/
import Derived.Test.YtpbnldfekadalaaDoorCMem
namespace Go.Proofs.YtpbnldfekadalaaDoor
open Go.ChangeShapes Go.WideShapes Go.ChangeAt Go.RowKit
set_option linter.unusedVariables false
set_option linter.unusedSimpArgs false

/-- A slice of ops, as it comes in or is made. -/
structure IsOq (w : World) (ao : Option Addr) (c : Nat) (l : List Oq) : Prop where
  ops : Oqs w ao l
  nil : ao = none → l = [] ∧ c = 0
  fit : l.length ≤ c
  top : c ≤ 9223372036854775807
theorem IsOq.bel {w w' : World} {ao : Option Addr} {c : Nat} {l : List Oq} (h : IsOq w ao c l) (hb : Below w.heap.size w w') : IsOq w' ao c l := ⟨h.ops.bel hb, h.nil, h.fit, h.top⟩
theorem OwnP.is {w : World} {base : Nat} {v : Value} {l : List Oq} (h : OwnP w base v l) : ∃ ao c, v = .slice ao l.length c ∧ IsOq w ao c l := by
  obtain ⟨ao, c, h1, h2, h3, h4, h5⟩ := h.any
  exact ⟨ao, c, h1, h4, h5, h2, h3⟩
theorem OwnR.is {w : World} {base : Nat} {v : Value} {l : List Oq} (h : OwnR w base v l) : ∃ ao c, v = .slice ao l.length c ∧ IsOq w ao c l := by
  obtain ⟨ao, c, h1, h2, h3, h4, h5⟩ := h.any
  exact ⟨ao, c, h1, h4, h5, h2, h3⟩
/-- The shapes of ops, as the program's table has them: the last R, N's bounds, what N is a multiple of. -/
def shL : List (Int × Int × Int × Int) := [(0, 0, 0, 1), (0, 0, 2147483647, 1), (16, 0, 2147483647, 1), (0, 0, 2147483647, 1), (16, 0, 0, 1), (16, -2147483648, 2147483647, 8), (16, 0, 0, 1), (16, 0, 0, 1), (16, 0, 0, 1), (0, 0, 0, 1), (0, 0, 0, 1)]
def shC : List Int := [0, 0, 0, 1, 0, 0, 2147483647, 1, 16, 0, 2147483647, 1, 0, 0, 2147483647, 1, 16, 0, 0, 1, 16, -2147483648, 2147483647, 8, 16, 0, 0, 1, 16, 0, 0, 1, 16, 0, 0, 1, 0, 0, 0, 1, 0, 0, 0, 1]
/-- The table lies in memory. -/
structure Fz (w : World) : Prop where
  z : 0 < w.heap.size
  c : ∀ j, j < 44 → w.cell? ⟨0, j, none⟩ = some (.int .i64 (shC.getD j 0))
theorem Fz.bel {w w' : World} (h : Fz w) {B : Nat} (hb : Below B w w') (hB : 0 < B) : Fz w' :=
  ⟨Nat.lt_of_lt_of_le h.z hb.size, fun j hj => (hb.cell (p := ⟨0, j, none⟩) hB).trans (h.c j hj)⟩
/-- What the law's knows answers. -/
def PKnows : Prop := ∀ w : World, Fz w → Calls Tryd.prog 10 #[] w fun e w' => e = .returned (.bool true) ∧ Below w.heap.size w w'
end Go.Proofs.YtpbnldfekadalaaDoor
