/- An instruction that lies in a block, and is written; registerOperand and numberOperand. -/
import Derived.Test.YtjbepojopfbajaaDPlace
namespace Go.Proofs.Ytjbepojopfbajaa
open Go.ChangeShapes Go.WideShapes Go.ChangeAt Go.RowKit
set_option linter.unusedVariables false
set_option linter.unusedSimpArgs false

/-- An instruction with another operand, size or mark. -/
abbrev I.wTo (i : I) (o : O) : I := ⟨i.op, i.sz, i.cd, o, i.fr, i.sh⟩
abbrev I.wFr (i : I) (o : O) : I := ⟨i.op, i.sz, i.cd, i.to, o, i.sh⟩
abbrev I.wSz (i : I) (y : Int) : I := ⟨i.op, y, i.cd, i.to, i.fr, i.sh⟩
abbrev I.wSh (i : I) (y : Bool) : I := ⟨i.op, i.sz, i.cd, i.to, i.fr, y⟩

/-- An instruction lies in a block. -/
structure IA (w : World) (b : Nat) (i : I) : Prop where
  c0 : w.cell? ⟨b, 0, none⟩ = some (.int .i64 i.op)
  c1 : w.cell? ⟨b, 1, none⟩ = some (.int .i64 i.sz)
  c2 : w.cell? ⟨b, 2, none⟩ = some (.int .i64 i.cd)
  c3 : w.cell? ⟨b, 3, none⟩ = some (.int .i64 i.to.k)
  c4 : w.cell? ⟨b, 4, none⟩ = some (.int .i64 i.to.r)
  c5 : w.cell? ⟨b, 5, none⟩ = some (.int .i64 i.to.b)
  c6 : w.cell? ⟨b, 6, none⟩ = some (.int .i64 i.to.x)
  c7 : w.cell? ⟨b, 7, none⟩ = some (.int .i64 i.to.s)
  c8 : w.cell? ⟨b, 8, none⟩ = some (.bool i.to.rip)
  c9 : w.cell? ⟨b, 9, none⟩ = some (.bool i.to.fs)
  c10 : w.cell? ⟨b, 10, none⟩ = some (.int .i64 i.to.n)
  c11 : w.cell? ⟨b, 11, none⟩ = some (.string i.to.nm)
  c12 : w.cell? ⟨b, 12, none⟩ = some (.int .i64 i.to.m)
  c13 : w.cell? ⟨b, 13, none⟩ = some (.int .i64 i.fr.k)
  c14 : w.cell? ⟨b, 14, none⟩ = some (.int .i64 i.fr.r)
  c15 : w.cell? ⟨b, 15, none⟩ = some (.int .i64 i.fr.b)
  c16 : w.cell? ⟨b, 16, none⟩ = some (.int .i64 i.fr.x)
  c17 : w.cell? ⟨b, 17, none⟩ = some (.int .i64 i.fr.s)
  c18 : w.cell? ⟨b, 18, none⟩ = some (.bool i.fr.rip)
  c19 : w.cell? ⟨b, 19, none⟩ = some (.bool i.fr.fs)
  c20 : w.cell? ⟨b, 20, none⟩ = some (.int .i64 i.fr.n)
  c21 : w.cell? ⟨b, 21, none⟩ = some (.string i.fr.nm)
  c22 : w.cell? ⟨b, 22, none⟩ = some (.int .i64 i.fr.m)
  c23 : w.cell? ⟨b, 23, none⟩ = some (.bool i.sh)
theorem IA.fr {w v : World} {b : Nat} {i : I} (h : IA w b i) {c d : Nat} (g : Fr c d w v) (hc : b ≠ c) (hd : b ≠ d) : IA v b i :=
  ⟨g.cell h.c0 hc hd, g.cell h.c1 hc hd, g.cell h.c2 hc hd, g.cell h.c3 hc hd, g.cell h.c4 hc hd, g.cell h.c5 hc hd, g.cell h.c6 hc hd, g.cell h.c7 hc hd, g.cell h.c8 hc hd, g.cell h.c9 hc hd, g.cell h.c10 hc hd, g.cell h.c11 hc hd, g.cell h.c12 hc hd, g.cell h.c13 hc hd, g.cell h.c14 hc hd, g.cell h.c15 hc hd, g.cell h.c16 hc hd, g.cell h.c17 hc hd, g.cell h.c18 hc hd, g.cell h.c19 hc hd, g.cell h.c20 hc hd, g.cell h.c21 hc hd, g.cell h.c22 hc hd, g.cell h.c23 hc hd⟩
theorem IA.bel {w v : World} {b : Nat} {i : I} (h : IA w b i) (g : Below w.heap.size w v) : IA v b i := h.fr (Fr.of g (b + 1) (b + 1)) (by omega) (by omega)
/-- An instruction, boxed. -/
abbrev I.box (i : I) : Obj := .cells #[.int .i64 i.op, .int .i64 i.sz, .int .i64 i.cd,
  .int .i64 i.to.k, .int .i64 i.to.r, .int .i64 i.to.b, .int .i64 i.to.x, .int .i64 i.to.s, .bool i.to.rip, .bool i.to.fs, .int .i64 i.to.n, .string i.to.nm, .int .i64 i.to.m,
  .int .i64 i.fr.k, .int .i64 i.fr.r, .int .i64 i.fr.b, .int .i64 i.fr.x, .int .i64 i.fr.s, .bool i.fr.rip, .bool i.fr.fs, .int .i64 i.fr.n, .string i.fr.nm, .int .i64 i.fr.m, .bool i.sh] 56
theorem IA.new (w : World) (i : I) : IA (w.alloc i.box) w.heap.size i := by constructor <;> simp

/-- The world behind a write of an operand of an instruction. -/
abbrev setTo (w : World) (b : Nat) (o : O) : World := (((((((((w.setCell ⟨b, 3, none⟩ (.int .i64 o.k)).setCell ⟨b, 4, none⟩ (.int .i64 o.r)).setCell ⟨b, 5, none⟩ (.int .i64 o.b)).setCell ⟨b, 6, none⟩ (.int .i64 o.x)).setCell ⟨b, 7, none⟩ (.int .i64 o.s)).setCell ⟨b, 8, none⟩ (.bool o.rip)).setCell ⟨b, 9, none⟩ (.bool o.fs)).setCell ⟨b, 10, none⟩ (.int .i64 o.n)).setCell ⟨b, 11, none⟩ (.string o.nm)).setCell ⟨b, 12, none⟩ (.int .i64 o.m)
/-- The world behind a write of an operand of an instruction. -/
abbrev setFr (w : World) (b : Nat) (o : O) : World := (((((((((w.setCell ⟨b, 13, none⟩ (.int .i64 o.k)).setCell ⟨b, 14, none⟩ (.int .i64 o.r)).setCell ⟨b, 15, none⟩ (.int .i64 o.b)).setCell ⟨b, 16, none⟩ (.int .i64 o.x)).setCell ⟨b, 17, none⟩ (.int .i64 o.s)).setCell ⟨b, 18, none⟩ (.bool o.rip)).setCell ⟨b, 19, none⟩ (.bool o.fs)).setCell ⟨b, 20, none⟩ (.int .i64 o.n)).setCell ⟨b, 21, none⟩ (.string o.nm)).setCell ⟨b, 22, none⟩ (.int .i64 o.m)
theorem IA.setTo {w : World} {b : Nat} {i : I} (h : IA w b i) (o : O) : IA (setTo w b o) b (i.wTo o) := by
  obtain ⟨c0, c1, c2, c3, c4, c5, c6, c7, c8, c9, c10, c11, c12, c13, c14, c15, c16, c17, c18, c19, c20, c21, c22, c23⟩ := h
  constructor <;> simp [go_sem, c0, c1, c2, c3, c4, c5, c6, c7, c8, c9, c10, c11, c12, c13, c14, c15, c16, c17, c18, c19, c20, c21, c22, c23]
theorem Fr.setTo {a b c : Nat} {u v : World} (h : Fr a b u v) (hc : c = a ∨ c = b ∨ u.heap.size ≤ c) (o : O) : Fr a b u (setTo v c o) :=
  (((((((((h.set (p := ⟨c, 3, none⟩) hc _).set (p := ⟨c, 4, none⟩) hc _).set (p := ⟨c, 5, none⟩) hc _).set (p := ⟨c, 6, none⟩) hc _).set (p := ⟨c, 7, none⟩) hc _).set (p := ⟨c, 8, none⟩) hc _).set (p := ⟨c, 9, none⟩) hc _).set (p := ⟨c, 10, none⟩) hc _).set (p := ⟨c, 11, none⟩) hc _).set (p := ⟨c, 12, none⟩) hc _
theorem fz_setTo {w : World} {b c : Nat} {o : O} {j : Nat} (h : w.frozen? ⟨c, j, none⟩ = false) : (setTo w b o).frozen? ⟨c, j, none⟩ = false := by
  simp only [setTo, World.frozen?_setCell]; exact h
theorem IA.setFr {w : World} {b : Nat} {i : I} (h : IA w b i) (o : O) : IA (setFr w b o) b (i.wFr o) := by
  obtain ⟨c0, c1, c2, c3, c4, c5, c6, c7, c8, c9, c10, c11, c12, c13, c14, c15, c16, c17, c18, c19, c20, c21, c22, c23⟩ := h
  constructor <;> simp [go_sem, c0, c1, c2, c3, c4, c5, c6, c7, c8, c9, c10, c11, c12, c13, c14, c15, c16, c17, c18, c19, c20, c21, c22, c23]
theorem Fr.setFr {a b c : Nat} {u v : World} (h : Fr a b u v) (hc : c = a ∨ c = b ∨ u.heap.size ≤ c) (o : O) : Fr a b u (setFr v c o) :=
  (((((((((h.set (p := ⟨c, 13, none⟩) hc _).set (p := ⟨c, 14, none⟩) hc _).set (p := ⟨c, 15, none⟩) hc _).set (p := ⟨c, 16, none⟩) hc _).set (p := ⟨c, 17, none⟩) hc _).set (p := ⟨c, 18, none⟩) hc _).set (p := ⟨c, 19, none⟩) hc _).set (p := ⟨c, 20, none⟩) hc _).set (p := ⟨c, 21, none⟩) hc _).set (p := ⟨c, 22, none⟩) hc _
theorem fz_setFr {w : World} {b c : Nat} {o : O} {j : Nat} (h : w.frozen? ⟨c, j, none⟩ = false) : (setFr w b o).frozen? ⟨c, j, none⟩ = false := by
  simp only [setFr, World.frozen?_setCell]; exact h
theorem IA.size {w : World} {b : Nat} {i : I} (h : IA w b i) (y : Int) : IA (w.setCell ⟨b, 1, none⟩ (.int .i64 y)) b (i.wSz y) := by
  obtain ⟨c0, c1, c2, c3, c4, c5, c6, c7, c8, c9, c10, c11, c12, c13, c14, c15, c16, c17, c18, c19, c20, c21, c22, c23⟩ := h
  constructor <;> simp [go_sem, c0, c1, c2, c3, c4, c5, c6, c7, c8, c9, c10, c11, c12, c13, c14, c15, c16, c17, c18, c19, c20, c21, c22, c23]
theorem IA.short {w : World} {b : Nat} {i : I} (h : IA w b i) (y : Bool) : IA (w.setCell ⟨b, 23, none⟩ (.bool y)) b (i.wSh y) := by
  obtain ⟨c0, c1, c2, c3, c4, c5, c6, c7, c8, c9, c10, c11, c12, c13, c14, c15, c16, c17, c18, c19, c20, c21, c22, c23⟩ := h
  constructor <;> simp [go_sem, c0, c1, c2, c3, c4, c5, c6, c7, c8, c9, c10, c11, c12, c13, c14, c15, c16, c17, c18, c19, c20, c21, c22, c23]

theorem regO_any (n : Int) (w : World) : Calls Try.prog 98 #[.int .i64 n] w fun e w' => e = .returned (regO n).val ∧ Below w.heap.size w w' := by
  go_enter Try.func98, Try.ntmps98
  go_wp2
  refine bodyPost_ret (v := (regO n).val) (by simp [results, Try.results98, go_sem]) rfl ⟨rfl, bel_alloc (Below.refl _ _) _⟩
theorem immO_any (n : Int) (w : World) : Calls Try.prog 100 #[.int .i64 n] w fun e w' => e = .returned (immO n).val ∧ Below w.heap.size w w' := by
  go_enter Try.func100, Try.ntmps100
  go_wp2
  refine bodyPost_ret (v := (immO n).val) (by simp [results, Try.results100, go_sem]) rfl ⟨rfl, bel_alloc (Below.refl _ _) _⟩

/-- How a call ends that puts operands in. -/
def EndsR (m : Except Int (I × Nat)) (R : I → Nat → Prop) (e : Ending) : Prop :=
  match m with
  | .ok (i, a) => e = .returned (.tuple #[]) ∧ R i a
  | .error n => e = bad n
/-- An instruction lies in a block that may be written. -/
structure IW (w : World) (b : Nat) (i : I) : Prop where
  ia : IA w b i
  fz : ∀ j, w.frozen? ⟨b, j, none⟩ = false
theorem IW.fr {w v : World} {b : Nat} {i : I} (h : IW w b i) {c d : Nat} (g : Fr c d w v) (hc : b ≠ c) (hd : b ≠ d) : IW v b i :=
  ⟨h.ia.fr g hc hd, fun j => (g.frozen (p := ⟨b, j, none⟩) (World.block_lt_of_cell? w ⟨b, 0, none⟩ h.ia.c0) hc hd).trans (h.fz j)⟩
theorem IW.bel {w v : World} {b : Nat} {i : I} (h : IW w b i) (g : Below w.heap.size w v) : IW v b i := h.fr (Fr.of g (b + 1) (b + 1)) (by omega) (by omega)
theorem IW.setTo {w : World} {b : Nat} {i : I} (h : IW w b i) (o : O) : IW (setTo w b o) b (i.wTo o) := ⟨h.ia.setTo o, fun j => fz_setTo (h.fz j)⟩
theorem IW.setFr {w : World} {b : Nat} {i : I} (h : IW w b i) (o : O) : IW (setFr w b o) b (i.wFr o) := ⟨h.ia.setFr o, fun j => fz_setFr (h.fz j)⟩
theorem IW.size {w : World} {b : Nat} {i : I} (h : IW w b i) (y : Int) : IW (w.setCell ⟨b, 1, none⟩ (.int .i64 y)) b (i.wSz y) := ⟨h.ia.size y, fun j => (World.frozen?_setCell _ _ _ _).trans (h.fz j)⟩
theorem IW.short {w : World} {b : Nat} {i : I} (h : IW w b i) (y : Bool) : IW (w.setCell ⟨b, 23, none⟩ (.bool y)) b (i.wSh y) := ⟨h.ia.short y, fun j => (World.frozen?_setCell _ _ _ _).trans (h.fz j)⟩
theorem RS.setTo {w : World} {rb ib : Nat} {L : Ln} {a : Nat} {fs : Bool} {rex opc sz md rg rm : Int} (h : RS w rb L a fs rex opc sz md rg rm) (hb : rb < ib) (o : O) : RS (setTo w ib o) rb L a fs rex opc sz md rg rm := h.fr ((Fr.refl ib ib w).setTo (.inl rfl) o) hb hb
theorem RS.setFr {w : World} {rb ib : Nat} {L : Ln} {a : Nat} {fs : Bool} {rex opc sz md rg rm : Int} (h : RS w rb L a fs rex opc sz md rg rm) (hb : rb < ib) (o : O) : RS (setFr w ib o) rb L a fs rex opc sz md rg rm := h.fr ((Fr.refl ib ib w).setFr (.inl rfl) o) hb hb
end Go.Proofs.Ytjbepojopfbajaa
