/- What lies in memory while bytes are read: operands, instructions, rows of the table, a reader. -/
import Derived.Test.YtjbepojopfbajaaRows
import Derived.WalkKit
import Derived.ProofKit
import Derived.Below
import Derived.Laws.BitsAllLaws
import Derived.Laws.StructEq
import Derived.LoopN
import Derived.WalkLawsBesides
import Derived.BigQuiet
namespace Go.Proofs.Ytjbepojopfbajaa
open Go.ChangeShapes Go.WideShapes Go.ChangeAt Go.RowKit
set_option linter.unusedVariables false
set_option linter.unusedSimpArgs false

/-- An operand. -/
structure O where
  k : Int
  r : Int
  b : Int
  x : Int
  s : Int
  rip : Bool
  fs : Bool
  n : Int
  nm : ByteArray
  m : Int

/-- An operand's value. -/
abbrev O.val (o : O) : Value := .agg #[.int .i64 o.k, .int .i64 o.r, .int .i64 o.b, .int .i64 o.x, .int .i64 o.s, .bool o.rip, .bool o.fs, .int .i64 o.n, .string o.nm, .int .i64 o.m]

/-- An instruction. -/
structure I where
  op : Int
  sz : Int
  cd : Int
  to : O
  fr : O
  sh : Bool

abbrev I.val (i : I) : Value := .agg #[.int .i64 i.op, .int .i64 i.sz, .int .i64 i.cd,
  .int .i64 i.to.k, .int .i64 i.to.r, .int .i64 i.to.b, .int .i64 i.to.x, .int .i64 i.to.s, .bool i.to.rip, .bool i.to.fs, .int .i64 i.to.n, .string i.to.nm, .int .i64 i.to.m,
  .int .i64 i.fr.k, .int .i64 i.fr.r, .int .i64 i.fr.b, .int .i64 i.fr.x, .int .i64 i.fr.s, .bool i.fr.rip, .bool i.fr.fs, .int .i64 i.fr.n, .string i.fr.nm, .int .i64 i.fr.m, .bool i.sh]

/-- A row of the table. -/
structure Q where
  code : Int
  vr : Int
  o0 : Int
  o1 : Int
  o2 : Int
  o3 : Int
  o4 : Int
  o5 : Int
  o6 : Int
  o7 : Int
  size : Int
  bes : Int
  f : Nat

abbrev Q.val (q : Q) : Value := .agg #[.int .i64 q.code, .int .i64 q.vr, .int .u8 q.o0, .int .u8 q.o1, .int .u8 q.o2, .int .u8 q.o3, .int .u8 q.o4, .int .u8 q.o5, .int .u8 q.o6, .int .u8 q.o7, .int .i64 q.size, .int .i64 q.bes, .func (.func q.f) #[] #[]]

/-- A row, boxed. -/
abbrev Q.box (q : Q) : Obj := .cells #[.int .i64 q.code, .int .i64 q.vr, .int .u8 q.o0, .int .u8 q.o1, .int .u8 q.o2, .int .u8 q.o3, .int .u8 q.o4, .int .u8 q.o5, .int .u8 q.o6, .int .u8 q.o7, .int .i64 q.size, .int .i64 q.bes, .func (.func q.f) #[] #[]] 95

def zeroO : O := ⟨0, 0, 0, 0, 0, false, false, 0, ⟨#[]⟩, 0⟩
def zeroI : I := ⟨0, 0, 0, zeroO, zeroO, false⟩

theorem ret_int {k : IntKind} {a b : Int} (h : a = b) : Ending.returned (.int k a) = .returned (.int k b) := by rw [h]
theorem ret_bool {a b : Bool} (h : a = b) : Ending.returned (.bool a) = .returned (.bool b) := by rw [h]
theorem below_drewN {B : Nat} {a w : World} (h : Below B a w) (n : Nat) : Below B a (w.drewN n) := by
  induction n generalizing w with
  | zero => exact h
  | succ n ih => exact (ih h).drew
theorem bel_alloc {a w : World} (h : Below a.heap.size a w) (o : Obj) : Below a.heap.size a (w.alloc o) := h.alloc h.size o
theorem bel_trans {a v w : World} (h : Below a.heap.size a v) (g : Below v.heap.size v w) : Below a.heap.size a w := h.trans (g.mono h.size)
theorem to_bel {v u : World} (hb : Below v.heap.size v u) {a : Addr} {x : Value} (h : v.cell? a = some x) : u.cell? a = some x :=
  (hb.cell (World.block_lt_of_cell? v a h)).trans h
theorem fz_bel {v u : World} (hb : Below v.heap.size v u) {a : Addr} (hl : a.block < v.heap.size) (h : v.frozen? a = false) : u.frozen? a = false :=
  (hb.frozen hl).trans h

/-- What is kept out of the walk's sight. -/
structure Hid (p : Prop) : Prop where
  out : p

/-- Nothing but the blocks a and b has turned. -/
structure Fr (a b : Nat) (w w' : World) : Prop where
  os : w'.os = w.os
  tape : w'.tape = w.tape
  output : w'.output = w.output
  size : w.heap.size ≤ w'.heap.size
  block : ∀ k, k < w.heap.size → k ≠ a → k ≠ b → w'.heap[k]? = w.heap[k]?

theorem Fr.of {w w' : World} (h : Below w.heap.size w w') (a b : Nat) : Fr a b w w' := ⟨h.os, h.tape, h.output, h.size, fun k hk _ _ => h.block k hk⟩
theorem Fr.refl (a b : Nat) (w : World) : Fr a b w w := Fr.of (Below.refl _ _) a b
theorem Fr.trans {a b c d : Nat} {u v w : World} (h : Fr a b u v) (g : Fr c d v w) (hc : c = a ∨ c = b ∨ u.heap.size ≤ c) (hd : d = a ∨ d = b ∨ u.heap.size ≤ d) : Fr a b u w :=
  ⟨g.os.trans h.os, g.tape.trans h.tape, g.output.trans h.output, Nat.le_trans h.size g.size, fun k hk ha hb => by
    have := h.size
    rw [g.block k (by omega) (by omega) (by omega), h.block k hk ha hb]⟩
theorem Fr.then {a b : Nat} {u v w : World} (h : Fr a b u v) (g : Fr a b v w) : Fr a b u w := h.trans g (.inl rfl) (.inr (.inl rfl))
theorem Fr.wide {a b : Nat} {v w : World} (h : Fr a a v w) : Fr a b v w := ⟨h.os, h.tape, h.output, h.size, fun k hk ha _ => h.block k hk ha ha⟩
theorem Fr.bel {a b : Nat} {u v w : World} (h : Fr a b u v) (g : Below v.heap.size v w) : Fr a b u w := h.then (Fr.of g a b)
theorem Fr.alloc {a b : Nat} {u v : World} (h : Fr a b u v) (o : Obj) : Fr a b u (v.alloc o) := h.bel (bel_alloc (Below.refl _ _) o)
theorem Fr.drew {a b : Nat} {u v : World} (h : Fr a b u v) : Fr a b u v.drew := h.bel (Below.refl _ _).drew
theorem Fr.drewN {a b : Nat} {u v : World} (h : Fr a b u v) (n : Nat) : Fr a b u (v.drewN n) := h.bel (below_drewN (Below.refl _ _) n)
theorem Fr.set {a b : Nat} {u v : World} (h : Fr a b u v) {p : Addr} (hp : p.block = a ∨ p.block = b ∨ u.heap.size ≤ p.block) (x : Value) : Fr a b u (v.setCell p x) :=
  ⟨h.os, h.tape, h.output, by simpa [World.setCell] using h.size, fun k hk ha hb => by
    rw [Below.heap_setCell _ _ _ _ (by omega)]; exact h.block k hk ha hb⟩
theorem Fr.setA {a b : Nat} {u v : World} (h : Fr a b u v) (j : Nat) (x : Value) : Fr a b u (v.setCell ⟨a, j, none⟩ x) := h.set (p := ⟨a, j, none⟩) (.inl rfl) x
theorem Fr.setB {a b : Nat} {u v : World} (h : Fr a b u v) (j : Nat) (x : Value) : Fr a b u (v.setCell ⟨b, j, none⟩ x) := h.set (p := ⟨b, j, none⟩) (.inr (.inl rfl)) x
theorem Fr.setN {a b c : Nat} {u v : World} (hc : u.heap.size ≤ c) (h : Fr a b u v) (j : Nat) (x : Value) : Fr a b u (v.setCell ⟨c, j, none⟩ x) := h.set (p := ⟨c, j, none⟩) (.inr (.inr hc)) x
theorem Fr.below {a b B : Nat} {w w' : World} (h : Fr a b w w') (ha : B ≤ a) (hb : B ≤ b) (hB : B ≤ w.heap.size) : Below B w w' :=
  ⟨h.os, h.tape, h.output, h.size, fun k hk => h.block k (by omega) (by omega) (by omega)⟩
theorem Fr.cell {a b : Nat} {w w' : World} (h : Fr a b w w') {p : Addr} {x : Value} (hx : w.cell? p = some x) (ha : p.block ≠ a) (hb : p.block ≠ b) : w'.cell? p = some x :=
  (World.cell?_of_block (w := w) (h.block p.block (World.block_lt_of_cell? w p hx) ha hb)).trans hx
theorem Fr.frozen {a b : Nat} {w w' : World} (h : Fr a b w w') {p : Addr} (hl : p.block < w.heap.size) (ha : p.block ≠ a) (hb : p.block ≠ b) : w'.frozen? p = w.frozen? p :=
  World.frozen?_of_block (w := w) (h.block p.block hl ha hb)

/-- Bytes that lie in memory. -/
structure Ln where
  ao : Option Addr
  len : Nat
  cap : Nat
  bs : Nat → Int

/-- Bytes lie below block rb. -/
structure Lies (w : World) (rb : Nat) (L : Ln) : Prop where
  row : L.len = 0 ∨ ∃ b off, L.ao = some ⟨b, off, none⟩ ∧ b < rb ∧ ∀ i, i < L.len → w.cell? ⟨b, off + i, none⟩ = some (.int .u8 (L.bs i))
  byte : ∀ i, 0 ≤ L.bs i ∧ L.bs i < 256
  top : L.len ≤ 140737488355328

theorem Lies.fr {w w' : World} {rb : Nat} {L : Ln} (h : Lies w rb L) {a b : Nat} (g : Fr a b w w') (ha : rb ≤ a) (hb : rb ≤ b) : Lies w' rb L :=
  ⟨h.row.imp id fun ⟨c, off, e, hc, hr⟩ => ⟨c, off, e, hc, fun i hi => g.cell (hr i hi) (by show c ≠ a; omega) (by show c ≠ b; omega)⟩, h.byte, h.top⟩

/-- A reader lies in block rb: its bytes, where it is, and what it has read so far. -/
structure RS (w : World) (rb : Nat) (L : Ln) (a : Nat) (fs : Bool) (rex opc sz md rg rm : Int) : Prop where
  c0 : w.cell? ⟨rb, 0, none⟩ = some (.slice L.ao L.len L.cap)
  c1 : w.cell? ⟨rb, 1, none⟩ = some (.int .i64 a)
  c2 : w.cell? ⟨rb, 2, none⟩ = some (.bool fs)
  c3 : w.cell? ⟨rb, 3, none⟩ = some (.int .i64 rex)
  c4 : w.cell? ⟨rb, 4, none⟩ = some (.int .i64 opc)
  c5 : w.cell? ⟨rb, 5, none⟩ = some (.int .i64 sz)
  c6 : w.cell? ⟨rb, 6, none⟩ = some (.int .i64 md)
  c7 : w.cell? ⟨rb, 7, none⟩ = some (.int .i64 rg)
  c8 : w.cell? ⟨rb, 8, none⟩ = some (.int .i64 rm)
  fz : ∀ j, w.frozen? ⟨rb, j, none⟩ = false
  lies : Lies w rb L

theorem RS.lt {w : World} {rb : Nat} {L : Ln} {a : Nat} {fs : Bool} {rex opc sz md rg rm : Int} (h : RS w rb L a fs rex opc sz md rg rm) : rb < w.heap.size := World.block_lt_of_cell? w ⟨rb, 0, none⟩ h.c0
theorem RS.fr {w w' : World} {rb : Nat} {L : Ln} {a : Nat} {fs : Bool} {rex opc sz md rg rm : Int} (h : RS w rb L a fs rex opc sz md rg rm) {c d : Nat} (g : Fr c d w w') (hc : rb < c) (hd : rb < d) : RS w' rb L a fs rex opc sz md rg rm :=
  have n1 : rb ≠ c := by omega
  have n2 : rb ≠ d := by omega
  ⟨g.cell h.c0 n1 n2, g.cell h.c1 n1 n2, g.cell h.c2 n1 n2, g.cell h.c3 n1 n2, g.cell h.c4 n1 n2, g.cell h.c5 n1 n2, g.cell h.c6 n1 n2, g.cell h.c7 n1 n2, g.cell h.c8 n1 n2,
    fun j => (g.frozen h.lt n1 n2).trans (h.fz j), h.lies.fr g (by omega) (by omega)⟩
theorem RS.bel {w w' : World} {rb : Nat} {L : Ln} {a : Nat} {fs : Bool} {rex opc sz md rg rm : Int} (h : RS w rb L a fs rex opc sz md rg rm) (g : Below w.heap.size w w') : RS w' rb L a fs rex opc sz md rg rm :=
  h.fr (Fr.of g (rb + 1) (rb + 1)) (by omega) (by omega)
theorem RS.up {w : World} {rb : Nat} {L : Ln} {a : Nat} {fs : Bool} {rex opc sz md rg rm : Int} (h : RS w rb L a fs rex opc sz md rg rm) (o : Obj) : RS (w.alloc o) rb L a fs rex opc sz md rg rm := h.bel (bel_alloc (Below.refl _ _) o)
theorem RS.drew {w : World} {rb : Nat} {L : Ln} {a : Nat} {fs : Bool} {rex opc sz md rg rm : Int} (h : RS w rb L a fs rex opc sz md rg rm) : RS w.drew rb L a fs rex opc sz md rg rm := h.bel (Below.refl _ _).drew

theorem RS.set1 {w : World} {rb : Nat} {L : Ln} {a : Nat} {fs : Bool} {rex opc sz md rg rm : Int} (h : RS w rb L a fs rex opc sz md rg rm) (v : Int) (a' : Nat) (hv : v = (a' : Int)) : RS (w.setCell ⟨rb, 1, none⟩ (.int .i64 v)) rb L a' fs rex opc sz md rg rm := by
  have hl := h.lies.fr ((Fr.refl rb rb w).set (p := ⟨rb, 1, none⟩) (.inl rfl) (.int .i64 v)) (Nat.le_refl _) (Nat.le_refl _)
  obtain ⟨c0, c1, c2, c3, c4, c5, c6, c7, c8, fz, lies⟩ := h
  subst hv
  refine ⟨?_, ?_, ?_, ?_, ?_, ?_, ?_, ?_, ?_, fun j => (World.frozen?_setCell _ _ _ _).trans (fz j), hl⟩ <;> simp [go_sem, c0, c1, c2, c3, c4, c5, c6, c7, c8]
theorem RS.set2 {w : World} {rb : Nat} {L : Ln} {a : Nat} {fs : Bool} {rex opc sz md rg rm : Int} (h : RS w rb L a fs rex opc sz md rg rm) (fs' : Bool) : RS (w.setCell ⟨rb, 2, none⟩ (.bool fs')) rb L a fs' rex opc sz md rg rm := by
  have hl := h.lies.fr ((Fr.refl rb rb w).set (p := ⟨rb, 2, none⟩) (.inl rfl) (.bool fs')) (Nat.le_refl _) (Nat.le_refl _)
  obtain ⟨c0, c1, c2, c3, c4, c5, c6, c7, c8, fz, lies⟩ := h
  refine ⟨?_, ?_, ?_, ?_, ?_, ?_, ?_, ?_, ?_, fun j => (World.frozen?_setCell _ _ _ _).trans (fz j), hl⟩ <;> simp [go_sem, c0, c1, c2, c3, c4, c5, c6, c7, c8]
theorem RS.set3 {w : World} {rb : Nat} {L : Ln} {a : Nat} {fs : Bool} {rex opc sz md rg rm : Int} (h : RS w rb L a fs rex opc sz md rg rm) (rex' : Int) : RS (w.setCell ⟨rb, 3, none⟩ (.int .i64 rex')) rb L a fs rex' opc sz md rg rm := by
  have hl := h.lies.fr ((Fr.refl rb rb w).set (p := ⟨rb, 3, none⟩) (.inl rfl) (.int .i64 rex')) (Nat.le_refl _) (Nat.le_refl _)
  obtain ⟨c0, c1, c2, c3, c4, c5, c6, c7, c8, fz, lies⟩ := h
  refine ⟨?_, ?_, ?_, ?_, ?_, ?_, ?_, ?_, ?_, fun j => (World.frozen?_setCell _ _ _ _).trans (fz j), hl⟩ <;> simp [go_sem, c0, c1, c2, c3, c4, c5, c6, c7, c8]
theorem RS.set4 {w : World} {rb : Nat} {L : Ln} {a : Nat} {fs : Bool} {rex opc sz md rg rm : Int} (h : RS w rb L a fs rex opc sz md rg rm) (opc' : Int) : RS (w.setCell ⟨rb, 4, none⟩ (.int .i64 opc')) rb L a fs rex opc' sz md rg rm := by
  have hl := h.lies.fr ((Fr.refl rb rb w).set (p := ⟨rb, 4, none⟩) (.inl rfl) (.int .i64 opc')) (Nat.le_refl _) (Nat.le_refl _)
  obtain ⟨c0, c1, c2, c3, c4, c5, c6, c7, c8, fz, lies⟩ := h
  refine ⟨?_, ?_, ?_, ?_, ?_, ?_, ?_, ?_, ?_, fun j => (World.frozen?_setCell _ _ _ _).trans (fz j), hl⟩ <;> simp [go_sem, c0, c1, c2, c3, c4, c5, c6, c7, c8]
theorem RS.set5 {w : World} {rb : Nat} {L : Ln} {a : Nat} {fs : Bool} {rex opc sz md rg rm : Int} (h : RS w rb L a fs rex opc sz md rg rm) (sz' : Int) : RS (w.setCell ⟨rb, 5, none⟩ (.int .i64 sz')) rb L a fs rex opc sz' md rg rm := by
  have hl := h.lies.fr ((Fr.refl rb rb w).set (p := ⟨rb, 5, none⟩) (.inl rfl) (.int .i64 sz')) (Nat.le_refl _) (Nat.le_refl _)
  obtain ⟨c0, c1, c2, c3, c4, c5, c6, c7, c8, fz, lies⟩ := h
  refine ⟨?_, ?_, ?_, ?_, ?_, ?_, ?_, ?_, ?_, fun j => (World.frozen?_setCell _ _ _ _).trans (fz j), hl⟩ <;> simp [go_sem, c0, c1, c2, c3, c4, c5, c6, c7, c8]
theorem RS.set6 {w : World} {rb : Nat} {L : Ln} {a : Nat} {fs : Bool} {rex opc sz md rg rm : Int} (h : RS w rb L a fs rex opc sz md rg rm) (md' : Int) : RS (w.setCell ⟨rb, 6, none⟩ (.int .i64 md')) rb L a fs rex opc sz md' rg rm := by
  have hl := h.lies.fr ((Fr.refl rb rb w).set (p := ⟨rb, 6, none⟩) (.inl rfl) (.int .i64 md')) (Nat.le_refl _) (Nat.le_refl _)
  obtain ⟨c0, c1, c2, c3, c4, c5, c6, c7, c8, fz, lies⟩ := h
  refine ⟨?_, ?_, ?_, ?_, ?_, ?_, ?_, ?_, ?_, fun j => (World.frozen?_setCell _ _ _ _).trans (fz j), hl⟩ <;> simp [go_sem, c0, c1, c2, c3, c4, c5, c6, c7, c8]
theorem RS.set7 {w : World} {rb : Nat} {L : Ln} {a : Nat} {fs : Bool} {rex opc sz md rg rm : Int} (h : RS w rb L a fs rex opc sz md rg rm) (rg' : Int) : RS (w.setCell ⟨rb, 7, none⟩ (.int .i64 rg')) rb L a fs rex opc sz md rg' rm := by
  have hl := h.lies.fr ((Fr.refl rb rb w).set (p := ⟨rb, 7, none⟩) (.inl rfl) (.int .i64 rg')) (Nat.le_refl _) (Nat.le_refl _)
  obtain ⟨c0, c1, c2, c3, c4, c5, c6, c7, c8, fz, lies⟩ := h
  refine ⟨?_, ?_, ?_, ?_, ?_, ?_, ?_, ?_, ?_, fun j => (World.frozen?_setCell _ _ _ _).trans (fz j), hl⟩ <;> simp [go_sem, c0, c1, c2, c3, c4, c5, c6, c7, c8]
theorem RS.set8 {w : World} {rb : Nat} {L : Ln} {a : Nat} {fs : Bool} {rex opc sz md rg rm : Int} (h : RS w rb L a fs rex opc sz md rg rm) (rm' : Int) : RS (w.setCell ⟨rb, 8, none⟩ (.int .i64 rm')) rb L a fs rex opc sz md rg rm' := by
  have hl := h.lies.fr ((Fr.refl rb rb w).set (p := ⟨rb, 8, none⟩) (.inl rfl) (.int .i64 rm')) (Nat.le_refl _) (Nat.le_refl _)
  obtain ⟨c0, c1, c2, c3, c4, c5, c6, c7, c8, fz, lies⟩ := h
  refine ⟨?_, ?_, ?_, ?_, ?_, ?_, ?_, ?_, ?_, fun j => (World.frozen?_setCell _ _ _ _).trans (fz j), hl⟩ <;> simp [go_sem, c0, c1, c2, c3, c4, c5, c6, c7, c8]

theorem RS.drewN {w : World} {rb : Nat} {L : Ln} {a : Nat} {fs : Bool} {rex opc sz md rg rm : Int} (h : RS w rb L a fs rex opc sz md rg rm) (n : Nat) : RS (w.drewN n) rb L a fs rex opc sz md rg rm := h.bel (below_drewN (Below.refl _ _) n)

/-- The panic with an error's number. -/
abbrev bad (n : Int) : Ending := .panicked [{ v := .iface 24 (.int .i64 n), recovered := false }]

/-- How a call ends that may give up. -/
def Ends (m : Except Int Value) (e : Ending) : Prop :=
  match m with
  | .ok v => e = .returned v
  | .error n => e = bad n
/-- How a call ends that may give up, and goes on in its bytes. -/
def Ends2 {α : Type} (m : Except Int (α × Nat)) (val : α → Value) (R : Nat → Prop) (e : Ending) : Prop :=
  match m with
  | .ok (x, a) => e = .returned (val x) ∧ R a
  | .error n => e = bad n
/-- Go on only if this holds. -/
def must {α : Type} (b : Bool) (k : Except Int α) : Except Int α := if b then k else .error 30
theorem must_true {α : Type} (k : Except Int α) : must true k = k := rfl
theorem must_false {α : Type} (k : Except Int α) : must false k = .error 30 := rfl
end Go.Proofs.Ytjbepojopfbajaa
