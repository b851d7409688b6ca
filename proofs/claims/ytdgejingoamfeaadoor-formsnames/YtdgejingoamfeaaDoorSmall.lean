/- The contracts of package forms' small calls. -/
import Derived.Test.YtdgejingoamfeaaDoorPlain
import Derived.WalkKit
import Derived.ProofKit
import Derived.Below
import Derived.Laws.BitsAllLaws
import Derived.Laws.StructEq
import Derived.LoopN
import Derived.WalkLawsBesides
namespace Go.Proofs.YtdgejingoamfeaaDoor
open Go.ChangeShapes Go.WideShapes Go.ChangeAt Go.RowKit
set_option linter.unusedVariables false

theorem bcell {W w1 : World} (hb : Below W.heap.size W w1) : (∀ b o, b < W.heap.size → w1.cell? ⟨b, o, none⟩ = W.cell? ⟨b, o, none⟩) ∧ (∀ b o, b < W.heap.size → w1.frozen? ⟨b, o, none⟩ = W.frozen? ⟨b, o, none⟩) :=
  ⟨fun b o h => hb.cell (p := ⟨b, o, none⟩) h, fun b o h => hb.frozen (p := ⟨b, o, none⟩) h⟩
theorem ret_int {k : IntKind} {a b : Int} (h : a = b) : Ending.returned (.int k a) = .returned (.int k b) := by rw [h]
theorem ret_bool {a b : Bool} (h : a = b) : Ending.returned (.bool a) = .returned (.bool b) := by rw [h]
theorem ret_str {a b : ByteArray} (h : a = b) : Ending.returned (.string a) = .returned (.string b) := by rw [h]
theorem below_drewN {B : Nat} {a w : World} (h : Below B a w) (n : Nat) : Below B a (w.drewN n) := by
  induction n generalizing w with
  | zero => exact h
  | succ n ih => exact (ih h).drew
theorem bel_alloc {a w : World} (h : Below a.heap.size a w) (o : Obj) : Below a.heap.size a (w.alloc o) := h.alloc h.size o
theorem bel_trans {a v w : World} (h : Below a.heap.size a v) (g : Below v.heap.size v w) : Below a.heap.size a w := h.trans (g.mono h.size)
theorem up_alloc {v : World} {a : Addr} {x : Value} (h : v.cell? a = some x) (o : Obj) : (v.alloc o).cell? a = some x := by
  rw [World.cell?_alloc_lt _ _ _ (World.block_lt_of_cell? v a h), h]
theorem up_drew {v : World} {a : Addr} {x : Value} (h : v.cell? a = some x) : v.drew.cell? a = some x := h
theorem up_set {v : World} {a : Addr} {x : Value} (h : v.cell? a = some x) {p : Addr} {u : Value} (hp : a.block ≠ p.block) : (v.setCell p u).cell? a = some x := by
  have e := Below.heap_setCell v p u a.block hp
  unfold World.cell? at h ⊢
  rw [e]; exact h
theorem to_bel {v u : World} (hb : Below v.heap.size v u) {a : Addr} {x : Value} (h : v.cell? a = some x) : u.cell? a = some x :=
  (hb.cell (World.block_lt_of_cell? v a h)).trans h
theorem fz_bel {v u : World} (hb : Below v.heap.size v u) {a : Addr} (hl : a.block < v.heap.size) (h : v.frozen? a = false) : u.frozen? a = false :=
  (hb.frozen hl).trans h

/-- What is kept out of the walk's sight. -/
structure Hid (p : Prop) : Prop where
  out : p

/-- The tables that lie in memory. -/
def regL : List ByteArray := [
  ⟨#[114, 97, 120]⟩, ⟨#[101, 97, 120]⟩, ⟨#[97, 108]⟩, ⟨#[114, 99, 120]⟩, ⟨#[101, 99, 120]⟩, ⟨#[99, 108]⟩, ⟨#[114, 100, 120]⟩, ⟨#[101, 100, 120]⟩, ⟨#[100, 108]⟩, ⟨#[114, 98, 120]⟩, ⟨#[101, 98, 120]⟩, ⟨#[98, 108]⟩,
  ⟨#[114, 115, 112]⟩, ⟨#[101, 115, 112]⟩, ⟨#[115, 112, 108]⟩, ⟨#[114, 98, 112]⟩, ⟨#[101, 98, 112]⟩, ⟨#[98, 112, 108]⟩, ⟨#[114, 115, 105]⟩, ⟨#[101, 115, 105]⟩, ⟨#[115, 105, 108]⟩, ⟨#[114, 100, 105]⟩, ⟨#[101, 100, 105]⟩, ⟨#[100, 105, 108]⟩,
  ⟨#[114, 56]⟩, ⟨#[114, 56, 100]⟩, ⟨#[114, 56, 98]⟩, ⟨#[114, 57]⟩, ⟨#[114, 57, 100]⟩, ⟨#[114, 57, 98]⟩, ⟨#[114, 49, 48]⟩, ⟨#[114, 49, 48, 100]⟩, ⟨#[114, 49, 48, 98]⟩, ⟨#[114, 49, 49]⟩, ⟨#[114, 49, 49, 100]⟩, ⟨#[114, 49, 49, 98]⟩,
  ⟨#[114, 49, 50]⟩, ⟨#[114, 49, 50, 100]⟩, ⟨#[114, 49, 50, 98]⟩, ⟨#[114, 49, 51]⟩, ⟨#[114, 49, 51, 100]⟩, ⟨#[114, 49, 51, 98]⟩, ⟨#[114, 49, 52]⟩, ⟨#[114, 49, 52, 100]⟩, ⟨#[114, 49, 52, 98]⟩, ⟨#[114, 49, 53]⟩, ⟨#[114, 49, 53, 100]⟩, ⟨#[114, 49, 53, 98]⟩]
def condL : List ByteArray := [⟨#[111]⟩, ⟨#[110, 111]⟩, ⟨#[98]⟩, ⟨#[97, 101]⟩, ⟨#[101]⟩, ⟨#[110, 101]⟩, ⟨#[98, 101]⟩, ⟨#[97]⟩, ⟨#[115]⟩, ⟨#[110, 115]⟩, ⟨#[112]⟩, ⟨#[110, 112]⟩, ⟨#[108]⟩, ⟨#[103, 101]⟩, ⟨#[108, 101]⟩, ⟨#[103]⟩]
def modL : List ByteArray := [⟨#[]⟩, ⟨#[64, 112, 108, 116]⟩, ⟨#[64, 103, 111, 116, 112, 99, 114, 101, 108]⟩, ⟨#[64, 103, 111, 116, 116, 112, 111, 102, 102]⟩, ⟨#[64, 116, 112, 111, 102, 102]⟩, ⟨#[64, 100, 116, 112, 111, 102, 102]⟩]

structure Gl (w : World) : Prop where
  z : 8 ≤ w.heap.size
  regs : ∀ j, j < 48 → w.cell? ⟨0, j, none⟩ = some (.string (regL.getD j ⟨#[]⟩))
  w0 : w.cell? ⟨1, 0, none⟩ = some (.int .i64 8)
  w1 : w.cell? ⟨1, 1, none⟩ = some (.string ⟨#[113]⟩)
  w2 : w.cell? ⟨1, 2, none⟩ = some (.int .i64 4)
  w3 : w.cell? ⟨1, 3, none⟩ = some (.string ⟨#[108]⟩)
  w4 : w.cell? ⟨1, 4, none⟩ = some (.int .i64 1)
  w5 : w.cell? ⟨1, 5, none⟩ = some (.string ⟨#[98]⟩)
  conds : ∀ j, j < 16 → w.cell? ⟨2, j, none⟩ = some (.string (condL.getD j ⟨#[]⟩))
  mods : ∀ j, j < 6 → w.cell? ⟨3, j, none⟩ = some (.string (modL.getD j ⟨#[]⟩))
  pows : ∀ j, j < 20 → w.cell? ⟨4, j, none⟩ = some (.int .u64 (10 ^ j))

theorem Gl.bel {w w' : World} (h : Gl w) (hb : Below w.heap.size w w') : Gl w' :=
  ⟨Nat.le_trans h.z hb.size, fun j hj => to_bel hb (h.regs j hj), to_bel hb h.w0, to_bel hb h.w1, to_bel hb h.w2, to_bel hb h.w3, to_bel hb h.w4, to_bel hb h.w5,
    fun j hj => to_bel hb (h.conds j hj), fun j hj => to_bel hb (h.mods j hj), fun j hj => to_bel hb (h.pows j hj)⟩
theorem Gl.alloc {w : World} (h : Gl w) (o : Obj) : Gl (w.alloc o) := h.bel (bel_alloc (Below.refl _ _) o)

/-- An operand lies in a block. -/
structure OA (w : World) (b : Nat) (o : O) : Prop where
  c0 : w.cell? ⟨b, 0, none⟩ = some (.int .i64 o.k)
  c1 : w.cell? ⟨b, 1, none⟩ = some (.int .i64 o.r)
  c2 : w.cell? ⟨b, 2, none⟩ = some (.int .i64 o.b)
  c3 : w.cell? ⟨b, 3, none⟩ = some (.int .i64 o.x)
  c4 : w.cell? ⟨b, 4, none⟩ = some (.int .i64 o.s)
  c5 : w.cell? ⟨b, 5, none⟩ = some (.bool o.rip)
  c6 : w.cell? ⟨b, 6, none⟩ = some (.bool o.fs)
  c7 : w.cell? ⟨b, 7, none⟩ = some (.int .i64 o.n)
  c8 : w.cell? ⟨b, 8, none⟩ = some (.string o.nm)
  c9 : w.cell? ⟨b, 9, none⟩ = some (.int .i64 o.m)
theorem OA.bel {w v : World} {b : Nat} {o : O} (h : OA w b o) (hb : Below w.heap.size w v) : OA v b o :=
  ⟨to_bel hb h.c0, to_bel hb h.c1, to_bel hb h.c2, to_bel hb h.c3, to_bel hb h.c4, to_bel hb h.c5, to_bel hb h.c6, to_bel hb h.c7, to_bel hb h.c8, to_bel hb h.c9⟩
theorem OA.new (w : World) (o : O) (t : Nat) : OA (w.alloc (.cells #[.int .i64 o.k, .int .i64 o.r, .int .i64 o.b, .int .i64 o.x, .int .i64 o.s, .bool o.rip, .bool o.fs, .int .i64 o.n, .string o.nm, .int .i64 o.m] t)) w.heap.size o := by
  constructor <;> simp
theorem OA.up {w : World} {b : Nat} {o : O} (h : OA w b o) (x : Obj) : OA (w.alloc x) b o := h.bel (bel_alloc (Below.refl _ _) x)

/-- An instruction lies in a block. -/
structure IA (w : World) (b : Nat) (i : I) : Prop where
  c0 : w.cell? ⟨b, 0, none⟩ = some (.int .i64 i.op)
  c1 : w.cell? ⟨b, 1, none⟩ = some (.int .i64 i.sz)
  c2 : w.cell? ⟨b, 2, none⟩ = some (.int .i64 i.cd)
  c3 : w.cell? ⟨b, 3, none⟩ = some (.int .i64 i.to.k)
  c4 : w.cell? ⟨b, 4, none⟩ = some (.int .i64 i.to.r)
  c5 : w.cell? ⟨b, 5, none⟩ = some (.int .i64 i.to.b)
  c6 : w.cell? ⟨b, 6, none⟩ = some (.int .i64 i.to.x)
  c7 : w.cell? ⟨b, 7, none⟩ = some (.int .i64 i.to.s)
  c8 : w.cell? ⟨b, 8, none⟩ = some (.bool i.to.rip)
  c9 : w.cell? ⟨b, 9, none⟩ = some (.bool i.to.fs)
  c10 : w.cell? ⟨b, 10, none⟩ = some (.int .i64 i.to.n)
  c11 : w.cell? ⟨b, 11, none⟩ = some (.string i.to.nm)
  c12 : w.cell? ⟨b, 12, none⟩ = some (.int .i64 i.to.m)
  c13 : w.cell? ⟨b, 13, none⟩ = some (.int .i64 i.fr.k)
  c14 : w.cell? ⟨b, 14, none⟩ = some (.int .i64 i.fr.r)
  c15 : w.cell? ⟨b, 15, none⟩ = some (.int .i64 i.fr.b)
  c16 : w.cell? ⟨b, 16, none⟩ = some (.int .i64 i.fr.x)
  c17 : w.cell? ⟨b, 17, none⟩ = some (.int .i64 i.fr.s)
  c18 : w.cell? ⟨b, 18, none⟩ = some (.bool i.fr.rip)
  c19 : w.cell? ⟨b, 19, none⟩ = some (.bool i.fr.fs)
  c20 : w.cell? ⟨b, 20, none⟩ = some (.int .i64 i.fr.n)
  c21 : w.cell? ⟨b, 21, none⟩ = some (.string i.fr.nm)
  c22 : w.cell? ⟨b, 22, none⟩ = some (.int .i64 i.fr.m)
  c23 : w.cell? ⟨b, 23, none⟩ = some (.bool i.sh)
theorem IA.bel {w v : World} {b : Nat} {i : I} (h : IA w b i) (hb : Below w.heap.size w v) : IA v b i :=
  ⟨to_bel hb h.c0, to_bel hb h.c1, to_bel hb h.c2, to_bel hb h.c3, to_bel hb h.c4, to_bel hb h.c5, to_bel hb h.c6, to_bel hb h.c7, to_bel hb h.c8, to_bel hb h.c9, to_bel hb h.c10, to_bel hb h.c11, to_bel hb h.c12,
    to_bel hb h.c13, to_bel hb h.c14, to_bel hb h.c15, to_bel hb h.c16, to_bel hb h.c17, to_bel hb h.c18, to_bel hb h.c19, to_bel hb h.c20, to_bel hb h.c21, to_bel hb h.c22, to_bel hb h.c23⟩
theorem IA.new (w : World) (i : I) (t : Nat) : IA (w.alloc (.cells #[.int .i64 i.op, .int .i64 i.sz, .int .i64 i.cd,
  .int .i64 i.to.k, .int .i64 i.to.r, .int .i64 i.to.b, .int .i64 i.to.x, .int .i64 i.to.s, .bool i.to.rip, .bool i.to.fs, .int .i64 i.to.n, .string i.to.nm, .int .i64 i.to.m,
  .int .i64 i.fr.k, .int .i64 i.fr.r, .int .i64 i.fr.b, .int .i64 i.fr.x, .int .i64 i.fr.s, .bool i.fr.rip, .bool i.fr.fs, .int .i64 i.fr.n, .string i.fr.nm, .int .i64 i.fr.m, .bool i.sh] t)) w.heap.size i := by
  constructor <;> simp
theorem IA.up {w : World} {b : Nat} {i : I} (h : IA w b i) (x : Obj) : IA (w.alloc x) b i := h.bel (bel_alloc (Below.refl _ _) x)

/-- A row of the table lies in a block. -/
structure RA (w : World) (b : Nat) (r : R) : Prop where
  c0 : w.cell? ⟨b, 0, none⟩ = some (.string r.stem)
  c1 : w.cell? ⟨b, 1, none⟩ = some (.int .i64 r.sizes)
  c2 : w.cell? ⟨b, 2, none⟩ = some (.bool r.lettered)
  c3 : w.cell? ⟨b, 3, none⟩ = some (.bool r.conditional)
  c4 : w.cell? ⟨b, 4, none⟩ = some (.bool r.short)
  c5 : w.cell? ⟨b, 5, none⟩ = some (.func (.func r.f) #[] #[])
  c6 : w.cell? ⟨b, 6, none⟩ = some (.int .i64 r.to)
  c7 : w.cell? ⟨b, 7, none⟩ = some (.int .i64 r.uses)
  c8 : w.cell? ⟨b, 8, none⟩ = some (.int .i64 r.sets)
theorem RA.bel {w v : World} {b : Nat} {r : R} (h : RA w b r) (hb : Below w.heap.size w v) : RA v b r :=
  ⟨to_bel hb h.c0, to_bel hb h.c1, to_bel hb h.c2, to_bel hb h.c3, to_bel hb h.c4, to_bel hb h.c5, to_bel hb h.c6, to_bel hb h.c7, to_bel hb h.c8⟩
theorem RA.new (w : World) (r : R) (t : Nat) : RA (w.alloc (.cells #[.string r.stem, .int .i64 r.sizes, .bool r.lettered, .bool r.conditional, .bool r.short, .func (.func r.f) #[] #[], .int .i64 r.to, .int .i64 r.uses, .int .i64 r.sets] t)) w.heap.size r := by
  constructor <;> simp
theorem RA.up {w : World} {b : Nat} {r : R} (h : RA w b r) (x : Obj) : RA (w.alloc x) b r := h.bel (bel_alloc (Below.refl _ _) x)

theorem num_any (n : Int) (w : World) :
    Calls Tryd.prog 11 #[.int .i64 n] w fun e w' => e = .returned (.int .i64 n) ∧ w' = w := by
  go_enter Tryd.func11, Tryd.ntmps11
  go_wp2
  go_ret
  exact ⟨rfl, rfl⟩

theorem within_any (n lo hi : Int) (w : World) :
    Calls Tryd.prog 59 #[.int .i64 n, .int .i64 lo, .int .i64 hi] w fun e w' => e = .returned (.bool (withinB n lo hi)) ∧ w' = w := by
  cases h : decide (lo ≤ n)
  all_goals
    go_enter Tryd.func59, Tryd.ntmps59
    go_wp2
    go_ret
    exact ⟨ret_bool (by simp [withinB, h]), rfl⟩

theorem isReg_any (n : Int) (w : World) :
    Calls Tryd.prog 44 #[.int .i64 n] w fun e w' => e = .returned (.bool (isRegB n)) ∧ w' = w := by
  go_enter Tryd.func44, Tryd.ntmps44
  go_wp2_with (go_at_call 59; refine (within_any _ _ _ _).mono ?_; rintro e w1 ⟨rfl, rfl⟩)
  go_ret
  exact ⟨rfl, rfl⟩

theorem fitsS_any (n : Int) (w : World) :
    Calls Tryd.prog 86 #[.int .i64 n] w fun e w' => e = .returned (.bool (fitsSB n)) ∧ w' = w := by
  go_enter Tryd.func86, Tryd.ntmps86
  go_wp2_with (go_at_call 59; refine (within_any _ _ _ _).mono ?_; rintro e w1 ⟨rfl, rfl⟩)
  go_ret
  exact ⟨rfl, rfl⟩

theorem fits_any (n s : Int) (w : World) :
    Calls Tryd.prog 96 #[.int .i64 n, .int .i64 s] w fun e w' => e = .returned (.bool (fitsB n s)) ∧ w' = w := by
  cases h1 : (s == 1) <;> cases h4 : (s == 4)
  all_goals
    go_enter Tryd.func96, Tryd.ntmps96
    go_wp2_with (first | (go_at_call 59; refine (within_any _ _ _ _).mono ?_; rintro e w1 ⟨rfl, rfl⟩) | (go_at_call 86; refine (fitsS_any _ _).mono ?_; rintro e w1 ⟨rfl, rfl⟩))
    go_ret
    exact ⟨ret_bool (by simp at h1 h4; simp [fitsB, h1, h4]), rfl⟩

theorem isPlace_any (o : O) (w : World) :
    Calls Tryd.prog 51 #[o.val] w fun e w' => e = .returned (.bool (isPlaceB o)) ∧ Below w.heap.size w w' := by
  unfold O.val
  cases h1 : (o.k == 1)
  all_goals
    go_enter Tryd.func51, Tryd.ntmps51
    go_wp2
    go_ret
    exact ⟨ret_bool (by simp [isPlaceB, h1]), bel_alloc (Below.refl _ _) _⟩
end Go.Proofs.YtdgejingoamfeaaDoor
