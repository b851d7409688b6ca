/- What relocations are worth, plainly. -/
import Derived.Test.YtjbepojopfbajaaRows
import Derived.WalkKit
import Derived.ProofKit
import Derived.Below
import Derived.Laws.BitsAllLaws
import Derived.Laws.StructEq
import Derived.LoopN
import Derived.WalkLawsBesides
import Derived.BigQuiet
import Derived.Outline
import Derived.Laws.Tables
import Derived.Laws.Rows
import Derived.Deep.WholeRow
import Derived.Deep.CutRange
namespace Go.Proofs.Ytjbepojopfbajaa
open Go.ChangeShapes Go.WideShapes Go.ChangeAt Go.RowKit
set_option linter.unusedVariables false
set_option linter.unusedSimpArgs false

/-- What is kept out of the walk's sight. -/
structure Hd (p : Prop) : Prop where
  out : p
/-- A place. -/
structure Pl where
  s : Int
  a : Int
  p : Int
  g : Int
  t : Int
abbrev Pl.val (x : Pl) : Value := .agg #[.int .i64 x.s, .int .i64 x.a, .int .i64 x.p, .int .i64 x.g, .int .i64 x.t]
def farB (n : Int) : Bool := decide (n < -1152921504606846976) || decide (1152921504606846976 < n)
def Pl.okB (x : Pl) : Bool := !farB x.s && !farB x.a && !farB x.p && !farB x.g && !farB x.t
/-- A kind: the functions' numbers; 0: none. -/
structure Kd where
  nm : ByteArray
  sz : Int
  v : Nat
  f : Nat
def Kd.zero : Kd := ⟨⟨#[]⟩, 0, 0, 0⟩
def fnV (n : Nat) : Value := if n = 0 then .nilFunc else .func (.func n) #[] #[]
def Kd.cells (k : Kd) : List Value := [.string k.nm, .int .i64 k.sz, fnV k.v, fnV k.f]
def Kd.val (k : Kd) : Value := .agg k.cells.toArray
def kdsL : List Kd := [
  ⟨⟨#[78, 79, 78, 69]⟩, 0, 0, 0⟩,
  ⟨⟨#[54, 52]⟩, 8, 57, 58⟩,
  ⟨⟨#[80, 67, 51, 50]⟩, 4, 59, 60⟩,
  Kd.zero,
  ⟨⟨#[80, 76, 84, 51, 50]⟩, 4, 59, 60⟩,
  Kd.zero,
  ⟨⟨#[71, 76, 79, 66, 95, 68, 65, 84]⟩, 0, 0, 0⟩,
  Kd.zero,
  ⟨⟨#[82, 69, 76, 65, 84, 73, 86, 69]⟩, 0, 0, 0⟩,
  ⟨⟨#[71, 79, 84, 80, 67, 82, 69, 76]⟩, 4, 61, 60⟩,
  ⟨⟨#[51, 50]⟩, 4, 57, 62⟩,
  ⟨⟨#[51, 50, 83]⟩, 4, 57, 60⟩,
  Kd.zero, Kd.zero, Kd.zero, Kd.zero, Kd.zero, Kd.zero, Kd.zero,
  ⟨⟨#[84, 76, 83, 71, 68]⟩, 0, 0, 0⟩,
  ⟨⟨#[84, 76, 83, 76, 68]⟩, 0, 0, 0⟩,
  ⟨⟨#[68, 84, 80, 79, 70, 70, 51, 50]⟩, 4, 63, 60⟩,
  ⟨⟨#[71, 79, 84, 84, 80, 79, 70, 70]⟩, 4, 61, 60⟩,
  ⟨⟨#[84, 80, 79, 70, 70, 51, 50]⟩, 4, 63, 60⟩,
  Kd.zero, Kd.zero, Kd.zero, Kd.zero, Kd.zero, Kd.zero, Kd.zero, Kd.zero, Kd.zero, Kd.zero, Kd.zero, Kd.zero, Kd.zero,
  ⟨⟨#[73, 82, 69, 76, 65, 84, 73, 86, 69]⟩, 0, 0, 0⟩]
theorem kds_len : kdsL.length = 38 := by kernel_rfl
def kdOf (t : Int) : Kd := if t < 0 ∨ 38 ≤ t then Kd.zero else kdsL.getD t.toNat Kd.zero
def tabK : Array Value := (kdsL.flatMap Kd.cells).toArray
/-- Those of the numbers that a type may have. -/
theorem kd_cases (p : Int → Kd → Prop) (h0 : ∀ t, kdOf t = Kd.zero → p t Kd.zero) (h : ∀ t : Nat, t < 38 → p t (kdsL.getD t Kd.zero)) : ∀ t, p t (kdOf t) := by
  intro t
  by_cases e : t < 0 ∨ 38 ≤ t
  · have : kdOf t = Kd.zero := if_pos e
    rw [this]; exact h0 t this
  · have : kdOf t = kdsL.getD t.toNat Kd.zero := if_neg e
    rw [this]
    have h2 := h t.toNat (by omega)
    rwa [show ((t.toNat : Nat) : Int) = t by omega] at h2
theorem flat4 : ∀ (l : List Kd) (k j : Nat) (q : Kd), j < 4 → l[k]? = some q → (l.flatMap Kd.cells)[k * 4 + j]? = q.cells[j]?
  | [], k, j, q, _, h => by simp at h
  | x :: l, 0, j, q, hj, h => by
    simp at h; subst h
    rw [List.flatMap_cons, List.getElem?_append_left (by simp [Kd.cells]; omega)]; simp
  | x :: l, k + 1, j, q, hj, h => by
    rw [List.flatMap_cons, List.getElem?_append_right (by simp [Kd.cells]; omega)]
    have : (k + 1) * 4 + j - x.cells.length = k * 4 + j := by simp [Kd.cells]; omega
    rw [this]
    exact flat4 l k j q hj (by simpa using h)
theorem tabK_at (k : Nat) (hk : k < 38) (j : Nat) (hj : j < 4) : tabK[k * 4 + j]? = (kdsL.getD k Kd.zero).cells[j]? := by
  have hl : k < kdsL.length := by rw [kds_len]; exact hk
  have h := flat4 kdsL k j (kdsL.getD k Kd.zero) hj (by rw [List.getD_eq_getElem?_getD, List.getElem?_eq_getElem hl]; rfl)
  rw [← h]
  simp [tabK]
theorem wpList_buildV {P : Program} {ops : Array Oper} {rest : List Oper} {o : Oper} {a : Act} {w : World} {Q : Exit → Act → World → Prop} (hg : o.guard = none) (t : TypeId) (parts : Array (Nat × Operand)) (ho : o.op = .build t parts) (cells : Array Value)
    (hf : P.built t (parts.map fun (i, x) => (i, a.eval x)).toList = some cells)
    (h : wpList P ops Q rest (a.put o.dst (.agg cells)) w) : wpList P ops Q (o :: rest) a w :=
  wpList_build hg t parts ho (by rw [hf]; rfl) (by rw [hf]; exact h)
theorem vb_alloc {a w : World} (h : Below a.heap.size a w) (o : Obj) : Below a.heap.size a (w.alloc o) := h.alloc h.size o
def rowK (k : Nat) : Array Value := (kdsL.getD k Kd.zero).cells.toArray

set_option maxHeartbeats 8000000 in
theorem kinds_any (w : World) :
    Calls Try.prog 41 #[] w fun e w' => e = .returned (.agg tabK) ∧ Below w.heap.size w w' := by
  go_enter Try.func41, Try.ntmps41
  go_upto_region 1 with (fail)
  have h0 := heap_alloc_last w (.cells Try.zeroCells80 80)
  have hB : Below w.heap.size w (w.alloc (.cells Try.zeroCells80 80)) := vb_alloc (Below.refl _ _) _
  generalize w.alloc (.cells Try.zeroCells80 80) = W at *
  iterate 1 go_step
  refine wpList_buildV rfl _ _ rfl (rowK 0) (by kernel_rfl) ?_
  refine wpList_buildV rfl _ _ rfl (rowK 1) (by kernel_rfl) ?_
  refine wpList_buildV rfl _ _ rfl (rowK 2) (by kernel_rfl) ?_
  refine wpList_buildV rfl _ _ rfl (rowK 4) (by kernel_rfl) ?_
  refine wpList_buildV rfl _ _ rfl (rowK 6) (by kernel_rfl) ?_
  refine wpList_buildV rfl _ _ rfl (rowK 8) (by kernel_rfl) ?_
  refine wpList_buildV rfl _ _ rfl (rowK 9) (by kernel_rfl) ?_
  refine wpList_buildV rfl _ _ rfl (rowK 10) (by kernel_rfl) ?_
  refine wpList_buildV rfl _ _ rfl (rowK 11) (by kernel_rfl) ?_
  refine wpList_buildV rfl _ _ rfl (rowK 19) (by kernel_rfl) ?_
  refine wpList_buildV rfl _ _ rfl (rowK 20) (by kernel_rfl) ?_
  refine wpList_buildV rfl _ _ rfl (rowK 21) (by kernel_rfl) ?_
  refine wpList_buildV rfl _ _ rfl (rowK 22) (by kernel_rfl) ?_
  refine wpList_buildV rfl _ _ rfl (rowK 23) (by kernel_rfl) ?_
  refine wpList_buildV rfl _ _ rfl (rowK 37) (by kernel_rfl) ?_
  refine wpList_buildV rfl _ _ rfl tabK (by kernel_rfl) ?_
  refine wpList_store_row rfl _ _ _ rfl w.heap.size tabK (by kernel_rfl) (by kernel_rfl) 80 Try.zeroCells80 h0 (by kernel_rfl) (by kernel_rfl) (by kernel_rfl) ?_
  refine wpList_nil ?_
  iterate 3 go_step
  have h3 := setRow_heap W w.heap.size _ tabK _ _ h0
  refine bodyPost_ret (v := .agg tabK) (results_cell_row (p := 0) (ty := 80) Try.results41 _ _ w.heap.size 80 tabK (0, 0) _ (by kernel_rfl) h3 Try.underlying80 rfl (by kernel_rfl)) (by kernel_rfl) ⟨rfl, ?_⟩
  exact hB.trans ⟨rfl, rfl, rfl, by simp, fun k hk => setRow_other W w.heap.size k tabK (by omega)⟩
end Go.Proofs.Ytjbepojopfbajaa
