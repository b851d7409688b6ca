/- Ops in memory: rows that came in, rows of the call's own. -/
import Derived.Test.YtpbnldfekadalaaDoorCPlain
import Derived.Maps.AppendAt
import Derived.Deep.RegionHeldLaw
import Derived.Deep.AppendLies
namespace Go.Proofs.YtpbnldfekadalaaDoor
open Go.ChangeShapes Go.WideShapes Go.ChangeAt Go.RowKit
set_option linter.unusedVariables false
set_option linter.unusedSimpArgs false

theorem caddr_add (b o k : Nat) : (⟨b, o, none⟩ : Addr).add k = ⟨b, o + k, none⟩ := by unfold Addr.add; split <;> simp_all
theorem own_block {w : World} {base e s n : Nat} {v : Value} {xs : List Value} (h : w.ownsRow base e s v n xs) : ∀ k, v.ownBlock = some k → base ≤ k := fun k hk => (h.lt k hk).1
def Oq.cells (o : Oq) : List Value := [.int .i64 o.k, .int .i64 o.r, .int .i64 o.n]
def Oq.none : Oq := ⟨0, 0, 0⟩
def oqCells (l : List Oq) : List Value := l.flatMap Oq.cells
theorem oqCells_len (l : List Oq) : (oqCells l).length = l.length * 3 := by
  induction l with
  | nil => rfl
  | cons s l ih =>
    show (Oq.cells s ++ oqCells l).length = _
    rw [List.length_append, ih]
    simp [Oq.cells]; omega
theorem oqCells_append (l m : List Oq) : oqCells (l ++ m) = oqCells l ++ oqCells m := by simp [oqCells]
theorem oqCells_one (l : List Oq) : ∀ u ∈ oqCells l, u.oneCell' = true := by
  intro u hu
  simp only [oqCells, List.mem_flatMap] at hu
  obtain ⟨s, _, hs⟩ := hu
  simp only [Oq.cells, List.mem_cons, List.not_mem_nil, or_false] at hs
  rcases hs with rfl | rfl | rfl <;> rfl
theorem oqCells_at : ∀ (l : List Oq) (i j : Nat), i < l.length → j < 3 → (oqCells l)[i * 3 + j]? = (Oq.cells (l.getD i Oq.none))[j]?
  | [], i, j, hi, _ => by simp at hi
  | s :: l, 0, j, _, hj => by
    show (Oq.cells s ++ oqCells l)[0 * 3 + j]? = _
    rw [List.getElem?_append_left (by simp [Oq.cells]; omega)]
    simp
  | s :: l, i + 1, j, hi, hj => by
    show (Oq.cells s ++ oqCells l)[(i + 1) * 3 + j]? = _
    have hl : (Oq.cells s).length = 3 := rfl
    rw [List.getElem?_append_right (by omega), hl, show (i + 1) * 3 + j - 3 = i * 3 + j by omega, oqCells_at l i j (by simpa using hi) hj]
    rfl
/-- An op lies in memory. -/
structure OqAt (w : World) (b o : Nat) (p : Oq) : Prop where
  k : w.cell? ⟨b, o, none⟩ = some (.int .i64 p.k)
  r : w.cell? ⟨b, o + 1, none⟩ = some (.int .i64 p.r)
  n : w.cell? ⟨b, o + 2, none⟩ = some (.int .i64 p.n)
theorem OqAt.below {w w' : World} {b o : Nat} {s : Oq} (h : OqAt w b o s) {B : Nat} (hb : Below B w w') (hB : w.heap.size ≤ B) : OqAt w' b o s := by
  have k : b < B := Nat.lt_of_lt_of_le (World.block_lt_of_cell? w ⟨b, o, none⟩ h.k) hB
  exact ⟨(hb.cell (p := ⟨b, o, none⟩) k).trans h.k, (hb.cell (p := ⟨b, o + 1, none⟩) k).trans h.r, (hb.cell (p := ⟨b, o + 2, none⟩) k).trans h.n⟩
/-- Ops that lie in memory. -/
def Oqs (w : World) (ao : Option Addr) (l : List Oq) : Prop :=
  l = [] ∨ ∃ b off, ao = some ⟨b, off, none⟩ ∧ ∀ i, i < l.length → OqAt w b (off + i * 3) (l.getD i Oq.none)
theorem Oqs.below {w w' : World} {ao : Option Addr} {l : List Oq} (h : Oqs w ao l) {B : Nat} (hb : Below B w w') (hB : w.heap.size ≤ B) : Oqs w' ao l := by
  rcases h with h | ⟨b, off, e, h⟩
  · exact .inl h
  · exact .inr ⟨b, off, e, fun i hi => (h i hi).below hb hB⟩
theorem Oqs.bel {w w' : World} {ao : Option Addr} {l : List Oq} (h : Oqs w ao l) (hb : Below w.heap.size w w') : Oqs w' ao l := h.below hb (Nat.le_refl _)

def zeroO : Array Value := #[.int .i64 0, .int .i64 0, .int .i64 0]
/-- A row of ops of the call's own. -/
def OwnR (w : World) (base : Nat) (v : Value) (l : List Oq) : Prop := w.ownsRow base 52 3 v l.length (oqCells l)
theorem OwnR.nil (w : World) (base : Nat) : OwnR w base (.slice none 0 0) [] := World.ownsRow_nil _ _ _ _
theorem OwnR.any {w : World} {base : Nat} {v : Value} {l : List Oq} (h : OwnR w base v l) :
    ∃ ao cap, v = .slice ao l.length cap ∧ l.length ≤ cap ∧ cap ≤ 9223372036854775807 ∧ Oqs w ao l ∧ (ao = none → l = [] ∧ cap = 0) := by
  rcases h.2 with ⟨hv, hn⟩ | ⟨g, cap, cur, hv, _, hg, h1, h2, _⟩
  · have hl : l = [] := List.eq_nil_of_length_eq_zero hn
    subst hl
    exact ⟨none, 0, hv, Nat.le_refl _, by omega, .inl rfl, fun _ => ⟨rfl, rfl⟩⟩
  · refine ⟨_, cap, hv, h1, by unfold maxLen at h2; omega, ?_, (fun e => by cases e)⟩
    right
    refine ⟨g, 0, rfl, fun i hi => ?_⟩
    subst hv
    have hc : ∀ j, j < 3 → w.cell? ⟨g, 0 + i * 3 + j, none⟩ = (Oq.cells (l.getD i Oq.none))[j]? := fun j hj => by
      have := h.cellAt (i * 3 + j) (by omega)
      rw [Nat.zero_add, this, oqCells_at l i j hi hj]
    exact ⟨hc 0 (by omega), hc 1 (by omega), hc 2 (by omega)⟩
theorem OwnR.bel {w w' : World} {base : Nat} {v : Value} {l : List Oq} (h : OwnR w base v l) (hb : Below w.heap.size w w') : OwnR w' base v l :=
  World.ownsRow.kept (row := none) h ⟨hb.os, hb.tape, hb.output, hb.size, fun j hj _ => hb.block j hj⟩ (by cases hv : v.ownBlock <;> simp)
theorem infoR : (Tryd.prog.info? 52).map (fun i => (i.zero, i.size, i.bytes)) = some (some (.agg zeroO), 3, 24) := by kernel_rfl
/-- append of one op. -/
theorem append_opR {ops : Array Oper} {rest : List Oper} {o : Oper} {a : Act} {Q : Exit → Act → World → Prop} (w : World) (hgd : o.guard = none) (s x : Operand)
    (ho : o.op = .call { callee := .builtin .append, args := #[s, x], argTypes := #[32, 32] })
    (base : Nat) (v : Value) (l : List Oq) (y : Oq) (hown : OwnR w base v l) (hs : a.eval s = v) (q : Nat) (hx : a.eval x = .slice (some ⟨q, 0, none⟩) 1 1) (hq : q = w.heap.size)
    (hn : l.length + 1 ≤ 5864062014635) (hbase : base ≤ w.heap.size)
    (h : ∀ v' w', OwnR w' base v' (l ++ [y]) → Below base w w' → wpList Tryd.prog ops Q rest (a.put o.dst v') w') :
    wpList Tryd.prog ops Q (o :: rest) a (w.alloc (.cells #[.int .i64 y.k, .int .i64 y.r, .int .i64 y.n] 52)) := by
  subst hq
  obtain ⟨i0, hi, hz0, hz1', hz2⟩ := info_parts infoR
  refine wpList_append_own _ hgd s x 32 ho base 52 i0 (.agg zeroO) 3 24 Tryd.underlying32 hi hz0 hz1' hz2 rfl (by decide) v l.length _ hs (World.ownsRow.alloc hown _) ⟨w.heap.size, 0, none⟩ 1 1 (Oq.cells y) hx rfl ?_ (by
    have := oqCells_one [y]
    simpa [oqCells] using this) (by unfold maxLen; omega) (by omega) (by simp; omega) ?_
  · intro j u hj
    rw [caddr_add]
    simp only [World.cell?]
    rw [heap_alloc_new, Nat.zero_add]
    simpa [Oq.cells] using hj
  · intro v' w' hown' hgrow _
    refine h v' w' ?_ (((Below.refl base w).alloc hbase _).grown hgrow (by simp; omega) (own_block hown))
    unfold OwnR
    rw [oqCells_append]
    simpa [oqCells] using hown'
/-- A row of ops of the call's own. -/
def OwnP (w : World) (base : Nat) (v : Value) (l : List Oq) : Prop := w.ownsRow base 64 3 v l.length (oqCells l)
theorem OwnP.nil (w : World) (base : Nat) : OwnP w base (.slice none 0 0) [] := World.ownsRow_nil _ _ _ _
theorem OwnP.any {w : World} {base : Nat} {v : Value} {l : List Oq} (h : OwnP w base v l) :
    ∃ ao cap, v = .slice ao l.length cap ∧ l.length ≤ cap ∧ cap ≤ 9223372036854775807 ∧ Oqs w ao l ∧ (ao = none → l = [] ∧ cap = 0) := by
  rcases h.2 with ⟨hv, hn⟩ | ⟨g, cap, cur, hv, _, hg, h1, h2, _⟩
  · have hl : l = [] := List.eq_nil_of_length_eq_zero hn
    subst hl
    exact ⟨none, 0, hv, Nat.le_refl _, by omega, .inl rfl, fun _ => ⟨rfl, rfl⟩⟩
  · refine ⟨_, cap, hv, h1, by unfold maxLen at h2; omega, ?_, (fun e => by cases e)⟩
    right
    refine ⟨g, 0, rfl, fun i hi => ?_⟩
    subst hv
    have hc : ∀ j, j < 3 → w.cell? ⟨g, 0 + i * 3 + j, none⟩ = (Oq.cells (l.getD i Oq.none))[j]? := fun j hj => by
      have := h.cellAt (i * 3 + j) (by omega)
      rw [Nat.zero_add, this, oqCells_at l i j hi hj]
    exact ⟨hc 0 (by omega), hc 1 (by omega), hc 2 (by omega)⟩
theorem OwnP.bel {w w' : World} {base : Nat} {v : Value} {l : List Oq} (h : OwnP w base v l) (hb : Below w.heap.size w w') : OwnP w' base v l :=
  World.ownsRow.kept (row := none) h ⟨hb.os, hb.tape, hb.output, hb.size, fun j hj _ => hb.block j hj⟩ (by cases hv : v.ownBlock <;> simp)
theorem infoP : (Tryd.prog.info? 64).map (fun i => (i.zero, i.size, i.bytes)) = some (some (.agg zeroO), 3, 24) := by kernel_rfl
/-- append of one op. -/
theorem append_opP {ops : Array Oper} {rest : List Oper} {o : Oper} {a : Act} {Q : Exit → Act → World → Prop} (w : World) (hgd : o.guard = none) (s x : Operand)
    (ho : o.op = .call { callee := .builtin .append, args := #[s, x], argTypes := #[28, 28] })
    (base : Nat) (v : Value) (l : List Oq) (y : Oq) (hown : OwnP w base v l) (hs : a.eval s = v) (q : Nat) (hx : a.eval x = .slice (some ⟨q, 0, none⟩) 1 1) (hq : q = w.heap.size)
    (hn : l.length + 1 ≤ 5864062014635) (hbase : base ≤ w.heap.size)
    (h : ∀ v' w', OwnP w' base v' (l ++ [y]) → Below base w w' → wpList Tryd.prog ops Q rest (a.put o.dst v') w') :
    wpList Tryd.prog ops Q (o :: rest) a (w.alloc (.cells #[.int .i64 y.k, .int .i64 y.r, .int .i64 y.n] 64)) := by
  subst hq
  obtain ⟨i0, hi, hz0, hz1', hz2⟩ := info_parts infoP
  refine wpList_append_own _ hgd s x 28 ho base 64 i0 (.agg zeroO) 3 24 Tryd.underlying28 hi hz0 hz1' hz2 rfl (by decide) v l.length _ hs (World.ownsRow.alloc hown _) ⟨w.heap.size, 0, none⟩ 1 1 (Oq.cells y) hx rfl ?_ (by
    have := oqCells_one [y]
    simpa [oqCells] using this) (by unfold maxLen; omega) (by omega) (by simp; omega) ?_
  · intro j u hj
    rw [caddr_add]
    simp only [World.cell?]
    rw [heap_alloc_new, Nat.zero_add]
    simpa [Oq.cells] using hj
  · intro v' w' hown' hgrow _
    refine h v' w' ?_ (((Below.refl base w).alloc hbase _).grown hgrow (by simp; omega) (own_block hown))
    unfold OwnP
    rw [oqCells_append]
    simpa [oqCells] using hown'

theorem cnum_any (n : Int) (w : World) :
    Calls Tryd.prog 7 #[.int .i64 n] w fun e w' => e = .returned (.int .i64 n) ∧ w' = w := by
  go_enter Tryd.func7, Tryd.ntmps7
  go_wp2
  go_ret
  exact ⟨rfl, rfl⟩

end Go.Proofs.YtpbnldfekadalaaDoor
