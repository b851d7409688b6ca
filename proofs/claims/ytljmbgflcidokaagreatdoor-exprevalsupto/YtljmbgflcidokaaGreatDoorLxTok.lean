/- Tokens in memory: rows that came in, rows of the call's own. -/
import Derived.Test.YtljmbgflcidokaaGreatDoorLxReg
import Derived.Maps.AppendAt
namespace Go.Proofs.YtljmbgflcidokaaGreatDoor
open Go.ChangeShapes Go.WideShapes Go.ChangeAt Go.RowKit
set_option linter.unusedVariables false
set_option linter.unusedSimpArgs false

/-- A token, with its line. -/
abbrev TL := Tok × Int
def TL.cells (p : TL) : List Value := [.int .i64 p.1.k, .int .i64 p.2, .int .i64 p.1.n, .string (St p.1.t)]
def TL.none : TL := (⟨0, 0, []⟩, 0)
def tlCells (l : List TL) : List Value := l.flatMap TL.cells
theorem tlCells_len (l : List TL) : (tlCells l).length = l.length * 4 := by
  induction l with
  | nil => rfl
  | cons s l ih =>
    show (TL.cells s ++ tlCells l).length = _
    rw [List.length_append, ih]
    simp [TL.cells]; omega
theorem tlCells_append (l m : List TL) : tlCells (l ++ m) = tlCells l ++ tlCells m := by simp [tlCells]
theorem tlCells_one (l : List TL) : ∀ u ∈ tlCells l, u.oneCell' = true := by
  intro u hu
  simp only [tlCells, List.mem_flatMap] at hu
  obtain ⟨s, _, hs⟩ := hu
  simp only [TL.cells, List.mem_cons, List.not_mem_nil, or_false] at hs
  rcases hs with rfl | rfl | rfl | rfl <;> rfl
theorem tlCells_at : ∀ (l : List TL) (i j : Nat), i < l.length → j < 4 → (tlCells l)[i * 4 + j]? = (TL.cells (l.getD i TL.none))[j]?
  | [], i, j, hi, _ => by simp at hi
  | s :: l, 0, j, _, hj => by
    show (TL.cells s ++ tlCells l)[0 * 4 + j]? = _
    rw [List.getElem?_append_left (by simp [TL.cells]; omega)]
    simp
  | s :: l, i + 1, j, hi, hj => by
    show (TL.cells s ++ tlCells l)[(i + 1) * 4 + j]? = _
    have hl : (TL.cells s).length = 4 := rfl
    rw [List.getElem?_append_right (by omega), hl, show (i + 1) * 4 + j - 4 = i * 4 + j by omega, tlCells_at l i j (by simpa using hi) hj]
    rfl
structure TokAt (w : World) (b o : Nat) (p : TL) : Prop where
  k : w.cell? ⟨b, o, none⟩ = some (.int .i64 p.1.k)
  l : w.cell? ⟨b, o + 1, none⟩ = some (.int .i64 p.2)
  n : w.cell? ⟨b, o + 2, none⟩ = some (.int .i64 p.1.n)
  t : w.cell? ⟨b, o + 3, none⟩ = some (.string (St p.1.t))
theorem TokAt.below {w w' : World} {b o : Nat} {s : TL} (h : TokAt w b o s) {B : Nat} (hb : Below B w w') (hB : w.heap.size ≤ B) : TokAt w' b o s := by
  have k : b < B := Nat.lt_of_lt_of_le (World.block_lt_of_cell? w ⟨b, o, none⟩ h.k) hB
  exact ⟨(hb.cell (p := ⟨b, o, none⟩) k).trans h.k, (hb.cell (p := ⟨b, o + 1, none⟩) k).trans h.l, (hb.cell (p := ⟨b, o + 2, none⟩) k).trans h.n, (hb.cell (p := ⟨b, o + 3, none⟩) k).trans h.t⟩

/-- Tokens that lie in memory. -/
def Toks (w : World) (ao : Option Addr) (l : List TL) : Prop :=
  l = [] ∨ ∃ b off, ao = some ⟨b, off, none⟩ ∧ ∀ i, i < l.length → TokAt w b (off + i * 4) (l.getD i TL.none)
theorem Toks.below {w w' : World} {ao : Option Addr} {l : List TL} (h : Toks w ao l) {B : Nat} (hb : Below B w w') (hB : w.heap.size ≤ B) : Toks w' ao l := by
  rcases h with h | ⟨b, off, e, h⟩
  · exact .inl h
  · exact .inr ⟨b, off, e, fun i hi => (h i hi).below hb hB⟩

/-- A row of tokens of the call's own. -/
def OwnT (w : World) (base : Nat) (v : Value) (l : List TL) : Prop := w.ownsRow base 60 4 v l.length (tlCells l)
theorem OwnT.nil (w : World) (base : Nat) : OwnT w base (.slice none 0 0) [] := World.ownsRow_nil _ _ _ _
theorem OwnT.any {w : World} {base : Nat} {v : Value} {l : List TL} (h : OwnT w base v l) :
    ∃ ao cap, v = .slice ao l.length cap ∧ l.length ≤ cap ∧ cap ≤ 9223372036854775807 ∧ Toks w ao l ∧ (ao = none → l = [] ∧ cap = 0) := by
  rcases h.2 with ⟨hv, hn⟩ | ⟨g, cap, cur, hv, _, hg, h1, h2, _⟩
  · have hl : l = [] := List.eq_nil_of_length_eq_zero hn
    subst hl
    exact ⟨none, 0, hv, Nat.le_refl _, by omega, .inl rfl, fun _ => ⟨rfl, rfl⟩⟩
  · refine ⟨_, cap, hv, h1, by unfold maxLen at h2; omega, ?_, (fun e => by cases e)⟩
    right
    refine ⟨g, 0, rfl, fun i hi => ?_⟩
    subst hv
    have hc : ∀ j, j < 4 → w.cell? ⟨g, 0 + i * 4 + j, none⟩ = (TL.cells (l.getD i TL.none))[j]? := fun j hj => by
      have := h.cellAt (i * 4 + j) (by omega)
      rw [Nat.zero_add, this, tlCells_at l i j hi hj]
    exact ⟨hc 0 (by omega), hc 1 (by omega), hc 2 (by omega), hc 3 (by omega)⟩
theorem OwnT.bel {w w' : World} {base : Nat} {v : Value} {l : List TL} (h : OwnT w base v l) (hb : Below w.heap.size w w') : OwnT w' base v l :=
  World.ownsRow.kept (row := none) h ⟨hb.os, hb.tape, hb.output, hb.size, fun j hj _ => hb.block j hj⟩ (by cases hv : v.ownBlock <;> simp)

def zeroT : Array Value := #[.int .i64 0, .int .i64 0, .int .i64 0, .string ⟨#[]⟩]
theorem infoT : (Tryz.prog.info? 60).map (fun i => (i.zero, i.size, i.bytes)) = some (some (.agg zeroT), 4, 40) := by kernel_rfl

/-- append of one token. -/
theorem append_tok {ops : Array Oper} {rest : List Oper} {o : Oper} {a : Act} {Q : Exit → Act → World → Prop} (w : World) (hgd : o.guard = none) (s x : Operand)
    (ho : o.op = .call { callee := .builtin .append, args := #[s, x], argTypes := #[22, 22] })
    (base : Nat) (v : Value) (l : List TL) (k line n : Int) (t : List UInt8) (str : ByteArray) (hstr : str = St t) (hown : OwnT w base v l) (hs : a.eval s = v) (q : Nat) (hx : a.eval x = .slice (some ⟨q, 0, none⟩) 1 1) (hq : q = w.heap.size)
    (hn : l.length + 1 ≤ 2199023255552) (hbase : base ≤ w.heap.size)
    (h : ∀ v' w', OwnT w' base v' (l ++ [(⟨k, n, t⟩, line)]) → Below base w w' → wpList Tryz.prog ops Q rest (a.put o.dst v') w') :
    wpList Tryz.prog ops Q (o :: rest) a (w.alloc (.cells #[.int .i64 k, .int .i64 line, .int .i64 n, .string str] 60)) := by
  subst hq
  subst hstr
  obtain ⟨i0, hi, hz0, hz1', hz2⟩ := info_parts infoT
  refine wpList_append_own _ hgd s x 22 ho base 60 i0 (.agg zeroT) 4 40 Tryz.underlying22 hi hz0 hz1' hz2 rfl (by decide) v l.length _ hs (World.ownsRow.alloc hown _) ⟨w.heap.size, 0, none⟩ 1 1 (TL.cells (⟨k, n, t⟩, line)) hx rfl ?_ (by
    have := tlCells_one [(⟨k, n, t⟩, line)]
    simpa [tlCells] using this) (by unfold maxLen; omega) (by omega) (by simp; omega) ?_
  · intro j u hj
    rw [addr_add]
    simp only [World.cell?]
    rw [heap_alloc_new, Nat.zero_add]
    simpa [TL.cells] using hj
  · intro v' w' hown' hgrow _
    refine h v' w' ?_ (((Below.refl base w).alloc hbase _).grown hgrow (by simp; omega) (own_block hown))
    unfold OwnT
    rw [tlCells_append]
    simpa [tlCells] using hown'

/-- Tokens, copied behind a row of the call's own. -/
theorem append_toks {ops : Array Oper} {rest : List Oper} {o : Oper} {a : Act} {Q : Exit → Act → World → Prop} (w : World) (hgd : o.guard = none) (s x : Operand)
    (ho : o.op = .call { callee := .builtin .append, args := #[s, x], argTypes := #[22, 22] })
    (base : Nat) (v : Value) (l : List TL) (hs : a.eval s = v) (hown : OwnT w base v l) (ao : Option Addr) (c : Nat) (m : List TL) (hx : a.eval x = .slice ao m.length c) (hr : Toks w ao m) (hnil : ao = none → m = [] ∧ c = 0)
    (hn : l.length + m.length ≤ 2199023255552) (hbase : base ≤ w.heap.size)
    (h : ∀ v' w', OwnT w' base v' (l ++ m) → Below base w w' → wpList Tryz.prog ops Q rest (a.put o.dst v') w') :
    wpList Tryz.prog ops Q (o :: rest) a w := by
  obtain ⟨i0, hi, hz0, hz1, hz2⟩ := info_parts infoT
  cases ao with
  | none =>
    obtain ⟨rfl, rfl⟩ := hnil rfl
    refine wpList_append_own_none hgd s x 22 ho base 60 i0 4 Tryz.underlying22 hi _ _ _ hs hown hx ?_
    exact h v w (by simpa using hown) (Below.refl _ _)
  | some ad =>
    refine wpList_append_own _ hgd s x 22 ho base 60 i0 (.agg zeroT) 4 40 Tryz.underlying22 hi hz0 hz1 hz2 rfl (by decide) _ l.length _ hs hown ad m.length c (tlCells m) hx (tlCells_len m) ?_ (tlCells_one m) (by unfold maxLen; omega) (by omega) hbase ?_
    · intro j u hj
      have hjl : j < m.length * 4 := by
        have := (List.getElem?_eq_some_iff.1 hj).1
        rwa [tlCells_len] at this
      rcases hr with hr | ⟨b, off, e, hc⟩
      · subst hr; simp at hjl
      · cases e
        have hi : j / 4 < m.length := by omega
        have hA := hc (j / 4) hi
        have e4 : j = j / 4 * 4 + j % 4 := by omega
        have hm4 : j % 4 < 4 := by omega
        rw [e4, tlCells_at m (j / 4) (j % 4) hi hm4] at hj
        rw [addr_add, e4]
        have hcase : j % 4 = 0 ∨ j % 4 = 1 ∨ j % 4 = 2 ∨ j % 4 = 3 := by omega
        generalize j / 4 = i at *
        rcases hcase with h6 | h6 | h6 | h6
        all_goals
          rw [h6] at hj ⊢
          simp [TL.cells] at hj
          subst hj
          first | exact hA.k | exact hA.l | exact hA.n | exact hA.t
    · intro v' w' hown' hgrow hnn
      refine h v' w' ?_ ((Below.refl base w).grown hgrow hbase (own_block hown))
      unfold OwnT
      rw [tlCells_append, List.length_append]
      exact hown'
end Go.Proofs.YtljmbgflcidokaaGreatDoor
