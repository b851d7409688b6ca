/- Tokens in memory: rows that came in, rows of the call's own. -/
import Derived.Test.YtljmbgflcidokaaGreatDoorLxBackP
import Derived.Maps.AppendAt
namespace Go.Proofs.YtljmbgflcidokaaGreatDoor
open Go.ChangeShapes Go.WideShapes Go.ChangeAt Go.RowKit
set_option linter.unusedVariables false
set_option linter.unusedSimpArgs false

/-- Tokens that lie in memory. -/
def ToksP (w : World) (ao : Option Addr) (l : List TL) : Prop :=
  l = [] ∨ ∃ b off, ao = some ⟨b, off, none⟩ ∧ ∀ i, i < l.length → TokAt w b (off + i * 4) (l.getD i TL.none)
theorem ToksP.below {w w' : World} {ao : Option Addr} {l : List TL} (h : ToksP w ao l) {B : Nat} (hb : Below B w w') (hB : w.heap.size ≤ B) : ToksP w' ao l := by
  rcases h with h | ⟨b, off, e, h⟩
  · exact .inl h
  · exact .inr ⟨b, off, e, fun i hi => (h i hi).below hb hB⟩

/-- A row of tokens of the call's own. -/
def OwnTP (w : World) (base : Nat) (v : Value) (l : List TL) : Prop := w.ownsRow base 37 4 v l.length (tlCells l)
theorem OwnTP.nil (w : World) (base : Nat) : OwnTP w base (.slice none 0 0) [] := World.ownsRow_nil _ _ _ _
theorem OwnTP.any {w : World} {base : Nat} {v : Value} {l : List TL} (h : OwnTP w base v l) :
    ∃ ao cap, v = .slice ao l.length cap ∧ l.length ≤ cap ∧ cap ≤ 9223372036854775807 ∧ ToksP w ao l ∧ (ao = none → l = [] ∧ cap = 0) := by
  rcases h.2 with ⟨hv, hn⟩ | ⟨g, cap, cur, hv, _, hg, h1, h2, _⟩
  · have hl : l = [] := List.eq_nil_of_length_eq_zero hn
    subst hl
    exact ⟨none, 0, hv, Nat.le_refl _, by omega, .inl rfl, fun _ => ⟨rfl, rfl⟩⟩
  · refine ⟨_, cap, hv, h1, by unfold maxLen at h2; omega, ?_, (fun e => by cases e)⟩
    right
    refine ⟨g, 0, rfl, fun i hi => ?_⟩
    subst hv
    have hc : ∀ j, j < 4 → w.cell? ⟨g, 0 + i * 4 + j, none⟩ = (TL.cells (l.getD i TL.none))[j]? := fun j hj => by
      have := h.cellAt (i * 4 + j) (by omega)
      rw [Nat.zero_add, this, tlCells_at l i j hi hj]
    exact ⟨hc 0 (by omega), hc 1 (by omega), hc 2 (by omega), hc 3 (by omega)⟩
theorem OwnTP.bel {w w' : World} {base : Nat} {v : Value} {l : List TL} (h : OwnTP w base v l) (hb : Below w.heap.size w w') : OwnTP w' base v l :=
  World.ownsRow.kept (row := none) h ⟨hb.os, hb.tape, hb.output, hb.size, fun j hj _ => hb.block j hj⟩ (by cases hv : v.ownBlock <;> simp)

def zeroTP : Array Value := #[.int .i64 0, .int .i64 0, .int .i64 0, .string ⟨#[]⟩]
theorem infoTP : (Tryz.prog.info? 37).map (fun i => (i.zero, i.size, i.bytes)) = some (some (.agg zeroTP), 4, 40) := by kernel_rfl

/-- append of one token. -/
theorem append_tokP {ops : Array Oper} {rest : List Oper} {o : Oper} {a : Act} {Q : Exit → Act → World → Prop} (w : World) (hgd : o.guard = none) (s x : Operand)
    (ho : o.op = .call { callee := .builtin .append, args := #[s, x], argTypes := #[24, 24] })
    (base : Nat) (v : Value) (l : List TL) (k line n : Int) (t : List UInt8) (str : ByteArray) (hstr : str = St t) (hown : OwnTP w base v l) (hs : a.eval s = v) (q : Nat) (hx : a.eval x = .slice (some ⟨q, 0, none⟩) 1 1) (hq : q = w.heap.size)
    (hn : l.length + 1 ≤ 2199023255552) (hbase : base ≤ w.heap.size)
    (h : ∀ v' w', OwnTP w' base v' (l ++ [(⟨k, n, t⟩, line)]) → Below base w w' → wpList Tryz.prog ops Q rest (a.put o.dst v') w') :
    wpList Tryz.prog ops Q (o :: rest) a (w.alloc (.cells #[.int .i64 k, .int .i64 line, .int .i64 n, .string str] 37)) := by
  subst hq
  subst hstr
  obtain ⟨i0, hi, hz0, hz1', hz2⟩ := info_parts infoTP
  refine wpList_append_own _ hgd s x 24 ho base 37 i0 (.agg zeroTP) 4 40 Tryz.underlying24 hi hz0 hz1' hz2 rfl (by decide) v l.length _ hs (World.ownsRow.alloc hown _) ⟨w.heap.size, 0, none⟩ 1 1 (TL.cells (⟨k, n, t⟩, line)) hx rfl ?_ (by
    have := tlCells_one [(⟨k, n, t⟩, line)]
    simpa [tlCells] using this) (by unfold maxLen; omega) (by omega) (by simp; omega) ?_
  · intro j u hj
    rw [addr_add]
    simp only [World.cell?]
    rw [heap_alloc_new, Nat.zero_add]
    simpa [TL.cells] using hj
  · intro v' w' hown' hgrow _
    refine h v' w' ?_ (((Below.refl base w).alloc hbase _).grown hgrow (by simp; omega) (own_block hown))
    unfold OwnTP
    rw [tlCells_append]
    simpa [tlCells] using hown'

/-- Tokens, copied behind a row of the call's own. -/
theorem append_toksP {ops : Array Oper} {rest : List Oper} {o : Oper} {a : Act} {Q : Exit → Act → World → Prop} (w : World) (hgd : o.guard = none) (s x : Operand)
    (ho : o.op = .call { callee := .builtin .append, args := #[s, x], argTypes := #[24, 24] })
    (base : Nat) (v : Value) (l : List TL) (hs : a.eval s = v) (hown : OwnTP w base v l) (ao : Option Addr) (c : Nat) (m : List TL) (hx : a.eval x = .slice ao m.length c) (hr : ToksP w ao m) (hnil : ao = none → m = [] ∧ c = 0)
    (hn : l.length + m.length ≤ 2199023255552) (hbase : base ≤ w.heap.size)
    (h : ∀ v' w', OwnTP w' base v' (l ++ m) → Below base w w' → wpList Tryz.prog ops Q rest (a.put o.dst v') w') :
    wpList Tryz.prog ops Q (o :: rest) a w := by
  obtain ⟨i0, hi, hz0, hz1, hz2⟩ := info_parts infoTP
  cases ao with
  | none =>
    obtain ⟨rfl, rfl⟩ := hnil rfl
    refine wpList_append_own_none hgd s x 24 ho base 37 i0 4 Tryz.underlying24 hi _ _ _ hs hown hx ?_
    exact h v w (by simpa using hown) (Below.refl _ _)
  | some ad =>
    refine wpList_append_own _ hgd s x 24 ho base 37 i0 (.agg zeroTP) 4 40 Tryz.underlying24 hi hz0 hz1 hz2 rfl (by decide) _ l.length _ hs hown ad m.length c (tlCells m) hx (tlCells_len m) ?_ (tlCells_one m) (by unfold maxLen; omega) (by omega) hbase ?_
    · intro j u hj
      have hjl : j < m.length * 4 := by
        have := (List.getElem?_eq_some_iff.1 hj).1
        rwa [tlCells_len] at this
      rcases hr with hr | ⟨b, off, e, hc⟩
      · subst hr; simp at hjl
      · cases e
        have hi : j / 4 < m.length := by omega
        have hA := hc (j / 4) hi
        have e4 : j = j / 4 * 4 + j % 4 := by omega
        have hm4 : j % 4 < 4 := by omega
        rw [e4, tlCells_at m (j / 4) (j % 4) hi hm4] at hj
        rw [addr_add, e4]
        have hcase : j % 4 = 0 ∨ j % 4 = 1 ∨ j % 4 = 2 ∨ j % 4 = 3 := by omega
        generalize j / 4 = i at *
        rcases hcase with h6 | h6 | h6 | h6
        all_goals
          rw [h6] at hj ⊢
          simp [TL.cells] at hj
          subst hj
          first | exact hA.k | exact hA.l | exact hA.n | exact hA.t
    · intro v' w' hown' hgrow hnn
      refine h v' w' ?_ ((Below.refl base w).grown hgrow hbase (own_block hown))
      unfold OwnTP
      rw [tlCells_append, List.length_append]
      exact hown'
end Go.Proofs.YtljmbgflcidokaaGreatDoor
