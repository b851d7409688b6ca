/- Ops behind ops: in memory, and what a table's rows are then. -/
import Derived.Test.YtgldijohpfihaabDoorCEq
import Derived.Laws.AppendOwnNone
namespace Go.Proofs.YtgldijohpfihaabDoor
open Go.ChangeShapes Go.WideShapes Go.ChangeAt Go.RowKit
set_option linter.unusedVariables false
set_option linter.unusedSimpArgs false

/-- append of a row of ops. -/
theorem append_opsP {ops : Array Oper} {rest : List Oper} {o : Oper} {a : Act} {Q : Exit → Act → World → Prop} (w : World) (hgd : o.guard = none) (s x : Operand)
    (ho : o.op = .call { callee := .builtin .append, args := #[s, x], argTypes := #[27, 27] })
    (base : Nat) (v : Value) (l : List Oq) (hs : a.eval s = v) (hown : OwnP w base v l) (ao : Option Addr) (c : Nat) (m : List Oq) (hx : a.eval x = .slice ao m.length c) (hr : Oqs w ao m) (hnil : ao = none → m = [] ∧ c = 0)
    (hn : l.length + m.length ≤ 4398046511104) (hbase : base ≤ w.heap.size)
    (h : ∀ v' w', OwnP w' base v' (l ++ m) → Below base w w' → wpList Tryd.prog ops Q rest (a.put o.dst v') w') :
    wpList Tryd.prog ops Q (o :: rest) a w := by
  obtain ⟨i0, hi, hz0, hz1, hz2⟩ := info_parts infoP
  cases ao with
  | none =>
    obtain ⟨rfl, rfl⟩ := hnil rfl
    refine wpList_append_own_none hgd s x 27 ho base 30 i0 3 Tryd.underlying27 hi _ _ _ hs hown hx ?_
    exact h v w (by simpa using hown) (Below.refl _ _)
  | some ad =>
    refine wpList_append_own _ hgd s x 27 ho base 30 i0 (.agg zeroO) 3 24 Tryd.underlying27 hi hz0 hz1 hz2 rfl (by decide) _ l.length _ hs hown ad m.length c (oqCells m) hx (oqCells_len m) ?_ (oqCells_one m) (by unfold maxLen; omega) (by omega) hbase ?_
    · intro j u hj
      have hjl : j < m.length * 3 := by
        have := (List.getElem?_eq_some_iff.1 hj).1
        rwa [oqCells_len] at this
      rcases hr with hr | ⟨b, off, e, hc⟩
      · subst hr; simp at hjl
      · cases e
        have hi : j / 3 < m.length := by omega
        have hA := hc (j / 3) hi
        have e4 : j = j / 3 * 3 + j % 3 := by omega
        have hm4 : j % 3 < 3 := by omega
        rw [e4, oqCells_at m (j / 3) (j % 3) hi hm4] at hj
        rw [caddr_add, e4]
        have hcase : j % 3 = 0 ∨ j % 3 = 1 ∨ j % 3 = 2 := by omega
        generalize j / 3 = i at *
        rcases hcase with h6 | h6 | h6
        all_goals
          rw [h6] at hj ⊢
          simp [Oq.cells] at hj
          subst hj
        · exact hA.k
        · simpa [Nat.add_assoc] using hA.r
        · simpa [Nat.add_assoc] using hA.n
    · intro v' w' hown' hgrow _
      refine h v' w' ?_ ((Below.refl base w).grown hgrow hbase (own_block hown))
      unfold OwnP
      rw [oqCells_append]
      simpa using hown'

/-- The rows of a program, with more ops behind it. -/
theorem together {i l m : List Oq} {size : Int} (h1 : rowsE i l size = 0) (h2 : rowsE i (l ++ m) size = 0) :
    ∃ A y x R, rowsL i l size = A ++ [y] ∧ rowsL i (l ++ m) size = A ++ x :: R ∧ x.p = y.p := by
  obtain ⟨t, ht, hr, _⟩ := rows_ok h1
  obtain ⟨t', ht', hr', _⟩ := rows_ok h2
  obtain ⟨t0, h0, x, R, e, hp⟩ := tab_on ht'
  rw [ht] at h0
  cases h0
  exact ⟨t.L, t.now, x, R, hr, hr'.trans e, hp⟩
theorem together_no {i l m : List Oq} {size : Int} (h : rowsE i l size ≠ 0) : rowsE i (l ++ m) size ≠ 0 := by
  intro h2
  obtain ⟨t', ht', _, hs, hi, hl⟩ := rows_ok h2
  obtain ⟨t0, h0, _⟩ := tab_on ht'
  apply h
  unfold rowsE
  rw [List.length_append] at hl
  rw [if_neg (by omega), if_neg (by omega), h0]
end Go.Proofs.YtgldijohpfihaabDoor
