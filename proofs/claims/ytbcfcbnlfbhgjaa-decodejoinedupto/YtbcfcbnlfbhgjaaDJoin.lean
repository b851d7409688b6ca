/- What lists of instructions in memory read as. -/
import Derived.Test.YtbcfcbnlfbhgjaaDAll2
import Derived.Test.YtbcfcbnlfbhgjaaDBytes
namespace Go.Proofs.Ytbcfcbnlfbhgjaa
open Go.ChangeShapes Go.WideShapes Go.ChangeAt Go.RowKit
set_option linter.unusedVariables false
set_option linter.unusedSimpArgs false

theorem own_shape {w : World} {base e s n : Nat} {v : Value} {xs : List Value} (h : w.ownsRow base e s v n xs) :
    ∃ ao cap, v = .slice ao n cap ∧ n ≤ cap ∧ cap ≤ 9223372036854775807 ∧ (0 < n → ∃ g, ao = some ⟨g, 0, none⟩) := by
  rcases h.2 with ⟨rfl, rfl⟩ | ⟨g, cap, cur, rfl, _, _, h1, h2, _⟩
  · exact ⟨none, 0, rfl, by omega, by omega, fun h => by omega⟩
  · exact ⟨_, cap, rfl, h1, by unfold maxLen at h2; omega, fun _ => ⟨g, rfl⟩⟩

theorem instCells_len (P : List (I × Nat)) : (instCells P).length = P.length * 24 := by
  induction P with
  | nil => rfl
  | cons p P ih =>
    show (p.1.cells ++ instCells P).length = _
    rw [List.length_append, ih, cells_len, List.length_cons]; omega

theorem instCells_at (P : List (I × Nat)) : ∀ (n : Nat) (p : I × Nat), P[n]? = some p → ∀ j, j < 24 → (instCells P)[n * 24 + j]? = p.1.cells[j]? := by
  induction P with
  | nil => intro n p h; simp at h
  | cons q P ih =>
    intro n p h j hj
    show (q.1.cells ++ instCells P)[n * 24 + j]? = _
    cases n with
    | zero =>
      simp only [List.getElem?_cons_zero, Option.some.injEq] at h
      subst h
      rw [List.getElem?_append_left (by rw [cells_len]; omega)]
      simp
    | succ n =>
      rw [List.getElem?_append_right (by rw [cells_len]; omega), cells_len, show (n + 1) * 24 + j - 24 = n * 24 + j by omega]
      exact ih n p (by simpa using h) j hj

theorem load_inst {w : World} {base g cap : Nat} {P : List (I × Nat)} (h : w.ownsRow base 27 24 (.slice (some ⟨g, 0, none⟩) P.length cap) P.length (instCells P)) {n : Nat} {p : I × Nat} (hn : P[n]? = some p) :
    (loadVar 27 ⟨g, n * 24, none⟩).run Try.prog w = .ok p.1.val w := by
  have hlt : n < P.length := by
    rcases Nat.lt_or_ge n P.length with h | h
    · exact h
    · rw [List.getElem?_eq_none h] at hn; cases hn
  rw [val_cells]
  refine loadVar_of under_inst size_inst ?_
  have := load_list w g (n * 24) p.1.cells fun j v hv => ?_
  · rw [cells_len] at this; exact this
  · have hj : j < 24 := by
      rcases Nat.lt_or_ge j 24 with h | h
      · exact h
      · rw [List.getElem?_eq_none (by rw [cells_len]; exact h)] at hv; cases hv
    rw [h.cellAt (n * 24 + j) (by omega), instCells_at P n p hn j hj, hv]

theorem load_at {w : World} {base g cap : Nat} {P : List (I × Nat)} (h : w.ownsRow base 3 1 (.slice (some ⟨g, 0, none⟩) P.length cap) P.length (instAts P)) {n : Nat} {p : I × Nat} (hn : P[n]? = some p) :
    w.cell? ⟨g, n, none⟩ = some (.int .i64 p.2) := by
  have hlt : n < P.length := by
    rcases Nat.lt_or_ge n P.length with h | h
    · exact h
    · rw [List.getElem?_eq_none h] at hn; cases hn
  rw [h.cellAt n (by omega)]
  simp [instAts, hn]

theorem neq_inst (i : I) (w : World) : (binOp .neq 27 i.val i.val).run Try.prog w = .ok (.bool false) w := by
  simp [go_sem]

theorem quiet_load {o : Oper} {a : Act} {C : World → Prop} {K : Act → Prop} {t : TypeId} {x : Operand} {p : Addr} {v : Value} (ho : o.op = .load t x) (hx : a.eval x = .pointer (some p)) (hl : ∀ u, C u → (loadVar t p).run Try.prog u = .ok v u) (hk : K (a.put o.dst v)) : o.quiet Try.prog a C K :=
  ⟨v, fun u hu => by unfold Oper.quietAt; rw [exec_loadV ho hx (hl u hu)]; exact ⟨rfl, rfl⟩, hk⟩
end Go.Proofs.Ytbcfcbnlfbhgjaa
