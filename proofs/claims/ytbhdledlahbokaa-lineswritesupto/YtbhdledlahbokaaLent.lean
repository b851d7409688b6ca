/- Rows that are appended to rows; what rows read as; the contracts of Lent and Stays. -/
import Derived.Test.YtbhdledlahbokaaLaw
import Derived.Laws.AppendOwnNone
import Derived.Deep.QuietTactic
import Derived.BigQuiet
namespace Go.Proofs.Ytbhdledlahbokaa
open Go.ChangeShapes Go.WideShapes Go.ChangeAt Go.RowKit
set_option linter.unusedVariables false

/-- The first m bytes, as a list. -/
def lst (bs : Nat → Int) (m : Nat) : List Int := (List.range m).map bs

theorem lst_len (bs : Nat → Int) (m : Nat) : (lst bs m).length = m := by simp [lst]
theorem lst_at (bs : Nat → Int) (m i : Nat) (h : i < m) : (lst bs m).getD i 0 = bs i := by simp [lst, h]
theorem lst_at? (bs : Nat → Int) (m i : Nat) (h : i < m) : (lst bs m)[i]? = some (bs i) := by simp [lst, h]

theorem addr_add (b off i : Nat) : (⟨b, off, none⟩ : Addr).add i = ⟨b, off + i, none⟩ := by unfold Addr.add; split <;> simp_all

theorem append_row {ops : Array Oper} {rest : List Oper} {o : Oper} {a : Act} {Q : Exit → Act → World → Prop} (w : World) (hgd : o.guard = none) (s x : Operand)
    (ho : o.op = .call { callee := .builtin .append, args := #[s, x], argTypes := #[30, 30] })
    (base g0 n0 cap0 : Nat) (xs : List Int) (hs : a.eval s = .slice (some ⟨g0, 0, none⟩) n0 cap0) (hown : Own w base (.slice (some ⟨g0, 0, none⟩) n0 cap0) xs)
    (ao : Option Addr) (m c : Nat) (bs : Nat → Int) (hx : a.eval x = .slice ao m c) (hr : Row w ao m bs) (hnil : ao = none → m = 0 ∧ c = 0)
    (k : Nat) (hk : k = n0 + m) (hn : xs.length + m ≤ 140737488355328) (hbase : base ≤ w.heap.size)
    (h : ∀ g cap w', Own w' base (.slice (some ⟨g, 0, none⟩) k cap) (xs ++ lst bs m) → k ≤ cap → cap ≤ 9223372036854775807 → Below base w w' → wpList Try.prog ops Q rest (a.put o.dst (.slice (some ⟨g, 0, none⟩) k cap)) w') :
    wpList Try.prog ops Q (o :: rest) a w := by
  obtain ⟨i0, hi, hz0, hz1, hz2⟩ := info_parts info5
  have hn0 : n0 = xs.length ∧ n0 ≤ cap0 ∧ cap0 ≤ maxLen := by
    rcases hown.2 with ⟨hv, _⟩ | ⟨g, cap, cur, hv, _, _, h1, h2, _⟩
    · cases hv
    · cases hv; exact ⟨rfl, h1, h2⟩
  cases ao with
  | none =>
    obtain ⟨rfl, rfl⟩ := hnil rfl
    refine wpList_append_own_none hgd s x 30 ho base 5 i0 1 Try.underlying30 hi _ _ _ hs hown hx ?_
    have := hn0.2.2
    unfold maxLen at this
    have hk' : k = n0 := by omega
    subst hk'
    exact h g0 cap0 w (by simpa [lst] using hown) (by omega) (by omega) (Below.refl _ _)
  | some ad =>
    refine wpList_append_own _ hgd s x 30 ho base 5 i0 (.int .u8 0) 1 1 Try.underlying30 hi hz0 hz1 hz2 rfl (by decide) _ xs.length _ hs hown ad m c ((lst bs m).map (Value.int .u8)) hx (by simp [lst]) ?_ ?_ (by unfold maxLen; omega) (by omega) hbase ?_
    · intro j u hj
      by_cases hjm : j < m
      · rcases hr with hr | ⟨b, off, e, hc⟩
        · omega
        · cases e
          rw [addr_add, hc j hjm]
          simp [lst_at? bs m j hjm] at hj
          rw [hj]
      · simp [lst, hjm] at hj
    · intro u hu
      simp at hu
      obtain ⟨z, _, rfl⟩ := hu
      rfl
    · intro v' w' hown' hgrow hnn
      have hown2 : Own w' base v' (xs ++ lst bs m) := by
        unfold Own
        simpa [lst_len] using hown'
      rcases hown2.2 with ⟨hv, _⟩ | ⟨g, cap, cur, hv, hb, hg, h1, h2, _⟩
      · have := hnn.1 hv; simp at this
      · rw [List.length_append, lst_len] at hv h1
        have hk' : xs.length + m = k := by omega
        rw [hk'] at hv h1
        unfold maxLen at h2
        subst hv
        exact h g cap w' hown2 h1 (by omega) ((Below.refl base w).grown hgrow hbase hown.block)

theorem Own.empty (w : World) (base : Nat) (hb : base ≤ w.heap.size) : Own (w.alloc (.cells #[] 5)) base (.slice (some ⟨w.heap.size, 0, none⟩) 0 0) [] := by
  refine ⟨rfl, .inr ⟨w.heap.size, 0, #[], rfl, hb, ?_, Nat.le_refl _, by unfold maxLen; omega, rfl, rfl⟩⟩
  show (w.heap.push _)[w.heap.size]? = _
  simp

/-- A row, turned into a string. -/
theorem conv_row (w : World) (ao : Option Addr) (m c : Nat) (bs : Nat → Int) (hr : Row w ao m bs) (hnil : ao = none → m = 0) :
    Sem.run Try.prog (convert 30 9 (.slice ao m c)) w = .ok (.string (strOfNums (lst bs m))) w := by
  cases ao with
  | none =>
    obtain rfl := hnil rfl
    exact run_convert_bytes_nil (P := Try.prog) w 30 5 Try.underlying30 Try.underlying5 0 c 9 Try.underlying9
  | some ad =>
    by_cases h0 : m = 0
    · subst h0
      rw [run_convert_bytes_string w _ 9 5 _ 0 c Try.underlying30 Try.underlying5 Try.underlying9,
        run_bytesToString w ad 0 c [] (run_loadCells_list (P := Try.prog) w ad [] (by intro j v hj; simp at hj))]
      rfl
    · rcases hr with hr | ⟨b, off, e, hc⟩
      · exact absurd hr h0
      · cases e
        exact run_convert_bytes_arg (P := Try.prog) w 30 5 Try.underlying30 Try.underlying5 b off m c (lst bs m) (lst_len bs m) (fun i hi => by rw [hc i hi, lst_at bs m i hi]) 9 Try.underlying9

/-- Lent bytes: as they were, and the two marks behind them. -/
def LentRow (w : World) (g len : Nat) (bs : Nat → Int) : Prop :=
  (∀ i, i < len → w.cell? ⟨g, i, none⟩ = some (.int .u8 (bs i))) ∧ w.cell? ⟨g, len, none⟩ = some (.int .u8 201) ∧ w.cell? ⟨g, len + 1, none⟩ = some (.int .u8 202)

theorem LentRow.row {w : World} {g len : Nat} {bs : Nat → Int} (h : LentRow w g len bs) : Row w (some ⟨g, 0, none⟩) len bs :=
  .inr ⟨g, 0, rfl, fun i hi => by rw [Nat.zero_add]; exact h.1 i hi⟩

/-- The two marks. -/
def marks (i : Nat) : Int := if i = 0 then 201 else 202

theorem marks_row (w : World) : Row (w.alloc (.cells #[.int .u8 201, .int .u8 202] 5)) (some ⟨w.heap.size, 0, none⟩) 2 marks := by
  refine .inr ⟨w.heap.size, 0, rfl, fun i hi => ?_⟩
  have : i = 0 ∨ i = 1 := by omega
  rcases this with rfl | rfl <;> simp [marks]

theorem lent_of {w : World} {base g len cap : Nat} {bs : Nat → Int} (h : Own w base (.slice (some ⟨g, 0, none⟩) (len + 2) cap) (lst bs len ++ lst marks 2)) :
    ∀ W, Below w.heap.size w W → LentRow W g len bs := by
  obtain ⟨g', cap', hv, _, hg, hc⟩ := h.lies (by simp [lst])
  obtain rfl : g = g' := by
    simp only [Value.slice.injEq, Option.some.injEq, Addr.mk.injEq] at hv
    exact hv.1.1
  have hlen : (lst bs len ++ lst marks 2).length = len + 2 := by simp [lst]
  rw [hlen] at hc
  intro W hb
  have hcell : ∀ i, i < len + 2 → W.cell? ⟨g, i, none⟩ = some (.int .u8 ((lst bs len ++ lst marks 2).getD i 0)) := by
    intro i hi
    rw [hb.cell (p := ⟨g, i, none⟩) hg]; exact hc i hi
  refine ⟨fun i hi => ?_, ?_, ?_⟩
  · rw [hcell i (by omega)]
    congr 2
    rw [List.getD_eq_getElem?_getD, List.getElem?_append_left (by rw [lst_len]; exact hi), lst_at? bs len i hi]; rfl
  · rw [hcell len (by omega)]
    congr 2
    rw [List.getD_eq_getElem?_getD, List.getElem?_append_right (by rw [lst_len]; omega), lst_len, Nat.sub_self]; rfl
  · rw [hcell (len + 1) (by omega)]
    congr 2
    rw [List.getD_eq_getElem?_getD, List.getElem?_append_right (by rw [lst_len]; omega), lst_len, show len + 1 - len = 1 from by omega]; rfl

end Go.Proofs.Ytbhdledlahbokaa
